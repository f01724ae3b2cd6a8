/- Layer 3: slices.Insert of one byte at the front.
Layer 3: append([]byte(s), make([]byte, p)...). -/
import Derived.Test.YtpnkpejnahhajaaGreatBc3
import Derived.Shelf.Spec.SlicesInsertGrow
import Derived.Deep.RegionLaw
namespace Go.Proofs.YtpnkpejnahhajaaGreat
open Go.RowKit Go.Lib
set_option linter.unusedSimpArgs false

def bys (xs : List G) : List Value := xs.map fun x => .int .u8 (x.v : Int)
theorem bys_get {xs : List G} {j : Nat} {v : Value} (h : (bys xs)[j]? = some v) : j < xs.length ∧ v = .int .u8 ((xs.getD j g0).v : Int) := by
  unfold bys at h
  have hj : j < xs.length := by have := (List.getElem?_eq_some_iff.1 h).1; simpa using this
  rw [List.getElem?_map, getD_of g0 hj] at h
  exact ⟨hj, (Option.some.inj h).symm⟩
theorem bys_one (xs : List G) : ∀ v ∈ bys xs, v.oneCell' = true := fun v hv => by
  obtain ⟨x, -, rfl⟩ := List.mem_map.1 hv; rfl

set_option maxHeartbeats 4000000 in
set_option maxRecDepth 100000 in
/-- There is room: in place. -/
theorem ins_shift (g n c vb vc : Nat) (xs : List G) (y : G) (w : World) (h1 : 1 ≤ n) (hroom : n + 1 ≤ c) (hc63 : c ≤ 9223372036854775807) (hvb : vb ≠ g) (hn : xs.length = n) (hR : Row w g 0 xs) (hRm : RoomL w g c) (hV : RoomL w vb 1) (hv : w.cell? ⟨vb, 0, none⟩ = some (.int .u8 (y.v : Int))) :
    Calls Tryz.prog 150 #[.slice (some ⟨g, 0, none⟩) n c, .int .i64 0, .slice (some ⟨vb, 0, none⟩) 1 vc] w fun e w' =>
      e = .returned (.slice (some ⟨g, 0, none⟩) (n + 1) c) ∧ w' = (w.drew.setCells g 1 (bys xs)).setCells g 0 [.int .u8 (y.v : Int)] := by
  have hov : ∀ lb cb, (callFunc 174 #[.slice (some ⟨vb, 0, none⟩) 1 vc, .slice (some ⟨g, 1, none⟩) lb cb]).run Tryz.prog w = .ok (.value (.bool false)) w := fun lb cb => by
    rw [run_callFunc_extern Tryz.func174 (by kernel_rfl) (by kernel_rfl) (by kernel_rfl) (e := Extern.SlicesOverlaps.overlaps #[59, 59] #[4]) (by kernel_rfl),
      Lib.run_overlaps_apart w 59 4 5 Tryz.underlying59 1 (fun _ => by kernel_rfl) ⟨vb, 0, none⟩ ⟨g, 1, none⟩ 1 vc lb cb hvb _ _ _ _ hV.shape hRm.shape (by omega) (hV.free 0) (hV.free 1)]
    rfl
  have hcl : (bys xs).length = n := by simp [bys, hn]
  have hsz : (Tryz.prog.info? 5).map (·.size) = some 1 := by kernel_rfl
  have hcs : ∀ j v, (bys xs)[j]? = some v → w.cell? ⟨g, j, none⟩ = some v := fun j v hj => by
    obtain ⟨q1, rfl⟩ := bys_get hj
    have := (hR j q1).1
    rwa [Nat.zero_add] at this
  have hcp1 : ∀ ty dc sc, (Builtin.copy_ #[59, 59] ty #[.slice (some ⟨g, 1, none⟩) n dc, .slice (some ⟨g, 0, none⟩) (n + 1) sc]).run Tryz.prog w.drew = .ok (goInt (bys xs).length) (w.drew.setCells g 1 (bys xs)) := fun ty dc sc =>
    run_copy_cells w.drew _ _ ty 5 g 1 n dc ⟨g, 0, none⟩ (n + 1) sc (bys xs) Tryz.underlying59 hsz (by rw [hcl]; simp only [Nat.min_def]; split <;> omega)
      (fun j v hj => by rw [Addr.add_lit, Nat.zero_add]; exact hcs j v hj)
      (fun j hj => hRm.some (by omega)) (fun j hj => hRm.free _) (bys_one xs)
  obtain ⟨W1, hW1⟩ : ∃ W1, W1 = w.drew.setCells g 1 (bys xs) := ⟨_, rfl⟩
  have hRm1 : RoomL W1 g c := by rw [hW1]; exact RoomL.many _ _ (hRm.keep (Gr.refl _).drew)
  have hcp2 : ∀ (W : World), (∀ x, W.cell? x = W1.cell? x) → (∀ x, W.frozen? x = W1.frozen? x) → ∀ ty dc, (Builtin.copy_ #[59, 59] ty #[.slice (some ⟨g, 0, none⟩) (n + 1) dc, .slice (some ⟨vb, 0, none⟩) 1 vc]).run Tryz.prog W = .ok (goInt 1) (W.setCells g 0 [.int .u8 (y.v : Int)]) := fun W hWc hWf ty dc =>
    run_copy_cells W _ _ ty 5 g 0 (n + 1) dc ⟨vb, 0, none⟩ 1 vc [.int .u8 (y.v : Int)] Tryz.underlying59 hsz (by simp only [Nat.min_def, List.length_cons, List.length_nil]; split <;> omega)
      (fun j v hj => by
        match j, hj with
        | 0, hj =>
          obtain rfl := Option.some.inj hj
          rw [Addr.add_lit, hWc, hW1, World.cell?_setCells_out g _ _ _ _ (fun h _ => absurd h hvb)]
          exact hv
        | j + 1, hj => simp at hj)
      (fun j hj => by rw [hWc]; exact hRm1.some (by simp at hj; omega)) (fun j hj => by rw [hWf]; exact hRm1.free _) (fun v hv => by obtain rfl := List.mem_singleton.1 hv; rfl)
  rw [← hW1] at hcp1
  have hz2 : ¬ ((0 : Int) = (n : Int)) := by omega
  have hb2 : ¬ (c = 1) := by omega
  have hb4 : ¬ (c = 0) := by omega
  have hb5 : (1 : Int) ≤ (n : Int) + 1 := by omega
  have hw1 : IntKind.i64.wrap 1 = 1 := IntWalk.i64_in _ (by omega)
  have hb6 : (0 : Int) ≤ (n : Int) + 1 := by omega
  clear hcs hcl
  go_enter Tryz.func150, Tryz.ntmps150
  go_wp2_with (simp only [hov])
  go_region_law (refine step_copy_runI rfl _ _ 59 59 rfl (.slice (some ⟨g, 1, none⟩) n (c - 1)) (.slice (some ⟨g, 0, none⟩) (n + 1) c) (by simp [Act.eval, Act.put]) (by simp [Act.eval, Act.put]) (hcp1 _ _ _) ?_)
  go_wp2_with (at_builtin; refine wpList_copy_runI _ rfl _ _ 59 59 rfl _ _ rfl rfl (hcp2 _ (fun _ => rfl) (fun _ => rfl) _ _) ?_)
  go_ret
  first | exact ⟨rfl, rfl⟩ | exact ⟨rfl, by rw [hW1]⟩

set_option maxHeartbeats 4000000 in
set_option maxRecDepth 100000 in
/-- There is no room: a new row. -/
theorem ins_grow (g n c vb vc : Nat) (xs : List G) (y : G) (w : World) (h1 : 1 ≤ n) (hnc : n ≤ c) (hroom : c < n + 1) (hl : n ≤ 1000) (hn : xs.length = n) (hR : Row w g 0 xs) (hv : w.cell? ⟨vb, 0, none⟩ = some (.int .u8 (y.v : Int))) :
    Calls Tryz.prog 150 #[.slice (some ⟨g, 0, none⟩) n c, .int .i64 0, .slice (some ⟨vb, 0, none⟩) 1 vc] w fun e w' =>
      ∃ (G0 : Nat) (ROW : Array Value), n + 1 ≤ G0 ∧ G0 ≤ 9223372036854775807 ∧ ROW.size = G0 ∧ e = .returned (.slice (some ⟨w.heap.size, 0, none⟩) (n + 1) G0) ∧ w' = (((w.alloc (.cells ROW 5)).drew.setCells w.heap.size 0 [.int .u8 (y.v : Int)]).drew).setCells w.heap.size 1 (bys xs) := by
  obtain ⟨i0, hi0, hz0, hzs, hzb⟩ := info_parts Tryz.infoByte
  have hcl : (bys xs).length = n := by simp [bys, hn]
  have hsz : (Tryz.prog.info? 5).map (·.size) = some 1 := by kernel_rfl
  have hcs : ∀ j v, (bys xs)[j]? = some v → w.cell? ⟨g, j, none⟩ = some v := fun j v hj => by
    obtain ⟨q1, rfl⟩ := bys_get hj
    have := (hR j q1).1
    rwa [Nat.zero_add] at this
  have hbw : g < w.heap.size := hR.lt (by omega)
  have hvw : vb < w.heap.size := World.block_lt_of_cell? w _ hv
  have hold : (Builtin.firstCells i0.size 0 (.slice (some ⟨g, 0, none⟩) 0 c)).run Tryz.prog w.drew = .ok ([] : List Value).toArray w.drew := by
    rw [hzs]
    exact run_firstCells_some w.drew 1 0 ⟨g, 0, none⟩ 0 c [] (by simp) (fun j v hj => by simp at hj)
  have hrz : ∀ ty, (Builtin.append_ #[59, 3] ty #[.slice (some ⟨g, 0, none⟩) 0 c, .int .i64 ((n : Int) + 1)]).run Tryz.prog w =
      .ok (.slice (some ⟨w.heap.size, 0, none⟩) (n + 1) (grownCap w (n + 1) c 5)) (w.drew.alloc (.cells ((([] : List Value)).toArray ++ Builtin.zeroCells (Value.int .u8 0).cells (n + 1) ++ Builtin.zeroCells (Value.int .u8 0).cells (grownCap w (n + 1) c 5 - (n + 1))) 5)) := fun ty => by
    have h := Lib.run_append_grow_zeros w 59 3 ty 5 i0 _ .i64 .i64 Tryz.underlying59 Tryz.underlying3 hi0 hz0 (some ⟨g, 0, none⟩) 0 c [] hold (n + 1) (by omega) (by omega) (by omega) (by omega) (by rw [hzb]; omega) (by rw [hzb, Nat.zero_add]; exact growslice_fits hroom (by omega))
    rw [Nat.zero_add] at h
    rw [show ((n : Int) + 1) = ((n + 1 : Nat) : Int) by omega]
    exact h
  obtain ⟨G0, hG⟩ : ∃ G0, G0 = grownCap w (n + 1) c 5 := ⟨_, rfl⟩
  obtain ⟨ROW, hROW⟩ : ∃ ROW : Array Value, ROW = (([] : List Value)).toArray ++ Builtin.zeroCells (Value.int .u8 0).cells (n + 1) ++ Builtin.zeroCells (Value.int .u8 0).cells (G0 - (n + 1)) := ⟨_, rfl⟩
  rw [← hG] at hrz
  rw [← hROW] at hrz
  have hGn : n + 1 ≤ G0 := by rw [hG]; exact grownCap_ge w _ _ _
  have hGx : G0 ≤ 9223372036854775807 := by rw [hG]; exact grownCap_le_maxLen w _ _ _ (by unfold maxLen; omega)
  have hRs : ROW.size = G0 := by
    rw [hROW]
    simp [Builtin.zeroCells, Value.cells]
    omega
  obtain ⟨W1, hW1⟩ : ∃ W1, W1 = w.drew.alloc (.cells ROW 5) := ⟨_, rfl⟩
  rw [← hW1] at hrz
  have hRm : RoomL W1 w.heap.size G0 := by rw [hW1, ← hRs]; exact RoomL.new w.drew ROW rfl
  have hOb : ∀ j v, w.cell? ⟨g, j, none⟩ = some v → W1.cell? ⟨g, j, none⟩ = some v := fun j v h => by rw [hW1, World.cell?_alloc_past (w := w.drew) _ g j hbw]; exact h
  have hOv : ∀ j v, w.cell? ⟨vb, j, none⟩ = some v → W1.cell? ⟨vb, j, none⟩ = some v := fun j v h => by rw [hW1, World.cell?_alloc_past (w := w.drew) _ vb j hvw]; exact h
  have hcpA : ∀ (W : World), (∀ x, W.cell? x = W1.cell? x) → (∀ x, W.frozen? x = W1.frozen? x) → ∀ ty dc, (Builtin.copy_ #[59, 59] ty #[.slice (some ⟨w.heap.size, 0, none⟩) (n + 1) dc, .slice (some ⟨vb, 0, none⟩) 1 vc]).run Tryz.prog W = .ok (goInt 1) (W.setCells w.heap.size 0 [.int .u8 (y.v : Int)]) := fun W hWc hWf ty dc =>
    run_copy_cells W _ _ ty 5 w.heap.size 0 (n + 1) dc ⟨vb, 0, none⟩ 1 vc [.int .u8 (y.v : Int)] Tryz.underlying59 hsz (by simp only [Nat.min_def, List.length_cons, List.length_nil]; split <;> omega)
      (fun j v hj => by
        match j, hj with
        | 0, hj =>
          obtain rfl := Option.some.inj hj
          rw [Addr.add_lit, hWc]
          exact hOv _ _ hv
        | j + 1, hj => simp at hj)
      (fun j hj => by rw [hWc]; exact hRm.some (by simp at hj; omega)) (fun j hj => by rw [hWf]; exact hRm.free _) (fun v hv => by obtain rfl := List.mem_singleton.1 hv; rfl)
  have hbN : g ≠ w.heap.size := by omega
  have hRm2 : RoomL (W1.setCells w.heap.size 0 [.int .u8 (y.v : Int)]) w.heap.size G0 := RoomL.many _ _ hRm
  have hcpB : ∀ (W : World), (∀ x, W.cell? x = (W1.setCells w.heap.size 0 [.int .u8 (y.v : Int)]).cell? x) → (∀ x, W.frozen? x = (W1.setCells w.heap.size 0 [.int .u8 (y.v : Int)]).frozen? x) → ∀ ty dc sc, (Builtin.copy_ #[59, 59] ty #[.slice (some ⟨w.heap.size, 1, none⟩) n dc, .slice (some ⟨g, 0, none⟩) n sc]).run Tryz.prog W = .ok (goInt (bys xs).length) (W.setCells w.heap.size 1 (bys xs)) := fun W hWc hWf ty dc sc =>
    run_copy_cells W _ _ ty 5 w.heap.size 1 n dc ⟨g, 0, none⟩ n sc (bys xs) Tryz.underlying59 hsz (by rw [hcl]; simp only [Nat.min_def]; split <;> omega)
      (fun j v hj => by
        rw [Addr.add_lit, hWc, World.cell?_setCells_out _ _ _ _ _ (fun h _ => absurd h hbN), Nat.zero_add]
        exact hOb _ v (hcs j v hj))
      (fun j hj => by rw [hWc]; exact hRm2.some (by omega))
      (fun j hj => by rw [hWf]; exact hRm2.free _) (bys_one xs)
  have hE1 : ∀ x, ((w.alloc (.cells ROW 5)).drew).cell? x = (w.drew.alloc (.cells ROW 5)).cell? x := fun x => rfl
  have hE2 : ∀ x, ((w.alloc (.cells ROW 5)).drew).frozen? x = (w.drew.alloc (.cells ROW 5)).frozen? x := fun x => rfl
  have hF1 : ∀ x, (((w.alloc (.cells ROW 5)).drew.setCells w.heap.size 0 [.int .u8 (y.v : Int)]).drew).cell? x = ((w.drew.alloc (.cells ROW 5)).setCells w.heap.size 0 [.int .u8 (y.v : Int)]).cell? x := fun x => rfl
  have hF2 : ∀ x, (((w.alloc (.cells ROW 5)).drew.setCells w.heap.size 0 [.int .u8 (y.v : Int)]).drew).frozen? x = ((w.drew.alloc (.cells ROW 5)).setCells w.heap.size 0 [.int .u8 (y.v : Int)]).frozen? x := fun x => rfl
  subst hW1
  have hz2 : ¬ ((0 : Int) = (n : Int)) := by omega
  have hz3 : (c : Int) < (n : Int) + 1 := by omega
  have hb5 : (1 : Int) ≤ (n : Int) + 1 := by omega
  have hw1 : IntKind.i64.wrap 1 = 1 := IntWalk.i64_in _ (by omega)
  have hb6 : (0 : Int) ≤ (n : Int) + 1 := by omega
  have hb7 : (0 : Int) ≤ (n : Int) := by omega
  have hGi : ¬ (G0 = 0) := by omega
  have hGim : ¬ (G0 = 1) := by omega
  have hci : ¬ (c = 0) := by omega
  have HX := Lib.hid (And.intro hGn (And.intro hGx hRs))
  clear hcs hcl hROW hG hGx hold hRm hRm2 hi0 hz0 hzs hzb hRs
  go_enter Tryz.func150, Tryz.ntmps150
  go_wp2_with (first
    | (at_builtin; refine Lib.wpList_append_run _ rfl _ _ _ _ rfl _ _ rfl rfl _ _ (hrz _) ?_)
    | (at_builtin; refine wpList_copy_runI _ rfl _ _ 59 59 rfl _ _ rfl rfl (hcpA _ hE1 hE2 _ _) ?_)
    | (at_builtin; refine wpList_copy_runI _ rfl _ _ 59 59 rfl _ _ rfl rfl (hcpB _ (fun _ => rfl) (fun _ => rfl) _ _ _) ?_))
  go_region_law (refine step_copy_runI rfl _ _ 59 59 rfl (.slice (some ⟨w.heap.size, 1, none⟩) n (G0 - 1)) (.slice (some ⟨g, 0, none⟩) n c) (by simp [Act.eval, Act.put]) (by simp [Act.eval, Act.put]) (hcpB _ hF1 hF2 3 (G0 - 1) c) ?_)
  go_wp2
  go_ret
  exact ⟨G0, ROW, HX.out.1, HX.out.2.1, HX.out.2.2, rfl, rfl⟩


theorem bys_at (xs : List G) {j : Nat} (h : j < (bys xs).length) : (bys xs)[j] = .int .u8 ((xs.getD j g0).v : Int) := by
  have h1 : (bys xs)[j]? = some (bys xs)[j] := List.getElem?_eq_getElem h
  exact (bys_get h1).2
theorem bys_len (xs : List G) : (bys xs).length = xs.length := by simp [bys]
theorem ins_row1 {W : World} {g c : Nat} {xs : List G} (y : G) (hR : RoomL W g c) (h : xs.length + 1 ≤ c) : Row ((W.setCells g 1 (bys xs)).setCells g 0 [.int .u8 (y.v : Int)]) g 0 (y :: xs) := by
  have hR1 := RoomL.many (b := g) (bys xs) 1 hR
  refine Row.of_cells (RoomL.many _ _ hR1) fun i hi => ?_
  cases i with
  | zero => exact World.cell?_setCells_in g [.int .u8 (y.v : Int)] 0 _ (fun j hj => hR1.some (by simp at hj; omega)) 0 (by simp)
  | succ j =>
    have hj : j < (bys xs).length := by rw [bys_len]; simpa using hi
    rw [World.cell?_setCells_out g _ _ _ _ (fun _ _ => Or.inr (by simp)), Nat.add_comm j 1, World.cell?_setCells_in g (bys xs) 1 _ (fun j' hj' => hR.some (by rw [bys_len] at hj'; omega)) j hj, bys_at xs hj, Nat.add_comm 1 j]
    rfl
theorem ins_row2 {W : World} {g c : Nat} {xs : List G} (y : G) (hR : RoomL W g c) (h : xs.length + 1 ≤ c) : Row (((W.setCells g 0 [.int .u8 (y.v : Int)]).drew).setCells g 1 (bys xs)) g 0 (y :: xs) := by
  have hR1 : RoomL ((W.setCells g 0 [.int .u8 (y.v : Int)]).drew) g c := (RoomL.many (b := g) [.int .u8 (y.v : Int)] 0 hR).keep (Gr.refl _).drew
  refine Row.of_cells (RoomL.many _ _ hR1) fun i hi => ?_
  cases i with
  | zero =>
    rw [World.cell?_setCells_out g _ _ _ _ (fun _ _ => Or.inl (by simp))]
    exact World.cell?_setCells_in g [.int .u8 (y.v : Int)] 0 _ (fun j hj => hR.some (by simp at hj; omega)) 0 (by simp)
  | succ j =>
    have hj : j < (bys xs).length := by rw [bys_len]; simpa using hi
    rw [Nat.add_comm j 1, World.cell?_setCells_in g (bys xs) 1 _ (fun j' hj' => hR1.some (by rw [bys_len] at hj'; omega)) j hj, bys_at xs hj, Nat.add_comm 1 j]
    rfl
def InsPost (g n : Nat) (xs : List G) (y : G) (w : World) (e : Ending) (w' : World) : Prop :=
  ∃ g' c', e = .returned (.slice (some ⟨g', 0, none⟩) (n + 1) c') ∧ n + 1 ≤ c' ∧ c' ≤ 9223372036854775807 ∧ (g' = g ∨ w.heap.size ≤ g') ∧ Row w' g' 0 (y :: xs) ∧ RoomL w' g' c' ∧ Gb g w w'
theorem ins_any (g n c vb vc : Nat) (xs : List G) (y : G) (w : World) (h1 : 1 ≤ n) (hnc : n ≤ c) (hc63 : c ≤ 9223372036854775807) (hl : n ≤ 1000) (hvb : vb ≠ g) (hn : xs.length = n) (hR : Row w g 0 xs) (hRm : RoomL w g c) (hV : RoomL w vb 1) (hv : w.cell? ⟨vb, 0, none⟩ = some (.int .u8 (y.v : Int))) :
    Calls Tryz.prog 150 #[.slice (some ⟨g, 0, none⟩) n c, .int .i64 0, .slice (some ⟨vb, 0, none⟩) 1 vc] w (InsPost g n xs y w) := by
  by_cases hroom : n + 1 ≤ c
  · refine (ins_shift g n c vb vc xs y w h1 hroom hc63 hvb hn hR hRm hV hv).mono ?_
    rintro e w' ⟨rfl, rfl⟩
    have hRd : RoomL w.drew g c := hRm.keep (Gr.refl _).drew
    exact ⟨g, c, rfl, hroom, hc63, Or.inl rfl, ins_row1 y hRd (by omega), RoomL.many _ _ (RoomL.many _ _ hRd), ((Gb.refl g w).drew.many _ _).many _ _⟩
  · refine (ins_grow g n c vb vc xs y w h1 hnc (by omega) hl hn hR hv).mono ?_
    rintro e w' ⟨G0, ROW, q1, q2, q3, rfl, rfl⟩
    have hRm0 : RoomL ((w.alloc (.cells ROW 5)).drew) w.heap.size G0 := by
      have := RoomL.new w ROW rfl
      rw [q3] at this
      exact this.keep (Gr.refl _).drew
    have hGr : Gr w ((w.alloc (.cells ROW 5)).drew) := ((Gr.refl w).alloc _).drew
    have hG : Gb w.heap.size ((w.alloc (.cells ROW 5)).drew) ((((w.alloc (.cells ROW 5)).drew.setCells w.heap.size 0 [.int .u8 (y.v : Int)]).drew).setCells w.heap.size 1 (bys xs)) := ((Gb.refl _ _).many _ _).drew.many _ _
    exact ⟨w.heap.size, G0, rfl, q1, q2, Or.inr (Nat.le_refl _), ins_row2 y hRm0 (by omega), RoomL.many _ _ ((RoomL.many _ _ hRm0).keep (Gr.refl _).drew), Gb.of (Gb.gr hGr hG (Nat.le_refl _)) g⟩

end Go.Proofs.YtpnkpejnahhajaaGreat

namespace Go.Proofs.YtpnkpejnahhajaaGreat
open Go.RowKit
set_option linter.unusedSimpArgs false

theorem zero_at {k j : Nat} (h : j < k) : (Builtin.zeroCells (Value.int .u8 0).cells k)[j]? = some (.int .u8 0) := by
  simp [Builtin.zeroCells, Value.cells, h, Nat.mod_one]
theorem zero_size (k : Nat) : (Builtin.zeroCells (Value.int .u8 0).cells k).size = k := by simp [Builtin.zeroCells, Value.cells]
theorem bytes_at {s : ByteArray} {w : World} {cap : Nat} {fr : Nat × Nat} {i : Nat} (hi : i < s.size) : (w.alloc (.cells (bytesRow s cap) 5 fr)).cell? ⟨w.heap.size, i, none⟩ = some (.int .u8 (((gs s).getD i g0).v : Int)) := by
  obtain ⟨b, o, e, h⟩ := Byts_at (bytes_rd s w cap fr) (show i < (gs s).length by rw [gs_len]; exact hi)
  obtain ⟨rfl, rfl⟩ : w.heap.size = b ∧ 0 = o := by simpa using e
  simpa using h
theorem bytesRow_size (s : ByteArray) (cap : Nat) (h : s.size ≤ cap) : (bytesRow s cap).size = cap := by
  have : s.data.size ≤ cap := h
  simp [bytesRow]
  show s.data.size + (cap - s.data.size) = cap
  omega
theorem bytes_there {s : ByteArray} {w : World} {cap i : Nat} (hc : s.size ≤ cap) (hi : i < cap) {fr : Nat × Nat} : ((w.alloc (.cells (bytesRow s cap) 5 fr)).cell? ⟨w.heap.size, i, none⟩).isSome = true := by
  rw [cell_of_row _ _ i (bytesRow s cap) _ fr (heap_alloc_new w _), Array.getElem?_eq_getElem (by rw [bytesRow_size s cap hc]; exact hi)]
  rfl
theorem bytes_free {s : ByteArray} {w : World} {cap i : Nat} (hc : s.size ≤ cap) (hi : i < cap) : (w.alloc (.cells (bytesRow s cap) 5 ((bytesRow s cap).size, (bytesRow s cap).size + 1))).frozen? ⟨w.heap.size, i, none⟩ = false := by
  rw [bytesRow_size s cap hc]
  unfold World.frozen?
  rw [heap_alloc_new]
  simp
  omega
theorem gs_zeros {s : ByteArray} {p i : Nat} (h : s.size ≤ i) : ((gs s ++ List.replicate p g0).getD i g0) = g0 := by
  rw [List.getD_eq_getElem?_getD, List.getElem?_append_right (by rw [gs_len]; exact h), List.getElem?_replicate]
  split <;> rfl
theorem gs_front {s : ByteArray} {p i : Nat} (h : i < s.size) : ((gs s ++ List.replicate p g0).getD i g0) = (gs s).getD i g0 := by
  rw [List.getD_eq_getElem?_getD, List.getElem?_append_left (by rw [gs_len]; exact h), List.getD_eq_getElem?_getD]
set_option maxHeartbeats 1000000 in
theorem app_zeros (s : ByteArray) (p cap : Nat) (w : World) (hs : s.size ≤ 300) (hp : p ≤ 64) (hc : s.size ≤ cap) :
    ∃ g c w', (∀ ty, (Builtin.append_ #[59, 3] ty #[.slice (some ⟨w.heap.size, 0, none⟩) s.size cap, .int .i64 (p : Int)]).run Tryz.prog (w.alloc (.cells (bytesRow s cap) 5 ((bytesRow s cap).size, (bytesRow s cap).size + 1))) = .ok (.slice (some ⟨g, 0, none⟩) (s.size + p) c) w') ∧
      Row w' g 0 (gs s ++ List.replicate p g0) ∧ Gr w w' ∧ w.heap.size ≤ g ∧ s.size + p ≤ c := by
  obtain ⟨i0, hi0, hz0, hzs, hzb⟩ := info_parts Tryz.infoByte
  have hold : ∀ i (hi : i < s.size), (w.alloc (.cells (bytesRow s cap) 5 ((bytesRow s cap).size, (bytesRow s cap).size + 1))).cell? ⟨w.heap.size, i, none⟩ = some (.int .u8 (((gs s).getD i g0).v : Int)) := fun i hi => bytes_at hi
  have hthere : ∀ i (hi : i < cap), ((w.alloc (.cells (bytesRow s cap) 5 ((bytesRow s cap).size, (bytesRow s cap).size + 1))).cell? ⟨w.heap.size, i, none⟩).isSome = true := fun i hi => bytes_there hc hi
  have hfree : ∀ i (hi : i < cap), (w.alloc (.cells (bytesRow s cap) 5 ((bytesRow s cap).size, (bytesRow s cap).size + 1))).frozen? ⟨w.heap.size, i, none⟩ = false := fun i hi => bytes_free hc hi
  have hgr : Gr w (w.alloc (.cells (bytesRow s cap) 5 ((bytesRow s cap).size, (bytesRow s cap).size + 1))) := (Gr.refl w).alloc _
  have hsz : (w.alloc (.cells (bytesRow s cap) 5 ((bytesRow s cap).size, (bytesRow s cap).size + 1))).heap.size = w.heap.size + 1 := by simp
  generalize w.alloc _ = wb at hold hthere hfree hgr hsz ⊢
  obtain ⟨g, hg⟩ : ∃ g, w.heap.size = g := ⟨_, rfl⟩
  rw [hg] at hold hthere hfree hsz ⊢
  have hw : IntKind.i64.wrap (p : Int) = p := IntWalk.i64_in _ (by omega)
  by_cases hroom : s.size + p ≤ cap
  · refine ⟨g, cap, wb.setCells g s.size (List.replicate p (.int .u8 0)), fun ty => ?_, fun i hi => ?_, ?_, by omega, hroom⟩
    · have hst := run_storeCells_cells (P := Tryz.prog) g s.size (List.replicate p (.int .u8 0)) 0 wb (by intro j hj; rw [Nat.add_zero]; exact hthere _ (by simp at hj; omega)) (by intro j hj; rw [Nat.add_zero]; exact hfree _ (by simp at hj; omega)) (fun v hv => by rw [(List.mem_replicate.1 hv).2]; rfl)
      have hz : (Builtin.zeroCells (Value.int .u8 0).cells p).toList = List.replicate p (.int .u8 0) := by
        refine List.ext_getElem? fun j => ?_
        rw [Array.getElem?_toList, List.getElem?_replicate]
        split
        · rename_i h; exact zero_at h
        · rename_i h; exact Array.getElem?_eq_none (by rw [zero_size]; omega)
      have hneg : ¬ ((p : Int) < 0) := by omega
      have hbig : ¬ (281474976710656 < (p : Int)) := by omega
      by_cases hp0 : p = 0
      · subst hp0
        have hw0 : IntKind.i64.wrap 0 = 0 := IntWalk.i64_in _ (by omega)
        simp [hw0, Builtin.append_, run_underlying Tryz.underlying59, run_underlying Tryz.underlying3, sizeOf, typeInfo, zeroValue, hi0, hz0, hzs, hzb, asInt, asIntOf, hroom, hc, Addr.add_lit, storeCells, World.setCells]
      · simp [Builtin.append_, run_underlying Tryz.underlying59, run_underlying Tryz.underlying3, sizeOf, typeInfo, zeroValue, hi0, hz0, hzs, hzb, asInt, asIntOf, hw, hroom, hneg, hbig, hp0, Addr.add_lit, hz, hst]
    · have hi' : i < s.size + p := by simpa [gs_len] using hi
      rw [frozen_many, Nat.zero_add]
      refine ⟨?_, hfree i (by omega)⟩
      by_cases hlt : i < s.size
      · rw [World.cell?_setCells_out _ _ _ _ _ (fun _ _ => Or.inl hlt), gs_front hlt]; exact hold i hlt
      · obtain ⟨j, rfl⟩ : ∃ j, i = s.size + j := ⟨i - s.size, by omega⟩
        rw [World.cell?_setCells_in g _ s.size _ (fun j hj => hthere _ (by simp at hj; omega)) j (by simp; omega), gs_zeros (by omega)]
        simp [g0]
    · exact Gb.gr hgr ((Gb.refl _ _).many _ _) (by omega)
  · have hold' : (Builtin.firstCells i0.size s.size (.slice (some ⟨g, 0, none⟩) s.size cap)).run Tryz.prog wb.drew = .ok (bys (gs s)).toArray wb.drew := by
      rw [hzs]
      exact run_firstCells_some wb.drew 1 s.size ⟨g, 0, none⟩ s.size cap (bys (gs s)) (by rw [bys_len, gs_len]; omega) (fun j v hj => by
        obtain ⟨q1, rfl⟩ := bys_get hj
        rw [Addr.add_lit, Nat.zero_add]
        exact hold j (by rwa [gs_len] at q1))
    have h := fun ty => Lib.run_append_grow_zeros wb 59 3 ty 5 i0 _ .i64 .i64 Tryz.underlying59 Tryz.underlying3 hi0 hz0 (some ⟨g, 0, none⟩) s.size cap (bys (gs s)) hold' p (by omega) (by omega) (by omega) (by omega) (by rw [hzb]; omega) (by rw [hzb]; exact growslice_fits (by omega) (by omega))
    refine ⟨wb.heap.size, grownCap wb (s.size + p) cap 5, _, h, ?_, ?_, by omega, grownCap_ge _ _ _ _⟩
    · refine Row.of_cells (c := (((bys (gs s)).toArray ++ Builtin.zeroCells (Value.int .u8 0).cells p ++ Builtin.zeroCells (Value.int .u8 0).cells (grownCap wb (s.size + p) cap 5 - (s.size + p)))).size) (RoomL.new wb.drew _ rfl) fun i hi => alloc_new rfl ?_
      have hi' : i < s.size + p := by simpa [gs_len] using hi
      have hbl : (bys (gs s)).toArray.size = s.size := by simp [bys_len, gs_len]
      rw [Array.getElem?_append_left (by rw [Array.size_append, hbl, zero_size]; omega)]
      by_cases hlt : i < s.size
      · rw [Array.getElem?_append_left (by omega), gs_front hlt, List.getElem?_toArray, List.getElem?_eq_getElem (by rw [bys_len, gs_len]; exact hlt), bys_at]
      · rw [Array.getElem?_append_right (by omega), gs_zeros (by omega), zero_at (by omega)]; rfl
    · exact hgr.drew.alloc _
end Go.Proofs.YtpnkpejnahhajaaGreat
