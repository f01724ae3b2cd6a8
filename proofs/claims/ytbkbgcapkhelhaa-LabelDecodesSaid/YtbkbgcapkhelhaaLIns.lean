/- Layer 3: slices.Insert of one byte at the front. -/
import Derived.Test.YtbkbgcapkhelhaaLAdd
import Derived.Shelf.Spec.SlicesInsertGrow
import Derived.Deep.RegionLaw
namespace Go.Proofs.Ytbkbgcapkhelhaa
open Go.RowKit Go.Lib
set_option linter.unusedSimpArgs false

def bys (xs : List G) : List Value := xs.map fun x => .int .u8 (x.v : Int)
theorem bys_get {xs : List G} {j : Nat} {v : Value} (h : (bys xs)[j]? = some v) : j < xs.length ∧ v = .int .u8 ((xs.getD j g0).v : Int) := by
  unfold bys at h
  have hj : j < xs.length := by have := (List.getElem?_eq_some_iff.1 h).1; simpa using this
  rw [List.getElem?_map, getD_of g0 hj] at h
  exact ⟨hj, (Option.some.inj h).symm⟩
theorem bys_one (xs : List G) : ∀ v ∈ bys xs, v.oneCell' = true := fun v hv => by
  obtain ⟨x, -, rfl⟩ := List.mem_map.1 hv; rfl

set_option maxHeartbeats 4000000 in
set_option maxRecDepth 100000 in
/-- There is room: in place. -/
theorem ins_shift (g n c vb vc : Nat) (xs : List G) (y : G) (w : World) (h1 : 1 ≤ n) (hroom : n + 1 ≤ c) (hc63 : c ≤ 9223372036854775807) (hvb : vb ≠ g) (hn : xs.length = n) (hR : Row w g 0 xs) (hRm : Room w g c) (hV : Room w vb 1) (hv : w.cell? ⟨vb, 0, none⟩ = some (.int .u8 (y.v : Int))) :
    Calls Try.prog 73 #[.slice (some ⟨g, 0, none⟩) n c, .int .i64 0, .slice (some ⟨vb, 0, none⟩) 1 vc] w fun e w' =>
      e = .returned (.slice (some ⟨g, 0, none⟩) (n + 1) c) ∧ w' = (w.drew.setCells g 1 (bys xs)).setCells g 0 [.int .u8 (y.v : Int)] := by
  have hov : ∀ lb cb, (callFunc 75 #[.slice (some ⟨vb, 0, none⟩) 1 vc, .slice (some ⟨g, 1, none⟩) lb cb]).run Try.prog w = .ok (.value (.bool false)) w := fun lb cb => by
    rw [run_callFunc_extern Try.func75 (by kernel_rfl) (by kernel_rfl) (by kernel_rfl) (e := Extern.SlicesOverlaps.overlaps #[40, 40] #[4]) (by kernel_rfl),
      Lib.run_overlaps_apart w 40 4 5 Try.underlying40 1 (fun _ => by kernel_rfl) ⟨vb, 0, none⟩ ⟨g, 1, none⟩ 1 vc lb cb hvb _ _ _ _ hV.shape hRm.shape (by omega) (hV.free 0) (hV.free 1)]
    rfl
  have hcl : (bys xs).length = n := by simp [bys, hn]
  have hsz : (Try.prog.info? 5).map (·.size) = some 1 := by kernel_rfl
  have hcs : ∀ j v, (bys xs)[j]? = some v → w.cell? ⟨g, j, none⟩ = some v := fun j v hj => by
    obtain ⟨q1, rfl⟩ := bys_get hj
    have := (hR j q1).1
    rwa [Nat.zero_add] at this
  have hcp1 : ∀ ty dc sc, (Builtin.copy_ #[40, 40] ty #[.slice (some ⟨g, 1, none⟩) n dc, .slice (some ⟨g, 0, none⟩) (n + 1) sc]).run Try.prog w.drew = .ok (goInt (bys xs).length) (w.drew.setCells g 1 (bys xs)) := fun ty dc sc =>
    run_copy_cells w.drew _ _ ty 5 g 1 n dc ⟨g, 0, none⟩ (n + 1) sc (bys xs) Try.underlying40 hsz (by rw [hcl]; simp only [Nat.min_def]; split <;> omega)
      (fun j v hj => by rw [Addr.add_lit, Nat.zero_add]; exact hcs j v hj)
      (fun j hj => hRm.some (by omega)) (fun j hj => hRm.free _) (bys_one xs)
  obtain ⟨W1, hW1⟩ : ∃ W1, W1 = w.drew.setCells g 1 (bys xs) := ⟨_, rfl⟩
  have hRm1 : Room W1 g c := by rw [hW1]; exact Room.many _ _ (hRm.keep (Gr.refl _).drew)
  have hcp2 : ∀ (W : World), (∀ x, W.cell? x = W1.cell? x) → (∀ x, W.frozen? x = W1.frozen? x) → ∀ ty dc, (Builtin.copy_ #[40, 40] ty #[.slice (some ⟨g, 0, none⟩) (n + 1) dc, .slice (some ⟨vb, 0, none⟩) 1 vc]).run Try.prog W = .ok (goInt 1) (W.setCells g 0 [.int .u8 (y.v : Int)]) := fun W hWc hWf ty dc =>
    run_copy_cells W _ _ ty 5 g 0 (n + 1) dc ⟨vb, 0, none⟩ 1 vc [.int .u8 (y.v : Int)] Try.underlying40 hsz (by simp only [Nat.min_def, List.length_cons, List.length_nil]; split <;> omega)
      (fun j v hj => by
        match j, hj with
        | 0, hj =>
          obtain rfl := Option.some.inj hj
          rw [Addr.add_lit, hWc, hW1, World.cell?_setCells_out g _ _ _ _ (fun h _ => absurd h hvb)]
          exact hv
        | j + 1, hj => simp at hj)
      (fun j hj => by rw [hWc]; exact hRm1.some (by simp at hj; omega)) (fun j hj => by rw [hWf]; exact hRm1.free _) (fun v hv => by obtain rfl := List.mem_singleton.1 hv; rfl)
  rw [← hW1] at hcp1
  have hz2 : ¬ ((0 : Int) = (n : Int)) := by omega
  have hb2 : ¬ (c = 1) := by omega
  have hb4 : ¬ (c = 0) := by omega
  have hb5 : (1 : Int) ≤ (n : Int) + 1 := by omega
  have hw1 : IntKind.i64.wrap 1 = 1 := IntWalk.i64_in _ (by omega)
  have hb6 : (0 : Int) ≤ (n : Int) + 1 := by omega
  clear hcs hcl
  go_enter Try.func73, Try.ntmps73
  go_wp2_with (simp only [hov])
  go_region_law (refine step_copy_runI rfl _ _ 40 40 rfl (.slice (some ⟨g, 1, none⟩) n (c - 1)) (.slice (some ⟨g, 0, none⟩) (n + 1) c) (by simp [Act.eval, Act.put]) (by simp [Act.eval, Act.put]) (hcp1 _ _ _) ?_)
  go_wp2_with (at_builtin; refine wpList_copy_runI _ rfl _ _ 40 40 rfl _ _ rfl rfl (hcp2 _ (fun _ => rfl) (fun _ => rfl) _ _) ?_)
  go_ret
  first | exact ⟨rfl, rfl⟩ | exact ⟨rfl, by rw [hW1]⟩

set_option maxHeartbeats 4000000 in
set_option maxRecDepth 100000 in
/-- There is no room: a new row. -/
theorem ins_grow (g n c vb vc : Nat) (xs : List G) (y : G) (w : World) (h1 : 1 ≤ n) (hnc : n ≤ c) (hroom : c < n + 1) (hl : n ≤ 1000) (hn : xs.length = n) (hR : Row w g 0 xs) (hv : w.cell? ⟨vb, 0, none⟩ = some (.int .u8 (y.v : Int))) :
    Calls Try.prog 73 #[.slice (some ⟨g, 0, none⟩) n c, .int .i64 0, .slice (some ⟨vb, 0, none⟩) 1 vc] w fun e w' =>
      ∃ (G0 : Nat) (ROW : Array Value), n + 1 ≤ G0 ∧ G0 ≤ 9223372036854775807 ∧ ROW.size = G0 ∧ e = .returned (.slice (some ⟨w.heap.size, 0, none⟩) (n + 1) G0) ∧ w' = (((w.alloc (.cells ROW 5)).drew.setCells w.heap.size 0 [.int .u8 (y.v : Int)]).drew).setCells w.heap.size 1 (bys xs) := by
  obtain ⟨i0, hi0, hz0, hzs, hzb⟩ := info_parts Try.infoByte
  have hcl : (bys xs).length = n := by simp [bys, hn]
  have hsz : (Try.prog.info? 5).map (·.size) = some 1 := by kernel_rfl
  have hcs : ∀ j v, (bys xs)[j]? = some v → w.cell? ⟨g, j, none⟩ = some v := fun j v hj => by
    obtain ⟨q1, rfl⟩ := bys_get hj
    have := (hR j q1).1
    rwa [Nat.zero_add] at this
  have hbw : g < w.heap.size := hR.lt (by omega)
  have hvw : vb < w.heap.size := World.block_lt_of_cell? w _ hv
  have hold : (Builtin.firstCells i0.size 0 (.slice (some ⟨g, 0, none⟩) 0 c)).run Try.prog w.drew = .ok ([] : List Value).toArray w.drew := by
    rw [hzs]
    exact run_firstCells_some w.drew 1 0 ⟨g, 0, none⟩ 0 c [] (by simp) (fun j v hj => by simp at hj)
  have hrz : ∀ ty, (Builtin.append_ #[40, 3] ty #[.slice (some ⟨g, 0, none⟩) 0 c, .int .i64 ((n : Int) + 1)]).run Try.prog w =
      .ok (.slice (some ⟨w.heap.size, 0, none⟩) (n + 1) (grownCap w (n + 1) c 5)) (w.drew.alloc (.cells ((([] : List Value)).toArray ++ Builtin.zeroCells (Value.int .u8 0).cells (n + 1) ++ Builtin.zeroCells (Value.int .u8 0).cells (grownCap w (n + 1) c 5 - (n + 1))) 5)) := fun ty => by
    have h := Lib.run_append_grow_zeros w 40 3 ty 5 i0 _ .i64 .i64 Try.underlying40 Try.underlying3 hi0 hz0 (some ⟨g, 0, none⟩) 0 c [] hold (n + 1) (by omega) (by omega) (by omega) (by omega) (by rw [hzb]; omega) (by rw [hzb, Nat.zero_add]; exact growslice_fits hroom (by omega))
    rw [Nat.zero_add] at h
    rw [show ((n : Int) + 1) = ((n + 1 : Nat) : Int) by omega]
    exact h
  obtain ⟨G0, hG⟩ : ∃ G0, G0 = grownCap w (n + 1) c 5 := ⟨_, rfl⟩
  obtain ⟨ROW, hROW⟩ : ∃ ROW : Array Value, ROW = (([] : List Value)).toArray ++ Builtin.zeroCells (Value.int .u8 0).cells (n + 1) ++ Builtin.zeroCells (Value.int .u8 0).cells (G0 - (n + 1)) := ⟨_, rfl⟩
  rw [← hG] at hrz
  rw [← hROW] at hrz
  have hGn : n + 1 ≤ G0 := by rw [hG]; exact grownCap_ge w _ _ _
  have hGx : G0 ≤ 9223372036854775807 := by rw [hG]; exact grownCap_le_maxLen w _ _ _ (by unfold maxLen; omega)
  have hRs : ROW.size = G0 := by
    rw [hROW]
    simp [Builtin.zeroCells, Value.cells]
    omega
  obtain ⟨W1, hW1⟩ : ∃ W1, W1 = w.drew.alloc (.cells ROW 5) := ⟨_, rfl⟩
  rw [← hW1] at hrz
  have hRm : Room W1 w.heap.size G0 := by rw [hW1, ← hRs]; exact Room.new w.drew ROW rfl
  have hOb : ∀ j v, w.cell? ⟨g, j, none⟩ = some v → W1.cell? ⟨g, j, none⟩ = some v := fun j v h => by rw [hW1, World.cell?_alloc_past (w := w.drew) _ g j hbw]; exact h
  have hOv : ∀ j v, w.cell? ⟨vb, j, none⟩ = some v → W1.cell? ⟨vb, j, none⟩ = some v := fun j v h => by rw [hW1, World.cell?_alloc_past (w := w.drew) _ vb j hvw]; exact h
  have hcpA : ∀ (W : World), (∀ x, W.cell? x = W1.cell? x) → (∀ x, W.frozen? x = W1.frozen? x) → ∀ ty dc, (Builtin.copy_ #[40, 40] ty #[.slice (some ⟨w.heap.size, 0, none⟩) (n + 1) dc, .slice (some ⟨vb, 0, none⟩) 1 vc]).run Try.prog W = .ok (goInt 1) (W.setCells w.heap.size 0 [.int .u8 (y.v : Int)]) := fun W hWc hWf ty dc =>
    run_copy_cells W _ _ ty 5 w.heap.size 0 (n + 1) dc ⟨vb, 0, none⟩ 1 vc [.int .u8 (y.v : Int)] Try.underlying40 hsz (by simp only [Nat.min_def, List.length_cons, List.length_nil]; split <;> omega)
      (fun j v hj => by
        match j, hj with
        | 0, hj =>
          obtain rfl := Option.some.inj hj
          rw [Addr.add_lit, hWc]
          exact hOv _ _ hv
        | j + 1, hj => simp at hj)
      (fun j hj => by rw [hWc]; exact hRm.some (by simp at hj; omega)) (fun j hj => by rw [hWf]; exact hRm.free _) (fun v hv => by obtain rfl := List.mem_singleton.1 hv; rfl)
  have hbN : g ≠ w.heap.size := by omega
  have hRm2 : Room (W1.setCells w.heap.size 0 [.int .u8 (y.v : Int)]) w.heap.size G0 := Room.many _ _ hRm
  have hcpB : ∀ (W : World), (∀ x, W.cell? x = (W1.setCells w.heap.size 0 [.int .u8 (y.v : Int)]).cell? x) → (∀ x, W.frozen? x = (W1.setCells w.heap.size 0 [.int .u8 (y.v : Int)]).frozen? x) → ∀ ty dc sc, (Builtin.copy_ #[40, 40] ty #[.slice (some ⟨w.heap.size, 1, none⟩) n dc, .slice (some ⟨g, 0, none⟩) n sc]).run Try.prog W = .ok (goInt (bys xs).length) (W.setCells w.heap.size 1 (bys xs)) := fun W hWc hWf ty dc sc =>
    run_copy_cells W _ _ ty 5 w.heap.size 1 n dc ⟨g, 0, none⟩ n sc (bys xs) Try.underlying40 hsz (by rw [hcl]; simp only [Nat.min_def]; split <;> omega)
      (fun j v hj => by
        rw [Addr.add_lit, hWc, World.cell?_setCells_out _ _ _ _ _ (fun h _ => absurd h hbN), Nat.zero_add]
        exact hOb _ v (hcs j v hj))
      (fun j hj => by rw [hWc]; exact hRm2.some (by omega))
      (fun j hj => by rw [hWf]; exact hRm2.free _) (bys_one xs)
  have hE1 : ∀ x, ((w.alloc (.cells ROW 5)).drew).cell? x = (w.drew.alloc (.cells ROW 5)).cell? x := fun x => rfl
  have hE2 : ∀ x, ((w.alloc (.cells ROW 5)).drew).frozen? x = (w.drew.alloc (.cells ROW 5)).frozen? x := fun x => rfl
  have hF1 : ∀ x, (((w.alloc (.cells ROW 5)).drew.setCells w.heap.size 0 [.int .u8 (y.v : Int)]).drew).cell? x = ((w.drew.alloc (.cells ROW 5)).setCells w.heap.size 0 [.int .u8 (y.v : Int)]).cell? x := fun x => rfl
  have hF2 : ∀ x, (((w.alloc (.cells ROW 5)).drew.setCells w.heap.size 0 [.int .u8 (y.v : Int)]).drew).frozen? x = ((w.drew.alloc (.cells ROW 5)).setCells w.heap.size 0 [.int .u8 (y.v : Int)]).frozen? x := fun x => rfl
  subst hW1
  have hz2 : ¬ ((0 : Int) = (n : Int)) := by omega
  have hz3 : (c : Int) < (n : Int) + 1 := by omega
  have hb5 : (1 : Int) ≤ (n : Int) + 1 := by omega
  have hw1 : IntKind.i64.wrap 1 = 1 := IntWalk.i64_in _ (by omega)
  have hb6 : (0 : Int) ≤ (n : Int) + 1 := by omega
  have hb7 : (0 : Int) ≤ (n : Int) := by omega
  have hGi : ¬ (G0 = 0) := by omega
  have hGim : ¬ (G0 = 1) := by omega
  have hci : ¬ (c = 0) := by omega
  have HX := Lib.hid (And.intro hGn (And.intro hGx hRs))
  clear hcs hcl hROW hG hGx hold hRm hRm2 hi0 hz0 hzs hzb hRs
  go_enter Try.func73, Try.ntmps73
  go_wp2_with (first
    | (at_builtin; refine Lib.wpList_append_run _ rfl _ _ _ _ rfl _ _ rfl rfl _ _ (hrz _) ?_)
    | (at_builtin; refine wpList_copy_runI _ rfl _ _ 40 40 rfl _ _ rfl rfl (hcpA _ hE1 hE2 _ _) ?_)
    | (at_builtin; refine wpList_copy_runI _ rfl _ _ 40 40 rfl _ _ rfl rfl (hcpB _ (fun _ => rfl) (fun _ => rfl) _ _ _) ?_))
  go_region_law (refine step_copy_runI rfl _ _ 40 40 rfl (.slice (some ⟨w.heap.size, 1, none⟩) n (G0 - 1)) (.slice (some ⟨g, 0, none⟩) n c) (by simp [Act.eval, Act.put]) (by simp [Act.eval, Act.put]) (hcpB _ hF1 hF2 3 (G0 - 1) c) ?_)
  go_wp2
  go_ret
  exact ⟨G0, ROW, HX.out.1, HX.out.2.1, HX.out.2.2, rfl, rfl⟩


theorem bys_at (xs : List G) {j : Nat} (h : j < (bys xs).length) : (bys xs)[j] = .int .u8 ((xs.getD j g0).v : Int) := by
  have h1 : (bys xs)[j]? = some (bys xs)[j] := List.getElem?_eq_getElem h
  exact (bys_get h1).2
theorem bys_len (xs : List G) : (bys xs).length = xs.length := by simp [bys]
theorem ins_row1 {W : World} {g c : Nat} {xs : List G} (y : G) (hR : Room W g c) (h : xs.length + 1 ≤ c) : Row ((W.setCells g 1 (bys xs)).setCells g 0 [.int .u8 (y.v : Int)]) g 0 (y :: xs) := by
  have hR1 := Room.many (b := g) (bys xs) 1 hR
  refine Row.of_cells (Room.many _ _ hR1) fun i hi => ?_
  cases i with
  | zero => exact World.cell?_setCells_in g [.int .u8 (y.v : Int)] 0 _ (fun j hj => hR1.some (by simp at hj; omega)) 0 (by simp)
  | succ j =>
    have hj : j < (bys xs).length := by rw [bys_len]; simpa using hi
    rw [World.cell?_setCells_out g _ _ _ _ (fun _ _ => Or.inr (by simp)), Nat.add_comm j 1, World.cell?_setCells_in g (bys xs) 1 _ (fun j' hj' => hR.some (by rw [bys_len] at hj'; omega)) j hj, bys_at xs hj, Nat.add_comm 1 j]
    rfl
theorem ins_row2 {W : World} {g c : Nat} {xs : List G} (y : G) (hR : Room W g c) (h : xs.length + 1 ≤ c) : Row (((W.setCells g 0 [.int .u8 (y.v : Int)]).drew).setCells g 1 (bys xs)) g 0 (y :: xs) := by
  have hR1 : Room ((W.setCells g 0 [.int .u8 (y.v : Int)]).drew) g c := (Room.many (b := g) [.int .u8 (y.v : Int)] 0 hR).keep (Gr.refl _).drew
  refine Row.of_cells (Room.many _ _ hR1) fun i hi => ?_
  cases i with
  | zero =>
    rw [World.cell?_setCells_out g _ _ _ _ (fun _ _ => Or.inl (by simp))]
    exact World.cell?_setCells_in g [.int .u8 (y.v : Int)] 0 _ (fun j hj => hR.some (by simp at hj; omega)) 0 (by simp)
  | succ j =>
    have hj : j < (bys xs).length := by rw [bys_len]; simpa using hi
    rw [Nat.add_comm j 1, World.cell?_setCells_in g (bys xs) 1 _ (fun j' hj' => hR1.some (by rw [bys_len] at hj'; omega)) j hj, bys_at xs hj, Nat.add_comm 1 j]
    rfl
def InsPost (g n : Nat) (xs : List G) (y : G) (w : World) (e : Ending) (w' : World) : Prop :=
  ∃ g' c', e = .returned (.slice (some ⟨g', 0, none⟩) (n + 1) c') ∧ n + 1 ≤ c' ∧ c' ≤ 9223372036854775807 ∧ (g' = g ∨ w.heap.size ≤ g') ∧ Row w' g' 0 (y :: xs) ∧ Room w' g' c' ∧ Gb g w w'
theorem ins_any (g n c vb vc : Nat) (xs : List G) (y : G) (w : World) (h1 : 1 ≤ n) (hnc : n ≤ c) (hc63 : c ≤ 9223372036854775807) (hl : n ≤ 1000) (hvb : vb ≠ g) (hn : xs.length = n) (hR : Row w g 0 xs) (hRm : Room w g c) (hV : Room w vb 1) (hv : w.cell? ⟨vb, 0, none⟩ = some (.int .u8 (y.v : Int))) :
    Calls Try.prog 73 #[.slice (some ⟨g, 0, none⟩) n c, .int .i64 0, .slice (some ⟨vb, 0, none⟩) 1 vc] w (InsPost g n xs y w) := by
  by_cases hroom : n + 1 ≤ c
  · refine (ins_shift g n c vb vc xs y w h1 hroom hc63 hvb hn hR hRm hV hv).mono ?_
    rintro e w' ⟨rfl, rfl⟩
    have hRd : Room w.drew g c := hRm.keep (Gr.refl _).drew
    exact ⟨g, c, rfl, hroom, hc63, Or.inl rfl, ins_row1 y hRd (by omega), Room.many _ _ (Room.many _ _ hRd), ((Gb.refl g w).drew.many _ _).many _ _⟩
  · refine (ins_grow g n c vb vc xs y w h1 hnc (by omega) hl hn hR hv).mono ?_
    rintro e w' ⟨G0, ROW, q1, q2, q3, rfl, rfl⟩
    have hRm0 : Room ((w.alloc (.cells ROW 5)).drew) w.heap.size G0 := by
      have := Room.new w ROW rfl
      rw [q3] at this
      exact this.keep (Gr.refl _).drew
    have hGr : Gr w ((w.alloc (.cells ROW 5)).drew) := ((Gr.refl w).alloc _).drew
    have hG : Gb w.heap.size ((w.alloc (.cells ROW 5)).drew) ((((w.alloc (.cells ROW 5)).drew.setCells w.heap.size 0 [.int .u8 (y.v : Int)]).drew).setCells w.heap.size 1 (bys xs)) := ((Gb.refl _ _).many _ _).drew.many _ _
    exact ⟨w.heap.size, G0, rfl, q1, q2, Or.inr (Nat.le_refl _), ins_row2 y hRm0 (by omega), Room.many _ _ ((Room.many _ _ hRm0).keep (Gr.refl _).drew), Gb.of (Gb.gr hGr hG (Nat.le_refl _)) g⟩

end Go.Proofs.Ytbkbgcapkhelhaa
