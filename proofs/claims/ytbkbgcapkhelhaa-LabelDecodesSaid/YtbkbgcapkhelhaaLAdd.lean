/- Layer 3: sums of lists, in place. -/
import Derived.Test.YtbkbgcapkhelhaaRow
import Derived.Test.YtbkbgcapkhelhaaLIs
import Derived.Deep.RegionLaw
namespace Go.Proofs.Ytbkbgcapkhelhaa
open Go.RowKit
set_option linter.unusedSimpArgs false

/-- The bytes xs lie at g, off, and may be written. -/
def Row (w : World) (g off : Nat) (xs : List G) : Prop := ∀ i, i < xs.length → w.cell? ⟨g, off + i, none⟩ = some (.int .u8 ((xs.getD i g0).v : Int)) ∧ w.frozen? ⟨g, off + i, none⟩ = false
theorem Row.keep {w w' : World} {g off : Nat} {xs : List G} (h : Row w g off xs) (hg : Gr w w') : Row w' g off xs := fun i hi => by
  obtain ⟨h1, h2⟩ := h i hi
  exact ⟨hg.keep h1, (Below.frozen (p := ⟨g, off + i, none⟩) hg (World.block_lt_of_cell? w _ h1)).trans h2⟩
theorem Row.pts {w : World} {g off : Nat} {xs : List G} (h : Row w g off xs) : Byts w (some ⟨g, off, none⟩) xs := fun i x hx => by
  have hi : i < xs.length := (List.getElem?_eq_some_iff.1 hx).1
  have hd : xs.getD i g0 = x := by rw [List.getD_eq_getElem?_getD, hx]; rfl
  obtain ⟨h1, -⟩ := h i hi
  rw [hd] at h1
  refine ⟨g, off, rfl, fun j v hv => ?_⟩
  match j, hv with
  | 0, hv => obtain rfl := Option.some.inj hv; rw [Nat.mul_one, Nat.add_zero]; exact h1
  | j + 1, hv => simp [encG] at hv
theorem Row.put {w : World} {g off : Nat} {xs : List G} (h : Row w g off xs) {k : Nat} (hk : k < xs.length) (y : G) : Row (w.setCell ⟨g, off + k, none⟩ (.int .u8 (y.v : Int))) g off (xs.set k y) := fun i hi => by
  have hi' : i < xs.length := by simpa using hi
  obtain ⟨h1, h2⟩ := h i hi'
  refine ⟨?_, by rw [frozen_put]; exact h2⟩
  by_cases e : i = k
  · subst e
    rw [World.cell?_setCell_same _ _ _ (by rw [h1]), List.getD_eq_getElem?_getD, List.getElem?_set_self hi']; rfl
  · rw [World.cell?_setCell_other _ _ _ _ (fun h => e (by injection h with _ h; omega)), h1, List.getD_eq_getElem?_getD, List.getD_eq_getElem?_getD, List.getElem?_set_ne (Ne.symm e)]
theorem Row.gb {w w' : World} {g g' off : Nat} {xs : List G} (h : Row w g off xs) (hg : Gb g' w w') (hne : g ≠ g') : Row w' g off xs := fun i hi => by
  obtain ⟨h1, h2⟩ := h i hi
  have hb : g < w.heap.size := World.block_lt_of_cell? w _ h1
  exact ⟨(hg.cell hb hne).trans h1, (World.frozen?_of_block (hg.block g hb (fun e => hne (by injection e)))).trans h2⟩
theorem BG.row {w : World} {g : Nat} {xs : List G} (h : BG w g xs) : Row w g 0 xs := fun i hi => by
  rw [Nat.zero_add]; exact ⟨h.at hi, h.free i⟩
theorem Row.drop {w : World} {g off : Nat} {xs : List G} (h : Row w g off xs) (k : Nat) : Row w g (off + k) (xs.drop k) := fun i hi => by
  have hi' : k + i < xs.length := by simp at hi; omega
  have := h (k + i) hi'
  rw [List.getD_eq_getElem?_getD, List.getElem?_drop, ← List.getD_eq_getElem?_getD, Nat.add_assoc]
  exact this
theorem Tabs.gb {T g : Nat} {w w' : World} (h : Tabs T w) (hg : Gb g w w') (hne : T ≠ g) : Tabs T w' :=
  ⟨fun i hi => by have h1 := h.1 i hi; exact (hg.cell (World.block_lt_of_cell? w _ h1) hne).trans h1, fun a ha => by have h1 := h.2 a ha; exact (hg.cell (World.block_lt_of_cell? w _ h1) hne).trans h1⟩
theorem Tabs.lt {T : Nat} {w : World} (h : Tabs T w) : T < w.heap.size := World.block_lt_of_cell? w _ (h.1 0 (by omega))
theorem Row.lt {w : World} {g off : Nat} {xs : List G} (h : Row w g off xs) (hn : 0 < xs.length) : g < w.heap.size := World.block_lt_of_cell? w _ (h 0 hn).1
/-- A list that reads, not in block g. -/
def BytsX (w : World) (g : Nat) (A : Option Addr) (ys : List G) : Prop := Byts w A ys ∧ (0 < ys.length → ∀ b o, A = some ⟨b, o, none⟩ → b ≠ g)
theorem BytsX.gb {w w' : World} {g : Nat} {A : Option Addr} {ys : List G} (h : BytsX w g A ys) (hg : Gb g w w') : BytsX w' g A ys := by
  refine ⟨fun i x hx => ?_, h.2⟩
  obtain ⟨b, off, e, hc⟩ := h.1 i x hx
  have hne := h.2 (by have := (List.getElem?_eq_some_iff.1 hx).1; omega) b off e
  exact ⟨b, off, e, fun j v hv => by have h1 := hc j v hv; exact (hg.cell (World.block_lt_of_cell? w _ h1) hne).trans h1⟩

/-- A block of c cells that are bytes. -/
def Room (w : World) (g c : Nat) : Prop := ∃ cur : Array Value, w.heap[g]? = some (.cells cur 5 (0, 0)) ∧ cur.size = c
theorem Room.keep {w w' : World} {g c : Nat} (h : Room w g c) (hg : Gr w w') : Room w' g c := by
  obtain ⟨cur, h1, h2⟩ := h
  exact ⟨cur, (Below.block hg g (Array.getElem?_eq_some_iff.1 h1).1).trans h1, h2⟩
theorem Room.put {w : World} {g c : Nat} (h : Room w g c) (b o : Nat) (u : Value) : Room (w.setCell ⟨b, o, none⟩ u) g c := by
  obtain ⟨cur, h1, h2⟩ := h
  by_cases e : b = g
  · subst e
    refine ⟨cur.setIfInBounds o u, ?_, by simpa using h2⟩
    simp [World.setCell, Array.getElem?_modify, h1]
  · exact ⟨cur, (Below.heap_setCell w ⟨b, o, none⟩ u g (Ne.symm e)).trans h1, h2⟩
theorem Room.many {g c b : Nat} : ∀ (vs : List Value) (o : Nat) {w : World}, Room w g c → Room (w.setCells b o vs) g c
  | [], _, _, h => h
  | v :: r, o, _, h => Room.many r (o + 1) (h.put b o v)
theorem Room.lt {w : World} {g c : Nat} (h : Room w g c) : g < w.heap.size := by
  obtain ⟨cur, h1, -⟩ := h
  exact (Array.getElem?_eq_some_iff.1 h1).1
theorem Room.shape {w : World} {g c : Nat} (h : Room w g c) : w.shape? g = some (5, c) := by
  obtain ⟨cur, h1, h2⟩ := h
  simp [World.shape?, h1, h2]
theorem Room.some {w : World} {g c : Nat} (h : Room w g c) {j : Nat} (hj : j < c) : (w.cell? ⟨g, j, none⟩).isSome = true := by
  obtain ⟨cur, h1, h2⟩ := h
  rw [cell_of_row w g j cur _ (0, 0) h1, Array.getElem?_eq_getElem (by omega)]; rfl
theorem Room.free {w : World} {g c : Nat} (h : Room w g c) (j : Nat) : w.frozen? ⟨g, j, none⟩ = false := by
  obtain ⟨cur, h1, h2⟩ := h
  simp [World.frozen?, h1]
theorem Room.new (w : World) (cs : Array Value) {g : Nat} (h : w.heap.size = g) : Room (w.alloc (.cells cs 5)) g cs.size := by
  subst h; exact ⟨cs, heap_alloc_new w _, rfl⟩
/-- A row within a block. -/
theorem Row.of_cells {w : World} {g : Nat} {xs : List G} {c : Nat} (hR : Room w g c) (h : ∀ i, i < xs.length → w.cell? ⟨g, i, none⟩ = some (.int .u8 ((xs.getD i g0).v : Int))) : Row w g 0 xs := fun i hi => by
  rw [Nat.zero_add]; exact ⟨h i hi, hR.free i⟩

theorem Row.past {w : World} {g : Nat} {zs : List G} (h : Row w g 0 zs) {o : Nat} (ho : zs.length ≤ o) (v : Value) : Row (w.setCell ⟨g, o, none⟩ v) g 0 zs := fun i hi => by
  obtain ⟨h1, h2⟩ := h i hi
  refine ⟨?_, by rw [frozen_put]; exact h2⟩
  rw [World.cell?_setCell_other _ _ _ _ (fun e => by injection e with _ e2; omega)]
  exact h1
def addL : List G → G → List G → List G
  | xs, _, [] => xs
  | [], _, _ :: _ => []
  | x :: xs, f, y :: ys => (x + f * y) :: addL xs f ys
theorem addL_nil (xs : List G) (f : G) : addL xs f [] = xs := by cases xs <;> rfl
theorem addL_len : ∀ (xs : List G) (f : G) (ys : List G), (addL xs f ys).length = xs.length
  | xs, f, [] => by rw [addL_nil]
  | [], f, _ :: _ => rfl
  | x :: xs, f, y :: ys => by simp [addL, addL_len xs f ys]
theorem addL_step : ∀ (xs : List G) (f : G) (ys : List G) (k : Nat), k < ys.length → k < xs.length →
    (addL xs f (ys.take k)).getD k g0 = xs.getD k g0 ∧ addL xs f (ys.take (k + 1)) = (addL xs f (ys.take k)).set k (xs.getD k g0 + f * ys.getD k g0)
  | x :: xs, f, y :: ys, 0, _, _ => by
    simp [addL, addL_nil]
  | x :: xs, f, y :: ys, k + 1, h1, h2 => by
    obtain ⟨i1, i2⟩ := addL_step xs f ys k (by simpa using h1) (by simpa using h2)
    simp only [List.take_succ_cons, addL, List.getD_cons_succ, List.set_cons_succ]
    exact ⟨i1, by rw [i2]⟩

set_option maxRecDepth 100000 in
set_option maxHeartbeats 1000000 in
theorem add_any (T g off n c : Nat) (xs : List G) (f : G) (A : Option Addr) (m mc : Nat) (ys : List G) (w : World) (hT : Tabs T w) (hTg : T ≠ g) (hR : Row w g off xs) (hn : xs.length = n) (hY : BytsX w g A ys) (hm : ys.length = m) (hmn : m ≤ n) (hl : n ≤ 1048576) :
    Calls Try.prog 53 #[.pointer (some ⟨T, 0, none⟩), .slice (some ⟨g, off, none⟩) n c, .int .u8 (f.v : Int), .slice A m mc] w fun e w' => e = .returned (.tuple #[]) ∧ Row w' g off (addL xs f ys) ∧ Gb g w w' ∧ (∀ c, Room w g c → Room w' g c) ∧ ∀ zs, zs.length ≤ off → Row w g 0 zs → Row w' g 0 zs := by
  have HT := Lib.hid hT
  have HR := Lib.hid hR
  have HY := Lib.hid hY
  have HN := Lib.hid hn
  have HM := Lib.hid hm
  clear hT hR hY hn hm
  go_enter Try.func53, Try.ntmps53
  go_wp2_with fail
  go_loopw [12] (fun z wr => ∃ k : Nat, k ≤ m ∧ z = .int .i64 k ∧ Hid (Row wr g off (addL xs f (ys.take k))) ∧ Hid (Gb g w wr) ∧ Hid (∀ c, Room w g c → Room wr g c) ∧ Hid (∀ zs, zs.length ≤ off → Row w g 0 zs → Row wr g 0 zs)) (fun z _ => m - (intOf z).toNat)
  case atStart => exact ⟨0, Nat.zero_le _, rfl, by simpa [addL_nil] using HR, Lib.hid (Gb.refl _ _), Lib.hid (fun _ h => h), Lib.hid (fun _ _ h => h)⟩
  case round =>
    obtain ⟨k, hk, rfl, hRw, hG, hRO, hFR⟩ := hrel
    by_cases hlt : k < m
    · have hky : k < ys.length := by have := HM.out; omega
      have hkx : k < xs.length := by have := HN.out; omega
      obtain ⟨b, o, rfl, c0⟩ := Byts_at (HY.out.gb hG.out).1 hky
      obtain ⟨s1, s2⟩ := addL_step xs f ys k hky hkx
      obtain ⟨r1, r2⟩ := hRw.out k (by rw [addL_len]; omega)
      rw [s1] at r1
      have HS := Lib.hid s2
      generalize ys.getD k g0 = y at c0 HS
      generalize xs.getD k g0 = x at r1 HS
      have HPR := Lib.hid (fun W' (h : Gr wr W') => product_any T f y W' ((HT.out.gb hG.out hTg).keep h))
      have hx := xor8 x (f * y)
      have hkn : k < n := by omega
      clear s1 s2
      go_wp2_with fail
      go_region_law (first | (go_simp; go_at_call 66; refine (HPR.out _ (by first | exact (Gr.refl _).drew | exact Gr.refl _)).mono ?_; rintro e w1 ⟨rfl, hg1⟩; have r1' := hg1.keep r1; have r2' := (frozen_gr hg1 (World.block_lt_of_cell? _ _ r1)).trans r2))
      all_goals
        go_wp2_with fail
        go_roundw
        case rel =>
          have hgd : Gr wr w1 := by first | exact hg1 | exact (Gr.refl _).drew.trans hg1
          refine ⟨k + 1, by omega, by go_num, Lib.hid ?_, Lib.hid ((hG.out.trans (Gb.of hgd g)).put (off + k) _), Lib.hid (fun c h => ((hRO.out c h).keep hgd).put _ _ _), Lib.hid (fun zs hz h => ((hFR.out zs hz h).keep hgd).past (by omega) _)⟩
          rw [HS.out]
          exact (hRw.out.keep hgd).put (by rw [addL_len]; omega) (x + f * y)
        case measure => simp [intOf] <;> omega
    · obtain rfl : k = m := by omega
      rw [List.take_of_length_le (by have := HM.out; omega)] at hRw
      go_wp2_with fail
      go_end0
      exact ⟨rfl, hRw.out, hG.out, hRO.out, hFR.out⟩

end Go.Proofs.Ytbkbgcapkhelhaa
