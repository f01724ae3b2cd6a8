/- Layer 2: Best. -/
import Derived.Test.YthleajmamkihaaaCPlan
import Derived.Test.YthleajmamkihaaaCCheck
namespace Go.Proofs.Ythleajmamkihaaa
open Go.RowKit
set_option linter.unusedSimpArgs false

def BestPost (bs : List Bl) (W H : Nat) (w : World) (e : Ending) (w' : World) : Prop :=
  ∃ P m g c g2, e = .returned (.tuple #[.slice (some ⟨g, 0, none⟩) P.length c, .slice (some ⟨g2, 0, none⟩) (W + 1) (W + 1), .int .i64 0]) ∧ Makes bs W H P m ∧ sumV m = mst bs W H ∧ P.length ≤ c ∧ w.heap.size ≤ g ∧ w.heap.size ≤ g2 ∧
    w'.ownsRow w.heap.size 74 2 (.slice (some ⟨g, 0, none⟩) P.length c) P.length (flatE enc2 P) ∧ RowsOwn w' w.heap.size g2 (mstTb bs W H) ∧ Gr w w'

set_option maxRecDepth 100000 in
set_option maxHeartbeats 1000000 in
theorem Best_no (W H : Int) (BA : Option Addr) (bn bc : Nat) (bs : List Bl) (w : World) (hbn : bs.length = bn) (hbl : bn ≤ 281474976710656) (hB : Tris w BA bs) (ht : taskB W H bs = false) :
    Calls Try.prog 8 #[.int .i64 W, .int .i64 H, .slice BA bn bc] w fun e w' => e = .returned (.tuple #[.slice none 0 0, .slice none 0 0, .int .i64 2]) ∧ Gr w w' := by
  have HT := Lib.hid (isTask_any W H BA bn bc bs w hbn hbl hB _ ht)
  clear ht hbn hB
  go_enter Try.func8, Try.ntmps8
  go_wp2_with fail
  refine HT.out.mono ?_
  rintro e w1 ⟨rfl, hb⟩
  go_wp2_with fail
  go_ret3
  exact ⟨rfl, hb⟩

/-- As above, and the plan is the only one of its kind. -/
def BestPost1 (bs : List Bl) (W H : Nat) (w : World) (e : Ending) (w' : World) : Prop :=
  ∃ P m g c g2, e = .returned (.tuple #[.slice (some ⟨g, 0, none⟩) P.length c, .slice (some ⟨g2, 0, none⟩) (W + 1) (W + 1), .int .i64 0]) ∧ Makes bs W H P m ∧ (sumV m = mst bs W H ∧ PlanOf bs W H P) ∧ P.length ≤ c ∧ w.heap.size ≤ g ∧ w.heap.size ≤ g2 ∧
    w'.ownsRow w.heap.size 74 2 (.slice (some ⟨g, 0, none⟩) P.length c) P.length (flatE enc2 P) ∧ RowsOwn w' w.heap.size g2 (mstTb bs W H) ∧ Gr w w'

set_option maxRecDepth 100000 in
set_option maxHeartbeats 1000000 in
theorem Best_one (W H : Nat) (BA : Option Addr) (bn bc : Nat) (bs : List Bl) (w : World) (hbn : bs.length = bn) (hbl : bn ≤ 281474976710656) (hB : Tris w BA bs) (ht : taskB W H bs = true) :
    Calls Try.prog 8 #[.int .i64 (W : Int), .int .i64 (H : Int), .slice BA bn bc] w (BestPost1 bs W H w) := by
  obtain ⟨⟨hW1, hW2⟩, ⟨hH1, hH2⟩, h16, hbs⟩ := (taskB_iff _ _ _).1 ht
  have HT := Lib.hid (isTask_any W H BA bn bc bs w hbn hbl hB _ ht)
  have HF := Lib.hid (fun W' (g : Gr w W') => fill_any W H BA bn bc bs W' (by omega) (by omega) hbn (by omega) hbs (hB.keep g))
  have HP := Lib.hid (fun g W' (h : TFull bs W H g W') => plan_any bs W H g (by omega) (by omega) (W + H) W H W' (Nat.le_refl _) (by omega) (Nat.le_refl _) (by omega) (Nat.le_refl _) h)
  have HB := Lib.hid (fun g W' (h : TFull bs W H g W') => bound_any bs W H g W' (by omega) (by omega) h)
  clear ht hbn hB hbs h16
  go_enter Try.func8, Try.ntmps8
  go_wp2_with fail
  refine HT.out.mono ?_
  rintro e w1 ⟨rfl, hb⟩
  go_wp2_with fail
  refine (HF.out _ hb).mono ?_
  rintro e w2 ⟨g, rfl, -, hT2, hb2⟩
  have HT2 := Lib.hid hT2
  clear hT2
  go_wp2_with fail
  refine (HP.out _ _ HT2.out).mono ?_
  rintro e w3 ⟨P, m, hM, hs, g1, c1, rfl, hl, hg1, hown, hb3⟩
  have HM := Lib.hid hM
  have HS := Lib.hid hs
  have HO := Lib.hid hown
  clear hM hs hown
  go_wp2_with fail
  refine (HB.out _ _ (HT2.out.keep hb3)).mono ?_
  rintro e w4 ⟨g2, rfl, hg2, hR, hb4⟩
  have HR := Lib.hid hR
  clear hR
  go_wp2_with fail
  go_ret3
  have e1 := hb.size
  have e2 := (hb.trans hb2).size
  have e3 := ((hb.trans hb2).trans hb3).size
  refine ⟨P, m, g1, c1, g2, rfl, HM.out, HS.out, hl, by omega, by omega, owns_gr (owns_base HO.out e2) hb4, ?_, ((hb.trans hb2).trans hb3).trans hb4⟩
  obtain ⟨cs, h1, h2⟩ := HR.out
  refine ⟨cs, h1, fun i row hr => ?_⟩
  obtain ⟨b, c, h3, h4⟩ := h2 i row hr
  exact ⟨b, c, h3, owns_base h4 e3⟩

theorem Best_yes (W H : Nat) (BA : Option Addr) (bn bc : Nat) (bs : List Bl) (w : World) (hbn : bs.length = bn) (hbl : bn ≤ 281474976710656) (hB : Tris w BA bs) (ht : taskB W H bs = true) :
    Calls Try.prog 8 #[.int .i64 (W : Int), .int .i64 (H : Int), .slice BA bn bc] w (BestPost bs W H w) :=
  (Best_one W H BA bn bc bs w hbn hbl hB ht).mono fun _ _ ⟨P, m, g, c, g2, h1, h2, h3, h4⟩ => ⟨P, m, g, c, g2, h1, h2, h3.1, h4⟩

end Go.Proofs.Ythleajmamkihaaa
