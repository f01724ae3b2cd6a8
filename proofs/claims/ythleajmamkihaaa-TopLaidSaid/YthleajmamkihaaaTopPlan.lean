/- TopLaid: the best plan, read as parts. -/
import Derived.Test.YthleajmamkihaaaTopApart
import Derived.Test.YthleajmamkihaaaCBest
namespace Go.Proofs.Ythleajmamkihaaa
open Go.RowKit
set_option linter.unusedSimpArgs false

theorem Makes.readT {bs : List Bl} {W H : Nat} {P : List St} {m : List Bl} (h : Makes bs W H P m) (h1 : 1 ≤ W) (h2 : W ≤ 48) (h3 : 1 ≤ H) (h4 : H ≤ 48) : readL bs W H P = some m := by
  have hl := h.len h1 h3
  have hm : W * H ≤ 48 * 48 := Nat.mul_le_mul h2 h4
  have hr := h.rd []
  rw [List.append_nil] at hr
  unfold readL
  rw [if_pos (by omega), hr]
  rfl
theorem Makes.short {bs : List Bl} {W H : Nat} {P : List St} {m : List Bl} (h : Makes bs W H P m) (h1 : 1 ≤ W) (h2 : W ≤ 48) (h3 : 1 ≤ H) (h4 : H ≤ 48) : P.length ≤ 4608 := by
  have hl := h.len h1 h3
  have hm : W * H ≤ 48 * 48 := Nat.mul_le_mul h2 h4
  omega

def PlannedPost (bs : List Bl) (W H : Nat) (w : World) (e : Ending) (w' : World) : Prop :=
  ∃ P m l g c v, (Makes bs W H P m ∧ PlanOf bs W H P ∧ v = sumV m) ∧ Boxes bs 0 0 W H P l ∧ madeBx bs l = sumA m ∧ e = .returned (.tuple #[.slice (some ⟨g, 0, none⟩) l.length c, .int .i64 v, .bool true]) ∧ Rd 5 enc5 w' (some ⟨g, 0, none⟩) l ∧ Gr w w'

set_option maxRecDepth 100000 in
set_option maxHeartbeats 4000000 in
theorem planned_any (W H : Nat) (BA : Option Addr) (bn bc : Nat) (bs : List Bl) (w : World) (hbn : bs.length = bn) (hbl : bn ≤ 281474976710656) (hB : Tris w BA bs) (ht : taskB W H bs = true) :
    Calls Try.prog 5 #[.agg #[.int .i64 (W : Int), .int .i64 (H : Int), .slice BA bn bc]] w (PlannedPost bs W H w) := by
  obtain ⟨⟨hW1, hW2⟩, ⟨hH1, hH2⟩, -, -⟩ := (taskB_iff _ _ _).1 ht
  have HB := Lib.hid hB
  have HT := Lib.hid ht
  have HBN := Lib.hid hbn
  have hW1' : 1 ≤ W := by omega
  have hW2' : W ≤ 48 := by omega
  have hH1' : 1 ≤ H := by omega
  have hH2' : H ≤ 48 := by omega
  clear hB ht hbn hW1 hW2 hH1 hH2
  go_enter Try.func5, Try.ntmps5
  go_upto_region 1 with fail
  generalize hW1x : World.alloc w _ = W1
  have hg1 : Gr w W1 := by rw [← hW1x]; exact (Gr.refl w).alloc _
  have hB1 : Blk W1 w.heap.size 24 #[.int .i64 (W : Int), .int .i64 (H : Int), .slice BA bn bc] := by rw [← hW1x]; exact heap_alloc_new w _
  generalize w.heap.size = U at hB1 ⊢
  have HU := Lib.hid hB1
  clear hW1x hB1
  have u0 := HU.out.cell 0
  have u1 := HU.out.cell 1
  have u2 := HU.out.cell 2
  go_wp2_with fail
  refine (Best_one W H BA bn bc bs _ HBN.out hbl (HB.out.keep hg1) HT.out).mono ?_
  rintro e W2 ⟨P, m, g, c, g2, rfl, hM, ⟨-, hD⟩, hPc, -, -, hown, -, hg2⟩
  have HD := Lib.hid hD
  have HM := Lib.hid hM
  have HP := Lib.hid (Rd_of_owns enc2_len rfl hown)
  have hshort := hM.short hW1' hW2' hH1' hH2'
  obtain ⟨n, hn⟩ : ∃ n, P.length = n := ⟨_, rfl⟩
  rw [hn] at hPc hshort ⊢
  have HN := Lib.hid hn
  have HWL : Hid (worthL W H bs P = (sumV m, 0)) := Lib.hid (by unfold worthL; rw [if_pos HT.out, hM.readT hW1' hW2' hH1' hH2'])
  obtain ⟨l, hl1, hl2⟩ := hM.boxes 0 0
  have HBX := Lib.hid hl1
  have HMB := Lib.hid hl2
  have hg12 := hg1.trans hg2
  clear hM hD hown hn hl1 hl2 u0 u1 u2
  have u0 := (HU.out.keep hg2).cell 0
  have u1 := (HU.out.keep hg2).cell 1
  have u2 := (HU.out.keep hg2).cell 2
  go_wp2_with fail
  refine (Worth_any W H BA (some ⟨g, 0, none⟩) bn bc n c bs P _ HBN.out hbl HN.out (by omega) (HB.out.keep hg12) HP.out).mono ?_
  rintro e W3 ⟨rfl, hg3⟩
  rw [HWL.out]
  clear u0 u1 u2
  have HU3 := Lib.hid (HU.out.keep (hg2.trans hg3))
  have hg13 := hg12.trans hg3
  have HP3 := Lib.hid (HP.out.keep hg3)
  have hin := fun k0 => tboxes_any bs W3 BA (some ⟨g, 0, none⟩) bn bc n c P HBN.out HN.out (by omega) HP3.out HBX.out (by rw [HN.out]; omega) (by omega) (by omega) k0 0 [] W3 (Gr.refl _) (by simp)
  have HIN := Lib.hid hin
  clear hin hg1 hg2 hg3 hg12 HU HP
  have u0 := HU3.out.cell 0
  have u1 := HU3.out.cell 1
  have u2 := HU3.out.cell 2
  go_wp2_with fail
  refine (HIN.out 0).mono ?_
  rintro e W4 ⟨g4, c4, rfl, hc4, ho4, hg4⟩
  rw [Nat.zero_add, HN.out]
  have HO4 := Lib.hid ho4
  clear ho4 u0 u1 u2
  have hnn : ((n : Int) == (n : Int)) = true := by simp
  go_wp2_with fail
  go_ret3
  exact ⟨P, m, l, g4, c4, sumV m, ⟨HM.out, HD.out, rfl⟩, HBX.out, HMB.out, rfl, Rd_of_owns enc5_len rfl HO4.out, hg13.trans hg4⟩

end Go.Proofs.Ythleajmamkihaaa
