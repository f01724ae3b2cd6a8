/- Through the layers: the probe of stage 4.
The translation is a cut: what its head says, by lemmas in place of the kernel (a string taken apart by the kernel costs seconds a word). -/
import Derived.Test.YtpnkpejnahhajaaGreatBu27
import Derived.Test.YtpnkpejnahhajaaGreatBu26
import Derived.Test.YtpnkpejnahhajaaGreatBu30
import Derived.Test.YtpnkpejnahhajaaGreatRows
import Derived.ProofKit
namespace Go.Proofs.YtpnkpejnahhajaaGreat
open Go.RowKit
set_option linter.unusedSimpArgs false

theorem fo_enc : encL ⟨#[97]⟩ 0 = ⟨#[97]⟩ := by decide +kernel
def foJ : List Jb := [(0, 2, 2)]
theorem fo_one : SchedP 1 foJ [(0, 0, 0, 2)] where
  few := by decide
  ok := by intro x hx; simp at hx; subst hx; simp [okS, jbA, foJ]
  apart := by simp
  done := by
    intro j hj
    have : j = 0 := by simp [foJ] at hj; omega
    subst this; decide
theorem fo_jobs : ∀ j ∈ foJ, 0 ≤ j.1 ∧ j.1 < j.2.1 ∧ j.2.1 ≤ 1048576 := by intro j hj; simp [foJ] at hj; subst hj; decide
theorem fo_plan {w w' : World} {e : Ending} (h : PlanP 1 foJ w e w') : ∃ A k c, e = .returned (.tuple #[.agg #[.bool true, .slice A k c, .slice none 0 0, .slice none 0 0], .int .i64 0]) ∧ Gr w w' := by
  rcases h with ⟨h, -⟩ | ⟨-, v, rfl, h⟩
  · exact absurd h (by decide)
  · rcases h with ⟨C, k, cc, sl, e, -, -, -, -, hg⟩ | ⟨JA, jc, SA, sc, J, S, e, -, -, h3, -, hg⟩
    · injection e with e
      subst e
      exact ⟨C, k, cc, rfl, hg⟩
    · exact (dual (n := 1) fo_jobs fo_one h3).elim

set_option maxRecDepth 100000 in
set_option maxHeartbeats 8000000 in
theorem four_any (w : World) : Calls Tryz.prog 10 #[] w fun e w' => e = .returned (.bool true) ∧ Gr w w' := by
  go_enter Tryz.func10, Tryz.ntmps10
  go_wp2_with fail
  generalize hW : World.alloc w _ = W
  have hgW : Gr w W := by rw [← hW]; exact (Gr.refl _).alloc _
  have hB : Tris W (some ⟨w.heap.size, 0, none⟩) foJ := by
    rw [← hW]
    exact Rd_lit enc3_len (Blk.new w _ _ rfl) rfl
  generalize w.heap.size = D at hB ⊢
  have HB := Lib.hid hB
  clear hW hB
  refine (planB_any 1 (some ⟨D, 0, none⟩) 1 1 foJ W rfl (by omega) HB.out).mono ?_
  intro e w1 hp
  obtain ⟨A, k, c, rfl, hg1⟩ := fo_plan hp
  have hgr1 := hgW.trans hg1
  clear hp
  go_upto_region 2 with fail
  generalize hW2 : World.alloc w1 _ = w2
  have hg2 : Gr w1 w2 := by rw [← hW2]; exact (Gr.refl w1).alloc _
  have hZ : Blk w2 w1.heap.size 29 #[.bool true, .slice A k c, .slice none 0 0, .slice none 0 0] := by rw [← hW2]; exact heap_alloc_new w1 _
  generalize w1.heap.size = Z at hZ ⊢
  have HZ := Lib.hid hZ
  have hgr2 := hgr1.trans hg2
  clear hW2 hZ hg1 hg2 hgr1 hgW
  have HE := Lib.hid (Encode_yes ⟨#[97]⟩ 0 w2 (by decide))
  rw [fo_enc] at HE
  go_wp2_with fail
  refine HE.out.mono ?_
  rintro e w3 ⟨rfl, hg3⟩
  have z0 := (HZ.out.keep hg3).cell 0
  have hgr3 := hgr2.trans hg3
  clear hgr2 HZ HE
  go_wp2_with fail
  refine (two_any _).mono ?_
  rintro e w4 ⟨rfl, hg4⟩
  go_wp2_with fail
  go_ret
  exact ⟨rfl, hgr3.trans hg4⟩

end Go.Proofs.YtpnkpejnahhajaaGreat

namespace Go.Proofs.YtpnkpejnahhajaaGreat

theorem strip_cut (r : List (List Char)) : stripLifts liftWords ("cut".toList :: r) = ([], "cut".toList :: r) := by
  simp [liftWords, stripLifts]
theorem make_of {P : Program} {r : List (List Char)} (h : behindMainWord (wordsSigns P.initOrder.toList) = "cut".toList :: r) : P.make = some .cut := by
  unfold Program.make
  rw [h]
  simp
theorem lifts_of {P : Program} {r : List (List Char)} (h : behindMainWord (wordsSigns P.initOrder.toList) = "cut".toList :: r) : (false == P.liftsFinal) = true := by
  unfold Program.liftsFinal Program.headLifts
  simp only [h, strip_cut]
  simp
theorem enter_of {P : Program} {r : List (List Char)} (h : behindMainWord (wordsSigns P.initOrder.toList) = "cut".toList :: r) (h0 : P.doorFits [] = true) (h1 : P.laysLater = false) (h2 : P.bearsReflect = false) : P.mayEnter = true := by
  unfold Program.mayEnter
  simp only [h, strip_cut, h0]
  simp [h1, h2]
theorem init_text : Tryz.prog.initOrder = "harness 736567457ab9bf91d1f9d5b95223a36599163ce021a93fc7c27974c219a324e1 cut at silverside/silversidetop.TopSlots silverside/silversidetop.TopShift silverside/silversidetop.TopCounted" := by kernel_rfl
set_option maxRecDepth 100000 in
theorem init_list : ∃ l, Tryz.prog.initOrder.toList = l ∧ (behindMainWord (wordsSigns l)).head? = some "cut".toList := by
  rw [init_text]
  refine ⟨_, (by show (String.ofList _).toList = _; exact String.toList_ofList), ?_⟩
  kernel_rfl
theorem init_cut : ∃ r, behindMainWord (wordsSigns Tryz.prog.initOrder.toList) = "cut".toList :: r := by
  obtain ⟨l, h, k⟩ := init_list
  rw [h]
  cases hb : behindMainWord (wordsSigns l) with
  | nil => rw [hb] at k; cases k
  | cons c r => rw [hb] at k; exact ⟨r, by rw [Option.some.inj k]⟩
theorem make_cut {c : OpenClaim} (hc : c.make = .cut) : (Tryz.pinned.checked.prog.make == some c.make) = true := by
  obtain ⟨r, h⟩ := init_cut
  have k : Tryz.pinned.checked.prog.make = some .cut := make_of h
  rw [k, hc]; rfl
theorem no_lifts {c : OpenClaim} (hc : c.lifted = false) : (c.lifted == Tryz.pinned.checked.prog.liftsFinal) = true := by
  obtain ⟨r, h⟩ := init_cut
  have k : (false == Tryz.pinned.checked.prog.liftsFinal) = true := lifts_of h
  rw [hc, k]
theorem may_enter : Tryz.pinned.checked.prog.mayEnter = true := by
  obtain ⟨r, h⟩ := init_cut
  exact enter_of h (by kernel_rfl) (by kernel_rfl) (by kernel_rfl)

end Go.Proofs.YtpnkpejnahhajaaGreat
