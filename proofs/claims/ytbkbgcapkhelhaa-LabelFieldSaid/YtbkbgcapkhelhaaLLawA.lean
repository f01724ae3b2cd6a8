/- The laws LabelField and LabelRing as walks. -/
import Derived.Test.YtbkbgcapkhelhaaLAwake
import Derived.Test.YtbkbgcapkhelhaaLRefA
namespace Go.Proofs.Ytbkbgcapkhelhaa
open Go.RowKit
set_option linter.unusedSimpArgs false

set_option maxRecDepth 100000 in
set_option maxHeartbeats 2000000 in
theorem lawField_any (a b : G) (w : World) : Calls Try.prog 3 #[.int .u8 (a.v : Int), .int .u8 (b.v : Int)] w fun e w' => e = .returned (.bool true) ∧ Gr w w' := by
  have HM := Lib.hid (fun W => mul_g a b W)
  have HR := Lib.hid (fun W => rMul_g a b W)
  have hal := a.lt
  have hbl := b.lt
  have hwa : wrap64 (a.v : Int) = (a.v : Int) := by unfold wrap64; omega
  have hwb : wrap64 (b.v : Int) = (b.v : Int) := by unfold wrap64; omega
  obtain ⟨ab, hab⟩ : ∃ ab, a * b = ab := ⟨_, rfl⟩
  rw [hab] at HM HR
  have habl := ab.lt
  have hwc : wrap64 (ab.v : Int) = (ab.v : Int) := by unfold wrap64; omega
  clear hab
  by_cases h : a = g0
  · subst h
    have HI := Lib.hid (fun W => inverse_zero W)
    have HM' : Hid (∀ W, Calls Try.prog 14 #[.int .u8 0, .int .u8 (b.v : Int)] W fun e w' => e = .returned (.int .u8 (ab.v : Int)) ∧ w' = W) := HM
    have HR' : Hid (∀ W, Calls Try.prog 15 #[.int .i64 0, .int .i64 (b.v : Int)] W fun e w' => e = .returned (.int .i64 (ab.v : Int)) ∧ w' = W) := HR
    clear HM HR hwa
    show Calls Try.prog 3 #[.int .u8 0, .int .u8 (b.v : Int)] w _
    go_enter Try.func3, Try.ntmps3
    go_wp2_with fail
    refine (HI.out _).mono ?_
    rintro e w1 ⟨rfl, rfl⟩
    go_wp2_with fail
    refine (HM'.out _).mono ?_
    rintro e w1 ⟨rfl, rfl⟩
    go_wp2_with fail
    refine (HR'.out _).mono ?_
    rintro e w1 ⟨rfl, rfl⟩
    go_wp2_with fail
    refine (awake_any _).mono ?_
    rintro e w1 ⟨rfl, hg⟩
    go_wp2_with fail
    go_ret
    exact ⟨rfl, hg⟩
  · have ht : (((a.v : Nat) : Int) == 0) = false := by
      rw [beq_eq_false_iff_ne]
      intro e
      exact h (G.eq (show a.v = 0 by omega))
    have HI := Lib.hid (fun W => inverse_any a h W)
    have HR2 := Lib.hid (fun W => rMul_g a (ginv a) W)
    rw [gmul_inv h] at HR2
    have hil := (ginv a).lt
    have hwi : wrap64 ((ginv a).v : Int) = ((ginv a).v : Int) := by unfold wrap64; omega
    generalize ginv a = i at HI HR2 hil hwi
    clear h
    go_enter Try.func3, Try.ntmps3
    go_wp2_with fail
    refine (HI.out _).mono ?_
    rintro e w1 ⟨rfl, hg1⟩
    go_wp2_with fail
    refine (HM.out _).mono ?_
    rintro e w2 ⟨rfl, rfl⟩
    go_wp2_with fail
    refine (HR.out _).mono ?_
    rintro e w2 ⟨rfl, rfl⟩
    go_wp2_with fail
    refine (HR2.out _).mono ?_
    rintro e w2 ⟨rfl, rfl⟩
    go_wp2_with fail
    refine (awake_any _).mono ?_
    rintro e w3 ⟨rfl, hg⟩
    go_wp2_with fail
    go_ret
    exact ⟨rfl, hg1.trans hg⟩
end Go.Proofs.Ytbkbgcapkhelhaa
