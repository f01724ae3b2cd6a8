/- The law LabelRing as a walk. -/
import Derived.Test.YtbkbgcapkhelhaaLLawA
namespace Go.Proofs.Ytbkbgcapkhelhaa
open Go.RowKit
set_option linter.unusedSimpArgs false

set_option maxRecDepth 100000 in
set_option maxHeartbeats 2000000 in
theorem lawRing_any (a b c : G) (w : World) : Calls Try.prog 7 #[.int .u8 (a.v : Int), .int .u8 (b.v : Int), .int .u8 (c.v : Int)] w fun e w' => e = .returned (.bool true) ∧ Gr w w' := by
  obtain ⟨ab, hab⟩ : ∃ x, a * b = x := ⟨_, rfl⟩
  obtain ⟨ac, hac⟩ : ∃ x, a * c = x := ⟨_, rfl⟩
  obtain ⟨bc, hbc⟩ : ∃ x, b * c = x := ⟨_, rfl⟩
  obtain ⟨t, ht⟩ : ∃ x, a * bc = x := ⟨_, rfl⟩
  obtain ⟨bxc, hbxc⟩ : ∃ x, b + c = x := ⟨_, rfl⟩
  obtain ⟨u, hu⟩ : ∃ x, a * bxc = x := ⟨_, rfl⟩
  have x1 := xor8 b c
  have x2 := xor8 ab ac
  rw [hbxc] at x1
  rw [show ab + ac = u by rw [← hu, ← hbxc, gmul_add, hab, hac]] at x2
  have H0 : Hid (∀ W, Calls Try.prog 14 #[.int .u8 (a.v : Int), .int .u8 (b.v : Int)] W fun e w' => e = .returned (.int .u8 (ab.v : Int)) ∧ w' = W) := Lib.hid (fun W => by have h := mul_g a b W; rw [hab] at h; exact h)
  have H1 : Hid (∀ W, Calls Try.prog 14 #[.int .u8 (b.v : Int), .int .u8 (a.v : Int)] W fun e w' => e = .returned (.int .u8 (ab.v : Int)) ∧ w' = W) := Lib.hid (fun W => by have h := mul_g b a W; rw [gmul_comm b a, hab] at h; exact h)
  have H2 : Hid (∀ W, Calls Try.prog 14 #[.int .u8 (b.v : Int), .int .u8 (c.v : Int)] W fun e w' => e = .returned (.int .u8 (bc.v : Int)) ∧ w' = W) := Lib.hid (fun W => by have h := mul_g b c W; rw [hbc] at h; exact h)
  have H3 : Hid (∀ W, Calls Try.prog 14 #[.int .u8 (a.v : Int), .int .u8 (bc.v : Int)] W fun e w' => e = .returned (.int .u8 (t.v : Int)) ∧ w' = W) := Lib.hid (fun W => by have h := mul_g a bc W; rw [ht] at h; exact h)
  have H4 : Hid (∀ W, Calls Try.prog 14 #[.int .u8 (ab.v : Int), .int .u8 (c.v : Int)] W fun e w' => e = .returned (.int .u8 (t.v : Int)) ∧ w' = W) := Lib.hid (fun W => by have h := mul_g ab c W; rw [show ab * c = t by rw [← hab, gmul_assoc, hbc]; exact ht] at h; exact h)
  have H5 : Hid (∀ W, Calls Try.prog 14 #[.int .u8 (a.v : Int), .int .u8 (bxc.v : Int)] W fun e w' => e = .returned (.int .u8 (u.v : Int)) ∧ w' = W) := Lib.hid (fun W => by have h := mul_g a bxc W; rw [hu] at h; exact h)
  have H6 : Hid (∀ W, Calls Try.prog 14 #[.int .u8 (a.v : Int), .int .u8 (c.v : Int)] W fun e w' => e = .returned (.int .u8 (ac.v : Int)) ∧ w' = W) := Lib.hid (fun W => by have h := mul_g a c W; rw [hac] at h; exact h)
  have H7 : Hid (∀ W, Calls Try.prog 14 #[.int .u8 (a.v : Int), .int .u8 1] W fun e w' => e = .returned (.int .u8 (a.v : Int)) ∧ w' = W) := Lib.hid (fun W => by have h := mul_g a g1 W; rw [gmul_one a] at h; exact h)
  have H8 : Hid (∀ W, Calls Try.prog 14 #[.int .u8 (a.v : Int), .int .u8 0] W fun e w' => e = .returned (.int .u8 0) ∧ w' = W) := Lib.hid (fun W => by have h := mul_g a g0 W; rw [gmul_zero a] at h; exact h)
  have HB : (b = g0 ∧ (((b.v : Nat) : Int) == 0) = true) ∨ (b ≠ g0 ∧ (((b.v : Nat) : Int) == 0) = false) := by
    by_cases h : b = g0
    · left; exact ⟨h, by rw [h]; rfl⟩
    · right; refine ⟨h, ?_⟩
      rw [beq_eq_false_iff_ne]; intro e; exact h (G.eq (show b.v = 0 by omega))
  rcases HB with ⟨h, hz⟩ | ⟨h, hz⟩
  · clear hab hac hbc ht hbxc hu h
    go_enter Try.func7, Try.ntmps7
    go_wp2_with fail
    refine (H0.out _).mono ?_
    rintro e w1 ⟨rfl, rfl⟩
    go_wp2_with fail
    refine (H1.out _).mono ?_
    rintro e w1 ⟨rfl, rfl⟩
    go_wp2_with fail
    refine (H2.out _).mono ?_
    rintro e w1 ⟨rfl, rfl⟩
    go_wp2_with fail
    refine (H3.out _).mono ?_
    rintro e w1 ⟨rfl, rfl⟩
    go_wp2_with fail
    refine (H0.out _).mono ?_
    rintro e w1 ⟨rfl, rfl⟩
    go_wp2_with fail
    refine (H4.out _).mono ?_
    rintro e w1 ⟨rfl, rfl⟩
    go_wp2_with fail
    refine (H5.out _).mono ?_
    rintro e w1 ⟨rfl, rfl⟩
    go_wp2_with fail
    refine (H0.out _).mono ?_
    rintro e w1 ⟨rfl, rfl⟩
    go_wp2_with fail
    refine (H6.out _).mono ?_
    rintro e w1 ⟨rfl, rfl⟩
    go_wp2_with fail
    refine (H7.out _).mono ?_
    rintro e w1 ⟨rfl, rfl⟩
    go_wp2_with fail
    refine (H8.out _).mono ?_
    rintro e w1 ⟨rfl, rfl⟩
    go_wp2_with fail
    refine (awake_any _).mono ?_
    rintro e w1 ⟨rfl, hg⟩
    go_wp2_with fail
    go_ret
    exact ⟨rfl, hg⟩
  · have HI := Lib.hid (fun W => inverse_any b h W)
    have HL : Hid (∀ W, Calls Try.prog 14 #[.int .u8 (ab.v : Int), .int .u8 ((ginv b).v : Int)] W fun e w' => e = .returned (.int .u8 (a.v : Int)) ∧ w' = W) := Lib.hid (fun W => by
      have h2 := mul_g ab (ginv b) W
      rw [show ab * ginv b = a by rw [← hab, gmul_assoc, gmul_inv h, gmul_one]] at h2
      exact h2)
    generalize ginv b = i at HI HL
    clear hab hac hbc ht hbxc hu h
    go_enter Try.func7, Try.ntmps7
    go_wp2_with fail
    refine (H0.out _).mono ?_
    rintro e w1 ⟨rfl, rfl⟩
    go_wp2_with fail
    refine (H1.out _).mono ?_
    rintro e w1 ⟨rfl, rfl⟩
    go_wp2_with fail
    refine (H2.out _).mono ?_
    rintro e w1 ⟨rfl, rfl⟩
    go_wp2_with fail
    refine (H3.out _).mono ?_
    rintro e w1 ⟨rfl, rfl⟩
    go_wp2_with fail
    refine (H0.out _).mono ?_
    rintro e w1 ⟨rfl, rfl⟩
    go_wp2_with fail
    refine (H4.out _).mono ?_
    rintro e w1 ⟨rfl, rfl⟩
    go_wp2_with fail
    refine (H5.out _).mono ?_
    rintro e w1 ⟨rfl, rfl⟩
    go_wp2_with fail
    refine (H0.out _).mono ?_
    rintro e w1 ⟨rfl, rfl⟩
    go_wp2_with fail
    refine (H6.out _).mono ?_
    rintro e w1 ⟨rfl, rfl⟩
    go_wp2_with fail
    refine (H7.out _).mono ?_
    rintro e w1 ⟨rfl, rfl⟩
    go_wp2_with fail
    refine (H8.out _).mono ?_
    rintro e w1 ⟨rfl, rfl⟩
    go_wp2_with fail
    refine (HI.out _).mono ?_
    rintro e w1 ⟨rfl, hg1⟩
    go_wp2_with fail
    refine (H0.out _).mono ?_
    rintro e w2 ⟨rfl, rfl⟩
    go_wp2_with fail
    refine (HL.out _).mono ?_
    rintro e w2 ⟨rfl, rfl⟩
    go_wp2_with fail
    refine (awake_any _).mono ?_
    rintro e w3 ⟨rfl, hg⟩
    go_wp2_with fail
    go_ret
    exact ⟨rfl, hg1.trans hg⟩
end Go.Proofs.Ytbkbgcapkhelhaa
