/- Layer 3: the law's helper awake; inverses. -/
import Derived.Test.YtbkbgcapkhelhaaLDecode
import Derived.Test.YtbkbgcapkhelhaaLMul
namespace Go.Proofs.Ytbkbgcapkhelhaa
open Go.RowKit
set_option linter.unusedSimpArgs false

theorem mul_g (a b : G) (w : World) : Calls Try.prog 14 #[.int .u8 (a.v : Int), .int .u8 (b.v : Int)] w fun e w' => e = .returned (.int .u8 ((a * b).v : Int)) ∧ w' = w := Mul_any a.v b.v a.lt b.lt w
theorem inverse_zero (w : World) : Calls Try.prog 13 #[.int .u8 0] w fun e w' => e = .returned (.tuple #[.int .u8 0, .int .i64 6]) ∧ w' = w := by
  go_enter Try.func13, Try.ntmps13
  go_wp2_with fail
  go_ret2
  exact ⟨rfl, rfl⟩
theorem inverse_any (a : G) (h : a ≠ g0) (w : World) : Calls Try.prog 13 #[.int .u8 (a.v : Int)] w fun e w' => e = .returned (.tuple #[.int .u8 ((ginv a).v : Int), .int .i64 0]) ∧ Gr w w' := by
  have ht : (((a.v : Nat) : Int) == 0) = false := by
    rw [beq_eq_false_iff_ne]
    intro e
    exact h (G.eq (show a.v = 0 by omega))
  have HQ := Lib.hid (fun T W (hT : Tabs T W) => quotient_any T g1 a W hT h)
  have HE : Hid (g1 * ginv a = ginv a) := Lib.hid (gone_mul _)
  clear h
  go_enter Try.func13, Try.ntmps13
  go_wp2_with fail
  refine (newTables_any _).mono ?_
  rintro e w1 ⟨T, rfl, -, hT, hg1⟩
  have HC : Hid (Calls Try.prog 35 #[.pointer (some ⟨T, 0, none⟩), .int .u8 1, .int .u8 (a.v : Int)] w1 fun e w' => e = .returned (.int .u8 ((ginv a).v : Int)) ∧ Gr w1 w') := Lib.hid (by
    have := HQ.out T w1 hT
    rw [HE.out] at this
    exact this)
  clear hT
  go_wp2_with fail
  refine HC.out.mono ?_
  rintro e w2 ⟨rfl, hg2⟩
  go_wp2_with fail
  go_ret2
  exact ⟨rfl, hg1.trans hg2⟩

theorem awake_enc : encL ⟨#[1]⟩ 2 = ⟨#[1, 3, 2]⟩ := by decide +kernel
theorem awake_dec : decB ⟨#[1, 3, 0]⟩ 2 [2] = true := by decide +kernel
theorem awake_txt : txt ((decL ⟨#[1, 3, 0]⟩ 2 [2]).take ((⟨#[1, 3, 0]⟩ : ByteArray).size - 2)) = ⟨#[1]⟩ := by decide +kernel
theorem awake_num : decN ⟨#[1, 3, 0]⟩ 2 [2] = 1 := by decide +kernel
set_option maxRecDepth 100000 in
set_option maxHeartbeats 2000000 in
theorem awake_any (w : World) : Calls Try.prog 16 #[] w fun e w' => e = .returned (.bool true) ∧ Gr w w' := by
  have HE := Lib.hid (fun W => Encode_yes ⟨#[1]⟩ 2 W (by decide +kernel))
  have HD := Lib.hid (fun (A : Option Addr) W (hA : Ints W A (nats [2])) => Decode_any ⟨#[1, 3, 0]⟩ 2 A 1 1 [2] W (by decide +kernel) rfl (by decide) (by intro i hi; rw [List.mem_singleton] at hi; subst hi; decide) hA true awake_dec)
  rw [awake_enc] at HE
  rw [awake_txt, awake_num] at HD
  have HM := Lib.hid (fun W => Mul_any 2 128 (by decide) (by decide) W)
  rw [show mulN 2 128 = 29 by decide +kernel] at HM
  go_enter Try.func16, Try.ntmps16
  go_wp2_with fail
  refine (HE.out _).mono ?_
  rintro e w1 ⟨rfl, hg1⟩
  have hg2 : Gr w1 (w1.alloc (.cells #[.int .i64 2] 3)) := (Gr.refl _).alloc _
  have HI : Hid (Ints (w1.alloc (.cells #[.int .i64 2] 3)) (some ⟨w1.heap.size, 0, none⟩) (nats [2])) := Lib.hid (Rd_lit enc1_len (Blk.new w1 #[.int .i64 2] 3 rfl) rfl)
  go_wp2_with fail
  refine (HD.out _ _ HI.out).mono ?_
  rintro e w2 ⟨rfl, hg3⟩
  go_wp2_with fail
  refine (HM.out _).mono ?_
  rintro e w3 ⟨rfl, rfl⟩
  go_wp2_with fail
  go_ret
  exact ⟨rfl, (hg1.trans hg2).trans hg3⟩
end Go.Proofs.Ytbkbgcapkhelhaa
