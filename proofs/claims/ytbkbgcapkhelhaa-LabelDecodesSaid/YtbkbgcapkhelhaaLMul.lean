/- Layer 3: the product of two elements. -/
import Derived.Test.YtbkbgcapkhelhaaBase
import Derived.Test.YtbkbgcapkhelhaaHeld
import Derived.Test.YtbkbgcapkhelhaaLBm
namespace Go.Proofs.Ytbkbgcapkhelhaa
open Go.RowKit
set_option linter.unusedSimpArgs false

theorem i64_xor_nat (a b : Nat) (ha : a < 1048576) (hb : b < 1048576) : bits .xor .i64 (a : Int) (b : Int) = ((a ^^^ b : Nat) : Int) := by
  have hx : a ^^^ b < 2 ^ 20 := Nat.xor_lt_two_pow (by omega) (by omega)
  have e : ∀ x : Nat, x < 1048576 → (BitVec.ofInt 64 (x : Int)).toNat = x := fun x h => by
    rw [BitVec.ofInt_natCast, BitVec.toNat_ofNat]; exact Nat.mod_eq_of_lt (by omega)
  show IntKind.i64.wrap ((BitVec.ofInt 64 (a : Int) ^^^ BitVec.ofInt 64 (b : Int)).toNat : Int) = _
  rw [BitVec.toNat_xor, e a ha, e b hb]
  exact IntWalk.i64_in _ (by omega)
/-- the lowest k places' part of a product, from above -/
theorem mulF_top : ∀ (k a b : Nat), mulF (k + 1) a b = mulF k a b ^^^ (if b / 2 ^ k % 2 = 1 then it k a else 0)
  | 0, a, b => by simp [mulF, it]
  | k + 1, a, b => by
    rw [mulF, mulF_top k, mulF, Nat.xor_assoc]
    congr 2
    have e : b / 2 / 2 ^ k = b / 2 ^ (k + 1) := by rw [Nat.div_div_eq_div_mul, Nat.pow_succ, Nat.mul_comm]
    have e2 : it k (xt a) = it (k + 1) a := by rw [show xt a = it 1 a from rfl, ← it_add]
    rw [e, e2]

theorem bit_test (b k : Nat) (hb : b < 256) : (bits .and .u8 ((b : Int) / 2 ^ k) 1 == 1) = decide (b / 2 ^ k % 2 = 1) := by
  have e : ((b : Int) / 2 ^ k) = ((b / 2 ^ k : Nat) : Int) := by rw [Int.natCast_ediv, Int.natCast_pow]; rfl
  have hlt : b / 2 ^ k < 256 := Nat.lt_of_le_of_lt (Nat.div_le_self _ _) hb
  rw [e, show (1 : Int) = ((1 : Nat) : Int) from rfl, u8_and_nat _ 1 hlt (by omega), Nat.and_one_is_mod]
  rw [Bool.eq_iff_iff]
  simp only [beq_iff_eq, decide_eq_true_eq]
  omega

set_option maxRecDepth 100000 in
set_option maxHeartbeats 1000000 in
theorem Mul_any (a b : Nat) (ha : a < 256) (hb : b < 256) (w : World) : Calls Try.prog 14 #[.int .u8 (a : Int), .int .u8 (b : Int)] w fun e w' => e = .returned (.int .u8 (mulN a b : Int)) ∧ w' = w := by
  go_enter Try.func14, Try.ntmps14
  go_wp2_with fail
  go_loop [5, 6, 10] (fun p s z => ∃ k : Nat, k ≤ 8 ∧ z = .int .i64 k ∧ p = .int .i64 (mulF k a b : Int) ∧ s = .int .i64 (it k a : Int)) (fun _ _ z => 8 - (intOf z).toNat)
  case atStart => exact ⟨0, by omega, rfl, rfl, rfl⟩
  case round =>
    obtain ⟨k, hk, rfl, rfl, rfl⟩ := hrel
    by_cases hlt : k < 8
    · have HT := Lib.hid (mulF_top k a b)
      have hp := mulF_lt k b ha
      have hs := it_lt k ha
      have HS : Hid (it (k + 1) a = xt (it k a)) := Lib.hid rfl
      generalize mulF k a b = p at hp HT ⊢
      generalize it k a = s at hs HT HS ⊢
      have x1 := i64_xor_nat p s (by omega) (by omega)
      have x2 : bits .xor .i64 ((s : Int) * 2) 285 = ((2 * s ^^^ 285 : Nat) : Int) := by
        have := i64_xor_nat (2 * s) 285 (by omega) (by omega)
        rw [show ((s : Int) * 2) = ((2 * s : Nat) : Int) by omega]; exact this
      have hbt := bit_test b k hb
      by_cases hbit : b / 2 ^ k % 2 = 1
      all_goals
        first | rw [decide_eq_true hbit] at hbt | rw [decide_eq_false hbit] at hbt
        first | rw [if_pos hbit] at HT | rw [if_neg hbit] at HT
        by_cases h2 : 255 < 2 * s
        all_goals
          have hs2 : Hid (xt s = if 255 < 2 * s then 2 * s ^^^ 285 else 2 * s) := Lib.hid rfl
          first | rw [if_pos h2] at hs2 | rw [if_neg h2] at hs2
          clear hbit
          go_wp2_with fail
          go_round
          case rel => exact ⟨k + 1, by omega, by go_num, by rw [HT.out]; first | done | rfl | simp, by rw [HS.out, hs2.out]; first | done | rfl | go_num | exact vint8 (by omega)⟩
          case measure => simp [intOf] <;> omega
    · obtain rfl : k = 8 := by omega
      have hp := mulF_lt 8 b ha
      have HP : Hid (mulN a b = mulF 8 a b) := Lib.hid rfl
      generalize mulF 8 a b = p at hp HP ⊢
      go_wp2_with fail
      go_ret
      exact ⟨by rw [HP.out]; first | rfl | (congr 1), rfl⟩

end Go.Proofs.Ytbkbgcapkhelhaa
