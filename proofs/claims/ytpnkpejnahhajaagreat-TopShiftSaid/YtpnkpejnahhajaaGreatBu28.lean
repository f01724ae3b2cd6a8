/- Layer 3: the field with 256 elements (mathematics).
Layer 3: polynomials, sums of errors, roots (mathematics).
Layer 3: the shortest recurrence (mathematics of Berlekamp and Massey).
Layer 3: the product of two elements.
Layer 3: the tables of powers and logarithms.
Layer 3: products, quotients, values of polynomials.
Layer 3: whether all bytes are 0.
Layer 3: the values at the powers of 2; syndromes. -/
import Init
import Derived.Test.YtpnkpejnahhajaaGreatBu0
import Derived.Test.YtpnkpejnahhajaaGreatBu4
import Derived.Laws.MakeOwn
namespace Go.Proofs.YtpnkpejnahhajaaGreat
set_option linter.unusedSimpArgs false

/-- times 2 -/
def xt (a : Nat) : Nat := if 255 < 2 * a then (2 * a) ^^^ 285 else 2 * a
def mulF : Nat → Nat → Nat → Nat
  | 0, _, _ => 0
  | n + 1, a, b => (if b % 2 = 1 then a else 0) ^^^ mulF n (xt a) (b / 2)
def mulN (a b : Nat) : Nat := mulF 8 a b
def pw : Nat → Nat
  | 0 => 1
  | n + 1 => xt (pw n)

theorem xt_all : ∀ a : Fin 256, xt a.val < 256 := by decide +kernel
theorem xt_lt {a : Nat} (h : a < 256) : xt a < 256 := xt_all ⟨a, h⟩
theorem xor_lt {a b : Nat} (h : a < 256) (k : b < 256) : a ^^^ b < 256 := Nat.xor_lt_two_pow (n := 8) h k
theorem xt_eq (a : Nat) (h : a < 256) : xt a = (2 * a) ^^^ (if a / 128 = 1 then 285 else 0) := by
  unfold xt
  by_cases e : 255 < 2 * a
  · rw [if_pos e, if_pos (by omega)]
  · rw [if_neg e, if_neg (by omega), Nat.xor_zero]
theorem nxor_left (a b c : Nat) : a ^^^ (b ^^^ c) = b ^^^ (a ^^^ c) := by rw [← Nat.xor_assoc, Nat.xor_comm a b, Nat.xor_assoc]
theorem dbl_xor (a b : Nat) : 2 * (a ^^^ b) = 2 * a ^^^ 2 * b := by
  have := Nat.shiftLeft_xor_distrib (a := a) (b := b) (i := 1)
  simp only [Nat.shiftLeft_eq, Nat.pow_one] at this
  rw [Nat.mul_comm 2 (a ^^^ b), Nat.mul_comm 2 a, Nat.mul_comm 2 b]; exact this
theorem div_xor (a b k : Nat) : (a ^^^ b) / 2 ^ k = a / 2 ^ k ^^^ b / 2 ^ k := by
  have := Nat.shiftRight_xor_distrib (a := a) (b := b) (i := k)
  simpa only [Nat.shiftRight_eq_div_pow] using this
/-- a choice by a sum of bits -/
theorem sel_xor (x y k : Nat) (hx : x = 0 ∨ x = 1) (hy : y = 0 ∨ y = 1) : (if x ^^^ y = 1 then k else 0) = (if x = 1 then k else 0) ^^^ (if y = 1 then k else 0) := by
  rcases hx with rfl | rfl <;> rcases hy with rfl | rfl <;> simp
theorem xt_xor {a b : Nat} (h : a < 256) (k : b < 256) : xt (a ^^^ b) = xt a ^^^ xt b := by
  rw [xt_eq _ (xor_lt h k), xt_eq _ h, xt_eq _ k, dbl_xor]
  have e : (a ^^^ b) / 128 = a / 128 ^^^ b / 128 := div_xor a b 7
  rw [e, sel_xor _ _ _ (by omega) (by omega)]
  simp only [Nat.xor_assoc, Nat.xor_comm, nxor_left]
theorem xt_zero : xt 0 = 0 := rfl
theorem mulF_lt : ∀ (n : Nat) {a : Nat} (b : Nat), a < 256 → mulF n a b < 256
  | 0, _, _, _ => by simp [mulF]
  | n + 1, a, b, h => by
    unfold mulF
    exact xor_lt (by split <;> omega) (mulF_lt n _ (xt_lt h))
theorem mulN_lt {a : Nat} (b : Nat) (h : a < 256) : mulN a b < 256 := mulF_lt 8 b h
theorem mulF_zero : ∀ (n b : Nat), mulF n 0 b = 0
  | 0, _ => rfl
  | n + 1, b => by unfold mulF; rw [xt_zero, mulF_zero n]; simp
theorem mulF_xt : ∀ (n : Nat) {a : Nat} (b : Nat), a < 256 → mulF n (xt a) b = xt (mulF n a b)
  | 0, _, _, _ => by simp [mulF, xt_zero]
  | n + 1, a, b, h => by
    unfold mulF
    rw [mulF_xt n _ (xt_lt h), xt_xor (by split <;> omega) (mulF_lt n _ (xt_lt h))]
    split <;> simp [xt_zero]
theorem mul_one_all : ∀ b : Fin 256, mulF 8 1 b.val = b.val := by decide +kernel
theorem pw_lt : ∀ n, pw n < 256
  | 0 => by decide
  | n + 1 => xt_lt (pw_lt n)
/-- n times times 2 -/
def it : Nat → Nat → Nat
  | 0, a => a
  | n + 1, a => xt (it n a)
theorem it_one : ∀ n, it n 1 = pw n
  | 0 => rfl
  | n + 1 => by rw [it, it_one n, pw]
theorem it_lt : ∀ (n : Nat) {a : Nat}, a < 256 → it n a < 256
  | 0, _, h => h
  | n + 1, _, h => xt_lt (it_lt n h)
theorem it_add : ∀ (m n a : Nat), it (m + n) a = it m (it n a)
  | 0, n, a => by rw [Nat.zero_add]; rfl
  | m + 1, n, a => by rw [show m + 1 + n = (m + n) + 1 by omega, it, it, it_add m]
theorem pw_mul : ∀ (n : Nat) {b : Nat}, b < 256 → mulN (pw n) b = it n b
  | 0, b, h => mul_one_all ⟨b, h⟩
  | n + 1, b, h => by
    show mulF 8 (xt (pw n)) b = xt (it n b)
    rw [mulF_xt 8 b (pw_lt n)]
    exact congrArg xt (pw_mul n h)
theorem pw_add (m n : Nat) : mulN (pw m) (pw n) = pw (m + n) := by rw [pw_mul m (pw_lt n), ← it_one n, ← it_one (m + n), it_add]

def pwL : Nat → Nat → List Nat
  | 0, _ => []
  | n + 1, a => a :: pwL n (xt a)
theorem pwL_get : ∀ (n a i : Nat), i < n → (pwL n a)[i]? = some (it i a)
  | n + 1, a, 0, _ => rfl
  | n + 1, a, i + 1, h => by
    rw [pwL, List.getElem?_cons_succ, pwL_get n (xt a) i (by omega), show xt a = it 1 a from rfl, ← it_add]
theorem pwL_all : ∀ a : Fin 256, a.val = 0 ∨ a.val ∈ pwL 255 1 := by decide +kernel
theorem pwL_len : ∀ (n a : Nat), (pwL n a).length = n
  | 0, _ => rfl
  | n + 1, a => by rw [pwL, List.length_cons, pwL_len n]
theorem pw_some {a : Nat} (h : a < 256) (h0 : a ≠ 0) : ∃ i, i < 255 ∧ pw i = a := by
  rcases pwL_all ⟨a, h⟩ with e | e
  · exact absurd e h0
  · obtain ⟨i, hi⟩ := List.mem_iff_getElem?.1 e
    have hl : i < 255 := by have := (List.getElem?_eq_some_iff.1 hi).1; rwa [pwL_len] at this
    rw [pwL_get 255 1 i hl, it_one] at hi
    exact ⟨i, hl, Option.some.inj hi⟩
theorem pw_255 : pw 255 = 1 := by decide +kernel
theorem pw_wrap : ∀ (q r : Nat), pw (255 * q + r) = pw r
  | 0, r => by rw [Nat.mul_zero, Nat.zero_add]
  | q + 1, r => by
    rw [show 255 * (q + 1) + r = 255 + (255 * q + r) by omega, ← pw_add, pw_255, pw_wrap q r]
    exact mul_one_all ⟨_, pw_lt r⟩
theorem pw_mod (n : Nat) : pw (n % 255) = pw n := by
  have := pw_wrap (n / 255) (n % 255)
  rw [Nat.div_add_mod] at this
  exact this.symm
theorem pwL_nodup : (pwL 255 1).Nodup := by decide +kernel
theorem pw_inj {i j : Nat} (hi : i < 255) (hj : j < 255) (h : pw i = pw j) : i = j := by
  have a := pwL_get 255 1 i hi
  have b := pwL_get 255 1 j hj
  rw [it_one] at a b
  rw [h, ← b] at a
  exact (List.getElem?_inj (by rw [pwL_len]; exact hi) pwL_nodup).1 a

/-- An element of the field. -/
structure G where
  v : Nat
  lt : v < 256
theorem G.eq {a b : G} (h : a.v = b.v) : a = b := by cases a; cases b; cases h; rfl
instance : DecidableEq G := fun a b => if h : a.v = b.v then isTrue (G.eq h) else isFalse (fun e => h (by rw [e]))
instance : Add G := ⟨fun a b => ⟨a.v ^^^ b.v, xor_lt a.lt b.lt⟩⟩
instance : Mul G := ⟨fun a b => ⟨mulN a.v b.v, mulN_lt _ a.lt⟩⟩
instance : Inhabited G := ⟨⟨0, by decide⟩⟩
def g0 : G := ⟨0, by decide⟩
def g1 : G := ⟨1, by decide⟩
/-- the n-th power of 2 -/
def gp (n : Nat) : G := ⟨pw n, pw_lt n⟩
theorem gadd_comm (a b : G) : a + b = b + a := G.eq (Nat.xor_comm _ _)
theorem gadd_zero (a : G) : a + g0 = a := G.eq (Nat.xor_zero _)
theorem gzero_add (a : G) : g0 + a = a := G.eq (Nat.zero_xor _)
theorem g_some {a : G} (h : a ≠ g0) : ∃ i, i < 255 ∧ gp i = a := by
  obtain ⟨i, hi, e⟩ := pw_some a.lt (fun e => h (G.eq e))
  exact ⟨i, hi, G.eq e⟩
theorem gp_add (m n : Nat) : gp m * gp n = gp (m + n) := G.eq (pw_add m n)
theorem gzero_mul (a : G) : g0 * a = g0 := G.eq (mulF_zero 8 _)
theorem gone_mul (a : G) : g1 * a = a := G.eq (mul_one_all ⟨a.v, a.lt⟩)
theorem mulF_right0 : ∀ n a, mulF n a 0 = 0
  | 0, _ => rfl
  | n + 1, a => by unfold mulF; rw [mulF_right0 n]; simp
theorem gmul_zero (a : G) : a * g0 = g0 := G.eq (mulF_right0 8 _)
theorem gmul_comm (a b : G) : a * b = b * a := by
  by_cases ha : a = g0
  · subst ha; rw [gzero_mul, gmul_zero]
  by_cases hb : b = g0
  · subst hb; rw [gzero_mul, gmul_zero]
  obtain ⟨i, -, rfl⟩ := g_some ha
  obtain ⟨j, -, rfl⟩ := g_some hb
  rw [gp_add, gp_add, Nat.add_comm]
theorem gmul_one (a : G) : a * g1 = a := by rw [gmul_comm, gone_mul]
theorem gp_mod (n : Nat) : gp (n % 255) = gp n := G.eq (pw_mod n)
/-- the logarithm, the inverse, the quotient -/
def glog (a : G) : Nat := (List.range 255).findIdx (fun i => gp i == a)
theorem glog_spec {a : G} (h : a ≠ g0) : glog a < 255 ∧ gp (glog a) = a := by
  obtain ⟨i, hi, e⟩ := g_some h
  have hm : ∃ x ∈ List.range 255, (fun i => gp i == a) x = true := ⟨i, List.mem_range.2 hi, by simp [e]⟩
  have hl : List.findIdx (fun i => gp i == a) (List.range 255) < (List.range 255).length := List.findIdx_lt_length_of_exists hm
  have hg := List.findIdx_getElem (p := fun i => gp i == a) (xs := List.range 255) (w := hl)
  rw [List.getElem_range] at hg
  unfold glog
  rw [List.length_range] at hl
  exact ⟨hl, by simpa using hg⟩
def ginv (a : G) : G := gp ((255 - glog a) % 255)
/-- what the program's tables say of products and quotients -/
theorem gmul_log {a b : G} (ha : a ≠ g0) (hb : b ≠ g0) : a * b = gp ((glog a + glog b) % 255) := by
  conv => lhs; rw [← (glog_spec ha).2, ← (glog_spec hb).2]
  rw [gp_mod, gp_add]
end Go.Proofs.YtpnkpejnahhajaaGreat

namespace Go.Proofs.YtpnkpejnahhajaaGreat
set_option linter.unusedSimpArgs false

/-- the n-th power -/
def gw (x : G) : Nat → G
  | 0 => g1
  | n + 1 => gw x n * x
/-- The value of a polynomial, the highest power first. -/
def valF (s : G) : List G → G → G
  | [], _ => s
  | c :: r, x => valF (s * x + c) r x
def val (q : List G) (x : G) : G := valF g0 q x
/-- The sum of y times f(x) over pairs x, y. -/
def es : List (G × G) → (G → G) → G
  | [], _ => g0
  | (x, y) :: r, f => y * f x + es r f
/-- A list combined with a sequence, from t backwards. -/
def dsum : List G → (Nat → G) → Nat → G
  | [], _, _ => g0
  | c :: _, s, 0 => c * s 0
  | c :: r, s, t + 1 => c * s (t + 1) + dsum r s t
/-- one later -/
def later (s : Nat → G) : Nat → G
  | 0 => g0
  | t + 1 => s t
/-- The sequence of the power sums of errors. -/
def pws (E : List (G × G)) (t : Nat) : G := es E (fun x => gw x t)
/-- A polynomial times x + r. -/
def timesR (q : List G) (r : G) : List G := List.zipWith (· + ·) (q ++ [g0]) (g0 :: q.map (· * r))
theorem timesR_len (q : List G) (r : G) : (timesR q r).length = q.length + 1 := by simp [timesR]
/-- The product of x + r for all r. -/
def rootsL (q : List G) : List G → List G
  | [] => q
  | r :: t => rootsL (timesR q r) t
def prodR (x : G) : List G → G
  | [] => g1
  | r :: t => (x + r) * prodR x t
theorem rootsL_len (rs : List G) : ∀ q : List G, (rootsL q rs).length = q.length + rs.length := by
  induction rs with
  | nil => intro q; rfl
  | cons r t ih => intro q; rw [rootsL, ih, timesR_len, List.length_cons]; omega
/-- the polynomial with the given roots -/
def rootP (rs : List G) : List G := rootsL [g1] rs
theorem rootP_len (rs : List G) : (rootP rs).length = rs.length + 1 := by rw [rootP, rootsL_len]; simp; omega
/-- The partial values at r: division by x + r, the rest behind it. -/
def horL (s r : G) : List G → List G
  | [] => []
  | c :: t => (s * r + c) :: horL (s * r + c) r t
theorem snoc_of {q : List G} (h : q ≠ []) : ∃ a c, q = a ++ [c] := ⟨q.dropLast, q.getLast h, (List.dropLast_concat_getLast h).symm⟩
end Go.Proofs.YtpnkpejnahhajaaGreat

namespace Go.Proofs.YtpnkpejnahhajaaGreat

/-- the sum of two lists, the shorter one filled up -/
def addP : List G → List G → List G
  | [], b => b
  | a :: r, [] => a :: r
  | a :: r, b :: t => (a + b) :: addP r t
/-- What the search for a recurrence has. -/
structure Bm where
  now : List G
  bef : List G
  deg : Nat
/-- One step of it. -/
def bmStep (s : Nat → G) (at_ : Nat) (m : Bm) : Bm :=
  if dsum m.now s at_ = g0 then ⟨m.now, g0 :: m.bef, m.deg⟩
  else if 2 * m.deg ≤ at_ then ⟨addP m.now ((g0 :: m.bef).map (dsum m.now s at_ * ·)), m.now.map (ginv (dsum m.now s at_) * ·), at_ + 1 - m.deg⟩
  else ⟨addP m.now ((g0 :: m.bef).map (dsum m.now s at_ * ·)), g0 :: m.bef, m.deg⟩
def bmL (s : Nat → G) : Nat → Bm
  | 0 => ⟨[g1], [g1], 0⟩
  | n + 1 => bmStep s n (bmL s n)
/-- The search's invariant at n, for any recurrence of at most e that holds below N. -/
structure BmI (s : Nat → G) (e n : Nat) (m : Bm) : Prop where
  head : m.now.head? = some g1
  len : m.now.length ≤ m.deg + 1
  blen : m.bef.length + m.deg ≤ n + 1
  deg : m.deg ≤ n
  few : m.deg ≤ e
  gen : ∀ t, m.deg ≤ t → t < n → dsum m.now s t = g0
  bgen : m.deg = 0 ∨ (dsum (g0 :: m.bef) s n = g1 ∧ ∀ t, n + 1 - m.deg ≤ t → t < n → dsum (g0 :: m.bef) s t = g0)
end Go.Proofs.YtpnkpejnahhajaaGreat

namespace Go.Proofs.YtpnkpejnahhajaaGreat
open Go.RowKit
set_option linter.unusedSimpArgs false

theorem i64_xor_nat (a b : Nat) (ha : a < 1048576) (hb : b < 1048576) : bits .xor .i64 (a : Int) (b : Int) = ((a ^^^ b : Nat) : Int) := by
  have hx : a ^^^ b < 2 ^ 20 := Nat.xor_lt_two_pow (by omega) (by omega)
  have e : ∀ x : Nat, x < 1048576 → (BitVec.ofInt 64 (x : Int)).toNat = x := fun x h => by
    rw [BitVec.ofInt_natCast, BitVec.toNat_ofNat]; exact Nat.mod_eq_of_lt (by omega)
  show IntKind.i64.wrap ((BitVec.ofInt 64 (a : Int) ^^^ BitVec.ofInt 64 (b : Int)).toNat : Int) = _
  rw [BitVec.toNat_xor, e a ha, e b hb]
  exact IntWalk.i64_in _ (by omega)
/-- the lowest k places' part of a product, from above -/
theorem mulF_top : ∀ (k a b : Nat), mulF (k + 1) a b = mulF k a b ^^^ (if b / 2 ^ k % 2 = 1 then it k a else 0)
  | 0, a, b => by simp [mulF, it]
  | k + 1, a, b => by
    rw [mulF, mulF_top k, mulF, Nat.xor_assoc]
    congr 2
    have e : b / 2 / 2 ^ k = b / 2 ^ (k + 1) := by rw [Nat.div_div_eq_div_mul, Nat.pow_succ, Nat.mul_comm]
    have e2 : it k (xt a) = it (k + 1) a := by rw [show xt a = it 1 a from rfl, ← it_add]
    rw [e, e2]

theorem bit_test (b k : Nat) (hb : b < 256) : (bits .and .u8 ((b : Int) / 2 ^ k) 1 == 1) = decide (b / 2 ^ k % 2 = 1) := by
  have e : ((b : Int) / 2 ^ k) = ((b / 2 ^ k : Nat) : Int) := by rw [Int.natCast_ediv, Int.natCast_pow]; rfl
  have hlt : b / 2 ^ k < 256 := Nat.lt_of_le_of_lt (Nat.div_le_self _ _) hb
  rw [e, show (1 : Int) = ((1 : Nat) : Int) from rfl, u8_and_nat _ 1 hlt (by omega), Nat.and_one_is_mod]
  rw [Bool.eq_iff_iff]
  simp only [beq_iff_eq, decide_eq_true_eq]
  omega

set_option maxRecDepth 100000 in
set_option maxHeartbeats 1000000 in
theorem Mul_any (a b : Nat) (ha : a < 256) (hb : b < 256) (w : World) : Calls Tryz.prog 93 #[.int .u8 (a : Int), .int .u8 (b : Int)] w fun e w' => e = .returned (.int .u8 (mulN a b : Int)) ∧ w' = w := by
  go_enter Tryz.func93, Tryz.ntmps93
  go_wp2_with fail
  go_loop [5, 6, 10] (fun p s z => ∃ k : Nat, k ≤ 8 ∧ z = .int .i64 k ∧ p = .int .i64 (mulF k a b : Int) ∧ s = .int .i64 (it k a : Int)) (fun _ _ z => 8 - (intOf z).toNat)
  case atStart => exact ⟨0, by omega, rfl, rfl, rfl⟩
  case round =>
    obtain ⟨k, hk, rfl, rfl, rfl⟩ := hrel
    by_cases hlt : k < 8
    · have HT := Lib.hid (mulF_top k a b)
      have hp := mulF_lt k b ha
      have hs := it_lt k ha
      have HS : Hid (it (k + 1) a = xt (it k a)) := Lib.hid rfl
      generalize mulF k a b = p at hp HT ⊢
      generalize it k a = s at hs HT HS ⊢
      have x1 := i64_xor_nat p s (by omega) (by omega)
      have x2 : bits .xor .i64 ((s : Int) * 2) 285 = ((2 * s ^^^ 285 : Nat) : Int) := by
        have := i64_xor_nat (2 * s) 285 (by omega) (by omega)
        rw [show ((s : Int) * 2) = ((2 * s : Nat) : Int) by omega]; exact this
      have hbt := bit_test b k hb
      by_cases hbit : b / 2 ^ k % 2 = 1
      all_goals
        first | rw [decide_eq_true hbit] at hbt | rw [decide_eq_false hbit] at hbt
        first | rw [if_pos hbit] at HT | rw [if_neg hbit] at HT
        by_cases h2 : 255 < 2 * s
        all_goals
          have hs2 : Hid (xt s = if 255 < 2 * s then 2 * s ^^^ 285 else 2 * s) := Lib.hid rfl
          first | rw [if_pos h2] at hs2 | rw [if_neg h2] at hs2
          clear hbit
          go_wp2_with fail
          go_round
          case rel => exact ⟨k + 1, by omega, by go_num, by rw [HT.out]; first | done | rfl | simp, by rw [HS.out, hs2.out]; first | done | rfl | go_num | exact vint8 (by omega)⟩
          case measure => simp [intOf] <;> omega
    · obtain rfl : k = 8 := by omega
      have hp := mulF_lt 8 b ha
      have HP : Hid (mulN a b = mulF 8 a b) := Lib.hid rfl
      generalize mulF 8 a b = p at hp HP ⊢
      go_wp2_with fail
      go_ret
      exact ⟨by rw [HP.out]; first | rfl | (congr 1), rfl⟩

end Go.Proofs.YtpnkpejnahhajaaGreat

namespace Go.Proofs.YtpnkpejnahhajaaGreat
open Go.RowKit
set_option linter.unusedSimpArgs false

set_option maxRecDepth 1000000 in
theorem zero_tables : Tryz.zeroCells175 = Array.replicate 255 (.int .u8 0) ++ Array.replicate 256 (.int .i64 0) := by kernel_rfl
/-- Tables filled up to k. -/
def TabB (cs : Array Value) (k : Nat) : Prop := cs.size = 511 ∧ (∀ i, i < k → cs[i]? = some (.int .u8 (pw i : Int))) ∧ ∀ i, i < k → cs[255 + pw i]? = some (.int .i64 (i : Int))
theorem TabB.next {cs : Array Value} {k : Nat} (h : TabB cs k) (hk : k < 255) : TabB ((cs.setIfInBounds k (.int .u8 (pw k : Int))).setIfInBounds (255 + pw k) (.int .i64 (k : Int))) (k + 1) := by
  obtain ⟨h1, h2, h3⟩ := h
  have hp := pw_lt k
  refine ⟨by simp [h1], fun i hi => ?_, fun i hi => ?_⟩
  · rw [Array.getElem?_setIfInBounds_ne (by omega)]
    by_cases e : i = k
    · subst e; rw [Array.getElem?_setIfInBounds_self_of_lt (by omega)]
    · rw [Array.getElem?_setIfInBounds_ne (by omega)]; exact h2 i (by omega)
  · by_cases e : i = k
    · subst e; rw [Array.getElem?_setIfInBounds_self_of_lt (by simp [h1]; omega)]
    · have hne : pw i ≠ pw k := fun h => e (pw_inj (by omega) hk h)
      rw [Array.getElem?_setIfInBounds_ne (by omega), Array.getElem?_setIfInBounds_ne (by omega)]; exact h3 i (by omega)
/-- The tables at T. -/
def Tabs (T : Nat) (w : World) : Prop := (∀ i, i < 255 → w.cell? ⟨T, i, none⟩ = some (.int .u8 ((gp i).v : Int))) ∧ ∀ a : G, a ≠ g0 → w.cell? ⟨T, 255 + a.v, none⟩ = some (.int .i64 (glog a : Int))
theorem Tabs.keep {T : Nat} {w w' : World} (h : Tabs T w) (hg : Gr w w') : Tabs T w' := ⟨fun i hi => hg.keep (h.1 i hi), fun a ha => hg.keep (h.2 a ha)⟩
theorem Tabs.of {T : Nat} {t : TypeId} {w : World} {cs : Array Value} (hb : Blk w T t cs) (h : TabB cs 255) : Tabs T w := by
  obtain ⟨h1, h2, h3⟩ := h
  refine ⟨fun i hi => by rw [hb.cell]; exact h2 i hi, fun a ha => ?_⟩
  obtain ⟨h4, h5⟩ := glog_spec ha
  have := h3 _ h4
  rw [show pw (glog a) = a.v from congrArg G.v h5] at this
  rw [hb.cell]; exact this

set_option maxRecDepth 100000 in
set_option maxHeartbeats 1000000 in
theorem newTables_any (w : World) : Calls Tryz.prog 56 #[] w fun e w' => ∃ T, e = .returned (.pointer (some ⟨T, 0, none⟩)) ∧ w.heap.size ≤ T ∧ Tabs T w' ∧ Gr w w' := by
  obtain ⟨S, hS⟩ : ∃ S, w.heap.size = S := ⟨_, rfl⟩
  have hblk : Blk (w.alloc (.cells Tryz.zeroCells175 175)) S 175 Tryz.zeroCells175 := Blk.new _ _ _ hS
  have htab : TabB Tryz.zeroCells175 0 := ⟨by rw [zero_tables]; simp, fun i hi => absurd hi (by omega), fun i hi => absurd hi (by omega)⟩
  have hg0 : Gr w (w.alloc (.cells Tryz.zeroCells175 175)) := (Gr.refl w).alloc _
  have HB := Lib.hid hblk
  have HT := Lib.hid htab
  clear hblk htab
  subst hS
  go_enter Tryz.func56, Tryz.ntmps56
  go_wp2_with fail
  generalize hW0 : World.alloc w _ = W0 at HB hg0
  have HG0 := Lib.hid hg0
  clear hg0 hW0
  go_loopw [2, 6] (fun el z wr => ∃ (k : Nat) (cs : Array Value), k ≤ 255 ∧ z = .int .i64 k ∧ el = .int .u8 (pw k : Int) ∧ Hid (Blk wr w.heap.size 175 cs) ∧ Hid (TabB cs k) ∧ Hid (Gb w.heap.size W0 wr)) (fun _ z _ => 255 - (intOf z).toNat)
  case atStart => exact ⟨0, _, Nat.zero_le _, rfl, rfl, HB, HT, Lib.hid (Gb.refl _ _)⟩
  case round =>
    obtain ⟨k, cs, hk, rfl, rfl, hB, hT, hG⟩ := hrel
    by_cases hlt : k < 255
    · have hp := pw_lt k
      have HM : Hid (mulN (pw k) 2 = pw (k + 1)) := Lib.hid (pw_add k 1)
      have HN := Lib.hid (hT.out.next hlt)
      have hsz := hT.out.1
      obtain ⟨v1, e1⟩ : ∃ v, cs[k]? = some v := ⟨_, Array.getElem?_eq_getElem (by omega)⟩
      obtain ⟨v2, e2⟩ : ∃ v, cs[255 + pw k]? = some v := ⟨_, Array.getElem?_eq_getElem (by omega)⟩
      have c1 := (hB.out.cell k).trans e1
      have c2 := (hB.out.cell (255 + pw k)).trans e2
      have f1 := hB.out.free k
      have f2 := hB.out.free (255 + pw k)
      have HB2 := Lib.hid ((hB.out.put k (.int .u8 (pw k : Int))).put (255 + pw k) (.int .i64 (k : Int)))
      have HG2 := Lib.hid ((hG.out.put k (.int .u8 (pw k : Int))).put (255 + pw k) (.int .i64 (k : Int)))
      clear hsz e1 e2
      generalize pw k = p at hp HM HN c2 f2 HB2 HG2 ⊢
      go_wp2_with fail
      refine (Mul_any p 2 hp (by omega) _).mono ?_
      rintro e w1 ⟨rfl, rfl⟩
      rw [HM.out]
      go_wp2_with fail
      go_roundw
      case rel => exact ⟨k + 1, _, by omega, by go_num, rfl, HB2, HN, HG2⟩
      case measure => simp [intOf] <;> omega
    · obtain rfl : k = 255 := by omega
      go_wp2_with fail
      go_ret
      exact ⟨_, rfl, Nat.le_refl _, Tabs.of hB.out hT.out, hG.out.gr HG0.out (Nat.le_refl _)⟩

end Go.Proofs.YtpnkpejnahhajaaGreat

namespace Go.Proofs.YtpnkpejnahhajaaGreat
open Go.RowKit
set_option linter.unusedSimpArgs false

def encG (g : G) : List Value := [.int .u8 (g.v : Int)]
theorem encG_len (x : G) : (encG x).length = 1 := rfl
abbrev Byts := Rd 1 encG
theorem Byts_at {w : World} {A : Option Addr} {ns : List G} (h : Byts w A ns) {i : Nat} (hi : i < ns.length) : ∃ b off, A = some ⟨b, off, none⟩ ∧ w.cell? ⟨b, off + i, none⟩ = some (.int .u8 ((ns.getD i g0).v : Int)) := by
  obtain ⟨b, off, e, hc⟩ := h i _ (getD_of g0 hi)
  have := hc 0 _ rfl
  rw [Nat.mul_one, Nat.add_zero] at this
  exact ⟨b, off, e, this⟩
theorem g_zero_test (a : G) : (((a.v : Nat) : Int) == 0) = decide (a = g0) := by
  rw [Bool.eq_iff_iff]
  simp only [beq_iff_eq, decide_eq_true_eq]
  constructor
  · intro h; exact G.eq (show a.v = 0 by omega)
  · intro h; subst h; rfl

set_option maxRecDepth 100000 in
set_option maxHeartbeats 1000000 in
theorem product_any (T : Nat) (a b : G) (w : World) (hT : Tabs T w) : Calls Tryz.prog 129 #[.pointer (some ⟨T, 0, none⟩), .int .u8 (a.v : Int), .int .u8 (b.v : Int)] w fun e w' => e = .returned (.int .u8 ((a * b).v : Int)) ∧ Gr w w' := by
  have ta := g_zero_test a
  have tb := g_zero_test b
  by_cases ha : a = g0
  · have HV : Hid (a * b = g0) := Lib.hid (by rw [ha, gzero_mul])
    rw [decide_eq_true ha] at ta
    clear ha tb
    go_enter Tryz.func129, Tryz.ntmps129
    go_wp2_with fail
    go_ret
    exact ⟨by rw [HV.out]; rfl, Gr.refl _⟩
  · rw [decide_eq_false ha] at ta
    by_cases hb : b = g0
    · have HV : Hid (a * b = g0) := Lib.hid (by rw [hb, gmul_zero])
      rw [decide_eq_true hb] at tb
      clear ha hb
      go_enter Tryz.func129, Tryz.ntmps129
      go_wp2_with fail
      go_ret
      exact ⟨by rw [HV.out]; rfl, Gr.refl _⟩
    · rw [decide_eq_false hb] at tb
      have HV := Lib.hid (gmul_log ha hb)
      have c1 := hT.2 a ha
      have c2 := hT.2 b hb
      have l1 := (glog_spec ha).1
      have l2 := (glog_spec hb).1
      have hav := a.lt
      have hbv := b.lt
      generalize glog a = x at l1 c1 HV
      generalize glog b = y at l2 c2 HV
      have c3 := hT.1 ((x + y) % 255) (Nat.mod_lt _ (by omega))
      have h1 : IntKind.i64.wrap ((x : Int) + (y : Int)) = (x : Int) + (y : Int) := IntWalk.i64_in _ (by omega)
      have h2 : ((x : Int) + (y : Int)).tmod 255 = (((x + y) % 255 : Nat) : Int) := by rw [Int.tmod_eq_emod_of_nonneg (by omega)]; omega
      have h3 : ((x : Int) + (y : Int)) % 255 = (((x + y) % 255 : Nat) : Int) := by omega
      have h4 : (x + y) % 255 < 255 := Nat.mod_lt _ (by omega)
      generalize (x + y) % 255 = r at c3 h2 h3 h4 HV
      generalize gp r = z at c3 HV
      generalize a * b = ab at HV ⊢
      generalize a.v = av at hav c1 ta ⊢
      generalize b.v = bv at hbv c2 tb ⊢
      have t1 : (0 : Int) ≤ (av : Int) := by omega
      have t2 : (av : Int) < 256 := by omega
      have t3 : (0 : Int) ≤ (bv : Int) := by omega
      have t4 : (bv : Int) < 256 := by omega
      have t5 : (0 : Int) ≤ (r : Int) := by omega
      have t6 : (r : Int) < 255 := by omega
      clear hT ha hb
      go_enter Tryz.func129, Tryz.ntmps129
      go_wp2_with fail
      go_quiet (fail)
      go_wp2_with fail
      go_ret
      exact ⟨by rw [HV.out]; rfl, (Gr.refl _).drewN _⟩

theorem xor8 (a b : G) : bits .xor .u8 (a.v : Int) (b.v : Int) = ((a + b).v : Int) := u8_xor_nat a.v b.v a.lt b.lt

end Go.Proofs.YtpnkpejnahhajaaGreat

namespace Go.Proofs.YtpnkpejnahhajaaGreat
open Go.RowKit
set_option linter.unusedSimpArgs false

end Go.Proofs.YtpnkpejnahhajaaGreat

namespace Go.Proofs.YtpnkpejnahhajaaGreat
open Go.RowKit
set_option linter.unusedSimpArgs false

def gcs (xs : List G) : Array Value := ⟨xs.map fun x => .int .u8 (x.v : Int)⟩
theorem gcs_size (xs : List G) : (gcs xs).size = xs.length := by simp [gcs]
theorem gcs_get (xs : List G) (i : Nat) : (gcs xs)[i]? = xs[i]?.map fun x => .int .u8 (x.v : Int) := by simp [gcs]
theorem flatG (xs : List G) : flatE encG xs = xs.map fun x => .int .u8 (x.v : Int) := by
  induction xs with
  | nil => rfl
  | cons x r ih => simp only [flatE, List.flatMap_cons, encG, List.map_cons] at ih ⊢; rw [ih]; rfl
/-- A block of just these bytes. -/
def BG (w : World) (g : Nat) (xs : List G) : Prop := Blk w g 5 (gcs xs)
theorem BG.keep {w w' : World} {g : Nat} {xs : List G} (h : BG w g xs) (hg : Gr w w') : BG w' g xs := Blk.keep h hg
theorem BG.at {w : World} {g : Nat} {xs : List G} (h : BG w g xs) {i : Nat} (hi : i < xs.length) : w.cell? ⟨g, i, none⟩ = some (.int .u8 ((xs.getD i g0).v : Int)) := by
  rw [Blk.cell h, gcs_get, getD_of g0 hi]; rfl
theorem BG.free {w : World} {g : Nat} {xs : List G} (h : BG w g xs) (i : Nat) : w.frozen? ⟨g, i, none⟩ = false := Blk.free h i
theorem BG.put {w : World} {g : Nat} {xs : List G} (h : BG w g xs) (i : Nat) (y : G) : BG (w.setCell ⟨g, i, none⟩ (.int .u8 (y.v : Int))) g (xs.set i y) := by
  have := Blk.put h i (.int .u8 (y.v : Int))
  have e : (gcs xs).setIfInBounds i (.int .u8 (y.v : Int)) = gcs (xs.set i y) := by
    unfold gcs
    simp [List.map_set]
  rw [e] at this
  exact this
theorem BG.pts {w : World} {g : Nat} {xs : List G} (h : BG w g xs) : Byts w (some ⟨g, 0, none⟩) xs :=
  Rd_lit encG_len h (by rw [flatG]; rfl)
theorem BG.new (w : World) (xs : List G) {g : Nat} (h : w.heap.size = g) : BG (w.alloc (.cells (gcs xs) 5)) g xs := Blk.new w _ _ h
theorem BG.other {w : World} {g : Nat} {xs : List G} (h : BG w g xs) {p : Addr} (hne : g ≠ p.block) (u : Value) : BG (w.setCell p u) g xs := Blk.other h hne u
theorem BG.lt {w : World} {g : Nat} {xs : List G} (h : BG w g xs) : g < w.heap.size := Blk.lt h
theorem Tryz.infoByte : (Tryz.prog.info? 5).map (fun i => (i.zero, i.size, i.bytes)) = some (some (.int .u8 0), 1, 1) := by kernel_rfl
theorem made_bytes (n : Nat) : madeCells #[Value.int .u8 0] (n * 1) = gcs (List.replicate n g0) := by
  have hs : (madeCells #[Value.int .u8 0] (n * 1)).size = n := by have := size_madeCells #[Value.int .u8 0] (n * 1); simpa using this
  apply Array.ext
  · rw [hs, gcs_size, List.length_replicate]
  · intro i h1 h2
    simp [madeCells, gcs, Nat.mod_one, g0]
theorem mk_bytes (n : Nat) (hl : n ≤ 1048576) (w : World) : (Instr.makeSlice 59 (.int .i64 (n : Int)) (.int .i64 (n : Int))).run Tryz.prog w =
    .ok (.slice (some ⟨w.heap.size, 0, none⟩) n n) (w.alloc (.cells (gcs (List.replicate n g0)) 5)) := by
  obtain ⟨i0, hi, hz0, hz1, hz2⟩ := info_parts Tryz.infoByte
  have h := run_make (P := Tryz.prog) w 59 5 i0 _ Tryz.underlying59 hi hz0 .i64 .i64 (n : Int) (n : Int) (by omega) (by omega) (by rw [hz2]; omega) (by omega)
  rw [hz1] at h
  simp only [Int.toNat_natCast] at h
  rw [h, show (Value.int IntKind.u8 0).cells = #[Value.int .u8 0] from rfl, made_bytes]
/-- The values at the first p powers of 2. -/
def synL (q : List G) (p : Nat) : List G := (List.range p).map fun i => val q (gp i)
end Go.Proofs.YtpnkpejnahhajaaGreat
