/- Layer 3: the field with 256 elements (mathematics). -/
import Init
namespace Go.Proofs.Ytbkbgcapkhelhaa
set_option linter.unusedSimpArgs false

/-- times 2 -/
def xt (a : Nat) : Nat := if 255 < 2 * a then (2 * a) ^^^ 285 else 2 * a
def mulF : Nat → Nat → Nat → Nat
  | 0, _, _ => 0
  | n + 1, a, b => (if b % 2 = 1 then a else 0) ^^^ mulF n (xt a) (b / 2)
def mulN (a b : Nat) : Nat := mulF 8 a b
def pw : Nat → Nat
  | 0 => 1
  | n + 1 => xt (pw n)

theorem xt_all : ∀ a : Fin 256, xt a.val < 256 := by decide +kernel
theorem xt_lt {a : Nat} (h : a < 256) : xt a < 256 := xt_all ⟨a, h⟩
theorem xor_lt {a b : Nat} (h : a < 256) (k : b < 256) : a ^^^ b < 256 := Nat.xor_lt_two_pow (n := 8) h k
theorem xt_eq (a : Nat) (h : a < 256) : xt a = (2 * a) ^^^ (if a / 128 = 1 then 285 else 0) := by
  unfold xt
  by_cases e : 255 < 2 * a
  · rw [if_pos e, if_pos (by omega)]
  · rw [if_neg e, if_neg (by omega), Nat.xor_zero]
theorem nxor_left (a b c : Nat) : a ^^^ (b ^^^ c) = b ^^^ (a ^^^ c) := by rw [← Nat.xor_assoc, Nat.xor_comm a b, Nat.xor_assoc]
theorem dbl_xor (a b : Nat) : 2 * (a ^^^ b) = 2 * a ^^^ 2 * b := by
  have := Nat.shiftLeft_xor_distrib (a := a) (b := b) (i := 1)
  simp only [Nat.shiftLeft_eq, Nat.pow_one] at this
  rw [Nat.mul_comm 2 (a ^^^ b), Nat.mul_comm 2 a, Nat.mul_comm 2 b]; exact this
theorem div_xor (a b k : Nat) : (a ^^^ b) / 2 ^ k = a / 2 ^ k ^^^ b / 2 ^ k := by
  have := Nat.shiftRight_xor_distrib (a := a) (b := b) (i := k)
  simpa only [Nat.shiftRight_eq_div_pow] using this
theorem mod2_xor (a b : Nat) : (a ^^^ b) % 2 = (a % 2) ^^^ (b % 2) := by
  have := Nat.xor_mod_two_pow (a := a) (b := b) (n := 1)
  simpa using this
theorem bit_cases (a : Nat) : a % 2 = 0 ∨ a % 2 = 1 := by omega
/-- a choice by a sum of bits -/
theorem sel_xor (x y k : Nat) (hx : x = 0 ∨ x = 1) (hy : y = 0 ∨ y = 1) : (if x ^^^ y = 1 then k else 0) = (if x = 1 then k else 0) ^^^ (if y = 1 then k else 0) := by
  rcases hx with rfl | rfl <;> rcases hy with rfl | rfl <;> simp
theorem xt_xor {a b : Nat} (h : a < 256) (k : b < 256) : xt (a ^^^ b) = xt a ^^^ xt b := by
  rw [xt_eq _ (xor_lt h k), xt_eq _ h, xt_eq _ k, dbl_xor]
  have e : (a ^^^ b) / 128 = a / 128 ^^^ b / 128 := div_xor a b 7
  rw [e, sel_xor _ _ _ (by omega) (by omega)]
  simp only [Nat.xor_assoc, Nat.xor_comm, nxor_left]
theorem xt_zero : xt 0 = 0 := rfl
theorem mulF_lt : ∀ (n : Nat) {a : Nat} (b : Nat), a < 256 → mulF n a b < 256
  | 0, _, _, _ => by simp [mulF]
  | n + 1, a, b, h => by
    unfold mulF
    exact xor_lt (by split <;> omega) (mulF_lt n _ (xt_lt h))
theorem mulN_lt {a : Nat} (b : Nat) (h : a < 256) : mulN a b < 256 := mulF_lt 8 b h
theorem ite_xor (p : Prop) [Decidable p] (a b : Nat) : (if p then a ^^^ b else 0) = (if p then a else 0) ^^^ (if p then b else 0) := by split <;> simp
theorem xor4 (a b c d : Nat) : (a ^^^ b) ^^^ (c ^^^ d) = (a ^^^ c) ^^^ (b ^^^ d) := by
  simp only [Nat.xor_assoc, Nat.xor_comm, nxor_left]
theorem mulF_xl : ∀ (n : Nat) {a b : Nat} (c : Nat), a < 256 → b < 256 → mulF n (a ^^^ b) c = mulF n a c ^^^ mulF n b c
  | 0, _, _, _, _, _ => by simp [mulF]
  | n + 1, a, b, c, h, k => by
    unfold mulF
    rw [xt_xor h k, mulF_xl n (c / 2) (xt_lt h) (xt_lt k), ite_xor, xor4]
theorem mulF_xr : ∀ (n : Nat) (a b c : Nat), mulF n a (b ^^^ c) = mulF n a b ^^^ mulF n a c
  | 0, _, _, _ => by simp [mulF]
  | n + 1, a, b, c => by
    unfold mulF
    have e : (b ^^^ c) / 2 = b / 2 ^^^ c / 2 := div_xor b c 1
    rw [e, mulF_xr n, mod2_xor, sel_xor _ _ _ (bit_cases b) (bit_cases c), xor4]
theorem mulF_zero : ∀ (n b : Nat), mulF n 0 b = 0
  | 0, _ => rfl
  | n + 1, b => by unfold mulF; rw [xt_zero, mulF_zero n]; simp
theorem mulF_xt : ∀ (n : Nat) {a : Nat} (b : Nat), a < 256 → mulF n (xt a) b = xt (mulF n a b)
  | 0, _, _, _ => by simp [mulF, xt_zero]
  | n + 1, a, b, h => by
    unfold mulF
    rw [mulF_xt n _ (xt_lt h), xt_xor (by split <;> omega) (mulF_lt n _ (xt_lt h))]
    split <;> simp [xt_zero]
theorem mul_one_all : ∀ b : Fin 256, mulF 8 1 b.val = b.val := by decide +kernel
theorem pw_lt : ∀ n, pw n < 256
  | 0 => by decide
  | n + 1 => xt_lt (pw_lt n)
/-- n times times 2 -/
def it : Nat → Nat → Nat
  | 0, a => a
  | n + 1, a => xt (it n a)
theorem it_one : ∀ n, it n 1 = pw n
  | 0 => rfl
  | n + 1 => by rw [it, it_one n, pw]
theorem it_lt : ∀ (n : Nat) {a : Nat}, a < 256 → it n a < 256
  | 0, _, h => h
  | n + 1, _, h => xt_lt (it_lt n h)
theorem it_add : ∀ (m n a : Nat), it (m + n) a = it m (it n a)
  | 0, n, a => by rw [Nat.zero_add]; rfl
  | m + 1, n, a => by rw [show m + 1 + n = (m + n) + 1 by omega, it, it, it_add m]
theorem pw_mul : ∀ (n : Nat) {b : Nat}, b < 256 → mulN (pw n) b = it n b
  | 0, b, h => mul_one_all ⟨b, h⟩
  | n + 1, b, h => by
    show mulF 8 (xt (pw n)) b = xt (it n b)
    rw [mulF_xt 8 b (pw_lt n)]
    exact congrArg xt (pw_mul n h)
theorem pw_add (m n : Nat) : mulN (pw m) (pw n) = pw (m + n) := by rw [pw_mul m (pw_lt n), ← it_one n, ← it_one (m + n), it_add]

def pwL : Nat → Nat → List Nat
  | 0, _ => []
  | n + 1, a => a :: pwL n (xt a)
theorem pwL_get : ∀ (n a i : Nat), i < n → (pwL n a)[i]? = some (it i a)
  | n + 1, a, 0, _ => rfl
  | n + 1, a, i + 1, h => by
    rw [pwL, List.getElem?_cons_succ, pwL_get n (xt a) i (by omega), show xt a = it 1 a from rfl, ← it_add]
theorem pwL_all : ∀ a : Fin 256, a.val = 0 ∨ a.val ∈ pwL 255 1 := by decide +kernel
theorem pwL_len : ∀ (n a : Nat), (pwL n a).length = n
  | 0, _ => rfl
  | n + 1, a => by rw [pwL, List.length_cons, pwL_len n]
theorem pw_some {a : Nat} (h : a < 256) (h0 : a ≠ 0) : ∃ i, i < 255 ∧ pw i = a := by
  rcases pwL_all ⟨a, h⟩ with e | e
  · exact absurd e h0
  · obtain ⟨i, hi⟩ := List.mem_iff_getElem?.1 e
    have hl : i < 255 := by have := (List.getElem?_eq_some_iff.1 hi).1; rwa [pwL_len] at this
    rw [pwL_get 255 1 i hl, it_one] at hi
    exact ⟨i, hl, Option.some.inj hi⟩
theorem pw_255 : pw 255 = 1 := by decide +kernel
theorem pw_wrap : ∀ (q r : Nat), pw (255 * q + r) = pw r
  | 0, r => by rw [Nat.mul_zero, Nat.zero_add]
  | q + 1, r => by
    rw [show 255 * (q + 1) + r = 255 + (255 * q + r) by omega, ← pw_add, pw_255, pw_wrap q r]
    exact mul_one_all ⟨_, pw_lt r⟩
theorem pw_mod (n : Nat) : pw (n % 255) = pw n := by
  have := pw_wrap (n / 255) (n % 255)
  rw [Nat.div_add_mod] at this
  exact this.symm
theorem pwL_pos : ∀ x ∈ pwL 255 1, x ≠ 0 := by decide +kernel
theorem pw_pos (n : Nat) : pw n ≠ 0 := by
  rw [← pw_mod n]
  have h : n % 255 < 255 := Nat.mod_lt _ (by decide)
  have := pwL_get 255 1 _ h
  rw [it_one] at this
  exact pwL_pos _ (List.mem_of_getElem? this)
theorem pwL_nodup : (pwL 255 1).Nodup := by decide +kernel
theorem pw_inj {i j : Nat} (hi : i < 255) (hj : j < 255) (h : pw i = pw j) : i = j := by
  have a := pwL_get 255 1 i hi
  have b := pwL_get 255 1 j hj
  rw [it_one] at a b
  rw [h, ← b] at a
  exact (List.getElem?_inj (by rw [pwL_len]; exact hi) pwL_nodup).1 a

/-- An element of the field. -/
structure G where
  v : Nat
  lt : v < 256
theorem G.eq {a b : G} (h : a.v = b.v) : a = b := by cases a; cases b; cases h; rfl
instance : DecidableEq G := fun a b => if h : a.v = b.v then isTrue (G.eq h) else isFalse (fun e => h (by rw [e]))
instance : Add G := ⟨fun a b => ⟨a.v ^^^ b.v, xor_lt a.lt b.lt⟩⟩
instance : Mul G := ⟨fun a b => ⟨mulN a.v b.v, mulN_lt _ a.lt⟩⟩
instance : Inhabited G := ⟨⟨0, by decide⟩⟩
def g0 : G := ⟨0, by decide⟩
def g1 : G := ⟨1, by decide⟩
/-- the n-th power of 2 -/
def gp (n : Nat) : G := ⟨pw n, pw_lt n⟩
theorem add_v (a b : G) : (a + b).v = a.v ^^^ b.v := rfl
theorem mul_v (a b : G) : (a * b).v = mulN a.v b.v := rfl
theorem gadd_comm (a b : G) : a + b = b + a := G.eq (Nat.xor_comm _ _)
theorem gadd_assoc (a b c : G) : a + b + c = a + (b + c) := G.eq (Nat.xor_assoc _ _ _)
theorem gadd_left (a b c : G) : a + (b + c) = b + (a + c) := G.eq (nxor_left _ _ _)
theorem gadd_self (a : G) : a + a = g0 := G.eq (Nat.xor_self _)
theorem gadd_zero (a : G) : a + g0 = a := G.eq (Nat.xor_zero _)
theorem gzero_add (a : G) : g0 + a = a := G.eq (Nat.zero_xor _)
theorem gadd_back (a b : G) : a + (a + b) = b := by rw [← gadd_assoc, gadd_self, gzero_add]
theorem gadd_eq {a b : G} (h : a + b = g0) : a = b := by rw [← gadd_back b a, gadd_comm b a, h, gadd_zero]
theorem g_some {a : G} (h : a ≠ g0) : ∃ i, i < 255 ∧ gp i = a := by
  obtain ⟨i, hi, e⟩ := pw_some a.lt (fun e => h (G.eq e))
  exact ⟨i, hi, G.eq e⟩
theorem gp_add (m n : Nat) : gp m * gp n = gp (m + n) := G.eq (pw_add m n)
theorem gmul_add (a b c : G) : a * (b + c) = a * b + a * c := G.eq (mulF_xr 8 _ _ _)
theorem gadd_mul (a b c : G) : (a + b) * c = a * c + b * c := G.eq (mulF_xl 8 _ a.lt b.lt)
theorem gzero_mul (a : G) : g0 * a = g0 := G.eq (mulF_zero 8 _)
theorem gone_mul (a : G) : g1 * a = a := G.eq (mul_one_all ⟨a.v, a.lt⟩)
theorem mulF_right0 : ∀ n a, mulF n a 0 = 0
  | 0, _ => rfl
  | n + 1, a => by unfold mulF; rw [mulF_right0 n]; simp
theorem gmul_zero (a : G) : a * g0 = g0 := G.eq (mulF_right0 8 _)
theorem gmul_comm (a b : G) : a * b = b * a := by
  by_cases ha : a = g0
  · subst ha; rw [gzero_mul, gmul_zero]
  by_cases hb : b = g0
  · subst hb; rw [gzero_mul, gmul_zero]
  obtain ⟨i, -, rfl⟩ := g_some ha
  obtain ⟨j, -, rfl⟩ := g_some hb
  rw [gp_add, gp_add, Nat.add_comm]
theorem gmul_assoc (a b c : G) : a * b * c = a * (b * c) := by
  by_cases ha : a = g0
  · subst ha; rw [gzero_mul, gzero_mul, gzero_mul]
  by_cases hb : b = g0
  · subst hb; rw [gmul_zero, gzero_mul, gmul_zero]
  by_cases hc : c = g0
  · subst hc; rw [gmul_zero, gmul_zero, gmul_zero]
  obtain ⟨i, -, rfl⟩ := g_some ha
  obtain ⟨j, -, rfl⟩ := g_some hb
  obtain ⟨k, -, rfl⟩ := g_some hc
  rw [gp_add, gp_add, gp_add, gp_add, Nat.add_assoc]
theorem gmul_one (a : G) : a * g1 = a := by rw [gmul_comm, gone_mul]
theorem gmul_left (a b c : G) : a * (b * c) = b * (a * c) := by rw [← gmul_assoc, gmul_comm a b, gmul_assoc]
theorem gp_pos (n : Nat) : gp n ≠ g0 := fun e => pw_pos n (congrArg G.v e)
theorem gp_inj {i j : Nat} (hi : i < 255) (hj : j < 255) (h : gp i = gp j) : i = j := pw_inj hi hj (congrArg G.v h)
theorem gp_zero : gp 0 = g1 := rfl
theorem gp_eq1 {n : Nat} (h : pw n = 1) : gp n = g1 := G.eq h
theorem gp_255 : gp 255 = g1 := gp_eq1 pw_255
theorem gp_mod (n : Nat) : gp (n % 255) = gp n := G.eq (pw_mod n)
theorem gmul_eq0 {a b : G} (h : a * b = g0) : a = g0 ∨ b = g0 := by
  by_cases ha : a = g0
  · exact Or.inl ha
  by_cases hb : b = g0
  · exact Or.inr hb
  obtain ⟨i, -, rfl⟩ := g_some ha
  obtain ⟨j, -, rfl⟩ := g_some hb
  rw [gp_add] at h
  exact absurd h (gp_pos _)
theorem gmul_can {a b c : G} (ha : a ≠ g0) (h : a * b = a * c) : b = c := by
  have e : a * (b + c) = g0 := by rw [gmul_add, h, gadd_self]
  rcases gmul_eq0 e with e | e
  · exact absurd e ha
  · exact gadd_eq e
/-- the logarithm, the inverse, the quotient -/
def glog (a : G) : Nat := (List.range 255).findIdx (fun i => gp i == a)
theorem glog_spec {a : G} (h : a ≠ g0) : glog a < 255 ∧ gp (glog a) = a := by
  obtain ⟨i, hi, e⟩ := g_some h
  have hm : ∃ x ∈ List.range 255, (fun i => gp i == a) x = true := ⟨i, List.mem_range.2 hi, by simp [e]⟩
  have hl : List.findIdx (fun i => gp i == a) (List.range 255) < (List.range 255).length := List.findIdx_lt_length_of_exists hm
  have hg := List.findIdx_getElem (p := fun i => gp i == a) (xs := List.range 255) (w := hl)
  rw [List.getElem_range] at hg
  unfold glog
  rw [List.length_range] at hl
  exact ⟨hl, by simpa using hg⟩
theorem glog_gp {i : Nat} (hi : i < 255) : glog (gp i) = i := by
  obtain ⟨h1, h2⟩ := glog_spec (gp_pos i)
  exact gp_inj h1 hi h2
def ginv (a : G) : G := gp ((255 - glog a) % 255)
theorem gmul_inv {a : G} (h : a ≠ g0) : a * ginv a = g1 := by
  obtain ⟨h1, h2⟩ := glog_spec h
  conv => lhs; lhs; rw [← h2]
  unfold ginv
  rw [gp_mod, gp_add, show glog a + (255 - glog a) = 255 by omega, gp_255]
theorem ginv_pos {a : G} : ginv a ≠ g0 := gp_pos _
theorem gquo_mul {a b : G} (h : b ≠ g0) : (a * ginv b) * b = a := by rw [gmul_assoc, gmul_comm (ginv b), gmul_inv h, gmul_one]
/-- what the program's tables say of products and quotients -/
theorem gmul_log {a b : G} (ha : a ≠ g0) (hb : b ≠ g0) : a * b = gp ((glog a + glog b) % 255) := by
  conv => lhs; rw [← (glog_spec ha).2, ← (glog_spec hb).2]
  rw [gp_mod, gp_add]
theorem gquo_log {a b : G} (ha : a ≠ g0) (hb : b ≠ g0) : a * ginv b = gp ((glog a + 255 - glog b) % 255) := by
  obtain ⟨h1, h2⟩ := glog_spec ha
  obtain ⟨h3, h4⟩ := glog_spec hb
  conv => lhs; lhs; rw [← h2]
  unfold ginv
  rw [gp_mod, gp_mod, gp_add]
  congr 1; omega

end Go.Proofs.Ytbkbgcapkhelhaa
