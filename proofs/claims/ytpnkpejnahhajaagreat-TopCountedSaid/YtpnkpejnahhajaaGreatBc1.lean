/- Layer 3: the field with 256 elements (mathematics).
Layer 3: polynomials, sums of errors, roots (mathematics). -/
import Init
namespace Go.Proofs.YtpnkpejnahhajaaGreat
set_option linter.unusedSimpArgs false

/-- times 2 -/
def xt (a : Nat) : Nat := if 255 < 2 * a then (2 * a) ^^^ 285 else 2 * a
def mulF : Nat → Nat → Nat → Nat
  | 0, _, _ => 0
  | n + 1, a, b => (if b % 2 = 1 then a else 0) ^^^ mulF n (xt a) (b / 2)
def mulN (a b : Nat) : Nat := mulF 8 a b
def pw : Nat → Nat
  | 0 => 1
  | n + 1 => xt (pw n)

theorem xt_all : ∀ a : Fin 256, xt a.val < 256 := by decide +kernel
theorem xt_lt {a : Nat} (h : a < 256) : xt a < 256 := xt_all ⟨a, h⟩
theorem xor_lt {a b : Nat} (h : a < 256) (k : b < 256) : a ^^^ b < 256 := Nat.xor_lt_two_pow (n := 8) h k
theorem xt_eq (a : Nat) (h : a < 256) : xt a = (2 * a) ^^^ (if a / 128 = 1 then 285 else 0) := by
  unfold xt
  by_cases e : 255 < 2 * a
  · rw [if_pos e, if_pos (by omega)]
  · rw [if_neg e, if_neg (by omega), Nat.xor_zero]
theorem nxor_left (a b c : Nat) : a ^^^ (b ^^^ c) = b ^^^ (a ^^^ c) := by rw [← Nat.xor_assoc, Nat.xor_comm a b, Nat.xor_assoc]
theorem dbl_xor (a b : Nat) : 2 * (a ^^^ b) = 2 * a ^^^ 2 * b := by
  have := Nat.shiftLeft_xor_distrib (a := a) (b := b) (i := 1)
  simp only [Nat.shiftLeft_eq, Nat.pow_one] at this
  rw [Nat.mul_comm 2 (a ^^^ b), Nat.mul_comm 2 a, Nat.mul_comm 2 b]; exact this
theorem div_xor (a b k : Nat) : (a ^^^ b) / 2 ^ k = a / 2 ^ k ^^^ b / 2 ^ k := by
  have := Nat.shiftRight_xor_distrib (a := a) (b := b) (i := k)
  simpa only [Nat.shiftRight_eq_div_pow] using this
theorem mod2_xor (a b : Nat) : (a ^^^ b) % 2 = (a % 2) ^^^ (b % 2) := by
  have := Nat.xor_mod_two_pow (a := a) (b := b) (n := 1)
  simpa using this
theorem bit_cases (a : Nat) : a % 2 = 0 ∨ a % 2 = 1 := by omega
/-- a choice by a sum of bits -/
theorem sel_xor (x y k : Nat) (hx : x = 0 ∨ x = 1) (hy : y = 0 ∨ y = 1) : (if x ^^^ y = 1 then k else 0) = (if x = 1 then k else 0) ^^^ (if y = 1 then k else 0) := by
  rcases hx with rfl | rfl <;> rcases hy with rfl | rfl <;> simp
theorem xt_xor {a b : Nat} (h : a < 256) (k : b < 256) : xt (a ^^^ b) = xt a ^^^ xt b := by
  rw [xt_eq _ (xor_lt h k), xt_eq _ h, xt_eq _ k, dbl_xor]
  have e : (a ^^^ b) / 128 = a / 128 ^^^ b / 128 := div_xor a b 7
  rw [e, sel_xor _ _ _ (by omega) (by omega)]
  simp only [Nat.xor_assoc, Nat.xor_comm, nxor_left]
theorem xt_zero : xt 0 = 0 := rfl
theorem mulF_lt : ∀ (n : Nat) {a : Nat} (b : Nat), a < 256 → mulF n a b < 256
  | 0, _, _, _ => by simp [mulF]
  | n + 1, a, b, h => by
    unfold mulF
    exact xor_lt (by split <;> omega) (mulF_lt n _ (xt_lt h))
theorem mulN_lt {a : Nat} (b : Nat) (h : a < 256) : mulN a b < 256 := mulF_lt 8 b h
theorem ite_xor (p : Prop) [Decidable p] (a b : Nat) : (if p then a ^^^ b else 0) = (if p then a else 0) ^^^ (if p then b else 0) := by split <;> simp
theorem xor4 (a b c d : Nat) : (a ^^^ b) ^^^ (c ^^^ d) = (a ^^^ c) ^^^ (b ^^^ d) := by
  simp only [Nat.xor_assoc, Nat.xor_comm, nxor_left]
theorem mulF_xl : ∀ (n : Nat) {a b : Nat} (c : Nat), a < 256 → b < 256 → mulF n (a ^^^ b) c = mulF n a c ^^^ mulF n b c
  | 0, _, _, _, _, _ => by simp [mulF]
  | n + 1, a, b, c, h, k => by
    unfold mulF
    rw [xt_xor h k, mulF_xl n (c / 2) (xt_lt h) (xt_lt k), ite_xor, xor4]
theorem mulF_xr : ∀ (n : Nat) (a b c : Nat), mulF n a (b ^^^ c) = mulF n a b ^^^ mulF n a c
  | 0, _, _, _ => by simp [mulF]
  | n + 1, a, b, c => by
    unfold mulF
    have e : (b ^^^ c) / 2 = b / 2 ^^^ c / 2 := div_xor b c 1
    rw [e, mulF_xr n, mod2_xor, sel_xor _ _ _ (bit_cases b) (bit_cases c), xor4]
theorem mulF_zero : ∀ (n b : Nat), mulF n 0 b = 0
  | 0, _ => rfl
  | n + 1, b => by unfold mulF; rw [xt_zero, mulF_zero n]; simp
theorem mulF_xt : ∀ (n : Nat) {a : Nat} (b : Nat), a < 256 → mulF n (xt a) b = xt (mulF n a b)
  | 0, _, _, _ => by simp [mulF, xt_zero]
  | n + 1, a, b, h => by
    unfold mulF
    rw [mulF_xt n _ (xt_lt h), xt_xor (by split <;> omega) (mulF_lt n _ (xt_lt h))]
    split <;> simp [xt_zero]
theorem mul_one_all : ∀ b : Fin 256, mulF 8 1 b.val = b.val := by decide +kernel
theorem pw_lt : ∀ n, pw n < 256
  | 0 => by decide
  | n + 1 => xt_lt (pw_lt n)
/-- n times times 2 -/
def it : Nat → Nat → Nat
  | 0, a => a
  | n + 1, a => xt (it n a)
theorem it_one : ∀ n, it n 1 = pw n
  | 0 => rfl
  | n + 1 => by rw [it, it_one n, pw]
theorem it_lt : ∀ (n : Nat) {a : Nat}, a < 256 → it n a < 256
  | 0, _, h => h
  | n + 1, _, h => xt_lt (it_lt n h)
theorem it_add : ∀ (m n a : Nat), it (m + n) a = it m (it n a)
  | 0, n, a => by rw [Nat.zero_add]; rfl
  | m + 1, n, a => by rw [show m + 1 + n = (m + n) + 1 by omega, it, it, it_add m]
theorem pw_mul : ∀ (n : Nat) {b : Nat}, b < 256 → mulN (pw n) b = it n b
  | 0, b, h => mul_one_all ⟨b, h⟩
  | n + 1, b, h => by
    show mulF 8 (xt (pw n)) b = xt (it n b)
    rw [mulF_xt 8 b (pw_lt n)]
    exact congrArg xt (pw_mul n h)
theorem pw_add (m n : Nat) : mulN (pw m) (pw n) = pw (m + n) := by rw [pw_mul m (pw_lt n), ← it_one n, ← it_one (m + n), it_add]

def pwL : Nat → Nat → List Nat
  | 0, _ => []
  | n + 1, a => a :: pwL n (xt a)
theorem pwL_get : ∀ (n a i : Nat), i < n → (pwL n a)[i]? = some (it i a)
  | n + 1, a, 0, _ => rfl
  | n + 1, a, i + 1, h => by
    rw [pwL, List.getElem?_cons_succ, pwL_get n (xt a) i (by omega), show xt a = it 1 a from rfl, ← it_add]
theorem pwL_all : ∀ a : Fin 256, a.val = 0 ∨ a.val ∈ pwL 255 1 := by decide +kernel
theorem pwL_len : ∀ (n a : Nat), (pwL n a).length = n
  | 0, _ => rfl
  | n + 1, a => by rw [pwL, List.length_cons, pwL_len n]
theorem pw_some {a : Nat} (h : a < 256) (h0 : a ≠ 0) : ∃ i, i < 255 ∧ pw i = a := by
  rcases pwL_all ⟨a, h⟩ with e | e
  · exact absurd e h0
  · obtain ⟨i, hi⟩ := List.mem_iff_getElem?.1 e
    have hl : i < 255 := by have := (List.getElem?_eq_some_iff.1 hi).1; rwa [pwL_len] at this
    rw [pwL_get 255 1 i hl, it_one] at hi
    exact ⟨i, hl, Option.some.inj hi⟩
theorem pw_255 : pw 255 = 1 := by decide +kernel
theorem pw_wrap : ∀ (q r : Nat), pw (255 * q + r) = pw r
  | 0, r => by rw [Nat.mul_zero, Nat.zero_add]
  | q + 1, r => by
    rw [show 255 * (q + 1) + r = 255 + (255 * q + r) by omega, ← pw_add, pw_255, pw_wrap q r]
    exact mul_one_all ⟨_, pw_lt r⟩
theorem pw_mod (n : Nat) : pw (n % 255) = pw n := by
  have := pw_wrap (n / 255) (n % 255)
  rw [Nat.div_add_mod] at this
  exact this.symm
theorem pwL_pos : ∀ x ∈ pwL 255 1, x ≠ 0 := by decide +kernel
theorem pw_pos (n : Nat) : pw n ≠ 0 := by
  rw [← pw_mod n]
  have h : n % 255 < 255 := Nat.mod_lt _ (by decide)
  have := pwL_get 255 1 _ h
  rw [it_one] at this
  exact pwL_pos _ (List.mem_of_getElem? this)
theorem pwL_nodup : (pwL 255 1).Nodup := by decide +kernel
theorem pw_inj {i j : Nat} (hi : i < 255) (hj : j < 255) (h : pw i = pw j) : i = j := by
  have a := pwL_get 255 1 i hi
  have b := pwL_get 255 1 j hj
  rw [it_one] at a b
  rw [h, ← b] at a
  exact (List.getElem?_inj (by rw [pwL_len]; exact hi) pwL_nodup).1 a

/-- An element of the field. -/
structure G where
  v : Nat
  lt : v < 256
theorem G.eq {a b : G} (h : a.v = b.v) : a = b := by cases a; cases b; cases h; rfl
instance : DecidableEq G := fun a b => if h : a.v = b.v then isTrue (G.eq h) else isFalse (fun e => h (by rw [e]))
instance : Add G := ⟨fun a b => ⟨a.v ^^^ b.v, xor_lt a.lt b.lt⟩⟩
instance : Mul G := ⟨fun a b => ⟨mulN a.v b.v, mulN_lt _ a.lt⟩⟩
instance : Inhabited G := ⟨⟨0, by decide⟩⟩
def g0 : G := ⟨0, by decide⟩
def g1 : G := ⟨1, by decide⟩
/-- the n-th power of 2 -/
def gp (n : Nat) : G := ⟨pw n, pw_lt n⟩
theorem gadd_comm (a b : G) : a + b = b + a := G.eq (Nat.xor_comm _ _)
theorem gadd_assoc (a b c : G) : a + b + c = a + (b + c) := G.eq (Nat.xor_assoc _ _ _)
theorem gadd_left (a b c : G) : a + (b + c) = b + (a + c) := G.eq (nxor_left _ _ _)
theorem gadd_self (a : G) : a + a = g0 := G.eq (Nat.xor_self _)
theorem gadd_zero (a : G) : a + g0 = a := G.eq (Nat.xor_zero _)
theorem gzero_add (a : G) : g0 + a = a := G.eq (Nat.zero_xor _)
theorem gadd_back (a b : G) : a + (a + b) = b := by rw [← gadd_assoc, gadd_self, gzero_add]
theorem gadd_eq {a b : G} (h : a + b = g0) : a = b := by rw [← gadd_back b a, gadd_comm b a, h, gadd_zero]
theorem g_some {a : G} (h : a ≠ g0) : ∃ i, i < 255 ∧ gp i = a := by
  obtain ⟨i, hi, e⟩ := pw_some a.lt (fun e => h (G.eq e))
  exact ⟨i, hi, G.eq e⟩
theorem gp_add (m n : Nat) : gp m * gp n = gp (m + n) := G.eq (pw_add m n)
theorem gmul_add (a b c : G) : a * (b + c) = a * b + a * c := G.eq (mulF_xr 8 _ _ _)
theorem gadd_mul (a b c : G) : (a + b) * c = a * c + b * c := G.eq (mulF_xl 8 _ a.lt b.lt)
theorem gzero_mul (a : G) : g0 * a = g0 := G.eq (mulF_zero 8 _)
theorem gone_mul (a : G) : g1 * a = a := G.eq (mul_one_all ⟨a.v, a.lt⟩)
theorem mulF_right0 : ∀ n a, mulF n a 0 = 0
  | 0, _ => rfl
  | n + 1, a => by unfold mulF; rw [mulF_right0 n]; simp
theorem gmul_zero (a : G) : a * g0 = g0 := G.eq (mulF_right0 8 _)
theorem gmul_comm (a b : G) : a * b = b * a := by
  by_cases ha : a = g0
  · subst ha; rw [gzero_mul, gmul_zero]
  by_cases hb : b = g0
  · subst hb; rw [gzero_mul, gmul_zero]
  obtain ⟨i, -, rfl⟩ := g_some ha
  obtain ⟨j, -, rfl⟩ := g_some hb
  rw [gp_add, gp_add, Nat.add_comm]
theorem gmul_assoc (a b c : G) : a * b * c = a * (b * c) := by
  by_cases ha : a = g0
  · subst ha; rw [gzero_mul, gzero_mul, gzero_mul]
  by_cases hb : b = g0
  · subst hb; rw [gmul_zero, gzero_mul, gmul_zero]
  by_cases hc : c = g0
  · subst hc; rw [gmul_zero, gmul_zero, gmul_zero]
  obtain ⟨i, -, rfl⟩ := g_some ha
  obtain ⟨j, -, rfl⟩ := g_some hb
  obtain ⟨k, -, rfl⟩ := g_some hc
  rw [gp_add, gp_add, gp_add, gp_add, Nat.add_assoc]
theorem gmul_one (a : G) : a * g1 = a := by rw [gmul_comm, gone_mul]
theorem gmul_left (a b c : G) : a * (b * c) = b * (a * c) := by rw [← gmul_assoc, gmul_comm a b, gmul_assoc]
theorem gp_pos (n : Nat) : gp n ≠ g0 := fun e => pw_pos n (congrArg G.v e)
theorem gp_inj {i j : Nat} (hi : i < 255) (hj : j < 255) (h : gp i = gp j) : i = j := pw_inj hi hj (congrArg G.v h)
theorem gp_eq1 {n : Nat} (h : pw n = 1) : gp n = g1 := G.eq h
theorem gp_255 : gp 255 = g1 := gp_eq1 pw_255
theorem gp_mod (n : Nat) : gp (n % 255) = gp n := G.eq (pw_mod n)
theorem gmul_eq0 {a b : G} (h : a * b = g0) : a = g0 ∨ b = g0 := by
  by_cases ha : a = g0
  · exact Or.inl ha
  by_cases hb : b = g0
  · exact Or.inr hb
  obtain ⟨i, -, rfl⟩ := g_some ha
  obtain ⟨j, -, rfl⟩ := g_some hb
  rw [gp_add] at h
  exact absurd h (gp_pos _)
/-- the logarithm, the inverse, the quotient -/
def glog (a : G) : Nat := (List.range 255).findIdx (fun i => gp i == a)
theorem glog_spec {a : G} (h : a ≠ g0) : glog a < 255 ∧ gp (glog a) = a := by
  obtain ⟨i, hi, e⟩ := g_some h
  have hm : ∃ x ∈ List.range 255, (fun i => gp i == a) x = true := ⟨i, List.mem_range.2 hi, by simp [e]⟩
  have hl : List.findIdx (fun i => gp i == a) (List.range 255) < (List.range 255).length := List.findIdx_lt_length_of_exists hm
  have hg := List.findIdx_getElem (p := fun i => gp i == a) (xs := List.range 255) (w := hl)
  rw [List.getElem_range] at hg
  unfold glog
  rw [List.length_range] at hl
  exact ⟨hl, by simpa using hg⟩
def ginv (a : G) : G := gp ((255 - glog a) % 255)
theorem gmul_inv {a : G} (h : a ≠ g0) : a * ginv a = g1 := by
  obtain ⟨h1, h2⟩ := glog_spec h
  conv => lhs; lhs; rw [← h2]
  unfold ginv
  rw [gp_mod, gp_add, show glog a + (255 - glog a) = 255 by omega, gp_255]
/-- what the program's tables say of products and quotients -/
theorem gmul_log {a b : G} (ha : a ≠ g0) (hb : b ≠ g0) : a * b = gp ((glog a + glog b) % 255) := by
  conv => lhs; rw [← (glog_spec ha).2, ← (glog_spec hb).2]
  rw [gp_mod, gp_add]
theorem gquo_log {a b : G} (ha : a ≠ g0) (hb : b ≠ g0) : a * ginv b = gp ((glog a + 255 - glog b) % 255) := by
  obtain ⟨h1, h2⟩ := glog_spec ha
  obtain ⟨h3, h4⟩ := glog_spec hb
  conv => lhs; lhs; rw [← h2]
  unfold ginv
  rw [gp_mod, gp_mod, gp_add]
  congr 1; omega

end Go.Proofs.YtpnkpejnahhajaaGreat

namespace Go.Proofs.YtpnkpejnahhajaaGreat
set_option linter.unusedSimpArgs false

theorem gpair (a b c d : G) : (a + b) + (c + d) = (a + c) + (b + d) := by
  simp only [gadd_assoc, gadd_comm, gadd_left]
/-- the n-th power -/
def gw (x : G) : Nat → G
  | 0 => g1
  | n + 1 => gw x n * x
theorem gw_add (x : G) (m n : Nat) : gw x (m + n) = gw x m * gw x n := by
  induction n with
  | zero => rw [Nat.add_zero]; exact (gmul_one _).symm
  | succ n ih => rw [← Nat.add_assoc, gw, gw, ih, gmul_assoc]
theorem gw_pos {x : G} (h : x ≠ g0) (n : Nat) : gw x n ≠ g0 := by
  induction n with
  | zero => exact gp_pos 0
  | succ n ih => intro e; rcases gmul_eq0 e with e | e; (· exact ih e); (· exact h e)
theorem gw_gp (i n : Nat) : gw (gp i) n = gp (i * n) := by
  induction n with
  | zero => rfl
  | succ n ih => rw [gw, ih, gp_add, Nat.mul_succ]
theorem gw_swap (i j : Nat) : gw (gp i) j = gw (gp j) i := by rw [gw_gp, gw_gp, Nat.mul_comm]

/-- The value of a polynomial, the highest power first. -/
def valF (s : G) : List G → G → G
  | [], _ => s
  | c :: r, x => valF (s * x + c) r x
def val (q : List G) (x : G) : G := valF g0 q x
theorem valF_eq (q : List G) (x : G) : ∀ s, valF s q x = s * gw x q.length + val q x := by
  induction q with
  | nil => intro s; show s = s * g1 + g0; rw [gmul_one, gadd_zero]
  | cons c r ih =>
    intro s
    show valF (s * x + c) r x = s * (gw x r.length * x) + valF (g0 * x + c) r x
    rw [ih, ih (g0 * x + c), gzero_mul, gzero_add, gadd_mul, gadd_assoc]
    congr 1
    rw [gmul_assoc, gmul_comm x]
theorem val_cons (c : G) (r : List G) (x : G) : val (c :: r) x = c * gw x r.length + val r x := by
  show valF (g0 * x + c) r x = _
  rw [valF_eq, gzero_mul, gzero_add]
theorem val_nil (x : G) : val [] x = g0 := rfl
theorem valF_snoc (q : List G) (x c : G) : ∀ s, valF s (q ++ [c]) x = valF s q x * x + c := by
  induction q with
  | nil => intro s; rfl
  | cons a r ih => intro s; exact ih _
theorem val_snoc (q : List G) (c x : G) : val (q ++ [c]) x = val q x * x + c := valF_snoc q x c g0

/-- The sum of y times f(x) over pairs x, y. -/
def es : List (G × G) → (G → G) → G
  | [], _ => g0
  | (x, y) :: r, f => y * f x + es r f
theorem es_add (E : List (G × G)) (f g : G → G) : es E (fun x => f x + g x) = es E f + es E g := by
  induction E with
  | nil => exact (gadd_zero _).symm
  | cons a r ih => obtain ⟨x, y⟩ := a; simp only [es, ih, gmul_add]; exact gpair _ _ _ _
theorem es_mul (E : List (G × G)) (c : G) (f : G → G) : es E (fun x => c * f x) = c * es E f := by
  induction E with
  | nil => exact (gmul_zero _).symm
  | cons a r ih => obtain ⟨x, y⟩ := a; simp only [es, ih, gmul_add]; rw [gmul_left]
theorem es_zero (E : List (G × G)) : es E (fun _ => g0) = g0 := by
  induction E with
  | nil => rfl
  | cons a r ih => obtain ⟨x, y⟩ := a; simp only [es, ih, gmul_zero]; exact gadd_zero _
theorem es_app (E F : List (G × G)) (f : G → G) : es (E ++ F) f = es E f + es F f := by
  induction E with
  | nil => exact (gzero_add _).symm
  | cons a r ih => obtain ⟨x, y⟩ := a; simp only [List.cons_append, es, ih, gadd_assoc]
theorem es_none {E : List (G × G)} {f : G → G} (h : ∀ a ∈ E, a.2 * f a.1 = g0) : es E f = g0 := by
  induction E with
  | nil => rfl
  | cons a r ih =>
    obtain ⟨x, y⟩ := a
    have h1 := h (x, y) (List.mem_cons_self ..)
    simp only [es, ih (fun b hb => h b (List.mem_cons_of_mem _ hb))]
    rw [h1, gadd_zero]
/-- A list combined with a sequence, from t backwards. -/
def dsum : List G → (Nat → G) → Nat → G
  | [], _, _ => g0
  | c :: _, s, 0 => c * s 0
  | c :: r, s, t + 1 => c * s (t + 1) + dsum r s t
theorem dsum_add (a : List G) (s u : Nat → G) : ∀ t, dsum a (fun i => s i + u i) t = dsum a s t + dsum a u t := by
  induction a with
  | nil => intro t; exact (gadd_zero _).symm
  | cons c r ih =>
    intro t
    cases t with
    | zero => exact gmul_add _ _ _
    | succ t => simp only [dsum, ih, gmul_add]; exact gpair _ _ _ _
theorem dsum_mul (a : List G) (k : G) (s : Nat → G) : ∀ t, dsum a (fun i => k * s i) t = k * dsum a s t := by
  induction a with
  | nil => intro t; exact (gmul_zero _).symm
  | cons c r ih =>
    intro t
    cases t with
    | zero => exact gmul_left _ _ _
    | succ t => simp only [dsum, ih, gmul_add]; rw [gmul_left]
/-- one later -/
def later (s : Nat → G) : Nat → G
  | 0 => g0
  | t + 1 => s t
theorem dsum_later (a : List G) (s : Nat → G) : ∀ t, dsum a (later s) (t + 1) = dsum a s t := by
  induction a with
  | nil => intro t; rfl
  | cons c r ih =>
    intro t
    cases t with
    | zero =>
      simp only [dsum, later]
      cases r with
      | nil => exact gadd_zero _
      | cons d r => simp only [dsum, later, gmul_zero]; exact gadd_zero _
    | succ t => simp only [dsum, later] at ih ⊢; rw [ih]
theorem dsum_later0 (a : List G) (s : Nat → G) : dsum a (later s) 0 = g0 := by
  cases a with
  | nil => rfl
  | cons c r => exact gmul_zero _
theorem dsum_cons (c : G) (r : List G) (s : Nat → G) (t : Nat) : dsum (c :: r) s t = c * s t + later (dsum r s) t := by
  cases t with
  | zero => exact (gadd_zero _).symm
  | succ t => rfl
theorem dsum_nils (s : Nat → G) : dsum [] s = fun _ => g0 := rfl
theorem dsum_zero (a : List G) : ∀ t, dsum a (fun _ => g0) t = g0 := by
  induction a with
  | nil => intro t; rfl
  | cons c r ih =>
    intro t
    cases t with
    | zero => exact gmul_zero _
    | succ t => simp only [dsum, ih, gmul_zero]; exact gadd_zero _
/-- Combining twice, in either order. -/
theorem dsum_swap (a b : List G) (s : Nat → G) : ∀ n, dsum a (dsum b s) n = dsum b (dsum a s) n := by
  induction a with
  | nil => intro n; rw [dsum_nils]; exact (dsum_zero b n).symm
  | cons c r ih =>
    intro n
    have e : dsum (c :: r) s = fun t => c * s t + later (dsum r s) t := funext fun t => dsum_cons c r s t
    rw [e, dsum_add, dsum_mul, dsum_cons]
    congr 1
    cases n with
    | zero => exact (dsum_later0 _ _).symm
    | succ n => rw [dsum_later]; exact ih n

/-- What a list combined with the powers of places gives. -/
theorem dsum_val (q : List G) (x : G) : ∀ t, q.length ≤ t + 1 → dsum q (gw x) t = val q x * gw x (t + 1 - q.length) := by
  induction q with
  | nil => intro t _; exact (gzero_mul _).symm
  | cons c r ih =>
    intro t h
    rw [List.length_cons] at h ⊢
    rw [val_cons, gadd_mul, gmul_assoc, ← gw_add, show r.length + (t + 1 - (r.length + 1)) = t by omega]
    cases t with
    | zero =>
      have : r = [] := List.eq_nil_of_length_eq_zero (by omega)
      subst this
      show c * g1 = c * g1 + val [] x * _
      rw [val_nil, gzero_mul, gadd_zero]
    | succ t =>
      simp only [dsum]
      rw [ih t (by omega), show t + 1 + 1 - (r.length + 1) = t + 1 - r.length by omega]
/-- The sequence of the power sums of errors. -/
def pws (E : List (G × G)) (t : Nat) : G := es E (fun x => gw x t)
theorem dsum_pws (q : List G) (E : List (G × G)) : ∀ t, dsum q (pws E) t = es E (fun x => dsum q (gw x) t) := by
  induction q with
  | nil => intro t; exact (es_zero E).symm
  | cons c r ih =>
    intro t
    cases t with
    | zero => exact (es_mul E c _).symm
    | succ t =>
      simp only [dsum]
      rw [es_add, es_mul, ih]; rfl
theorem dsum_es (q : List G) (E : List (G × G)) (t : Nat) (h : q.length ≤ t + 1) : dsum q (pws E) t = es E (fun x => val q x * gw x (t + 1 - q.length)) := by
  rw [dsum_pws]
  exact congrArg (es E) (funext fun x => dsum_val q x t h)
theorem dsum_congr (q : List G) {s u : Nat → G} : ∀ t, (∀ i, i ≤ t → s i = u i) → dsum q s t = dsum q u t := by
  induction q with
  | nil => intro t _; rfl
  | cons c r ih =>
    intro t h
    cases t with
    | zero => simp only [dsum, h 0 (Nat.le_refl _)]
    | succ t => simp only [dsum, h (t + 1) (Nat.le_refl _), ih t (fun i hi => h i (by omega))]

/-- A polynomial times x + r. -/
def timesR (q : List G) (r : G) : List G := List.zipWith (· + ·) (q ++ [g0]) (g0 :: q.map (· * r))
theorem timesR_len (q : List G) (r : G) : (timesR q r).length = q.length + 1 := by simp [timesR]
theorem val_zip : ∀ (a b : List G), a.length = b.length → ∀ x, val (List.zipWith (· + ·) a b) x = val a x + val b x
  | [], [], _, _ => (gadd_zero _).symm
  | a :: r, b :: t, h, x => by
    have hl : r.length = t.length := by simpa using h
    rw [List.zipWith_cons_cons, val_cons, val_cons, val_cons, val_zip r t hl x, List.length_zipWith, hl, Nat.min_self, gadd_mul]
    exact gpair _ _ _ _
theorem val_scale (q : List G) (k x : G) : val (q.map (· * k)) x = val q x * k := by
  induction q with
  | nil => exact (gzero_mul _).symm
  | cons c r ih => rw [List.map_cons, val_cons, val_cons, ih, List.length_map, gadd_mul, gmul_assoc, gmul_assoc, gmul_comm k]
theorem val_head0 (q : List G) (x : G) : val (g0 :: q) x = val q x := by rw [val_cons, gzero_mul, gzero_add]
theorem timesR_val (q : List G) (r x : G) : val (timesR q r) x = val q x * (x + r) := by
  rw [timesR, val_zip _ _ (by simp), val_snoc, val_head0, val_scale, gadd_zero, gmul_add]
/-- The product of x + r for all r. -/
def rootsL (q : List G) : List G → List G
  | [] => q
  | r :: t => rootsL (timesR q r) t
def prodR (x : G) : List G → G
  | [] => g1
  | r :: t => (x + r) * prodR x t
theorem rootsL_val (rs : List G) : ∀ (q : List G) (x : G), val (rootsL q rs) x = val q x * prodR x rs := by
  induction rs with
  | nil => intro q x; exact (gmul_one _).symm
  | cons r t ih => intro q x; rw [rootsL, ih, timesR_val, prodR, gmul_assoc]
theorem rootsL_len (rs : List G) : ∀ q : List G, (rootsL q rs).length = q.length + rs.length := by
  induction rs with
  | nil => intro q; rfl
  | cons r t ih => intro q; rw [rootsL, ih, timesR_len, List.length_cons]; omega
theorem prodR_root {x : G} {rs : List G} (h : x ∈ rs) : prodR x rs = g0 := by
  induction rs with
  | nil => cases h
  | cons r t ih =>
    rw [prodR]
    rcases List.mem_cons.1 h with e | e
    · rw [e, gadd_self, gzero_mul]
    · rw [ih e, gmul_zero]
theorem prodR_pos {x : G} {rs : List G} (h : x ∉ rs) : prodR x rs ≠ g0 := by
  induction rs with
  | nil => exact gp_pos 0
  | cons r t ih =>
    rw [prodR]
    intro e
    rcases gmul_eq0 e with e | e
    · exact h (by rw [gadd_eq e]; exact List.mem_cons_self ..)
    · exact ih (fun k => h (List.mem_cons_of_mem _ k)) e
theorem val_one (x : G) : val [g1] x = g1 := by rw [val_cons, val_nil, gadd_zero]; exact gmul_one _
/-- the polynomial with the given roots -/
def rootP (rs : List G) : List G := rootsL [g1] rs
theorem rootP_val (rs : List G) (x : G) : val (rootP rs) x = prodR x rs := by rw [rootP, rootsL_val, val_one, gone_mul]
theorem rootP_len (rs : List G) : (rootP rs).length = rs.length + 1 := by rw [rootP, rootsL_len]; simp; omega
theorem timesR_head (q : List G) (r : G) (h : q.head? = some g1) : (timesR q r).head? = some g1 := by
  cases q with
  | nil => cases h
  | cons c t =>
    obtain rfl := Option.some.inj h
    simp [timesR, gadd_zero]
theorem rootsL_head (rs : List G) : ∀ q : List G, q.head? = some g1 → (rootsL q rs).head? = some g1 := by
  induction rs with
  | nil => intro q h; exact h
  | cons r t ih => intro q h; exact ih _ (timesR_head q r h)
theorem rootP_head (rs : List G) : (rootP rs).head? = some g1 := rootsL_head rs _ rfl

/-- Power sums that are 0 as often as there are errors: all errors are 0. -/
theorem no_errors {E : List (G × G)} (hd : (E.map (·.1)).Nodup) (h : ∀ t, t < E.length → pws E t = g0) : ∀ a ∈ E, a.2 = g0 := by
  intro a ha
  obtain ⟨i, hi, e⟩ := List.getElem_of_mem ha
  obtain ⟨x, y⟩ := a
  -- the polynomial whose roots are the other places
  have hq : dsum (rootP ((E.eraseIdx i).map (·.1))) (pws E) (E.length - 1) = g0 := by
    have hz : ∀ i, i ≤ E.length - 1 → pws E i = (fun _ => g0) i := fun j hj => h j (by omega)
    rw [dsum_congr _ _ hz]
    exact dsum_zero _ _
  have hl : (rootP ((E.eraseIdx i).map (·.1))).length = E.length := by
    rw [rootP_len, List.length_map, List.length_eraseIdx_of_lt hi]; omega
  rw [dsum_es _ _ _ (by omega), hl, show E.length - 1 + 1 - E.length = 0 by omega] at hq
  have hfe : es E (fun z => val (rootP ((E.eraseIdx i).map (·.1))) z * gw z 0) = y * prodR x ((E.eraseIdx i).map (·.1)) := by
    have hsplit : ∀ f : G → G, es E f = es (E.take i) f + (y * f x + es (E.drop (i + 1)) f) := fun f => by
      have e2 : es E f = es (E.take i ++ E.drop i) f := by rw [List.take_append_drop]
      rw [e2, es_app, List.drop_eq_getElem_cons hi, e]; rfl
    have hout : ∀ b ∈ E.take i ++ E.drop (i + 1), b.2 * (val (rootP ((E.eraseIdx i).map (·.1))) b.1 * gw b.1 0) = g0 := fun b hb => by
      have hm : b.1 ∈ (E.eraseIdx i).map (·.1) := by
        rw [List.eraseIdx_eq_take_drop_succ]; exact List.mem_map.2 ⟨b, hb, rfl⟩
      rw [rootP_val, prodR_root hm, gzero_mul, gmul_zero]
    rw [hsplit, es_none (fun b hb => hout b (List.mem_append_left _ hb)), es_none (fun b hb => hout b (List.mem_append_right _ hb)), gzero_add, gadd_zero, rootP_val]
    show y * (_ * g1) = _
    rw [gmul_one]
  rw [hfe] at hq
  rcases gmul_eq0 hq with e1 | e1
  · exact e1
  · refine absurd e1 (prodR_pos fun hx => ?_)
    -- x is not among the others
    have hn : (E.map (·.1)).eraseIdx i = (E.eraseIdx i).map (·.1) := by
      rw [List.eraseIdx_eq_take_drop_succ, List.eraseIdx_eq_take_drop_succ, List.map_append, List.map_take, List.map_drop]
    rw [← hn] at hx
    obtain ⟨j, hj, hne⟩ := List.mem_eraseIdx_iff_getElem?.1 hx
    have hi' : (E.map (·.1))[i]? = some x := by rw [List.getElem?_map, List.getElem?_eq_getElem hi, e]; rfl
    have hil : i < (E.map (·.1)).length := by simpa using hi
    exact hj ((List.getElem?_inj hil hd).1 (hi'.trans hne.symm)).symm

/-- The partial values at r: division by x + r, the rest behind it. -/
def horL (s r : G) : List G → List G
  | [] => []
  | c :: t => (s * r + c) :: horL (s * r + c) r t
theorem horL_len (r : G) (q : List G) : ∀ s, (horL s r q).length = q.length := by
  induction q with
  | nil => intro s; rfl
  | cons c t ih => intro s; simp [horL, ih]
theorem horL_snoc (r : G) (q : List G) (c : G) : ∀ s, horL s r (q ++ [c]) = horL s r q ++ [valF s q r * r + c] := by
  induction q with
  | nil => intro s; rfl
  | cons a t ih => intro s; simp only [List.cons_append, horL, ih, valF]
theorem snoc_of {q : List G} (h : q ≠ []) : ∃ a c, q = a ++ [c] := ⟨q.dropLast, q.getLast h, (List.dropLast_concat_getLast h).symm⟩
theorem horL_val (r x : G) : ∀ (n : Nat) (q : List G), q.length = n → val (horL g0 r q) x * (x + r) = val q x * x + val q r * r
  | 0, q, h => by
    obtain rfl := List.eq_nil_of_length_eq_zero h
    simp only [horL, val_nil, gzero_mul, gadd_zero]
  | n + 1, q, h => by
    obtain ⟨a, c, rfl⟩ := snoc_of (q := q) (fun e => by subst e; cases h)
    have ih := horL_val r x n a (by simpa using h)
    rw [horL_snoc, val_snoc, val_snoc, val_snoc, show valF g0 a r = val a r from rfl]
    rw [gadd_mul, show val (horL g0 r a) x * x * (x + r) = x * (val (horL g0 r a) x * (x + r)) by rw [gmul_assoc, gmul_left], ih]
    generalize val a x = u
    generalize val a r = v
    simp only [gmul_add, gadd_mul, gmul_assoc, gmul_comm, gmul_left, gadd_assoc, gadd_comm, gadd_left, gadd_back]
theorem horL_root {r : G} {q : List G} {c : G} (h : val (q ++ [c]) r = g0) (x : G) : val (horL g0 r q) x * (x + r) = val (q ++ [c]) x := by
  rw [horL_val r x _ q rfl, val_snoc]
  rw [val_snoc] at h
  rw [gadd_eq h]
theorem horL_head {r : G} {q : List G} (h : q.head? = some g1) : (horL g0 r q).head? = some g1 := by
  cases q with
  | nil => cases h
  | cons c t => obtain rfl := Option.some.inj h; simp [horL, gzero_mul, gzero_add]
/-- A polynomial that begins with 1 has fewer roots than coefficients. -/
theorem few_roots : ∀ (n : Nat) (q rs : List G), q.length = n → q.head? = some g1 → rs.Nodup → (∀ x ∈ rs, val q x = g0) → rs.length < n
  | 0, q, rs, hl, hh, _, _ => by
    obtain rfl := List.eq_nil_of_length_eq_zero hl
    cases hh
  | 1, q, rs, hl, hh, _, hr => by
    obtain ⟨c, rfl⟩ : ∃ c, q = [c] := List.length_eq_one_iff.1 hl
    obtain rfl := Option.some.inj hh
    cases rs with
    | nil => exact Nat.one_pos
    | cons x t => exact absurd ((val_one x).symm.trans (hr x (List.mem_cons_self ..))) (gp_pos 0)
  | n + 2, q, rs, hl, hh, hd, hr => by
    obtain ⟨a, c, rfl⟩ := snoc_of (q := q) (fun e => by subst e; cases hl)
    rw [List.length_append] at hl
    have ha : a.length = n + 1 := by simpa using hl
    have hh' : a.head? = some g1 := by
      cases a with
      | nil => cases ha
      | cons z t => exact hh
    cases rs with
    | nil => exact Nat.succ_pos _
    | cons r t =>
      obtain ⟨hn, hd'⟩ := List.nodup_cons.1 hd
      have h0 := hr r (List.mem_cons_self ..)
      have := few_roots (n + 1) (horL g0 r a) t (by rw [horL_len]; exact ha) (horL_head hh') hd' (fun x hx => by
        have h1 := hr x (List.mem_cons_of_mem _ hx)
        rw [← horL_root h0 x] at h1
        rcases gmul_eq0 h1 with e | e
        · exact e
        · exact absurd hx (by rw [gadd_eq e]; exact hn))
      simpa using this

end Go.Proofs.YtpnkpejnahhajaaGreat
