/- Layer 3: polynomials, sums of errors, roots (mathematics). -/
import Derived.Test.YtbkbgcapkhelhaaLField
namespace Go.Proofs.Ytbkbgcapkhelhaa
set_option linter.unusedSimpArgs false

theorem gpair (a b c d : G) : (a + b) + (c + d) = (a + c) + (b + d) := by
  simp only [gadd_assoc, gadd_comm, gadd_left]
/-- the n-th power -/
def gw (x : G) : Nat → G
  | 0 => g1
  | n + 1 => gw x n * x
theorem gw_add (x : G) (m n : Nat) : gw x (m + n) = gw x m * gw x n := by
  induction n with
  | zero => rw [Nat.add_zero]; exact (gmul_one _).symm
  | succ n ih => rw [← Nat.add_assoc, gw, gw, ih, gmul_assoc]
theorem gw_pos {x : G} (h : x ≠ g0) (n : Nat) : gw x n ≠ g0 := by
  induction n with
  | zero => exact gp_pos 0
  | succ n ih => intro e; rcases gmul_eq0 e with e | e; (· exact ih e); (· exact h e)
theorem gw_gp (i n : Nat) : gw (gp i) n = gp (i * n) := by
  induction n with
  | zero => rfl
  | succ n ih => rw [gw, ih, gp_add, Nat.mul_succ]
theorem gw_swap (i j : Nat) : gw (gp i) j = gw (gp j) i := by rw [gw_gp, gw_gp, Nat.mul_comm]

/-- The value of a polynomial, the highest power first. -/
def valF (s : G) : List G → G → G
  | [], _ => s
  | c :: r, x => valF (s * x + c) r x
def val (q : List G) (x : G) : G := valF g0 q x
theorem valF_eq (q : List G) (x : G) : ∀ s, valF s q x = s * gw x q.length + val q x := by
  induction q with
  | nil => intro s; show s = s * g1 + g0; rw [gmul_one, gadd_zero]
  | cons c r ih =>
    intro s
    show valF (s * x + c) r x = s * (gw x r.length * x) + valF (g0 * x + c) r x
    rw [ih, ih (g0 * x + c), gzero_mul, gzero_add, gadd_mul, gadd_assoc]
    congr 1
    rw [gmul_assoc, gmul_comm x]
theorem val_cons (c : G) (r : List G) (x : G) : val (c :: r) x = c * gw x r.length + val r x := by
  show valF (g0 * x + c) r x = _
  rw [valF_eq, gzero_mul, gzero_add]
theorem val_nil (x : G) : val [] x = g0 := rfl
theorem valF_snoc (q : List G) (x c : G) : ∀ s, valF s (q ++ [c]) x = valF s q x * x + c := by
  induction q with
  | nil => intro s; rfl
  | cons a r ih => intro s; exact ih _
theorem val_snoc (q : List G) (c x : G) : val (q ++ [c]) x = val q x * x + c := valF_snoc q x c g0

/-- The sum of y times f(x) over pairs x, y. -/
def es : List (G × G) → (G → G) → G
  | [], _ => g0
  | (x, y) :: r, f => y * f x + es r f
theorem es_add (E : List (G × G)) (f g : G → G) : es E (fun x => f x + g x) = es E f + es E g := by
  induction E with
  | nil => exact (gadd_zero _).symm
  | cons a r ih => obtain ⟨x, y⟩ := a; simp only [es, ih, gmul_add]; exact gpair _ _ _ _
theorem es_mul (E : List (G × G)) (c : G) (f : G → G) : es E (fun x => c * f x) = c * es E f := by
  induction E with
  | nil => exact (gmul_zero _).symm
  | cons a r ih => obtain ⟨x, y⟩ := a; simp only [es, ih, gmul_add]; rw [gmul_left]
theorem es_zero (E : List (G × G)) : es E (fun _ => g0) = g0 := by
  induction E with
  | nil => rfl
  | cons a r ih => obtain ⟨x, y⟩ := a; simp only [es, ih, gmul_zero]; exact gadd_zero _
theorem es_app (E F : List (G × G)) (f : G → G) : es (E ++ F) f = es E f + es F f := by
  induction E with
  | nil => exact (gzero_add _).symm
  | cons a r ih => obtain ⟨x, y⟩ := a; simp only [List.cons_append, es, ih, gadd_assoc]
theorem es_none {E : List (G × G)} {f : G → G} (h : ∀ a ∈ E, a.2 * f a.1 = g0) : es E f = g0 := by
  induction E with
  | nil => rfl
  | cons a r ih =>
    obtain ⟨x, y⟩ := a
    have h1 := h (x, y) (List.mem_cons_self ..)
    simp only [es, ih (fun b hb => h b (List.mem_cons_of_mem _ hb))]
    rw [h1, gadd_zero]
theorem es_same {E : List (G × G)} {f g : G → G} (h : ∀ a ∈ E, a.2 * f a.1 = a.2 * g a.1) : es E f = es E g := by
  induction E with
  | nil => rfl
  | cons a r ih =>
    obtain ⟨x, y⟩ := a
    have h1 := h (x, y) (List.mem_cons_self ..)
    simp only [es, ih (fun b hb => h b (List.mem_cons_of_mem _ hb))]
    rw [h1]
/-- Only those pairs count that are kept. -/
theorem es_filter (E : List (G × G)) (k : G × G → Bool) (f : G → G) (h : ∀ a ∈ E, k a = false → a.2 * f a.1 = g0) : es (E.filter k) f = es E f := by
  induction E with
  | nil => rfl
  | cons a r ih =>
    obtain ⟨x, y⟩ := a
    have ih := ih (fun b hb => h b (List.mem_cons_of_mem _ hb))
    rw [List.filter_cons]
    by_cases e : k (x, y) = true
    · rw [if_pos e]; simp only [es, ih]
    · rw [if_neg e, ih]
      have h1 := h (x, y) (List.mem_cons_self ..) (by simpa using e)
      simp only [es]
      rw [h1, gzero_add]

/-- A list combined with a sequence, from t backwards. -/
def dsum : List G → (Nat → G) → Nat → G
  | [], _, _ => g0
  | c :: _, s, 0 => c * s 0
  | c :: r, s, t + 1 => c * s (t + 1) + dsum r s t
theorem dsum_add (a : List G) (s u : Nat → G) : ∀ t, dsum a (fun i => s i + u i) t = dsum a s t + dsum a u t := by
  induction a with
  | nil => intro t; exact (gadd_zero _).symm
  | cons c r ih =>
    intro t
    cases t with
    | zero => exact gmul_add _ _ _
    | succ t => simp only [dsum, ih, gmul_add]; exact gpair _ _ _ _
theorem dsum_mul (a : List G) (k : G) (s : Nat → G) : ∀ t, dsum a (fun i => k * s i) t = k * dsum a s t := by
  induction a with
  | nil => intro t; exact (gmul_zero _).symm
  | cons c r ih =>
    intro t
    cases t with
    | zero => exact gmul_left _ _ _
    | succ t => simp only [dsum, ih, gmul_add]; rw [gmul_left]
/-- one later -/
def later (s : Nat → G) : Nat → G
  | 0 => g0
  | t + 1 => s t
theorem dsum_later (a : List G) (s : Nat → G) : ∀ t, dsum a (later s) (t + 1) = dsum a s t := by
  induction a with
  | nil => intro t; rfl
  | cons c r ih =>
    intro t
    cases t with
    | zero =>
      simp only [dsum, later]
      cases r with
      | nil => exact gadd_zero _
      | cons d r => simp only [dsum, later, gmul_zero]; exact gadd_zero _
    | succ t => simp only [dsum, later] at ih ⊢; rw [ih]
theorem dsum_later0 (a : List G) (s : Nat → G) : dsum a (later s) 0 = g0 := by
  cases a with
  | nil => rfl
  | cons c r => exact gmul_zero _
theorem dsum_cons (c : G) (r : List G) (s : Nat → G) (t : Nat) : dsum (c :: r) s t = c * s t + later (dsum r s) t := by
  cases t with
  | zero => exact (gadd_zero _).symm
  | succ t => rfl
theorem dsum_nils (s : Nat → G) : dsum [] s = fun _ => g0 := rfl
theorem dsum_zero (a : List G) : ∀ t, dsum a (fun _ => g0) t = g0 := by
  induction a with
  | nil => intro t; rfl
  | cons c r ih =>
    intro t
    cases t with
    | zero => exact gmul_zero _
    | succ t => simp only [dsum, ih, gmul_zero]; exact gadd_zero _
/-- Combining twice, in either order. -/
theorem dsum_swap (a b : List G) (s : Nat → G) : ∀ n, dsum a (dsum b s) n = dsum b (dsum a s) n := by
  induction a with
  | nil => intro n; rw [dsum_nils]; exact (dsum_zero b n).symm
  | cons c r ih =>
    intro n
    have e : dsum (c :: r) s = fun t => c * s t + later (dsum r s) t := funext fun t => dsum_cons c r s t
    rw [e, dsum_add, dsum_mul, dsum_cons]
    congr 1
    cases n with
    | zero => exact (dsum_later0 _ _).symm
    | succ n => rw [dsum_later]; exact ih n

/-- What a list combined with the powers of places gives. -/
theorem dsum_val (q : List G) (x : G) : ∀ t, q.length ≤ t + 1 → dsum q (gw x) t = val q x * gw x (t + 1 - q.length) := by
  induction q with
  | nil => intro t _; exact (gzero_mul _).symm
  | cons c r ih =>
    intro t h
    rw [List.length_cons] at h ⊢
    rw [val_cons, gadd_mul, gmul_assoc, ← gw_add, show r.length + (t + 1 - (r.length + 1)) = t by omega]
    cases t with
    | zero =>
      have : r = [] := List.eq_nil_of_length_eq_zero (by omega)
      subst this
      show c * g1 = c * g1 + val [] x * _
      rw [val_nil, gzero_mul, gadd_zero]
    | succ t =>
      simp only [dsum]
      rw [ih t (by omega), show t + 1 + 1 - (r.length + 1) = t + 1 - r.length by omega]
/-- The sequence of the power sums of errors. -/
def pws (E : List (G × G)) (t : Nat) : G := es E (fun x => gw x t)
theorem dsum_pws (q : List G) (E : List (G × G)) : ∀ t, dsum q (pws E) t = es E (fun x => dsum q (gw x) t) := by
  induction q with
  | nil => intro t; exact (es_zero E).symm
  | cons c r ih =>
    intro t
    cases t with
    | zero => exact (es_mul E c _).symm
    | succ t =>
      simp only [dsum]
      rw [es_add, es_mul, ih]; rfl
theorem dsum_es (q : List G) (E : List (G × G)) (t : Nat) (h : q.length ≤ t + 1) : dsum q (pws E) t = es E (fun x => val q x * gw x (t + 1 - q.length)) := by
  rw [dsum_pws]
  exact congrArg (es E) (funext fun x => dsum_val q x t h)
theorem dsum_congr (q : List G) {s u : Nat → G} : ∀ t, (∀ i, i ≤ t → s i = u i) → dsum q s t = dsum q u t := by
  induction q with
  | nil => intro t _; rfl
  | cons c r ih =>
    intro t h
    cases t with
    | zero => simp only [dsum, h 0 (Nat.le_refl _)]
    | succ t => simp only [dsum, h (t + 1) (Nat.le_refl _), ih t (fun i hi => h i (by omega))]

/-- A polynomial times x + r. -/
def timesR (q : List G) (r : G) : List G := List.zipWith (· + ·) (q ++ [g0]) (g0 :: q.map (· * r))
theorem timesR_len (q : List G) (r : G) : (timesR q r).length = q.length + 1 := by simp [timesR]
theorem val_zip : ∀ (a b : List G), a.length = b.length → ∀ x, val (List.zipWith (· + ·) a b) x = val a x + val b x
  | [], [], _, _ => (gadd_zero _).symm
  | a :: r, b :: t, h, x => by
    have hl : r.length = t.length := by simpa using h
    rw [List.zipWith_cons_cons, val_cons, val_cons, val_cons, val_zip r t hl x, List.length_zipWith, hl, Nat.min_self, gadd_mul]
    exact gpair _ _ _ _
theorem val_scale (q : List G) (k x : G) : val (q.map (· * k)) x = val q x * k := by
  induction q with
  | nil => exact (gzero_mul _).symm
  | cons c r ih => rw [List.map_cons, val_cons, val_cons, ih, List.length_map, gadd_mul, gmul_assoc, gmul_assoc, gmul_comm k]
theorem val_head0 (q : List G) (x : G) : val (g0 :: q) x = val q x := by rw [val_cons, gzero_mul, gzero_add]
theorem timesR_val (q : List G) (r x : G) : val (timesR q r) x = val q x * (x + r) := by
  rw [timesR, val_zip _ _ (by simp), val_snoc, val_head0, val_scale, gadd_zero, gmul_add]
/-- The product of x + r for all r. -/
def rootsL (q : List G) : List G → List G
  | [] => q
  | r :: t => rootsL (timesR q r) t
def prodR (x : G) : List G → G
  | [] => g1
  | r :: t => (x + r) * prodR x t
theorem rootsL_val (rs : List G) : ∀ (q : List G) (x : G), val (rootsL q rs) x = val q x * prodR x rs := by
  induction rs with
  | nil => intro q x; exact (gmul_one _).symm
  | cons r t ih => intro q x; rw [rootsL, ih, timesR_val, prodR, gmul_assoc]
theorem rootsL_len (rs : List G) : ∀ q : List G, (rootsL q rs).length = q.length + rs.length := by
  induction rs with
  | nil => intro q; rfl
  | cons r t ih => intro q; rw [rootsL, ih, timesR_len, List.length_cons]; omega
theorem prodR_root {x : G} {rs : List G} (h : x ∈ rs) : prodR x rs = g0 := by
  induction rs with
  | nil => cases h
  | cons r t ih =>
    rw [prodR]
    rcases List.mem_cons.1 h with e | e
    · rw [e, gadd_self, gzero_mul]
    · rw [ih e, gmul_zero]
theorem prodR_pos {x : G} {rs : List G} (h : x ∉ rs) : prodR x rs ≠ g0 := by
  induction rs with
  | nil => exact gp_pos 0
  | cons r t ih =>
    rw [prodR]
    intro e
    rcases gmul_eq0 e with e | e
    · exact h (by rw [gadd_eq e]; exact List.mem_cons_self ..)
    · exact ih (fun k => h (List.mem_cons_of_mem _ k)) e
theorem val_one (x : G) : val [g1] x = g1 := by rw [val_cons, val_nil, gadd_zero]; exact gmul_one _
/-- the polynomial with the given roots -/
def rootP (rs : List G) : List G := rootsL [g1] rs
theorem rootP_val (rs : List G) (x : G) : val (rootP rs) x = prodR x rs := by rw [rootP, rootsL_val, val_one, gone_mul]
theorem rootP_len (rs : List G) : (rootP rs).length = rs.length + 1 := by rw [rootP, rootsL_len]; simp; omega
theorem timesR_head (q : List G) (r : G) (h : q.head? = some g1) : (timesR q r).head? = some g1 := by
  cases q with
  | nil => cases h
  | cons c t =>
    obtain rfl := Option.some.inj h
    simp [timesR, gadd_zero]
theorem rootsL_head (rs : List G) : ∀ q : List G, q.head? = some g1 → (rootsL q rs).head? = some g1 := by
  induction rs with
  | nil => intro q h; exact h
  | cons r t ih => intro q h; exact ih _ (timesR_head q r h)
theorem rootP_head (rs : List G) : (rootP rs).head? = some g1 := rootsL_head rs _ rfl

/-- Power sums that are 0 as often as there are errors: all errors are 0. -/
theorem no_errors {E : List (G × G)} (hd : (E.map (·.1)).Nodup) (h : ∀ t, t < E.length → pws E t = g0) : ∀ a ∈ E, a.2 = g0 := by
  intro a ha
  obtain ⟨i, hi, e⟩ := List.getElem_of_mem ha
  obtain ⟨x, y⟩ := a
  -- the polynomial whose roots are the other places
  have hq : dsum (rootP ((E.eraseIdx i).map (·.1))) (pws E) (E.length - 1) = g0 := by
    have hz : ∀ i, i ≤ E.length - 1 → pws E i = (fun _ => g0) i := fun j hj => h j (by omega)
    rw [dsum_congr _ _ hz]
    exact dsum_zero _ _
  have hl : (rootP ((E.eraseIdx i).map (·.1))).length = E.length := by
    rw [rootP_len, List.length_map, List.length_eraseIdx_of_lt hi]; omega
  rw [dsum_es _ _ _ (by omega), hl, show E.length - 1 + 1 - E.length = 0 by omega] at hq
  have hfe : es E (fun z => val (rootP ((E.eraseIdx i).map (·.1))) z * gw z 0) = y * prodR x ((E.eraseIdx i).map (·.1)) := by
    have hsplit : ∀ f : G → G, es E f = es (E.take i) f + (y * f x + es (E.drop (i + 1)) f) := fun f => by
      have e2 : es E f = es (E.take i ++ E.drop i) f := by rw [List.take_append_drop]
      rw [e2, es_app, List.drop_eq_getElem_cons hi, e]; rfl
    have hout : ∀ b ∈ E.take i ++ E.drop (i + 1), b.2 * (val (rootP ((E.eraseIdx i).map (·.1))) b.1 * gw b.1 0) = g0 := fun b hb => by
      have hm : b.1 ∈ (E.eraseIdx i).map (·.1) := by
        rw [List.eraseIdx_eq_take_drop_succ]; exact List.mem_map.2 ⟨b, hb, rfl⟩
      rw [rootP_val, prodR_root hm, gzero_mul, gmul_zero]
    rw [hsplit, es_none (fun b hb => hout b (List.mem_append_left _ hb)), es_none (fun b hb => hout b (List.mem_append_right _ hb)), gzero_add, gadd_zero, rootP_val]
    show y * (_ * g1) = _
    rw [gmul_one]
  rw [hfe] at hq
  rcases gmul_eq0 hq with e1 | e1
  · exact e1
  · refine absurd e1 (prodR_pos fun hx => ?_)
    -- x is not among the others
    have hn : (E.map (·.1)).eraseIdx i = (E.eraseIdx i).map (·.1) := by
      rw [List.eraseIdx_eq_take_drop_succ, List.eraseIdx_eq_take_drop_succ, List.map_append, List.map_take, List.map_drop]
    rw [← hn] at hx
    obtain ⟨j, hj, hne⟩ := List.mem_eraseIdx_iff_getElem?.1 hx
    have hi' : (E.map (·.1))[i]? = some x := by rw [List.getElem?_map, List.getElem?_eq_getElem hi, e]; rfl
    have hil : i < (E.map (·.1)).length := by simpa using hi
    exact hj ((List.getElem?_inj hil hd).1 (hi'.trans hne.symm)).symm

/-- The partial values at r: division by x + r, the rest behind it. -/
def horL (s r : G) : List G → List G
  | [] => []
  | c :: t => (s * r + c) :: horL (s * r + c) r t
theorem horL_len (r : G) (q : List G) : ∀ s, (horL s r q).length = q.length := by
  induction q with
  | nil => intro s; rfl
  | cons c t ih => intro s; simp [horL, ih]
theorem horL_snoc (r : G) (q : List G) (c : G) : ∀ s, horL s r (q ++ [c]) = horL s r q ++ [valF s q r * r + c] := by
  induction q with
  | nil => intro s; rfl
  | cons a t ih => intro s; simp only [List.cons_append, horL, ih, valF]
theorem snoc_of {q : List G} (h : q ≠ []) : ∃ a c, q = a ++ [c] := ⟨q.dropLast, q.getLast h, (List.dropLast_concat_getLast h).symm⟩
theorem horL_val (r x : G) : ∀ (n : Nat) (q : List G), q.length = n → val (horL g0 r q) x * (x + r) = val q x * x + val q r * r
  | 0, q, h => by
    obtain rfl := List.eq_nil_of_length_eq_zero h
    simp only [horL, val_nil, gzero_mul, gadd_zero]
  | n + 1, q, h => by
    obtain ⟨a, c, rfl⟩ := snoc_of (q := q) (fun e => by subst e; cases h)
    have ih := horL_val r x n a (by simpa using h)
    rw [horL_snoc, val_snoc, val_snoc, val_snoc, show valF g0 a r = val a r from rfl]
    rw [gadd_mul, show val (horL g0 r a) x * x * (x + r) = x * (val (horL g0 r a) x * (x + r)) by rw [gmul_assoc, gmul_left], ih]
    generalize val a x = u
    generalize val a r = v
    simp only [gmul_add, gadd_mul, gmul_assoc, gmul_comm, gmul_left, gadd_assoc, gadd_comm, gadd_left, gadd_back]
theorem horL_root {r : G} {q : List G} {c : G} (h : val (q ++ [c]) r = g0) (x : G) : val (horL g0 r q) x * (x + r) = val (q ++ [c]) x := by
  rw [horL_val r x _ q rfl, val_snoc]
  rw [val_snoc] at h
  rw [gadd_eq h]
theorem horL_head {r : G} {q : List G} (h : q.head? = some g1) : (horL g0 r q).head? = some g1 := by
  cases q with
  | nil => cases h
  | cons c t => obtain rfl := Option.some.inj h; simp [horL, gzero_mul, gzero_add]
/-- A polynomial that begins with 1 has fewer roots than coefficients. -/
theorem few_roots : ∀ (n : Nat) (q rs : List G), q.length = n → q.head? = some g1 → rs.Nodup → (∀ x ∈ rs, val q x = g0) → rs.length < n
  | 0, q, rs, hl, hh, _, _ => by
    obtain rfl := List.eq_nil_of_length_eq_zero hl
    cases hh
  | 1, q, rs, hl, hh, _, hr => by
    obtain ⟨c, rfl⟩ : ∃ c, q = [c] := List.length_eq_one_iff.1 hl
    obtain rfl := Option.some.inj hh
    cases rs with
    | nil => exact Nat.one_pos
    | cons x t => exact absurd ((val_one x).symm.trans (hr x (List.mem_cons_self ..))) (gp_pos 0)
  | n + 2, q, rs, hl, hh, hd, hr => by
    obtain ⟨a, c, rfl⟩ := snoc_of (q := q) (fun e => by subst e; cases hl)
    rw [List.length_append] at hl
    have ha : a.length = n + 1 := by simpa using hl
    have hh' : a.head? = some g1 := by
      cases a with
      | nil => cases ha
      | cons z t => exact hh
    cases rs with
    | nil => exact Nat.succ_pos _
    | cons r t =>
      obtain ⟨hn, hd'⟩ := List.nodup_cons.1 hd
      have h0 := hr r (List.mem_cons_self ..)
      have := few_roots (n + 1) (horL g0 r a) t (by rw [horL_len]; exact ha) (horL_head hh') hd' (fun x hx => by
        have h1 := hr x (List.mem_cons_of_mem _ hx)
        rw [← horL_root h0 x] at h1
        rcases gmul_eq0 h1 with e | e
        · exact e
        · exact absurd hx (by rw [gadd_eq e]; exact hn))
      simpa using this

end Go.Proofs.Ytbkbgcapkhelhaa
