/- Layer 7: sorting by twice as many bytes, numbering, stable buckets. Plain mathematics. -/
import Derived.Test.YtmcefcdnfngndaaFdA
namespace Go.Proofs.Ytmcefcdnfngndaa

theorem ltS_app_same (x : List UInt8) (u v : List UInt8) : ltS (x ++ u) (x ++ v) = ltS u v := by
  induction x with
  | nil => rfl
  | cons a x ih => simp only [List.cons_append, ltS, u8_irr, decide_false, Bool.false_or, beq_self_eq_true, Bool.true_and]; exact ih
theorem ltS_app_ne : ∀ (L : Nat) (x y u v : List UInt8), x ≠ y → x.length ≤ L → y.length ≤ L → (x.length < L → u = []) → (y.length < L → v = []) → ltS (x ++ u) (y ++ v) = ltS x y
  | L, [], [], _, _, h, _, _, _, _ => absurd rfl h
  | L, [], b :: y, u, v, _, _, hy, hu, _ => by
    rw [hu (by simp at hy ⊢; omega)]; rfl
  | L, a :: x, [], u, v, _, hx, _, _, hv => by
    rw [hv (by simp at hx ⊢; omega)]; rfl
  | 0, a :: x, _ :: _, _, _, _, hx, _, _, _ => by simp at hx
  | L + 1, a :: x, b :: y, u, v, h, hx, hy, hu, hv => by
    simp only [List.length_cons] at hx hy hu hv
    simp only [List.cons_append, ltS]
    by_cases e : a = b
    · subst e
      rw [ltS_app_ne L x y u v (fun e => h (by rw [e])) (by omega) (by omega) (fun h => hu (by omega)) (fun h => hv (by omega))]
    · have e2 : (a == b) = false := by simpa using e
      rw [e2, Bool.false_and, Bool.false_and]

/-- The first L bytes of a suffix. -/
def keyS (s : List UInt8) (L i : Nat) : List UInt8 := (s.drop i).take L
theorem keyS_len (s : List UInt8) (L i : Nat) : (keyS s L i).length = min L (s.length - i) := by simp [keyS]
theorem keyS_two (s : List UInt8) (L i : Nat) : keyS s (L + L) i = keyS s L i ++ keyS s L (i + L) := by
  unfold keyS
  rw [List.take_add, List.drop_drop]
theorem keyS_nil (s : List UInt8) (L i : Nat) (h : s.length ≤ i) : keyS s L i = [] := by
  apply List.eq_nil_of_length_eq_zero; rw [keyS_len]; omega
theorem keyS_all (s : List UInt8) (L i : Nat) (h : s.length ≤ L) : keyS s L i = s.drop i := by
  unfold keyS; apply List.take_of_length_le; rw [List.length_drop]; omega
theorem keyS_one (s : List UInt8) (i : Nat) (h : i < s.length) : keyS s 1 i = [s[i]] := by
  unfold keyS
  rw [List.drop_eq_getElem_cons h]; rfl
/-- Numbers that stand for the first L bytes. -/
structure RankL (s : List UInt8) (L : Nat) (r : Nat → Nat) : Prop where
  lt : ∀ i k, i < s.length → k < s.length → (r i < r k ↔ ltS (keyS s L i) (keyS s L k) = true)
  pos : ∀ i, i < s.length → 1 ≤ r i
def pairR (n L : Nat) (r : Nat → Nat) (i : Nat) : Nat × Nat := (r i, if i + L < n then r (i + L) else 0)
def ltP (p q : Nat × Nat) : Prop := p.1 < q.1 ∨ (p.1 = q.1 ∧ p.2 < q.2)
theorem RankL.eq {s : List UInt8} {L : Nat} {r : Nat → Nat} (h : RankL s L r) {i k : Nat} (hi : i < s.length) (hk : k < s.length) : r i = r k ↔ keyS s L i = keyS s L k := by
  have h1 := h.lt i k hi hk
  have h2 := h.lt k i hk hi
  constructor
  · intro e
    rcases ltS_tri (keyS s L i) (keyS s L k) with c | c | c
    · have := h1.2 c; omega
    · exact c
    · have := h2.2 c; omega
  · intro e
    rw [e, ltS_irr] at h1
    rw [e, ltS_irr] at h2
    have a : ¬ r i < r k := fun c => by have := h1.1 c; cases this
    have b : ¬ r k < r i := fun c => by have := h2.1 c; cases this
    omega
theorem RankL.two {s : List UInt8} {L : Nat} {r : Nat → Nat} (h : RankL s L r) (hL : 1 ≤ L) {i k : Nat} (hi : i < s.length) (hk : k < s.length) :
    ltP (pairR s.length L r i) (pairR s.length L r k) ↔ ltS (keyS s (L + L) i) (keyS s (L + L) k) = true := by
  rw [keyS_two, keyS_two]
  have hl := keyS_len s L
  by_cases e : keyS s L i = keyS s L k
  · have hr := (h.eq hi hk).2 e
    rw [e, ltS_app_same]
    have h1 := hl i
    have h2 := hl k
    rw [e] at h1
    unfold ltP pairR
    simp only [hr, Nat.lt_irrefl, false_or, true_and]
    by_cases a : i + L < s.length
    · by_cases b : k + L < s.length
      · rw [if_pos a, if_pos b]; exact h.lt _ _ a b
      · rw [if_pos a, if_neg b, keyS_nil s L (k + L) (by omega), ltS_nil]
        simp
    · by_cases b : k + L < s.length
      · rw [if_neg a, if_pos b, keyS_nil s L (i + L) (by omega)]
        have hp := h.pos _ b
        have hn : keyS s L (k + L) ≠ [] := fun c => by have := congrArg List.length c; rw [keyS_len] at this; simp at this; omega
        cases hc : keyS s L (k + L) with
        | nil => exact absurd hc hn
        | cons _ _ => simp [ltS]; omega
      · rw [if_neg a, if_neg b, keyS_nil s L (i + L) (by omega), keyS_nil s L (k + L) (by omega)]
        simp [ltS]
  · have hr : r i ≠ r k := fun c => e ((h.eq hi hk).1 c)
    rw [ltS_app_ne L _ _ _ _ e (by rw [hl]; omega) (by rw [hl]; omega) (fun c => by rw [hl] at c; exact keyS_nil s L (i + L) (by omega)) (fun c => by rw [hl] at c; exact keyS_nil s L (k + L) (by omega)), ← h.lt i k hi hk]
    unfold ltP pairR
    simp [hr]

/-- Numbers in the order of pairs: those with the same pair have the same number. -/
def rkN (P : Nat → Nat × Nat) (o : List Nat) : Nat → Nat
  | 0 => 1
  | t + 1 => rkN P o t + if P (o.getD (t + 1) 0) = P (o.getD t 0) then 0 else 1
theorem rkN_bd (P : Nat → Nat × Nat) (o : List Nat) : ∀ t, 1 ≤ rkN P o t ∧ rkN P o t ≤ t + 1
  | 0 => by simp [rkN]
  | t + 1 => by have := rkN_bd P o t; simp only [rkN]; split <;> omega
theorem ltP_tr {p q r : Nat × Nat} (h : ltP p q) (k : ltP q r) : ltP p r := by unfold ltP at *; omega
theorem ltP_irr (p : Nat × Nat) : ¬ ltP p p := by unfold ltP; omega
theorem ltP_tri (p q : Nat × Nat) : ltP p q ∨ p = q ∨ ltP q p := by
  unfold ltP
  rcases Nat.lt_trichotomy p.1 q.1 with h | h | h
  · exact Or.inl (Or.inl h)
  · rcases Nat.lt_trichotomy p.2 q.2 with k | k | k
    · exact Or.inl (Or.inr ⟨h, k⟩)
    · exact Or.inr (Or.inl (Prod.ext h k))
    · exact Or.inr (Or.inr (Or.inr ⟨h.symm, k⟩))
  · exact Or.inr (Or.inr (Or.inl h))
/-- Ascending by their pairs, those with the same pair in any order. -/
def AscP (P : Nat → Nat × Nat) (o : List Nat) : Prop := o.Pairwise fun a b => ¬ ltP (P b) (P a)
theorem AscP.at {P : Nat → Nat × Nat} {o : List Nat} (h : AscP P o) {a b : Nat} (hab : a < b) (hb : b < o.length) : ¬ ltP (P (o.getD b 0)) (P (o.getD a 0)) := by
  have := List.pairwise_iff_getElem.1 h a b (by omega) hb hab
  rw [List.getD_eq_getElem?_getD, List.getD_eq_getElem?_getD, List.getElem?_eq_getElem hb, List.getElem?_eq_getElem (show a < o.length by omega)]
  exact this
theorem rkN_iff {P : Nat → Nat × Nat} {o : List Nat} (h : AscP P o) {a : Nat} : ∀ b, a ≤ b → b < o.length → rkN P o a ≤ rkN P o b ∧ (rkN P o a = rkN P o b ↔ P (o.getD a 0) = P (o.getD b 0))
  | b, hab, hb => by
    rcases Nat.eq_or_lt_of_le hab with e | e
    · subst e; simp
    · obtain ⟨c, rfl⟩ : ∃ c, b = c + 1 := ⟨b - 1, by omega⟩
      have ih := rkN_iff (a := a) h c (by omega) (by omega)
      have h1 := h.at (a := c) (b := c + 1) (by omega) hb
      have h2 := h.at e hb
      simp only [rkN]
      by_cases q : P (o.getD (c + 1) 0) = P (o.getD c 0)
      · rw [if_pos q, q]; exact ⟨by omega, by simpa using ih.2⟩
      · rw [if_neg q]
        refine ⟨by omega, fun e2 => by omega, fun e2 => ?_⟩
        exfalso
        rcases Nat.eq_or_lt_of_le (show a ≤ c by omega) with e3 | e3
        · subst e3; exact q e2.symm
        · have h3 := h.at e3 (by omega)
          rcases ltP_tri (P (o.getD c 0)) (P (o.getD (c + 1) 0)) with t | t | t
          · rw [← e2] at t; exact h3 t
          · exact q t.symm
          · exact h1 t
theorem rkN_lt {P : Nat → Nat × Nat} {o : List Nat} (h : AscP P o) {a b : Nat} (ha : a < o.length) (hb : b < o.length) : rkN P o a < rkN P o b ↔ ltP (P (o.getD a 0)) (P (o.getD b 0)) := by
  rcases Nat.lt_trichotomy a b with c | c | c
  · have h1 := rkN_iff h b (by omega) hb (a := a)
    have h2 := h.at c hb
    constructor
    · intro e
      rcases ltP_tri (P (o.getD a 0)) (P (o.getD b 0)) with t | t | t
      · exact t
      · have := h1.2.2 t; omega
      · exact absurd t h2
    · intro e
      rcases Nat.eq_or_lt_of_le h1.1 with t | t
      · rw [h1.2.1 t] at e; exact absurd e (ltP_irr _)
      · exact t
  · subst c; simp [ltP_irr]
  · have h1 := rkN_iff h a (by omega) ha (a := b)
    have h2 := h.at c ha
    exact ⟨fun e => by omega, fun e => absurd e h2⟩

/-- Elements in buckets by f, from 0 to M - 1, each bucket in the list's order. -/
def sortB (f : Nat → Nat) (o : List Nat) (M : Nat) : List Nat := (List.range M).flatMap fun r => o.filter fun x => f x == r
theorem sortB_succ (f : Nat → Nat) (o : List Nat) (M : Nat) : sortB f o (M + 1) = sortB f o M ++ o.filter fun x => f x == M := by simp [sortB, List.range_succ]
theorem sortB_mem (f : Nat → Nat) (o : List Nat) (M x : Nat) : x ∈ sortB f o M ↔ x ∈ o ∧ f x < M := by
  unfold sortB
  rw [List.mem_flatMap]
  constructor
  · rintro ⟨r, h1, h2⟩
    have h3 : f x = r := by simpa using (List.mem_filter.1 h2).2
    exact ⟨(List.mem_filter.1 h2).1, by have := List.mem_range.1 h1; omega⟩
  · rintro ⟨h1, h2⟩
    exact ⟨f x, List.mem_range.2 h2, List.mem_filter.2 ⟨h1, by simp⟩⟩
/-- How many of a list have a value below r. -/
def cntB (f : Nat → Nat) (o : List Nat) (r : Nat) : Nat := o.countP fun x => decide (f x < r)
def cntE (f : Nat → Nat) (o : List Nat) (r : Nat) : Nat := o.countP fun x => f x == r
theorem cntB_succ (f : Nat → Nat) (o : List Nat) (r : Nat) : cntB f o (r + 1) = cntB f o r + cntE f o r := by
  unfold cntB cntE
  induction o with
  | nil => rfl
  | cons x o ih =>
    rw [List.countP_cons, List.countP_cons, List.countP_cons, ih]
    by_cases h : f x < r
    · have h1 : ¬ f x = r := by omega
      have h2 : f x < r + 1 := by omega
      simp [h, h1, h2]; omega
    · by_cases h1 : f x = r
      · simp [h1]; omega
      · have h2 : ¬ f x < r + 1 := by omega
        simp [h, h1, h2]
theorem cntB_zero (f : Nat → Nat) (o : List Nat) : cntB f o 0 = 0 := by simp [cntB]
theorem cntB_all (f : Nat → Nat) (o : List Nat) (r : Nat) (h : ∀ x ∈ o, f x < r) : cntB f o r = o.length := by
  unfold cntB; rw [List.countP_eq_length]; intro x hx; simpa using h x hx
theorem cntB_le (f : Nat → Nat) (o : List Nat) (r : Nat) : cntB f o r ≤ o.length := List.countP_le_length
theorem cntE_snoc (f : Nat → Nat) (o : List Nat) (x r : Nat) : cntE f (o ++ [x]) r = cntE f o r + if f x = r then 1 else 0 := by
  unfold cntE; rw [List.countP_append, List.countP_cons, List.countP_nil]; by_cases h : f x = r <;> simp [h]
theorem cntE_take_le (f : Nat → Nat) (o : List Nat) (r k : Nat) : cntE f (o.take k) r ≤ cntE f o r := List.Sublist.countP_le (List.take_sublist k o)
theorem sortB_len (f : Nat → Nat) (o : List Nat) : ∀ M, (sortB f o M).length = cntB f o M
  | 0 => by simp [sortB, cntB_zero]
  | M + 1 => by rw [sortB_succ, List.length_append, sortB_len f o M, cntB_succ]; simp [cntE, List.countP_eq_length_filter]
theorem filter_pos (p : Nat → Bool) : ∀ (o : List Nat) (i : Nat), i < (o.filter p).length → ∃ t, ∃ (h : t < o.length), p o[t] = true ∧ ((o.take t).countP p) = i ∧ (o.filter p)[i]? = some o[t]
  | [], i, h => by simp at h
  | x :: o, i, h => by
    by_cases c : p x = true
    · rw [List.filter_cons_of_pos c] at h ⊢
      cases i with
      | zero => exact ⟨0, by simp, by simpa using c, by simp, by simp⟩
      | succ i =>
        obtain ⟨t, h1, h2, h3, h4⟩ := filter_pos p o i (by simpa using h)
        exact ⟨t + 1, by simpa using h1, by simpa using h2, by simp [h3, c], by simpa using h4⟩
    · rw [List.filter_cons_of_neg c] at h ⊢
      obtain ⟨t, h1, h2, h3, h4⟩ := filter_pos p o i h
      exact ⟨t + 1, by simpa using h1, by simpa using h2, by simp [h3, c], by simpa using h4⟩
/-- The place of element number t: behind all that are less, and those of its bucket that were ahead of it. -/
def posB (f : Nat → Nat) (o : List Nat) (t : Nat) : Nat := cntB f o (f (o.getD t 0)) + cntE f (o.take t) (f (o.getD t 0))
theorem sortB_at (f : Nat → Nat) (o : List Nat) : ∀ (M j : Nat), j < cntB f o M → ∃ t, t < o.length ∧ posB f o t = j ∧ (sortB f o M)[j]? = some (o.getD t 0)
  | 0, j, h => by rw [cntB_zero] at h; omega
  | M + 1, j, h => by
    rw [sortB_succ]
    by_cases c : j < cntB f o M
    · obtain ⟨t, h1, h2, h3⟩ := sortB_at f o M j c
      exact ⟨t, h1, h2, by rw [List.getElem?_append_left (by rw [sortB_len]; exact c)]; exact h3⟩
    · rw [cntB_succ] at h
      obtain ⟨t, h1, h2, h3, h4⟩ := filter_pos (fun x => f x == M) o (j - cntB f o M) (by rw [← List.countP_eq_length_filter]; unfold cntE at h; omega)
      have hg : o.getD t 0 = o[t] := by rw [List.getD_eq_getElem?_getD, List.getElem?_eq_getElem h1]; rfl
      have hf : f o[t] = M := by simpa using h2
      refine ⟨t, h1, ?_, ?_⟩
      · unfold posB
        rw [hg, hf]
        unfold cntE
        omega
      · rw [List.getElem?_append_right (by rw [sortB_len]; omega), sortB_len, h4, hg]
theorem posB_lt (f : Nat → Nat) (o : List Nat) {t : Nat} (ht : t < o.length) : posB f o t < o.length := by
  unfold posB
  have h1 := cntB_succ f o (f (o.getD t 0))
  have h2 := cntB_le f o (f (o.getD t 0) + 1)
  have h3 : cntE f (o.take (t + 1)) (f (o.getD t 0)) = cntE f (o.take t) (f (o.getD t 0)) + 1 := by
    rw [List.take_succ_eq_append_getElem ht, cntE_snoc]
    rw [List.getD_eq_getElem?_getD, List.getElem?_eq_getElem ht]; simp
  have h4 := cntE_take_le f o (f (o.getD t 0)) (t + 1)
  omega
theorem posB_at (f : Nat → Nat) (o : List Nat) (M : Nat) (hM : ∀ x ∈ o, f x < M) {t : Nat} (ht : t < o.length) : (sortB f o M)[posB f o t]? = some (o.getD t 0) := by
  have hall := cntB_all f o M hM
  suffices h : ∀ (K t : Nat), t < o.length → f (o.getD t 0) < K → (sortB f o K)[posB f o t]? = some (o.getD t 0) by
    refine h M t ht (hM _ ?_)
    rw [List.getD_eq_getElem?_getD, List.getElem?_eq_getElem ht]; exact List.getElem_mem _
  intro K
  induction K with
  | zero => intro t _ h; omega
  | succ K ih =>
    intro t ht hf
    rw [sortB_succ]
    have hg : o.getD t 0 = o[t] := by rw [List.getD_eq_getElem?_getD, List.getElem?_eq_getElem ht]; rfl
    have h3 : cntE f (o.take (t + 1)) (f (o.getD t 0)) = cntE f (o.take t) (f (o.getD t 0)) + 1 := by
      rw [List.take_succ_eq_append_getElem ht, cntE_snoc, hg, if_pos rfl]
    have h4 := cntE_take_le f o (f (o.getD t 0)) (t + 1)
    by_cases c : f (o.getD t 0) < K
    · have h5 : posB f o t < cntB f o K := by
        unfold posB
        have h1 := cntB_succ f o (f (o.getD t 0))
        have h6 : ∀ d, cntB f o (f (o.getD t 0) + 1) ≤ cntB f o (f (o.getD t 0) + 1 + d) := by
          intro d
          induction d with
          | zero => exact Nat.le_refl _
          | succ d ihd => have := cntB_succ f o (f (o.getD t 0) + 1 + d); rw [← Nat.add_assoc]; omega
        have h7 := h6 (K - (f (o.getD t 0) + 1))
        rw [show f (o.getD t 0) + 1 + (K - (f (o.getD t 0) + 1)) = K by omega] at h7
        omega
      rw [List.getElem?_append_left (by rw [sortB_len]; exact h5)]
      exact ih t ht c
    · have e : f (o.getD t 0) = K := by omega
      have h8 : posB f o t = cntB f o K + cntE f (o.take t) K := by unfold posB; rw [e]
      rw [h8, List.getElem?_append_right (by rw [sortB_len]; omega), sortB_len, show cntB f o K + cntE f (o.take t) K - cntB f o K = cntE f (o.take t) K by omega]
      have h9 : o.filter (fun x => f x == K) = (o.take t).filter (fun x => f x == K) ++ (o.drop t).filter (fun x => f x == K) := by rw [← List.filter_append, List.take_append_drop]
      rw [h9, List.getElem?_append_right (by unfold cntE; rw [List.countP_eq_length_filter]; exact Nat.le_refl _)]
      have h10 : cntE f (o.take t) K - ((o.take t).filter fun x => f x == K).length = 0 := by unfold cntE; rw [List.countP_eq_length_filter]; omega
      rw [h10, List.drop_eq_getElem_cons ht, List.filter_cons_of_pos (by rw [← hg, e]; simp), hg]; rfl
theorem sortB_perm (f : Nat → Nat) (o : List Nat) (M : Nat) (hM : ∀ x ∈ o, f x < M) : (sortB f o M).Perm o := by
  rw [List.perm_iff_count]
  intro a
  have h : ∀ K, (sortB f o K).count a = if f a < K then o.count a else 0 := by
    intro K
    induction K with
    | zero => simp [sortB]
    | succ K ih =>
      rw [sortB_succ, List.count_append, ih]
      by_cases e : f a = K
      · rw [if_neg (by omega), if_pos (by omega), List.count_filter (by simpa using e)]; omega
      · have h0 : (o.filter fun x => f x == K).count a = 0 := List.count_eq_zero.2 fun h => by
          have := (List.mem_filter.1 h).2
          exact e (by simpa using this)
        rw [h0]
        by_cases c : f a < K
        · rw [if_pos c, if_pos (by omega)]; rfl
        · rw [if_neg c, if_neg (by omega)]
  rw [h M]
  split
  · rfl
  · rename_i c
    exact (List.count_eq_zero.2 fun h => c (hM a h)).symm
theorem sortB_asc (f : Nat → Nat) {R : Nat → Nat → Prop} {o : List Nat} (h : o.Pairwise R) : ∀ M, (sortB f o M).Pairwise fun a b => f a < f b ∨ (f a = f b ∧ R a b)
  | 0 => by simp [sortB]
  | M + 1 => by
    rw [sortB_succ, List.pairwise_append]
    refine ⟨sortB_asc f h M, ?_, fun a ha b hb => ?_⟩
    · have h1 : (o.filter fun x => f x == M).Pairwise R := h.filter _
      refine h1.imp_of_mem ?_
      intro a b ha hb hR
      have ea : f a = M := by simpa using (List.mem_filter.1 ha).2
      have eb : f b = M := by simpa using (List.mem_filter.1 hb).2
      exact Or.inr ⟨by omega, hR⟩
    · have h1 := (sortB_mem f o M a).1 ha
      have eb : f b = M := by simpa using (List.mem_filter.1 hb).2
      exact Or.inl (by omega)
/-- Sorted by the second number, then by the first: sorted by pairs. -/
theorem sort_two (P : Nat → Nat × Nat) (o : List Nat) (M : Nat) : AscP P (sortB (fun x => (P x).1) (sortB (fun x => (P x).2) o M) M) := by
  have h0 : o.Pairwise fun _ _ => True := List.pairwise_of_forall (fun _ _ => trivial)
  have h1 := sortB_asc (fun x => (P x).2) h0 M
  have h2 := sortB_asc (fun x => (P x).1) h1 M
  refine h2.imp ?_
  intro a b h hlt
  unfold ltP at hlt
  omega

/-- One round: sorted by twice as many bytes, and numbered so. -/
theorem RankL.next {s : List UInt8} {L : Nat} {r : Nat → Nat} {o : List Nat} (h : RankL s L r) (hL : 1 ≤ L) (hp : o.Perm (List.range s.length)) (ha : AscP (pairR s.length L r) o) :
    RankL s (L + L) (fun i => rkN (pairR s.length L r) o (o.idxOf i)) ∧ o.Pairwise (fun i k => ltS (keyS s (L + L) k) (keyS s (L + L) i) = false) := by
  have hm : ∀ i, i < s.length → i ∈ o := fun i hi => by rw [hp.mem_iff]; simpa using hi
  have hlt : ∀ i, i ∈ o → i < s.length := fun i hi => by rw [hp.mem_iff] at hi; simpa using hi
  have hg : ∀ i, i < s.length → o.getD (o.idxOf i) 0 = i := fun i hi => by
    rw [List.getD_eq_getElem?_getD, List.getElem?_eq_getElem (List.idxOf_lt_length_of_mem (hm i hi))]
    simp
  refine ⟨⟨fun i k hi hk => ?_, fun i hi => (rkN_bd _ _ _).1⟩, ?_⟩
  · rw [rkN_lt ha (List.idxOf_lt_length_of_mem (hm i hi)) (List.idxOf_lt_length_of_mem (hm k hk)), hg i hi, hg k hk]
    exact h.two hL hi hk
  · refine List.Pairwise.imp_of_mem ?_ ha
    intro i k hi hk hn
    cases c : ltS (keyS s (L + L) k) (keyS s (L + L) i) with
    | false => rfl
    | true => exact absurd ((h.two hL (hlt k hk) (hlt i hi)).2 c) hn
/-- With all bytes it is the order of the suffixes. -/
theorem ord_of {s : List UInt8} {L : Nat} {o : List Nat} (hL : s.length ≤ L) (hp : o.Perm (List.range s.length)) (ha : o.Pairwise (fun i k => ltS (keyS s L k) (keyS s L i) = false)) : IsOrd s o := by
  refine ⟨hp, ?_⟩
  have hlt : ∀ i, i ∈ o → i < s.length := fun i hi => by rw [hp.mem_iff] at hi; simpa using hi
  have hnd : o.Nodup := hp.nodup_iff.2 List.nodup_range
  have h2 : o.Pairwise (fun i k => ltS (keyS s L k) (keyS s L i) = false ∧ i ≠ k) := List.pairwise_and_iff.2 ⟨ha, hnd⟩
  refine List.Pairwise.imp_of_mem ?_ h2
  rintro i k hi hk ⟨h, hne⟩
  rw [keyS_all s L k hL, keyS_all s L i hL] at h
  rcases ltS_tri (s.drop i) (s.drop k) with c | c | c
  · exact c
  · exact absurd c (sfx_ne (hlt i hi) (hlt k hk) hne)
  · rw [c] at h; cases h
theorem rank_one {s : List UInt8} {r : Nat → Nat} (h : ∀ i (hi : i < s.length), r i = s[i].toNat + 1) : RankL s 1 r := by
  refine ⟨fun i k hi hk => ?_, fun i hi => by rw [h i hi]; omega⟩
  rw [h i hi, h k hk, keyS_one s i hi, keyS_one s k hk, ltS_cons]
  simp [ltS, UInt8.lt_iff_toNat_lt]

end Go.Proofs.Ytmcefcdnfngndaa
