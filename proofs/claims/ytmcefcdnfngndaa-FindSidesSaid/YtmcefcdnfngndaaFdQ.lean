/- Layer 7: where in the order the suffixes stand that begin with a pattern. Plain mathematics. -/
import Derived.Test.YtmcefcdnfngndaaFdB
namespace Go.Proofs.Ytmcefcdnfngndaa

/-- How far a test that turns true once is still false. -/
theorem mono_count (q : Nat → Bool) : ∀ m : Nat, (∀ a b, a ≤ b → b < m → q a = true → q b = true) → (List.range m).countP (fun i => !q i) ≤ m ∧ ∀ i, i < m → (q i = false ↔ i < (List.range m).countP (fun i => !q i))
  | 0, _ => ⟨by simp, fun i hi => by omega⟩
  | m + 1, h => by
    obtain ⟨h1, h2⟩ := mono_count q m (fun a b x y z => h a b x (by omega) z)
    rw [List.range_succ, List.countP_append, List.countP_cons, List.countP_nil]
    cases hq : q m with
    | true =>
      simp only [Bool.not_true, Bool.false_eq_true, if_false, Nat.add_zero]
      refine ⟨by omega, fun i hi => ?_⟩
      rcases Nat.lt_or_ge i m with c | c
      · exact h2 i c
      · obtain rfl : i = m := by omega
        rw [hq]; constructor
        · intro e; cases e
        · intro e; omega
    | false =>
      simp only [Bool.not_false, if_true]
      have hall : ∀ i, i < m → q i = false := fun i hi => by
        cases c : q i with
        | false => rfl
        | true => rw [h i m (by omega) (by omega) c] at hq; cases hq
      have hm : (List.range m).countP (fun i => !q i) = m := by
        rcases Nat.eq_zero_or_pos m with e | e
        · subst e; simp
        · have := (h2 (m - 1) (by omega)).1 (hall (m - 1) (by omega)); omega
      rw [hm]
      refine ⟨by omega, fun i hi => ⟨fun _ => by omega, fun _ => ?_⟩⟩
      rcases Nat.lt_or_ge i m with c | c
      · exact hall i c
      · obtain rfl : i = m := by omega
        exact hq
theorem pre_not_lt {x p : List UInt8} (h : p.isPrefixOf x = true) : ltS x p = false := by
  cases c : ltS x p with
  | false => rfl
  | true =>
    have h1 := (pre_lcp x p).1 h
    have h2 := (ltS_lcp.1 c).1
    omega
/-- What stands between a pattern and a string that begins with it begins with it, too. -/
theorem pre_between {p x y : List UInt8} (h1 : ltS x p = false) (h2 : ltS x y = true ∨ x = y) (h3 : p.isPrefixOf y = true) : p.isPrefixOf x = true := by
  rcases h2 with h2 | rfl
  · rcases ltS_tri p x with c | c | c
    · have := lcp_three c h2
      have h4 := (pre_lcp y p).1 h3
      rw [lcp_comm] at h4
      have h5 := (lcp_le p x).1
      refine (pre_lcp x p).2 ?_
      rw [lcp_comm]; omega
    · subst c; refine (pre_lcp p p).2 (lcp_self p)
    · rw [h1] at c; cases c
  · exact h3
/-- How often a pattern occurs. -/
def occN (T p : List UInt8) : Nat := (List.range T.length).countP fun i => p.isPrefixOf (T.drop i)
/-- The places from fr to t - 1 are just those of the suffixes that begin with the pattern. -/
structure PlaceP (T : List UInt8) (o : List Nat) (p : List UInt8) (fr t : Nat) : Prop where
  le : fr ≤ t
  top : t ≤ o.length
  iff : ∀ i, i < o.length → (p.isPrefixOf (T.drop (o.getD i 0)) = true ↔ fr ≤ i ∧ i < t)
theorem countP_between (a b : Nat) : ∀ m, a ≤ b → b ≤ m → (List.range m).countP (fun i => decide (a ≤ i ∧ i < b)) = b - a
  | 0, h1, h2 => by simp; omega
  | m + 1, h1, h2 => by
    rw [List.range_succ, List.countP_append, List.countP_cons, List.countP_nil]
    by_cases c : b ≤ m
    · rw [countP_between a b m h1 c]
      have : ¬ (a ≤ m ∧ m < b) := by omega
      simp [this]
    · have hb : b = m + 1 := by omega
      subst hb
      by_cases d : a ≤ m
      · have h3 := countP_between a m m d (Nat.le_refl _)
        have h4 : (List.range m).countP (fun i => decide (a ≤ i ∧ i < m + 1)) = (List.range m).countP (fun i => decide (a ≤ i ∧ i < m)) := by
          apply List.countP_congr
          intro x hx
          have := List.mem_range.1 hx
          simp only [decide_eq_true_eq]; omega
        rw [h4, h3]
        have : a ≤ m ∧ m < m + 1 := by omega
        simp [this]; omega
      · have h4 : (List.range m).countP (fun i => decide (a ≤ i ∧ i < m + 1)) = 0 := by
          rw [List.countP_eq_zero]
          intro x hx
          have := List.mem_range.1 hx
          simp only [decide_eq_true_eq]; omega
        rw [h4]
        have : ¬ (a ≤ m ∧ m < m + 1) := by omega
        simp only [this, decide_false, Bool.false_eq_true, if_false]; omega
theorem countP_list (f : Nat → Bool) : ∀ o : List Nat, o.countP f = (List.range o.length).countP fun i => f (o.getD i 0) := by
  intro o
  have h : o = (List.range o.length).map fun i => o.getD i 0 := by
    apply List.ext_getElem
    · simp
    · intro i h1 h2
      simp [List.getD_eq_getElem?_getD, List.getElem?_eq_getElem h1]
  conv => lhs; rw [h, List.countP_map]
  rfl
theorem PlaceP.count {T : List UInt8} {o : List Nat} {p : List UInt8} {fr t : Nat} (h : PlaceP T o p fr t) (ho : o.Perm (List.range T.length)) : t - fr = occN T p := by
  unfold occN
  rw [← ho.countP_eq, countP_list, ← countP_between fr t o.length h.le h.top]
  apply List.countP_congr
  intro i hi
  have := h.iff i (List.mem_range.1 hi)
  simp only [decide_eq_true_eq]
  exact this.symm
/-- Two searches give the places. -/
theorem places_of {T : List UInt8} {o : List Nat} (p : List UInt8) (ho : o.Pairwise fun i k => ltS (T.drop i) (T.drop k) = true) {fr ct : Nat}
    (hfr : fr = (List.range o.length).countP (fun i => !(!ltS (T.drop (o.getD i 0)) p))) (hct : ct = (List.range (o.length - fr)).countP (fun k => !(!p.isPrefixOf (T.drop (o.getD (fr + k) 0))))) :
    PlaceP T o p fr (fr + ct) ∧ (∀ a b, a ≤ b → b < o.length → (!ltS (T.drop (o.getD a 0)) p) = true → (!ltS (T.drop (o.getD b 0)) p) = true) ∧
    (∀ a b, a ≤ b → b < o.length - fr → (!p.isPrefixOf (T.drop (o.getD (fr + a) 0))) = true → (!p.isPrefixOf (T.drop (o.getD (fr + b) 0))) = true) := by
  have hasc : ∀ a b, a ≤ b → b < o.length → ltS (T.drop (o.getD a 0)) (T.drop (o.getD b 0)) = true ∨ T.drop (o.getD a 0) = T.drop (o.getD b 0) := fun a b hab hb => by
    rcases Nat.eq_or_lt_of_le hab with e | e
    · subst e; exact Or.inr rfl
    · have := List.pairwise_iff_getElem.1 ho a b (by omega) hb e
      rw [List.getD_eq_getElem?_getD, List.getD_eq_getElem?_getD, List.getElem?_eq_getElem hb, List.getElem?_eq_getElem (show a < o.length by omega)]
      exact Or.inl this
  have m1 : ∀ a b, a ≤ b → b < o.length → (!ltS (T.drop (o.getD a 0)) p) = true → (!ltS (T.drop (o.getD b 0)) p) = true := fun a b hab hb h => by
    rw [Bool.not_eq_true'] at h ⊢
    rcases hasc a b hab hb with c | c
    · cases d : ltS (T.drop (o.getD b 0)) p with
      | false => rfl
      | true => rw [ltS_tr c d] at h; cases h
    · rw [← c]; exact h
  obtain ⟨a1, a2⟩ := mono_count _ o.length m1
  rw [← hfr] at a1 a2
  have m2 : ∀ a b, a ≤ b → b < o.length - fr → (!p.isPrefixOf (T.drop (o.getD (fr + a) 0))) = true → (!p.isPrefixOf (T.drop (o.getD (fr + b) 0))) = true := fun a b hab hb h => by
    rw [Bool.not_eq_true'] at h ⊢
    cases d : p.isPrefixOf (T.drop (o.getD (fr + b) 0)) with
    | false => rfl
    | true =>
      have h1 : ltS (T.drop (o.getD (fr + a) 0)) p = false := by
        cases e : ltS (T.drop (o.getD (fr + a) 0)) p with
        | false => rfl
        | true =>
          have := (a2 (fr + a) (by omega)).1 (by rw [e]; rfl)
          omega
      rw [pre_between h1 (hasc (fr + a) (fr + b) (by omega) (by omega)) d] at h; cases h
  obtain ⟨b1, b2⟩ := mono_count _ (o.length - fr) m2
  rw [← hct] at b1 b2
  refine ⟨⟨by omega, by omega, fun i hi => ⟨fun h => ?_, fun ⟨h1, h2⟩ => ?_⟩⟩, m1, m2⟩
  · have h3 := pre_not_lt h
    have h4 : fr ≤ i := by
      rcases Nat.lt_or_ge i fr with c | c
      · have := (a2 i hi).2 c; rw [h3] at this; cases this
      · exact c
    have h5 := (b2 (i - fr) (by omega)).1 (by rw [show fr + (i - fr) = i by omega, h]; rfl)
    exact ⟨h4, by omega⟩
  · have h5 := (b2 (i - fr) (by omega)).2 (by omega)
    rw [show fr + (i - fr) = i by omega] at h5
    rw [Bool.not_eq_false'] at h5; exact h5

end Go.Proofs.Ytmcefcdnfngndaa
