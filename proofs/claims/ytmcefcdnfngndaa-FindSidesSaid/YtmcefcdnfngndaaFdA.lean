/- Layer 7: the order of strings, common beginnings, suffixes in order. Plain mathematics. -/
namespace Go.Proofs.Ytmcefcdnfngndaa

/-- Which of two strings is less: an end is less than every byte. -/
def ltS : List UInt8 → List UInt8 → Bool
  | _, [] => false
  | [], _ :: _ => true
  | a :: x, b :: y => decide (a < b) || (a == b && ltS x y)
theorem u8_tri (a b : UInt8) : a < b ∨ a = b ∨ b < a := by
  rcases Nat.lt_trichotomy a.toNat b.toNat with h | h | h
  · exact Or.inl (UInt8.lt_iff_toNat_lt.2 h)
  · exact Or.inr (Or.inl (UInt8.toNat_inj.1 h))
  · exact Or.inr (Or.inr (UInt8.lt_iff_toNat_lt.2 h))
theorem u8_irr (a : UInt8) : ¬ a < a := by rw [UInt8.lt_iff_toNat_lt]; omega
theorem u8_tr {a b c : UInt8} (h : a < b) (k : b < c) : a < c := by rw [UInt8.lt_iff_toNat_lt] at *; omega
theorem u8_as {a b : UInt8} (h : a < b) : ¬ b < a := by rw [UInt8.lt_iff_toNat_lt] at *; omega
theorem ltS_irr : ∀ x : List UInt8, ltS x x = false
  | [] => rfl
  | a :: x => by simp [ltS, ltS_irr x]
theorem ltS_nil (x : List UInt8) : ltS x [] = false := by cases x <;> rfl
theorem ltS_cons (a b : UInt8) (x y : List UInt8) : ltS (a :: x) (b :: y) = true ↔ a < b ∨ (a = b ∧ ltS x y = true) := by simp [ltS]
theorem ltS_tr : ∀ {x y z : List UInt8}, ltS x y = true → ltS y z = true → ltS x z = true
  | x, y, [], _, k => by rw [ltS_nil] at k; cases k
  | x, [], c :: z, h, _ => by rw [ltS_nil] at h; cases h
  | [], b :: y, c :: z, _, _ => rfl
  | a :: x, b :: y, c :: z, h, k => by
    rw [ltS_cons] at h k ⊢
    rcases h with h | ⟨rfl, h⟩
    · rcases k with k | ⟨rfl, k⟩
      · exact Or.inl (u8_tr h k)
      · exact Or.inl h
    · rcases k with k | ⟨rfl, k⟩
      · exact Or.inl k
      · exact Or.inr ⟨rfl, ltS_tr h k⟩
theorem ltS_tri : ∀ x y : List UInt8, ltS x y = true ∨ x = y ∨ ltS y x = true
  | [], [] => Or.inr (Or.inl rfl)
  | [], _ :: _ => Or.inl rfl
  | _ :: _, [] => Or.inr (Or.inr rfl)
  | a :: x, b :: y => by
    rw [ltS_cons, ltS_cons]
    rcases u8_tri a b with h | rfl | h
    · exact Or.inl (Or.inl h)
    · rcases ltS_tri x y with k | rfl | k
      · exact Or.inl (Or.inr ⟨rfl, k⟩)
      · exact Or.inr (Or.inl rfl)
      · exact Or.inr (Or.inr (Or.inr ⟨rfl, k⟩))
    · exact Or.inr (Or.inr (Or.inl h))
theorem ltS_as {x y : List UInt8} (h : ltS x y = true) : ltS y x = false := by
  cases k : ltS y x with
  | false => rfl
  | true => have := ltS_tr h k; rw [ltS_irr] at this; cases this
theorem ltS_ne {x y : List UInt8} (h : ltS x y = true) : x ≠ y := by rintro rfl; rw [ltS_irr] at h; cases h

/-- The length of what two strings begin with in common. -/
def lcp : List UInt8 → List UInt8 → Nat
  | a :: x, b :: y => if a = b then lcp x y + 1 else 0
  | _, _ => 0
theorem lcp_nil (x : List UInt8) : lcp x [] = 0 := by cases x <;> rfl
theorem lcp_comm : ∀ x y, lcp x y = lcp y x
  | [], [] => rfl
  | [], _ :: _ => rfl
  | _ :: _, [] => rfl
  | a :: x, b :: y => by
    simp only [lcp, lcp_comm x y]
    by_cases h : a = b
    · rw [if_pos h, if_pos h.symm]
    · rw [if_neg h, if_neg (Ne.symm h)]
theorem lcp_le : ∀ x y, lcp x y ≤ x.length ∧ lcp x y ≤ y.length
  | [], _ => by simp [lcp]
  | _ :: _, [] => by simp [lcp]
  | a :: x, b :: y => by
    have := lcp_le x y
    simp only [lcp, List.length_cons]
    split <;> omega
theorem lcp_take : ∀ x y n, n ≤ lcp x y ↔ n ≤ x.length ∧ n ≤ y.length ∧ x.take n = y.take n
  | x, y, 0 => by simp
  | [], y, n + 1 => by simp [lcp]
  | _ :: _, [], n + 1 => by simp [lcp]
  | a :: x, b :: y, n + 1 => by
    simp only [lcp, List.length_cons, List.take_succ_cons, List.cons.injEq, Nat.add_le_add_iff_right]
    by_cases h : a = b
    · rw [if_pos h, Nat.add_le_add_iff_right, lcp_take x y n]; simp [h]
    · rw [if_neg h]; constructor
      · intro k; omega
      · rintro ⟨_, _, h2, _⟩; exact absurd h2 h
theorem lcp_self (x : List UInt8) : lcp x x = x.length := by
  refine Nat.le_antisymm (lcp_le x x).1 ((lcp_take x x x.length).2 ⟨Nat.le_refl _, Nat.le_refl _, rfl⟩)
/-- What stands behind the common part. -/
theorem lcp_stop {x y : List UInt8} {n : Nat} (h1 : n ≤ lcp x y) (h2 : n = x.length ∨ n = y.length ∨ ∃ (a : n < x.length) (b : n < y.length), x[n] ≠ y[n]) : lcp x y = n := by
  refine Nat.le_antisymm (Nat.le_of_not_lt fun h => ?_) h1
  obtain ⟨h3, h4, h5⟩ := (lcp_take x y (n + 1)).1 h
  rcases h2 with h2 | h2 | ⟨a, b, h2⟩
  · omega
  · omega
  · apply h2
    have : (x.take (n + 1))[n]? = (y.take (n + 1))[n]? := by rw [h5]
    rw [List.getElem?_take_of_lt (by omega), List.getElem?_take_of_lt (by omega), List.getElem?_eq_getElem a, List.getElem?_eq_getElem b] at this
    exact Option.some.inj this
theorem lcp_step {x y : List UInt8} {n : Nat} (h : n ≤ lcp x y) (a : n < x.length) (b : n < y.length) (he : x[n] = y[n]) : n + 1 ≤ lcp x y := by
  obtain ⟨h3, h4, h5⟩ := (lcp_take x y n).1 h
  refine (lcp_take x y (n + 1)).2 ⟨by omega, by omega, ?_⟩
  rw [List.take_succ_eq_append_getElem a, List.take_succ_eq_append_getElem b, h5, he]
theorem lcp_at {x y : List UInt8} {n : Nat} (h : n < lcp x y) : ∃ (a : n < x.length) (b : n < y.length), x[n] = y[n] := by
  have h0 := lcp_le x y
  refine ⟨by omega, by omega, Classical.byContradiction fun hne => ?_⟩
  have := lcp_stop (n := n) (by omega) (Or.inr (Or.inr ⟨by omega, by omega, hne⟩))
  omega
theorem lcp_ne {x y : List UInt8} (a : lcp x y < x.length) (b : lcp x y < y.length) : x[lcp x y] ≠ y[lcp x y] := fun he => by
  have := lcp_step (Nat.le_refl _) a b he
  omega
/-- Less, by what stands behind the common part. -/
theorem ltS_lcp : ∀ {x y : List UInt8}, ltS x y = true ↔ lcp x y < y.length ∧ (lcp x y = x.length ∨ ∃ (a : lcp x y < x.length) (b : lcp x y < y.length), x[lcp x y] < y[lcp x y])
  | x, [] => by simp [ltS_nil, lcp_nil]
  | [], _ :: _ => by simp [ltS, lcp]
  | a :: x, b :: y => by
    rw [ltS_cons]
    by_cases h : a = b
    · subst h
      have ih := @ltS_lcp x y
      have e : lcp (a :: x) (a :: y) = lcp x y + 1 := by simp [lcp]
      simp only [u8_irr, false_or, true_and, ih, e, List.length_cons, Nat.add_lt_add_iff_right, Nat.add_right_cancel_iff, List.getElem_cons_succ]
    · have e : lcp (a :: x) (b :: y) = 0 := by simp [lcp, h]
      simp [h, e]
/-- The common part of the first and the last of three that ascend is that of neighbours' least. -/
theorem lcp_three {x y z : List UInt8} (h : ltS x y = true) (k : ltS y z = true) : lcp x z = min (lcp x y) (lcp y z) := by
  induction x generalizing y z with
  | nil => simp [lcp]
  | cons a x ih =>
    cases y with
    | nil => rw [ltS_nil] at h; cases h
    | cons b y =>
      cases z with
      | nil => rw [ltS_nil] at k; cases k
      | cons c z =>
        rw [ltS_cons] at h k
        simp only [lcp]
        rcases h with h | ⟨rfl, h⟩
        · have hab : a ≠ b := fun e => u8_irr a (e ▸ h)
          rcases k with k | ⟨rfl, k⟩
          · rw [if_neg (fun e => u8_as h (by rw [e]; exact k)), if_neg hab]; simp
          · simp [hab]
        · rcases k with k | ⟨rfl, k⟩
          · have hbc : a ≠ c := fun e => u8_irr a (by rw [← e] at k; exact k)
            simp [hbc]
          · simp only [if_true, ih h k]; omega
theorem lcp_drop (x y : List UInt8) (n : Nat) (h : n ≤ lcp x y) : lcp (x.drop n) (y.drop n) = lcp x y - n := by
  induction n generalizing x y with
  | zero => simp
  | succ n ih =>
    cases x with
    | nil => simp [lcp] at h
    | cons a x =>
      cases y with
      | nil => simp [lcp] at h
      | cons b y =>
        simp only [lcp] at h ⊢
        by_cases e : a = b
        · rw [if_pos e] at h ⊢
          simp only [List.drop_succ_cons]
          rw [ih x y (by omega)]; omega
        · rw [if_neg e] at h; omega

/-- A string begins with a pattern. -/
theorem pre_lcp (x p : List UInt8) : p.isPrefixOf x = true ↔ lcp x p = p.length := by
  rw [List.isPrefixOf_iff_prefix]
  constructor
  · rintro ⟨t, rfl⟩
    refine Nat.le_antisymm (lcp_le _ p).2 ((lcp_take _ p p.length).2 ⟨by simp, Nat.le_refl _, by simp⟩)
  · intro h
    obtain ⟨_, _, h3⟩ := (lcp_take x p p.length).1 (by omega)
    rw [List.take_length] at h3
    exact ⟨x.drop p.length, (congrArg (· ++ x.drop p.length) h3.symm).trans (List.take_append_drop _ _)⟩

/-- The positions of a text in the order of the suffixes. -/
structure IsOrd (s : List UInt8) (o : List Nat) : Prop where
  perm : o.Perm (List.range s.length)
  asc : o.Pairwise fun i k => ltS (s.drop i) (s.drop k) = true
section
variable {s : List UInt8} {o : List Nat}
theorem IsOrd.len (h : IsOrd s o) : o.length = s.length := by rw [h.perm.length_eq, List.length_range]
theorem IsOrd.mem (h : IsOrd s o) {i : Nat} : i ∈ o ↔ i < s.length := by rw [h.perm.mem_iff, List.mem_range]
theorem IsOrd.nodup (h : IsOrd s o) : o.Nodup := h.perm.nodup_iff.2 List.nodup_range
theorem sfx_ne {s : List UInt8} {i k : Nat} (hi : i < s.length) (hk : k < s.length) (h : i ≠ k) : s.drop i ≠ s.drop k := fun e => by
  have := congrArg List.length e
  rw [List.length_drop, List.length_drop] at this
  omega
end
/-- Two lists that ascend by one order and have the same members are one. -/
theorem asc_uniq {α : Type} {R : α → α → Prop} (has : ∀ a b, R a b → ¬ R b a) : ∀ {l m : List α}, l.Pairwise R → m.Pairwise R → (∀ z, z ∈ l ↔ z ∈ m) → l = m
  | [], [], _, _, _ => rfl
  | [], y :: r, _, _, h => absurd ((h y).2 (by simp)) (by simp)
  | y :: r, [], _, _, h => absurd ((h y).1 (by simp)) (by simp)
  | x :: l, y :: m, hl, hm, h => by
    obtain ⟨a1, a2⟩ := List.pairwise_cons.1 hl
    obtain ⟨b1, b2⟩ := List.pairwise_cons.1 hm
    have e : x = y := by
      rcases List.mem_cons.1 ((h x).1 (by simp)) with e | e
      · exact e
      · rcases List.mem_cons.1 ((h y).2 (by simp)) with e2 | e2
        · exact e2.symm
        · exact absurd (b1 x e) (has _ _ (a1 y e2))
    subst e
    rw [asc_uniq has a2 b2 fun z => ⟨fun hz => by
        rcases List.mem_cons.1 ((h z).1 (List.mem_cons_of_mem _ hz)) with e | e
        · subst e; exact absurd (a1 z hz) (fun q => has _ _ q q)
        · exact e, fun hz => by
        rcases List.mem_cons.1 ((h z).2 (List.mem_cons_of_mem _ hz)) with e | e
        · subst e; exact absurd (b1 z hz) (fun q => has _ _ q q)
        · exact e⟩]
theorem IsOrd.one {s : List UInt8} {o o' : List Nat} (h : IsOrd s o) (h' : IsOrd s o') : o = o' :=
  asc_uniq (fun a b h1 h2 => by rw [ltS_as h1] at h2; cases h2) h.asc h'.asc fun z => by rw [h.mem, h'.mem]

end Go.Proofs.Ytmcefcdnfngndaa
