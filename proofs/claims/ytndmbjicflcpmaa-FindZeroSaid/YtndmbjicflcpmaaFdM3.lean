/- Layer 7: what two texts have in common. -/
import Derived.Test.YtndmbjicflcpmaaFdM2
import Derived.Test.YtndmbjicflcpmaaFdG
namespace Go.Proofs.Ytndmbjicflcpmaa

/-- How far the text at i begins as the other one does at one of its first j positions. -/
def bstF (A B : List UInt8) (i : Nat) : Nat → Nat
  | 0 => 0
  | j + 1 => max (bstF A B i j) (lcp (A.drop i) (B.drop j))
theorem bst_le (A B : List UInt8) (i : Nat) : ∀ j, bstF A B i j ≤ A.length - i
  | 0 => Nat.zero_le _
  | j + 1 => by
    have h1 := bst_le A B i j
    have h2 := (lcp_le (A.drop i) (B.drop j)).1
    rw [List.length_drop] at h2
    simp only [bstF]; omega
theorem bst_ge (A B : List UInt8) (i : Nat) : ∀ j k, k < j → lcp (A.drop i) (B.drop k) ≤ bstF A B i j
  | 0, k, h => by omega
  | j + 1, k, h => by
    simp only [bstF]
    rcases Nat.eq_or_lt_of_le (show k ≤ j by omega) with e | e
    · rw [e]; omega
    · have := bst_ge A B i j k e; omega
theorem bst_at (A B : List UInt8) (i : Nat) : ∀ j, bstF A B i j = 0 ∨ ∃ k, k < j ∧ lcp (A.drop i) (B.drop k) = bstF A B i j
  | 0 => Or.inl rfl
  | j + 1 => by
    simp only [bstF]
    by_cases c : bstF A B i j ≤ lcp (A.drop i) (B.drop j)
    · exact Or.inr ⟨j, by omega, by omega⟩
    · rcases bst_at A B i j with h | ⟨k, h1, h2⟩
      · omega
      · exact Or.inr ⟨k, by omega, by omega⟩
/-- The longest string in common that begins at one of the first k positions, and where it first does. -/
def lgF (A B : List UInt8) : Nat → Nat × Nat
  | 0 => (0, 0)
  | k + 1 => if (lgF A B k).1 < bstF A B k B.length then (bstF A B k B.length, k) else lgF A B k
theorem lg_fact (A B : List UInt8) : ∀ k, k ≤ A.length → (∀ i, i < k → bstF A B i B.length ≤ (lgF A B k).1) ∧ ((lgF A B k).1 = 0 ∧ (lgF A B k).2 = 0 ∨ (lgF A B k).1 ≠ 0 ∧ (lgF A B k).2 < k ∧ bstF A B (lgF A B k).2 B.length = (lgF A B k).1 ∧ ∀ i, i < (lgF A B k).2 → bstF A B i B.length < (lgF A B k).1)
  | 0, _ => ⟨fun i hi => by omega, Or.inl ⟨rfl, rfl⟩⟩
  | k + 1, hk => by
    obtain ⟨h1, h2⟩ := lg_fact A B k (by omega)
    simp only [lgF]
    split
    · rename_i c
      refine ⟨fun i hi => ?_, Or.inr ⟨by dsimp only; omega, by dsimp only; omega, rfl, fun i hi => ?_⟩⟩
      · rcases Nat.eq_or_lt_of_le (show i ≤ k by omega) with e | e
        · rw [e]; exact Nat.le_refl _
        · have := h1 i e; dsimp only; omega
      · have := h1 i hi; dsimp only at *; omega
    · rename_i c
      refine ⟨fun i hi => ?_, ?_⟩
      · rcases Nat.eq_or_lt_of_le (show i ≤ k by omega) with e | e
        · rw [e]; omega
        · exact h1 i e
      · rcases h2 with h2 | ⟨a1, a2, a3, a4⟩
        · exact Or.inl h2
        · exact Or.inr ⟨a1, by omega, a3, a4⟩
theorem lg_top (A B : List UInt8) {k : Nat} (hk : k ≤ A.length) : (lgF A B k).2 + (lgF A B k).1 ≤ A.length := by
  rcases (lg_fact A B k hk).2 with ⟨h1, h2⟩ | ⟨h1, h2, h3, h4⟩
  · omega
  · have := bst_le A B (lgF A B k).2 B.length
    omega
/-- A string that begins at i occurs in the other text just where it is no longer than the overlap. -/
theorem occ_pos {A B : List UInt8} {i l : Nat} (hl : 1 ≤ l) (hi : i + l ≤ A.length) : 0 < occN B ((A.drop i).take l) ↔ l ≤ bstF A B i B.length := by
  have hpl : ((A.drop i).take l).length = l := by rw [List.length_take, List.length_drop]; omega
  have hpre : ∀ k, ((A.drop i).take l).isPrefixOf (B.drop k) = true ↔ l ≤ lcp (A.drop i) (B.drop k) := fun k => by
    constructor
    · intro h
      have h4 := (pre_lcp _ _).1 h
      rw [hpl] at h4
      have hx := (lcp_take (B.drop k) ((A.drop i).take l) l).1 (by omega)
      refine (lcp_take _ _ _).2 ⟨by rw [List.length_drop]; omega, hx.1, ?_⟩
      rw [hx.2.2, List.take_take, Nat.min_self]
    · intro h; exact pre_take h
  unfold occN
  rw [List.countP_pos_iff]
  constructor
  · rintro ⟨k, h1, h2⟩
    have := bst_ge A B i B.length k (List.mem_range.1 h1)
    have := (hpre k).1 h2
    omega
  · intro h
    rcases bst_at A B i B.length with h0 | ⟨k, h1, h2⟩
    · omega
    · exact ⟨k, List.mem_range.2 h1, (hpre k).2 (by omega)⟩
theorem pre_piece {A B : List UInt8} {i l k : Nat} (hi : i + l ≤ A.length) : ((A.drop i).take l).isPrefixOf (B.drop k) = true ↔ l ≤ lcp (A.drop i) (B.drop k) := by
  have hpl : ((A.drop i).take l).length = l := by rw [List.length_take, List.length_drop]; omega
  constructor
  · intro h
    have h4 := (pre_lcp _ _).1 h
    rw [hpl] at h4
    have hx := (lcp_take (B.drop k) ((A.drop i).take l) l).1 (by omega)
    refine (lcp_take _ _ _).2 ⟨by rw [List.length_drop]; omega, hx.1, ?_⟩
    rw [hx.2.2, List.take_take, Nat.min_self]
  · intro h; exact pre_take h
/-- The first occurrence. -/
theorem occ_first {T p : List UInt8} {y : Nat} (hy : y ∈ occL T p) (h : ∀ j, j < y → j ∉ occL T p) : (occL T p).getD 0 0 = y := by
  have hp := occL_asc T p
  cases hl : occL T p with
  | nil => rw [hl] at hy; simp at hy
  | cons a r =>
    rw [hl] at hy h hp
    rcases List.mem_cons.1 hy with e | e
    · exact e.symm
    · have := (List.pairwise_cons.1 hp).1 y e
      exact absurd (List.mem_cons_self) (h a this)
/-- The search of the reference: within one position; over all. -/
def lonI (A B : List UInt8) (i : Nat) (s : Nat × Nat × Nat) : Nat → Nat × Nat × Nat
  | 0 => s
  | j + 1 => if (lonI A B i s j).1 < lcp (A.drop i) (B.drop j) then (lcp (A.drop i) (B.drop j), i, j) else lonI A B i s j
def lonF (A B : List UInt8) : Nat → Nat × Nat × Nat
  | 0 => (0, 0, 0)
  | i + 1 => lonI A B i (lonF A B i) B.length
theorem lonI_le (A B : List UInt8) (i : Nat) (s : Nat × Nat × Nat) (hs : s.1 ≤ A.length) : ∀ j, (lonI A B i s j).1 ≤ A.length
  | 0 => hs
  | j + 1 => by
    have h2 := (lcp_le (A.drop i) (B.drop j)).1
    rw [List.length_drop] at h2
    simp only [lonI]
    split
    · dsimp only; omega
    · exact lonI_le A B i s hs j
theorem lonF_le (A B : List UInt8) : ∀ i, (lonF A B i).1 ≤ A.length
  | 0 => Nat.zero_le _
  | i + 1 => lonI_le A B i _ (lonF_le A B i) _
theorem lonI_fact (A B : List UInt8) (i : Nat) (s : Nat × Nat × Nat) : ∀ j, (bstF A B i j ≤ s.1 ∧ lonI A B i s j = s) ∨ (s.1 < bstF A B i j ∧ ∃ y, y < j ∧ lonI A B i s j = (bstF A B i j, i, y) ∧ lcp (A.drop i) (B.drop y) = bstF A B i j ∧ ∀ k, k < y → lcp (A.drop i) (B.drop k) < bstF A B i j)
  | 0 => Or.inl ⟨Nat.zero_le _, rfl⟩
  | j + 1 => by
    simp only [lonI, bstF]
    rcases lonI_fact A B i s j with ⟨h1, h2⟩ | ⟨h1, y, h2, h3, h4, h5⟩
    · rw [h2]
      by_cases c : s.1 < lcp (A.drop i) (B.drop j)
      · rw [if_pos c]
        have e : max (bstF A B i j) (lcp (A.drop i) (B.drop j)) = lcp (A.drop i) (B.drop j) := by omega
        rw [e]
        refine Or.inr ⟨c, j, by omega, rfl, rfl, fun k hk => ?_⟩
        have := bst_ge A B i j k hk; omega
      · rw [if_neg c]
        exact Or.inl ⟨by omega, rfl⟩
    · rw [h3]
      by_cases c : bstF A B i j < lcp (A.drop i) (B.drop j)
      · rw [if_pos c]
        have e : max (bstF A B i j) (lcp (A.drop i) (B.drop j)) = lcp (A.drop i) (B.drop j) := by omega
        rw [e]
        refine Or.inr ⟨by omega, j, by omega, rfl, rfl, fun k hk => ?_⟩
        have := bst_ge A B i j k hk; omega
      · rw [if_neg c]
        have e : max (bstF A B i j) (lcp (A.drop i) (B.drop j)) = bstF A B i j := by omega
        rw [e]
        exact Or.inr ⟨h1, y, by omega, rfl, h4, h5⟩
theorem lonF_fact (A B : List UInt8) : ∀ i, (lonF A B i).1 = (lgF A B i).1 ∧ (lonF A B i).2.1 = (lgF A B i).2 ∧ ((lgF A B i).1 = 0 ∧ (lonF A B i).2.2 = 0 ∨ (lgF A B i).1 ≠ 0 ∧ (lonF A B i).2.2 < B.length ∧ lcp (A.drop (lgF A B i).2) (B.drop (lonF A B i).2.2) = (lgF A B i).1 ∧ ∀ k, k < (lonF A B i).2.2 → lcp (A.drop (lgF A B i).2) (B.drop k) < (lgF A B i).1)
  | 0 => ⟨rfl, rfl, Or.inl ⟨rfl, rfl⟩⟩
  | i + 1 => by
    obtain ⟨a1, a2, a3⟩ := lonF_fact A B i
    simp only [lonF, lgF]
    rcases lonI_fact A B i (lonF A B i) B.length with ⟨h1, h2⟩ | ⟨h1, y, h2, h3, h4, h5⟩
    · rw [h2, if_neg (by omega)]
      exact ⟨a1, a2, a3⟩
    · rw [h3, if_pos (by omega)]
      refine ⟨rfl, rfl, Or.inr ⟨by dsimp only; omega, h2, h4, h5⟩⟩
/-- What Common answers of two texts: the third number is the first occurrence. -/
def comY (A B : List UInt8) : Nat := if (lgF A B A.length).1 = 0 then 0 else (occL B ((A.drop (lgF A B A.length).2).take (lgF A B A.length).1)).getD 0 0
theorem com_lon (A B : List UInt8) : lonF A B A.length = ((lgF A B A.length).1, (lgF A B A.length).2, comY A B) := by
  obtain ⟨a1, a2, a3⟩ := lonF_fact A B A.length
  have htop := lg_top A B (k := A.length) (Nat.le_refl _)
  have hy : (lonF A B A.length).2.2 = comY A B := by
    unfold comY
    rcases a3 with ⟨h1, h2⟩ | ⟨h1, h2, h3, h4⟩
    · rw [if_pos h1]; exact h2
    · rw [if_neg h1]
      refine (occ_first (occL_mem.2 ⟨h2, (pre_piece (by omega)).2 (by omega)⟩) (fun j hj hm => ?_)).symm
      have h5 := (pre_piece (B := B) (k := j) htop).1 (occL_mem.1 hm).2
      have := h4 j hj
      omega
  rw [← a1, ← a2, ← hy]

end Go.Proofs.Ytndmbjicflcpmaa
