/- Layer 7: turning and restoring are inverse to each other. -/
import Derived.Test.YtndmbjicflcpmaaFdX
namespace Go.Proofs.Ytndmbjicflcpmaa

/-- Every row, by its suffix, the empty one too. -/
structure Rows (T : List UInt8) (l : List Nat) : Prop where
  perm : l.Perm (List.range (T.length + 1))
  asc : ∀ r r', r < r' → r' < T.length + 1 → ltS (T.drop (l.getD r 0)) (T.drop (l.getD r' 0)) = true
section
variable {T : List UInt8} {l : List Nat}
theorem Rows.len (h : Rows T l) : l.length = T.length + 1 := by rw [h.perm.length_eq, List.length_range]
theorem Rows.nodup (h : Rows T l) : l.Nodup := h.perm.nodup_iff.2 List.nodup_range
theorem Rows.lt (h : Rows T l) {r : Nat} (hr : r < T.length + 1) : l.getD r 0 < T.length + 1 := List.mem_range.1 (h.perm.mem_iff.1 (getD_mem (by rw [h.len]; exact hr)))
theorem Rows.row (h : Rows T l) {k : Nat} (hk : k < T.length + 1) : l.idxOf k < T.length + 1 ∧ l.getD (l.idxOf k) 0 = k := by
  have h1 := List.idxOf_lt_length_of_mem (h.perm.mem_iff.2 (List.mem_range.2 hk))
  refine ⟨by rw [← h.len]; exact h1, ?_⟩
  rw [List.getD_eq_getElem?_getD, List.getElem?_eq_getElem h1]; simp
theorem Rows.of (h : Rows T l) {r : Nat} (hr : r < T.length + 1) : l.idxOf (l.getD r 0) = r := by
  have hl : r < l.length := by rw [h.len]; exact hr
  rw [List.getD_eq_getElem?_getD, List.getElem?_eq_getElem hl]
  exact h.nodup.idxOf_getElem r hl
theorem Rows.rlt (h : Rows T l) {a b : Nat} (ha : a < T.length + 1) (hb : b < T.length + 1) (hl : ltS (T.drop a) (T.drop b) = true) : l.idxOf a < l.idxOf b := by
  obtain ⟨a1, a2⟩ := h.row ha
  obtain ⟨b1, b2⟩ := h.row hb
  rcases Nat.lt_trichotomy (l.idxOf a) (l.idxOf b) with c | c | c
  · exact c
  · rw [← c, a2] at b2; subst b2; rw [ltS_irr] at hl; cases hl
  · have := h.asc _ _ c a1
    rw [a2, b2, ltS_as hl] at this; cases this
theorem rows_of {o : List Nat} (h : IsOrd T o) : Rows T (T.length :: o) := by
  refine ⟨?_, fun r r' hrr hr' => ?_⟩
  · rw [List.range_succ]
    exact (List.Perm.cons _ h.perm).trans (List.perm_append_comm (l₁ := [T.length]))
  · cases r' with
    | zero => omega
    | succ r' =>
      have e2 : (T.length :: o).getD (r' + 1) 0 = o.getD r' 0 := rfl
      rw [e2]
      cases r with
      | zero =>
        have e1 : (T.length :: o).getD 0 0 = T.length := rfl
        rw [e1, List.drop_length]
        have h1 := h.getD_lt (p := r') (by omega)
        cases hd : T.drop (o.getD r' 0) with
        | nil => have := congrArg List.length hd; rw [List.length_drop, List.length_nil] at this; omega
        | cons a x => rfl
      | succ r =>
        have e1 : (T.length :: o).getD (r + 1) 0 = o.getD r 0 := rfl
        rw [e1]
        exact h.at_lt (by omega) (by rw [h.len]; omega)
theorem Rows.order (h : Rows T l) : ∃ o, l = T.length :: o ∧ IsOrd T o := by
  have h0 := h.row (k := T.length) (by omega)
  have hz : l.idxOf T.length = 0 := by
    rcases Nat.eq_zero_or_pos (l.idxOf T.length) with e | e
    · exact e
    · have := h.asc 0 (l.idxOf T.length) e h0.1
      rw [h0.2, List.drop_length, ltS_nil] at this; cases this
  cases l with
  | nil => have := h.len; simp at this
  | cons a o =>
    rw [hz] at h0
    obtain rfl : a = T.length := h0.2
    refine ⟨o, rfl, ?_, ?_⟩
    · have hp := h.perm
      rw [List.range_succ] at hp
      exact (List.perm_cons T.length).1 (hp.trans (List.perm_append_comm (l₂ := [T.length])))
    · have hl := h.len
      rw [List.length_cons] at hl
      refine List.pairwise_iff_getElem.2 (fun i j hi hj hij => ?_)
      have := h.asc (i + 1) (j + 1) (by omega) (by omega)
      have e1 : (T.length :: o).getD (i + 1) 0 = o[i] := by show o.getD i 0 = _; rw [List.getD_eq_getElem?_getD, List.getElem?_eq_getElem hi]; rfl
      have e2 : (T.length :: o).getD (j + 1) 0 = o[j] := by show o.getD j 0 = _; rw [List.getD_eq_getElem?_getD, List.getElem?_eq_getElem hj]; rfl
      rwa [e1, e2] at this
/-- The rank of the byte ahead of a row's suffix. -/
def lastT (T : List UInt8) (l : List Nat) (r : Nat) : Nat := if l.getD r 0 = 0 then 0 else (T.getD (l.getD r 0 - 1) 0).toNat + 1
/-- What has been turned out of the first k rows; z is the row of the whole text. -/
theorem tur_part (T : List UInt8) (l : List Nat) (z : Nat) (hz : ∀ r, l.getD r 0 = 0 → r < l.length → r = z) (hz2 : l.getD z 0 = 0) : ∀ k, k ≤ l.length →
    (turF T l k).1.length = (if k ≤ z then k else k - 1) ∧ (z < k → (turF T l k).2 = z) ∧ ∀ r, r < k → r ≠ z → (turF T l k).1.getD (if r < z then r else r - 1) 0 = T.getD (l.getD r 0 - 1) 0
  | 0, _ => ⟨by simp [turF], fun h => by omega, fun r hr => by omega⟩
  | k + 1, hk => by
    obtain ⟨a1, a2, a3⟩ := tur_part T l z hz hz2 k (by omega)
    simp only [turF]
    by_cases h0 : l.getD k 0 = 0
    · obtain rfl := hz k h0 (by omega)
      rw [if_pos h0]
      rw [if_pos (Nat.le_refl _)] at a1
      refine ⟨?_, fun _ => a1, fun r hr hne => a3 r (by omega) hne⟩
      dsimp only
      rw [if_neg (by omega), a1]; omega
    · have hkz : k ≠ z := fun e => h0 (by rw [e]; exact hz2)
      rw [if_neg h0]
      refine ⟨?_, fun h => a2 (by omega), fun r hr hne => ?_⟩
      · dsimp only
        rw [List.length_append, List.length_singleton, a1]
        split <;> split <;> omega
      · dsimp only
        by_cases e : r = k
        · subst e
          have hx : (if r < z then r else r - 1) = (turF T l r).1.length := by rw [a1]; split <;> split <;> omega
          rw [hx, List.getD_eq_getElem?_getD, List.getElem?_append_right (Nat.le_refl _)]; simp
        · rw [List.getD_eq_getElem?_getD, List.getElem?_append_left (by rw [a1]; split <;> split <;> omega), ← List.getD_eq_getElem?_getD]
          exact a3 r (by omega) hne
theorem Rows.turned (h : Rows T l) : (turF T l (T.length + 1)).1.length = T.length ∧ (turF T l (T.length + 1)).2 = l.idxOf 0 ∧ ∀ r, r < T.length + 1 → lastF (turF T l (T.length + 1)).1 (l.idxOf 0) r = lastT T l r := by
  obtain ⟨z1, z2⟩ := h.row (k := 0) (by omega)
  have hz : ∀ r, l.getD r 0 = 0 → r < l.length → r = l.idxOf 0 := fun r hr hl => by
    rw [← hr]; exact (h.of (by rw [← h.len]; exact hl)).symm
  obtain ⟨a1, a2, a3⟩ := tur_part T l (l.idxOf 0) hz z2 (T.length + 1) (by rw [h.len]; exact Nat.le_refl _)
  rw [if_neg (by omega)] at a1
  refine ⟨by omega, a2 z1, fun r hr => ?_⟩
  unfold lastF lastT
  by_cases e : r = l.idxOf 0
  · rw [e, z2, if_neg (by omega), if_neg (by omega), if_pos rfl]
  · have hr0 : l.getD r 0 ≠ 0 := fun c => e (hz r c (by rw [h.len]; exact hr))
    have h3 := a3 r hr e
    rw [if_neg hr0]
    by_cases c : r < l.idxOf 0
    · rw [if_pos c] at h3 ⊢; rw [h3]
    · rw [if_neg c] at h3 ⊢
      rw [if_pos (by omega), h3]
end

end Go.Proofs.Ytndmbjicflcpmaa
