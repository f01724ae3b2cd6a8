/- Layer 7: different strings counted in another order; the least of the longest. -/
import Derived.Test.YtndmbjicflcpmaaFdM2
namespace Go.Proofs.Ytndmbjicflcpmaa

theorem lcp_tri {x y z : List UInt8} {n : Nat} (h1 : n ≤ lcp x y) (h2 : n ≤ lcp y z) : n ≤ lcp x z := by
  have a := (lcp_take x y n).1 h1
  have b := (lcp_take y z n).1 h2
  exact (lcp_take _ _ _).2 ⟨a.1, b.2.1, a.2.2.trans b.2.2⟩
theorem lcp_ultra {x y z : List UInt8} (h : lcp x z < lcp x y) : lcp y z = lcp x z := by
  have h1 : lcp x z ≤ lcp y z := lcp_tri (x := y) (y := x) (z := z) (by have := lcp_comm y x; omega) (Nat.le_refl _)
  rcases Nat.eq_or_lt_of_le h1 with e | e
  · exact e.symm
  · have := lcp_tri (n := lcp x z + 1) (x := x) (y := y) (z := z) (by omega) (by omega)
    omega
/-- The greatest overlap with those of a list. -/
def mxO (T : List UInt8) (a : Nat) (s : List Nat) : Nat := s.foldr (fun k m => max m (lcp (T.drop a) (T.drop k))) 0
theorem mxO_ge (T : List UInt8) (a : Nat) : ∀ (s : List Nat) (k : Nat), k ∈ s → lcp (T.drop a) (T.drop k) ≤ mxO T a s
  | [], k, h => by simp at h
  | b :: s, k, h => by
    have e : mxO T a (b :: s) = max (mxO T a s) (lcp (T.drop a) (T.drop b)) := rfl
    rw [e]
    rcases List.mem_cons.1 h with h | h
    · rw [h]; omega
    · have := mxO_ge T a s k h; omega
theorem mxO_at (T : List UInt8) (a : Nat) : ∀ s : List Nat, mxO T a s = 0 ∨ ∃ k, k ∈ s ∧ lcp (T.drop a) (T.drop k) = mxO T a s
  | [] => Or.inl rfl
  | b :: s => by
    have e : mxO T a (b :: s) = max (mxO T a s) (lcp (T.drop a) (T.drop b)) := rfl
    rw [e]
    by_cases c : mxO T a s ≤ lcp (T.drop a) (T.drop b)
    · exact Or.inr ⟨b, List.mem_cons_self, by omega⟩
    · rcases mxO_at T a s with h | ⟨k, h1, h2⟩
      · omega
      · exact Or.inr ⟨k, List.mem_cons_of_mem _ h1, by omega⟩
theorem mxO_le {T : List UInt8} {a m : Nat} {s : List Nat} (h : ∀ k ∈ s, lcp (T.drop a) (T.drop k) ≤ m) : mxO T a s ≤ m := by
  rcases mxO_at T a s with e | ⟨k, h1, h2⟩
  · omega
  · rw [← h2]; exact h k h1
theorem mxO_same {T : List UInt8} {a : Nat} {s s' : List Nat} (h : ∀ k, k ∈ s ↔ k ∈ s') : mxO T a s = mxO T a s' :=
  Nat.le_antisymm (mxO_le fun k hk => mxO_ge T a s' k ((h k).1 hk)) (mxO_le fun k hk => mxO_ge T a s k ((h k).2 hk))
/-- What the positions of a list add, those of s having been counted. -/
def dS (T : List UInt8) : List Nat → List Nat → Nat
  | _, [] => 0
  | s, a :: r => (T.length - a - mxO T a s) + dS T (a :: s) r
theorem dS_same (T : List UInt8) : ∀ (r s s' : List Nat), (∀ k, k ∈ s ↔ k ∈ s') → dS T s r = dS T s' r
  | [], _, _, _ => rfl
  | a :: r, s, s', h => by
    simp only [dS]
    rw [mxO_same h, dS_same T r (a :: s) (a :: s') (fun k => by simp [h k])]
theorem mxO_top (T : List UInt8) (a : Nat) (s : List Nat) : mxO T a s ≤ T.length - a := mxO_le fun k _ => by
  have := (lcp_le (T.drop a) (T.drop k)).1
  rwa [List.length_drop] at this
theorem mx_low {T : List UInt8} {a b : Nat} {s : List Nat} (h : mxO T a s < lcp (T.drop a) (T.drop b)) : mxO T b s = mxO T a s := by
  have hk : ∀ k ∈ s, lcp (T.drop b) (T.drop k) = lcp (T.drop a) (T.drop k) := fun k hk => lcp_ultra (by have := mxO_ge T a s k hk; omega)
  exact Nat.le_antisymm (mxO_le fun k hs => by rw [hk k hs]; exact mxO_ge T a s k hs) (mxO_le fun k hs => by rw [← hk k hs]; exact mxO_ge T b s k hs)
theorem mx_swap (T : List UInt8) (a b : Nat) (s : List Nat) : mxO T a s + mxO T b (a :: s) = mxO T b s + mxO T a (b :: s) := by
  have e1 : mxO T b (a :: s) = max (mxO T b s) (lcp (T.drop b) (T.drop a)) := rfl
  have e2 : mxO T a (b :: s) = max (mxO T a s) (lcp (T.drop a) (T.drop b)) := rfl
  have hc : lcp (T.drop b) (T.drop a) = lcp (T.drop a) (T.drop b) := lcp_comm _ _
  rw [e1, e2, hc]
  by_cases c1 : mxO T a s < lcp (T.drop a) (T.drop b)
  · have := mx_low c1; omega
  · by_cases c2 : mxO T b s < lcp (T.drop b) (T.drop a)
    · have := mx_low c2; omega
    · omega
theorem dS_perm (T : List UInt8) {l l' : List Nat} (h : l.Perm l') : ∀ s, dS T s l = dS T s l' := by
  induction h with
  | nil => intro s; rfl
  | cons a _ ih => intro s; simp only [dS]; rw [ih]
  | swap a b r =>
    intro s
    simp only [dS]
    have h1 := mx_swap T a b s
    have t1 := mxO_top T a s
    have t2 := mxO_top T b s
    have t3 := mxO_top T b (a :: s)
    have t4 := mxO_top T a (b :: s)
    rw [dS_same T r (a :: b :: s) (b :: a :: s) (fun k => by simp; constructor <;> (rintro (h | h | h) <;> simp [h]))]
    omega
  | trans _ _ ih1 ih2 => intro s; rw [ih1, ih2]
theorem mxO_ord {T : List UInt8} {o : List Nat} (h : IsOrd T o) {k : Nat} (hk : k < T.length) : mxO T (o.getD k 0) (o.take k) = ovL T o k := by
  apply Nat.le_antisymm
  · refine mxO_le fun q hq => ?_
    obtain ⟨j, hj, rfl⟩ := List.mem_iff_getElem.1 hq
    rw [List.length_take] at hj
    have e : (o.take k)[j]'(by rw [List.length_take]; exact hj) = o.getD j 0 := by
      rw [List.getElem_take, List.getD_eq_getElem?_getD, List.getElem?_eq_getElem (by omega)]; rfl
    rw [e, lcp_comm]
    exact lcp_left h (by omega) hk
  · by_cases h0 : k = 0
    · subst h0; exact Nat.zero_le _
    · have e : ovL T o k = lcp (T.drop (o.getD (k - 1) 0)) (T.drop (o.getD k 0)) := by unfold ovL; rw [if_neg h0]
      rw [e, lcp_comm]
      refine mxO_ge T _ _ _ (List.mem_iff_getElem.2 ⟨k - 1, by rw [List.length_take, h.len]; omega, ?_⟩)
      rw [List.getElem_take, List.getD_eq_getElem?_getD, List.getElem?_eq_getElem (by rw [h.len]; omega)]; rfl
theorem dS_ord {T : List UInt8} {o : List Nat} (h : IsOrd T o) : ∀ k, k ≤ T.length → dstN T o k + dS T (o.take k) (o.drop k) = dS T [] o
  | 0, _ => by simp [dstN]
  | k + 1, hk => by
    have ih := dS_ord h k (by omega)
    have hkl : k < o.length := by rw [h.len]; omega
    rw [List.drop_eq_getElem_cons hkl] at ih
    have eg : o[k] = o.getD k 0 := by rw [List.getD_eq_getElem?_getD, List.getElem?_eq_getElem hkl]; rfl
    simp only [dS] at ih
    rw [eg, mxO_ord h (by omega)] at ih
    have e2 := dS_same T (o.drop (k + 1)) (o.getD k 0 :: o.take k) (o.take (k + 1)) (fun x => by
      rw [List.take_succ_eq_append_getElem hkl, eg]; simp [or_comm])
    rw [e2] at ih
    simp only [dstN]
    omega
/-- The reference's count. -/
def mxR (T : List UInt8) (i : Nat) : Nat → Nat
  | 0 => 0
  | j + 1 => max (mxR T i j) (lcp (T.drop i) (T.drop j))
def refD (T : List UInt8) : Nat → Nat
  | 0 => 0
  | k + 1 => refD T k + (T.length - k - mxR T k k)
theorem mxR_range (T : List UInt8) (i : Nat) : ∀ j, mxR T i j = mxO T i (List.range j)
  | 0 => rfl
  | j + 1 => by
    have e : mxO T i (List.range (j + 1)) = mxO T i (j :: List.range j) := mxO_same (fun k => by rw [List.range_succ]; simp [or_comm])
    rw [e]
    simp only [mxR]
    rw [mxR_range T i j]; rfl
theorem refD_dS (T : List UInt8) : ∀ k, k ≤ T.length → refD T k + dS T (List.range k) ((List.range T.length).drop k) = dS T [] (List.range T.length)
  | 0, _ => by simp [refD]
  | k + 1, hk => by
    have ih := refD_dS T k (by omega)
    have hkl : k < (List.range T.length).length := by rw [List.length_range]; omega
    rw [List.drop_eq_getElem_cons hkl, List.getElem_range] at ih
    simp only [dS] at ih
    rw [← mxR_range] at ih
    have e2 := dS_same T ((List.range T.length).drop (k + 1)) (k :: List.range k) (List.range (k + 1)) (fun x => by rw [List.range_succ]; simp [or_comm])
    rw [e2] at ih
    simp only [refD]
    omega
theorem distinct_ref {T : List UInt8} {o : List Nat} (h : IsOrd T o) : dstN T o T.length = refD T T.length := by
  have h1 := dS_ord h T.length (Nat.le_refl _)
  have h2 := refD_dS T T.length (Nat.le_refl _)
  rw [List.drop_of_length_le (by rw [h.len]; exact Nat.le_refl _)] at h1
  rw [List.drop_of_length_le (by rw [List.length_range]; exact Nat.le_refl _)] at h2
  simp only [dS] at h1 h2
  have := dS_perm T h.perm []
  omega
theorem mxR_top (T : List UInt8) (i j : Nat) : mxR T i j ≤ T.length - i := by rw [mxR_range]; exact mxO_top T i _
theorem refD_le (T : List UInt8) : ∀ k, refD T k ≤ k * T.length
  | 0 => by simp [refD]
  | k + 1 => by
    have := refD_le T k
    simp only [refD, Nat.add_mul, Nat.one_mul]; omega

end Go.Proofs.Ytndmbjicflcpmaa
