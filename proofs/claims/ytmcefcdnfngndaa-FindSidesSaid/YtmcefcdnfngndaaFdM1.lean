/- Layer 7: the sum of the overlaps, their maximum, strings that occur twice. -/
import Derived.Test.YtmcefcdnfngndaaFdU
namespace Go.Proofs.Ytmcefcdnfngndaa

def sumV (T : List UInt8) (o : List Nat) : Nat → Nat
  | 0 => 0
  | k + 1 => sumV T o k + ovL T o k
def mstV (T : List UInt8) (o : List Nat) : Nat → Nat
  | 0 => 0
  | k + 1 => max (mstV T o k) (ovL T o k)
theorem mst_rep (T : List UInt8) (o : List Nat) : ∀ k, mstV T o k = (repF T o k).1
  | 0 => rfl
  | k + 1 => by
    simp only [mstV, repF, mst_rep T o k]
    split
    · dsimp only; omega
    · omega
theorem sumV_zero (T : List UInt8) (o : List Nat) : ∀ k, mstV T o k = 0 → sumV T o k = 0
  | 0, _ => rfl
  | k + 1, h => by
    simp only [mstV] at h
    simp only [sumV]
    have := sumV_zero T o k (by omega)
    omega
def gapN (n : Nat) (l : List Nat) : Nat → Nat
  | 0 => 0
  | k + 1 => gapN n l k + (n - l.getD k 0)
theorem dst_sum {T : List UInt8} {o : List Nat} (h : IsOrd T o) : ∀ k, k ≤ T.length → dstN T o k + sumV T o k = gapN T.length o k
  | 0, _ => rfl
  | k + 1, hk => by
    have h1 := dst_sum h k (by omega)
    have h2 := ovL_top h (p := k) (by omega)
    simp only [dstN, sumV, gapN]
    omega
theorem gap_take (n : Nat) (l : List Nat) : ∀ k, k ≤ l.length → gapN n l k = ((l.take k).map fun x => n - x).sum
  | 0, _ => by simp [gapN]
  | k + 1, hk => by
    rw [gapN, gap_take n l k (by omega), List.take_succ_eq_append_getElem (by omega), List.map_append, List.sum_append]
    simp [List.getD_eq_getElem?_getD, List.getElem?_eq_getElem (show k < l.length by omega)]
theorem gap_range (n : Nat) : ∀ m, m ≤ n → 2 * (((List.range m).map fun x => n - x).sum) + m * m = m * (2 * n + 1)
  | 0, _ => by simp
  | m + 1, hm => by
    have h := gap_range n m (by omega)
    rw [List.range_succ, List.map_append, List.sum_append]
    simp only [List.map_cons, List.map_nil, List.sum_cons, List.sum_nil, Nat.add_zero]
    generalize ((List.range m).map fun x => n - x).sum = S at h ⊢
    obtain ⟨d, rfl⟩ : ∃ d, n = m + d := ⟨n - m, by omega⟩
    have e : m + d - m = d := by omega
    rw [e]
    have : (m + 1) * (m + 1) = m * m + 2 * m + 1 := by rw [Nat.add_mul, Nat.mul_add]; omega
    have : (m + 1) * (2 * (m + d) + 1) = m * (2 * (m + d) + 1) + (2 * (m + d) + 1) := by rw [Nat.add_mul, Nat.one_mul]
    omega
theorem perm_sum {l m : List Nat} (h : l.Perm m) (f : Nat → Nat) : (l.map f).sum = (m.map f).sum := (h.map f).sum_nat
theorem gap_all {T : List UInt8} {o : List Nat} (h : IsOrd T o) : 2 * gapN T.length o T.length = T.length * (T.length + 1) := by
  rw [gap_take _ _ _ (by rw [h.len]; exact Nat.le_refl _), List.take_of_length_le (by rw [h.len]; exact Nat.le_refl _), perm_sum h.perm]
  have := gap_range T.length T.length (Nat.le_refl _)
  rw [Nat.mul_add T.length T.length 1]
  rw [Nat.mul_add, Nat.mul_left_comm] at this
  omega
theorem two_mem {l : List Nat} {i k : Nat} (hi : i ∈ l) (hk : k ∈ l) (h : i ≠ k) : 2 ≤ l.length := by
  match l, hi, hk with
  | [x], hi, hk =>
    rw [List.mem_singleton] at hi hk
    omega
  | x :: y :: r, _, _ => simp
theorem occ_two {T p : List UInt8} {i k : Nat} (hi : i < T.length) (hk : k < T.length) (h : i ≠ k) (h1 : p.isPrefixOf (T.drop i) = true) (h2 : p.isPrefixOf (T.drop k) = true) : 2 ≤ occN T p := by
  unfold occN
  rw [List.countP_eq_length_filter]
  exact two_mem (List.mem_filter.2 ⟨List.mem_range.2 hi, h1⟩) (List.mem_filter.2 ⟨List.mem_range.2 hk, h2⟩) h
theorem pre_take {x y : List UInt8} {m : Nat} (h : m ≤ lcp x y) : (x.take m).isPrefixOf y = true := by
  have h1 := (lcp_take x y m).1 h
  rw [h1.2.2]
  rw [List.isPrefixOf_iff_prefix]; exact List.take_prefix _ _
/-- Where the longest overlap stands. -/
theorem rep_place (T : List UInt8) (o : List Nat) : ∀ k, (repF T o k).1 ≠ 0 → ∃ p, p < k ∧ ovL T o p = (repF T o k).1 ∧ o.getD p 0 = (repF T o k).2
  | 0, h => absurd rfl h
  | k + 1, h => by
    simp only [repF] at h ⊢
    split
    · exact ⟨k, by omega, rfl, rfl⟩
    · rename_i c; rw [if_neg c] at h
      obtain ⟨p, h1, h2, h3⟩ := rep_place T o k h
      exact ⟨p, by omega, h2, h3⟩
theorem rep_twice {T : List UInt8} {o : List Nat} (h : IsOrd T o) {k : Nat} (hk : k ≤ T.length) (h0 : (repF T o k).1 ≠ 0) : 2 ≤ occN T ((T.drop (repF T o k).2).take (repF T o k).1) := by
  obtain ⟨p, h1, h2, h3⟩ := rep_place T o k h0
  have hp0 : p ≠ 0 := fun e => by rw [← h2, e] at h0; exact h0 rfl
  have e1 : ovL T o p = lcp (T.drop (o.getD (p - 1) 0)) (T.drop (o.getD p 0)) := by unfold ovL; rw [if_neg hp0]
  rw [← h2, ← h3]
  have a1 := h.idx_getD (p := p) (by omega)
  have a2 := h.idx_getD (p := p - 1) (by omega)
  refine occ_two (h.getD_lt (p := p) (by omega)) (h.getD_lt (p := p - 1) (by omega)) (fun e => by rw [← e, a1] at a2; omega) ?_ ?_
  · rw [List.isPrefixOf_iff_prefix]; exact List.take_prefix _ _
  · refine pre_take ?_
    rw [e1, lcp_comm]; exact Nat.le_refl _
theorem bts_piece (s : ByteArray) {a l : Nat} (h : a + l ≤ s.size) : bts (s.extract a (a + l)) = ((bts s).drop a).take l ∧ (s.extract a (a + l)).size = l := by
  refine ⟨?_, by rw [ByteArray.size_extract]; omega⟩
  rw [bts_slice, List.take_drop]

end Go.Proofs.Ytmcefcdnfngndaa
