/- Layer 7: how far a suffix begins as another one. -/
import Derived.Test.YtndmbjicflcpmaaFdM1
namespace Go.Proofs.Ytndmbjicflcpmaa

/-- The greatest overlap of a suffix with any of the first k other ones. -/
def mxF (T : List UInt8) (at_ : Nat) : Nat → Nat
  | 0 => 0
  | k + 1 => if k = at_ then mxF T at_ k else max (mxF T at_ k) (lcp (T.drop at_) (T.drop k))
def lovN (T : List UInt8) (o : List Nat) (n p : Nat) : Nat := if p + 1 = n then ovL T o p else max (ovL T o p) (ovL T o (p + 1))
/-- The greatest overlap with another suffix. -/
def MaxP (T : List UInt8) (a m n : Nat) : Prop := (∀ k, k < n → k ≠ a → lcp (T.drop a) (T.drop k) ≤ m) ∧ (m = 0 ∨ ∃ k, k < n ∧ k ≠ a ∧ lcp (T.drop a) (T.drop k) = m)
theorem MaxP.one {T : List UInt8} {a m m' n : Nat} (h : MaxP T a m n) (h' : MaxP T a m' n) : m = m' := by
  have h1 : m ≤ m' := by
    rcases h.2 with e | ⟨k, h1, h2, h3⟩
    · omega
    · rw [← h3]; exact h'.1 k h1 h2
  have h2 : m' ≤ m := by
    rcases h'.2 with e | ⟨k, h1, h2, h3⟩
    · omega
    · rw [← h3]; exact h.1 k h1 h2
  omega
theorem mxF_max (T : List UInt8) (a : Nat) : ∀ n, MaxP T a (mxF T a n) n
  | 0 => ⟨fun k hk => by omega, Or.inl rfl⟩
  | n + 1 => by
    obtain ⟨h1, h2⟩ := mxF_max T a n
    simp only [mxF]
    split
    · rename_i e
      refine ⟨fun k hk hne => h1 k (by omega) hne, ?_⟩
      rcases h2 with e2 | ⟨k, a1, a2, a3⟩
      · exact Or.inl e2
      · exact Or.inr ⟨k, by omega, a2, a3⟩
    · rename_i hne
      refine ⟨fun k hk hka => ?_, ?_⟩
      · rcases Nat.eq_or_lt_of_le (show k ≤ n by omega) with e | e
        · subst e; omega
        · have := h1 k e hka; omega
      · by_cases c : mxF T a n ≤ lcp (T.drop a) (T.drop n)
        · exact Or.inr ⟨n, by omega, hne, by omega⟩
        · rcases h2 with e2 | ⟨k, a1, a2, a3⟩
          · omega
          · exact Or.inr ⟨k, by omega, a2, by omega⟩
/-- Places that are not neighbours overlap no more than neighbours. -/
theorem lcp_left {T : List UInt8} {o : List Nat} (h : IsOrd T o) {q p : Nat} (hqp : q < p) (hp : p < T.length) : lcp (T.drop (o.getD q 0)) (T.drop (o.getD p 0)) ≤ ovL T o p := by
  have e : ovL T o p = lcp (T.drop (o.getD (p - 1) 0)) (T.drop (o.getD p 0)) := by unfold ovL; rw [if_neg (by omega)]
  rw [e]
  rcases Nat.eq_or_lt_of_le (show q ≤ p - 1 by omega) with c | c
  · rw [c]; exact Nat.le_refl _
  · have h1 := h.at_lt (a := q) (b := p - 1) c (by rw [h.len]; omega)
    have h2 := h.at_lt (a := p - 1) (b := p) (by omega) (by rw [h.len]; omega)
    rw [lcp_three h1 h2]
    exact Nat.min_le_right _ _
theorem lcp_right {T : List UInt8} {o : List Nat} (h : IsOrd T o) {q p : Nat} (hqp : p < q) (hq : q < T.length) : lcp (T.drop (o.getD p 0)) (T.drop (o.getD q 0)) ≤ ovL T o (p + 1) := by
  have e : ovL T o (p + 1) = lcp (T.drop (o.getD p 0)) (T.drop (o.getD (p + 1) 0)) := by unfold ovL; rw [if_neg (by omega)]; rfl
  rw [e]
  rcases Nat.eq_or_lt_of_le (show p + 1 ≤ q by omega) with c | c
  · rw [c]; exact Nat.le_refl _
  · have h1 := h.at_lt (a := p) (b := p + 1) (by omega) (by rw [h.len]; omega)
    have h2 := h.at_lt (a := p + 1) (b := q) c (by rw [h.len]; omega)
    rw [lcp_three h1 h2]
    exact Nat.min_le_left _ _
theorem ovl_first (T : List UInt8) (o : List Nat) : ovL T o 0 = 0 := rfl
theorem lov_max {T : List UInt8} {o : List Nat} (h : IsOrd T o) {a : Nat} (ha : a < T.length) : MaxP T a (lovN T o T.length (o.idxOf a)) T.length := by
  obtain ⟨p1, p2⟩ := h.place ha
  generalize o.idxOf a = p at p1 p2
  have hcomm : ∀ k, lcp (T.drop a) (T.drop k) = lcp (T.drop k) (T.drop a) := fun k => lcp_comm _ _
  have hup : ovL T o p ≤ lovN T o T.length p ∧ (p + 1 < T.length → ovL T o (p + 1) ≤ lovN T o T.length p) := by
    unfold lovN
    split
    · exact ⟨Nat.le_refl _, fun c => by omega⟩
    · exact ⟨Nat.le_max_left _ _, fun _ => Nat.le_max_right _ _⟩
  refine ⟨fun k hk hka => ?_, ?_⟩
  · obtain ⟨q1, q2⟩ := h.place hk
    generalize o.idxOf k = q at q1 q2
    rcases Nat.lt_trichotomy q p with c | c | c
    · have := lcp_left h c p1
      rw [q2, p2, ← hcomm] at this
      omega
    · subst c; omega
    · have := lcp_right h c q1
      rw [q2, p2] at this
      have := hup.2 (by omega)
      omega
  · have hL : ovL T o p = 0 ∨ ∃ k, k < T.length ∧ k ≠ a ∧ lcp (T.drop a) (T.drop k) = ovL T o p := by
      by_cases hp0 : p = 0
      · subst hp0; exact Or.inl rfl
      · refine Or.inr ⟨o.getD (p - 1) 0, h.getD_lt (by omega), fun e => ?_, ?_⟩
        · have a1 := h.idx_getD (p := p - 1) (by omega)
          have a2 := h.idx_getD (p := p) p1
          rw [e, ← p2, a2] at a1; omega
        · have e : ovL T o p = lcp (T.drop (o.getD (p - 1) 0)) (T.drop (o.getD p 0)) := by unfold ovL; rw [if_neg hp0]
          rw [e, p2, hcomm]
    have hR : p + 1 < T.length → ∃ k, k < T.length ∧ k ≠ a ∧ lcp (T.drop a) (T.drop k) = ovL T o (p + 1) := fun c => by
      refine ⟨o.getD (p + 1) 0, h.getD_lt c, fun e => ?_, ?_⟩
      · have a1 := h.idx_getD (p := p + 1) c
        have a2 := h.idx_getD (p := p) p1
        rw [e, ← p2, a2] at a1; omega
      · have e : ovL T o (p + 1) = lcp (T.drop (o.getD p 0)) (T.drop (o.getD (p + 1) 0)) := by unfold ovL; rw [if_neg (by omega)]; rfl
        rw [e, p2]
    unfold lovN
    split
    · exact hL
    · have hR2 := hR (by omega)
      by_cases c : ovL T o p ≤ ovL T o (p + 1)
      · rw [Nat.max_eq_right c]; exact Or.inr hR2
      · rw [Nat.max_eq_left (by omega)]; exact hL
theorem lov_ref {T : List UInt8} {o : List Nat} (h : IsOrd T o) {a : Nat} (ha : a < T.length) : lovN T o T.length (o.idxOf a) = mxF T a T.length := (lov_max h ha).one (mxF_max T a T.length)
theorem MaxP.le {T : List UInt8} {a m : Nat} (h : MaxP T a m T.length) : m ≤ T.length - a := by
  rcases h.2 with e | ⟨k, _, _, h3⟩
  · omega
  · rw [← h3]
    have := (lcp_le (T.drop a) (T.drop k)).1
    rwa [List.length_drop] at this
/-- A string that begins at a, and is no longer than the overlap, occurs elsewhere. -/
theorem MaxP.twice {T : List UInt8} {a m l : Nat} (h : MaxP T a m T.length) (ha : a < T.length) (hl : 1 ≤ l) (hm : l ≤ m) : 2 ≤ occN T ((T.drop a).take l) := by
  rcases h.2 with e | ⟨k, h1, h2, h3⟩
  · omega
  · refine occ_two ha h1 (Ne.symm h2) ?_ (pre_take (by omega))
    rw [List.isPrefixOf_iff_prefix]; exact List.take_prefix _ _
theorem one_mem {l : List Nat} {a : Nat} (ha : a ∈ l) (hn : l.Nodup) (h : ∀ x ∈ l, x = a) : l.length = 1 := by
  match l, ha, hn, h with
  | [x], _, _, _ => rfl
  | x :: y :: r, _, hn, h =>
    have h1 := h x (by simp)
    have h2 := h y (by simp)
    rw [h1, h2] at hn
    simp at hn
theorem MaxP.once {T : List UInt8} {a m l : Nat} (h : MaxP T a m T.length) (ha : a < T.length) (hl : m < l) (hla : a + l ≤ T.length) : occN T ((T.drop a).take l) = 1 := by
  unfold occN
  rw [List.countP_eq_length_filter]
  refine one_mem (a := a) (List.mem_filter.2 ⟨List.mem_range.2 ha, ?_⟩) (List.Pairwise.sublist List.filter_sublist List.nodup_range) (fun k hk => ?_)
  · rw [List.isPrefixOf_iff_prefix]; exact List.take_prefix _ _
  · obtain ⟨h1, h2⟩ := List.mem_filter.1 hk
    rw [List.mem_range] at h1
    by_cases e : k = a
    · exact e
    · have h3 := h.1 k h1 e
      have h4 := (pre_lcp _ _).1 h2
      rw [List.length_take, List.length_drop] at h4
      have h5 : l ≤ lcp (T.drop a) (T.drop k) := by
        have hx := (lcp_take (T.drop k) ((T.drop a).take l) l).1 (by omega)
        refine (lcp_take _ _ _).2 ⟨by rw [List.length_drop]; omega, hx.1, ?_⟩
        rw [hx.2.2, List.take_take, Nat.min_self]
      omega

end Go.Proofs.Ytndmbjicflcpmaa
