/- Layer 7: the least of the longest strings that occur twice. -/
import Derived.Test.YtndmbjicflcpmaaFdM8
namespace Go.Proofs.Ytndmbjicflcpmaa

/-- The reference's search. -/
def repI (T : List UInt8) (i : Nat) (b : List UInt8) : Nat → List UInt8
  | 0 => b
  | k + 1 => if (repI T i b k).length < lcp (T.drop i) (T.drop k) ∨ (lcp (T.drop i) (T.drop k) = (repI T i b k).length ∧ ltS ((T.drop i).take (lcp (T.drop i) (T.drop k))) (repI T i b k) = true) then (T.drop i).take (lcp (T.drop i) (T.drop k)) else repI T i b k
def repO (T : List UInt8) : Nat → List UInt8
  | 0 => []
  | i + 1 => repI T i (repO T i) i
/-- The best of the pairs that S holds. -/
structure BestS (T : List UInt8) (S : Nat → Nat → Prop) (b : List UInt8) : Prop where
  top : ∀ i k, S i k → lcp (T.drop i) (T.drop k) ≤ b.length ∧ (lcp (T.drop i) (T.drop k) = b.length → ltS ((T.drop i).take b.length) b = false)
  is : b = [] ∨ ∃ i k, S i k ∧ lcp (T.drop i) (T.drop k) = b.length ∧ b = (T.drop i).take b.length
theorem BestS.step {T : List UInt8} {S : Nat → Nat → Prop} {b : List UInt8} (h : BestS T S b) (i k : Nat) :
    BestS T (fun x y => S x y ∨ (x = i ∧ y = k)) (if b.length < lcp (T.drop i) (T.drop k) ∨ (lcp (T.drop i) (T.drop k) = b.length ∧ ltS ((T.drop i).take (lcp (T.drop i) (T.drop k))) b = true) then (T.drop i).take (lcp (T.drop i) (T.drop k)) else b) := by
  have hl : ((T.drop i).take (lcp (T.drop i) (T.drop k))).length = lcp (T.drop i) (T.drop k) := by
    rw [List.length_take]
    have := (lcp_le (T.drop i) (T.drop k)).1
    omega
  split
  · rename_i c
    refine ⟨fun x y hxy => ?_, Or.inr ⟨i, k, Or.inr ⟨rfl, rfl⟩, hl.symm, by rw [hl]⟩⟩
    rw [hl]
    rcases hxy with hxy | ⟨rfl, rfl⟩
    · obtain ⟨h1, h2⟩ := h.top x y hxy
      rcases c with c | ⟨c1, c2⟩
      · exact ⟨by omega, fun e => by omega⟩
      · refine ⟨by omega, fun e => ?_⟩
        have h3 := h2 (by omega)
        rw [c1]
        rw [c1] at c2
        cases hx : ltS ((T.drop x).take b.length) ((T.drop i).take b.length) with
        | false => rfl
        | true => rw [ltS_tr hx c2] at h3; cases h3
    · exact ⟨Nat.le_refl _, fun _ => ltS_irr _⟩
  · rename_i c
    refine ⟨fun x y hxy => ?_, ?_⟩
    · rcases hxy with hxy | ⟨rfl, rfl⟩
      · exact h.top x y hxy
      · refine ⟨by omega, fun e => ?_⟩
        cases hx : ltS ((T.drop x).take b.length) b with
        | false => rfl
        | true => exact absurd (Or.inr ⟨e, by rw [e]; exact hx⟩) c
    · rcases h.is with e | ⟨x, y, h1, h2, h3⟩
      · exact Or.inl e
      · exact Or.inr ⟨x, y, Or.inl h1, h2, h3⟩
theorem BestS.same {T : List UInt8} {S S' : Nat → Nat → Prop} {b : List UInt8} (h : BestS T S b) (hs : ∀ i k, S i k ↔ S' i k) : BestS T S' b :=
  ⟨fun i k hik => h.top i k ((hs i k).2 hik), h.is.imp id (fun ⟨i, k, h1, h2⟩ => ⟨i, k, (hs i k).1 h1, h2⟩)⟩
theorem repI_best {T : List UInt8} {i : Nat} {b : List UInt8} (h : BestS T (fun x y => x < i ∧ y < x) b) : ∀ k, BestS T (fun x y => (x < i ∧ y < x) ∨ (x = i ∧ y < k)) (repI T i b k)
  | 0 => h.same (fun x y => by show _ ↔ _; omega)
  | k + 1 => ((repI_best h k).step i k).same (fun x y => by
      constructor
      · rintro ((h | h) | h)
        · exact Or.inl h
        · exact Or.inr (by omega)
        · exact Or.inr (by omega)
      · rintro (h | ⟨h1, h2⟩)
        · exact Or.inl (Or.inl h)
        · by_cases e : y = k
          · exact Or.inr ⟨h1, e⟩
          · exact Or.inl (Or.inr ⟨h1, by omega⟩))
theorem repO_best (T : List UInt8) : ∀ i, BestS T (fun x y => x < i ∧ y < x) (repO T i)
  | 0 => ⟨fun x y h => by omega, Or.inl rfl⟩
  | i + 1 => (repI_best (repO_best T i) i).same (fun x y => by
      constructor
      · rintro (h | h) <;> omega
      · intro h
        by_cases e : x = i
        · exact Or.inr (by omega)
        · exact Or.inl (by omega))
/-- The first place with the longest overlap. -/
theorem rep_first (T : List UInt8) (o : List Nat) : ∀ k, (repF T o k).1 ≠ 0 → ∃ p, p < k ∧ ovL T o p = (repF T o k).1 ∧ o.getD p 0 = (repF T o k).2 ∧ ∀ q, q < p → ovL T o q < (repF T o k).1
  | 0, h => absurd rfl h
  | k + 1, h => by
    have hmax : ∀ k q, q < k → ovL T o q ≤ (repF T o k).1 := fun k => by
      induction k with
      | zero => intro q hq; omega
      | succ k ih =>
        intro q hq
        simp only [repF]
        rcases Nat.eq_or_lt_of_le (show q ≤ k by omega) with e | e
        · subst e; split <;> (try dsimp only) <;> omega
        · have := ih q e; split <;> (try dsimp only) <;> omega
    simp only [repF] at h ⊢
    split
    · rename_i c
      exact ⟨k, by omega, rfl, rfl, fun q hq => by have := hmax k q hq; dsimp only; omega⟩
    · rename_i c; rw [if_neg c] at h
      obtain ⟨p, h1, h2, h3, h4⟩ := rep_first T o k h
      exact ⟨p, by omega, h2, h3, h4⟩
theorem rep_max (T : List UInt8) (o : List Nat) : ∀ k q, q < k → ovL T o q ≤ (repF T o k).1
  | 0, q, hq => by omega
  | k + 1, q, hq => by
    simp only [repF]
    rcases Nat.eq_or_lt_of_le (show q ≤ k by omega) with e | e
    · subst e; split <;> (try dsimp only) <;> omega
    · have := rep_max T o k q e; split <;> (try dsimp only) <;> omega
theorem ltS_take {x y : List UInt8} {L : Nat} (hx : L ≤ x.length) (hy : L ≤ y.length) (h : ltS (x.take L) (y.take L) = true) : ltS x y = true := by
  have hne : x.take L ≠ y.take L := fun e => by rw [e, ltS_irr] at h; cases h
  have := ltS_app_ne L (x.take L) (y.take L) (x.drop L) (y.drop L) hne (by rw [List.length_take]; omega) (by rw [List.length_take]; omega) (fun c => by rw [List.length_take] at c; omega) (fun c => by rw [List.length_take] at c; omega)
  rw [List.take_append_drop, List.take_append_drop] at this
  rw [this]; exact h
/-- Both searches find the same string. -/
theorem repeat_ref {T : List UInt8} {o : List Nat} (h : IsOrd T o) : repO T T.length = (T.drop (repF T o T.length).2).take (repF T o T.length).1 := by
  have hB := repO_best T T.length
  generalize repO T T.length = b at hB
  have hpair : ∀ q q', q < q' → q' < T.length → ∃ i k, (i < T.length ∧ k < i) ∧ lcp (T.drop i) (T.drop k) = lcp (T.drop (o.getD q 0)) (T.drop (o.getD q' 0)) ∧ (i = o.getD q 0 ∨ i = o.getD q' 0) := fun q q' h1 h2 => by
    have a1 := h.getD_lt (p := q) (by omega)
    have a2 := h.getD_lt (p := q') h2
    have hne : o.getD q 0 ≠ o.getD q' 0 := fun e => by
      have b1 := h.idx_getD (p := q) (by omega)
      have b2 := h.idx_getD (p := q') h2
      rw [e, b2] at b1; omega
    by_cases c : o.getD q 0 < o.getD q' 0
    · exact ⟨o.getD q' 0, o.getD q 0, ⟨a2, c⟩, lcp_comm _ _, Or.inr rfl⟩
    · exact ⟨o.getD q 0, o.getD q' 0, ⟨a1, by omega⟩, rfl, Or.inl rfl⟩
  have hplaces : ∀ i k, i < T.length → k < i → ∃ q q', q < q' ∧ q' < T.length ∧ lcp (T.drop i) (T.drop k) = lcp (T.drop (o.getD q 0)) (T.drop (o.getD q' 0)) ∧ (i = o.getD q 0 ∧ k = o.getD q' 0 ∨ i = o.getD q' 0 ∧ k = o.getD q 0) := fun i k hi hk => by
    obtain ⟨p1, p2⟩ := h.place hi
    obtain ⟨r1, r2⟩ := h.place (i := k) (by omega)
    rcases Nat.lt_trichotomy (o.idxOf i) (o.idxOf k) with c | c | c
    · exact ⟨_, _, c, r1, by rw [p2, r2], Or.inl ⟨p2.symm, r2.symm⟩⟩
    · rw [c, r2] at p2; omega
    · exact ⟨_, _, c, p1, by rw [p2, r2, lcp_comm], Or.inr ⟨p2.symm, r2.symm⟩⟩
  have hle : b.length ≤ (repF T o T.length).1 := by
    rcases hB.is with e | ⟨i, k, ⟨h1, h2⟩, h3, _⟩
    · rw [e]; exact Nat.zero_le _
    · obtain ⟨q, q', c1, c2, c3, _⟩ := hplaces i k h1 h2
      rw [← h3, c3]
      exact Nat.le_trans (lcp_left h c1 c2) (rep_max T o _ _ c2)
  by_cases h0 : (repF T o T.length).1 = 0
  · rw [h0, List.take_zero]
    exact List.eq_nil_of_length_eq_zero (by omega)
  · obtain ⟨p, p1, p2, p3, p4⟩ := rep_first T o T.length h0
    have hp0 : p ≠ 0 := fun e => by rw [← p2, e] at h0; exact h0 rfl
    have eo : ovL T o p = lcp (T.drop (o.getD (p - 1) 0)) (T.drop (o.getD p 0)) := by unfold ovL; rw [if_neg hp0]
    obtain ⟨i, k, hik, hl, hio⟩ := hpair (p - 1) p (by omega) p1
    rw [← eo, p2] at hl
    have htop := hB.top i k hik
    rw [hl] at htop
    have hlen : b.length = (repF T o T.length).1 := by omega
    -- the string of the first place
    have hc : (T.drop i).take b.length = (T.drop (repF T o T.length).2).take (repF T o T.length).1 := by
      rw [hlen, ← p3]
      rcases hio with e | e
      · have := (lcp_take (T.drop (o.getD (p - 1) 0)) (T.drop (o.getD p 0)) (repF T o T.length).1).1 (by rw [← eo, p2]; exact Nat.le_refl _)
        rw [e]; exact this.2.2
      · rw [e]
    have g1 := htop.2 hlen.symm
    rw [hc] at g1
    have htp := repF_top h T.length (Nat.le_refl _)
    rcases hB.is with e | ⟨x, y, ⟨h1, h2⟩, h3, h4⟩
    · rw [e] at hlen; simp at hlen; omega
    · obtain ⟨q, q', c1, c2, c3, c4⟩ := hplaces x y h1 h2
      have hq' : ovL T o q' = (repF T o T.length).1 := by
        have t1 := lcp_left h c1 c2
        have t2 := rep_max T o T.length q' c2
        omega
      have hpq : p ≤ q' := by
        rcases Nat.lt_or_ge q' p with d | d
        · have := p4 q' d; omega
        · exact d
      have hb' : b = (T.drop (o.getD q' 0)).take b.length := by
        rcases c4 with ⟨e1, e2⟩ | ⟨e1, e2⟩
        · have := (lcp_take (T.drop x) (T.drop y) b.length).1 (by omega)
          rw [← e2, ← this.2.2]; exact h4
        · rw [← e1]; exact h4
      have g2 : ltS b ((T.drop (repF T o T.length).2).take (repF T o T.length).1) = false := by
        cases hx : ltS b ((T.drop (repF T o T.length).2).take (repF T o T.length).1) with
        | false => rfl
        | true =>
          exfalso
          have hq't := ovL_top h c2
          rw [hb', hlen, ← p3] at hx
          have h5 := ltS_take (by rw [List.length_drop]; omega) (by rw [List.length_drop, p3]; omega) hx
          rcases Nat.eq_or_lt_of_le hpq with d | d
          · rw [d, ltS_irr] at h5; cases h5
          · have := h.at_lt d (by rw [h.len]; exact c2)
            rw [ltS_as h5] at this; cases this
      rcases ltS_tri b ((T.drop (repF T o T.length).2).take (repF T o T.length).1) with d | d | d
      · rw [d] at g2; cases g2
      · exact d
      · rw [d] at g1; cases g1

end Go.Proofs.Ytndmbjicflcpmaa
