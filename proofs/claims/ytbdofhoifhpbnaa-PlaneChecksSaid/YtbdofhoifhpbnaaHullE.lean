/- Hulls: a linear function is greatest at a corner, and so is a distance. Plain mathematics. -/
import Derived.Test.YtbdofhoifhpbnaaHullD
namespace Go.Proofs.Ytbdofhoifhpbnaa
open Go.RowKit

/-- A point above a way that falls off to below: not beyond both ends. -/
theorem top_btw {α β : Int} {a b q : Int × Int} (hβ : β ≤ 0) (h1 : lt2 a q) (h2 : lt2 q b) (h0 : 0 ≤ cr a b q) :
    α * q.1 + β * q.2 ≤ α * a.1 + β * a.2 ∨ α * q.1 + β * q.2 ≤ α * b.1 + β * b.2 := by
  have ux : 0 ≤ q.1 - a.1 := by unfold lt2 at h1; omega
  have wx : q.1 - a.1 ≤ b.1 - a.1 := by unfold lt2 at h2; omega
  have ef : ∀ z : Int × Int, α * z.1 + β * z.2 = (α * a.1 + β * a.2) + (α * (z.1 - a.1) + β * (z.2 - a.2)) := fun z => by grind
  rw [ef q, ef b]
  generalize hF : α * a.1 + β * a.2 = F
  suffices h : α * (q.1 - a.1) + β * (q.2 - a.2) ≤ 0 ∨ α * (q.1 - a.1) + β * (q.2 - a.2) ≤ α * (b.1 - a.1) + β * (b.2 - a.2) by omega
  have hc : 0 ≤ (b.1 - a.1) * (q.2 - a.2) - (b.2 - a.2) * (q.1 - a.1) := by unfold cr crs at h0; exact h0
  have hu : q.1 - a.1 = 0 → 0 < q.2 - a.2 := fun h => by unfold lt2 at h1; omega
  generalize q.1 - a.1 = u at *
  generalize q.2 - a.2 = u' at *
  generalize b.1 - a.1 = v at *
  generalize b.2 - a.2 = v' at *
  rcases Int.lt_or_eq_of_le (show 0 ≤ v by omega) with hv | hv
  · have k1 : v * (α * u + β * u') ≤ u * (α * v + β * v') := by
      have := Int.mul_nonpos_of_nonpos_of_nonneg hβ hc
      have e : v * (α * u + β * u') - u * (α * v + β * v') = β * (v * u' - v' * u) := by grind
      omega
    rcases Int.le_total (α * v + β * v') 0 with k | k
    · left
      have := Int.mul_nonpos_of_nonneg_of_nonpos ux k
      rcases Int.lt_or_le 0 (α * u + β * u') with j | j
      · have := Int.mul_pos hv j; omega
      · exact j
    · right
      have k2 := Int.mul_le_mul_of_nonneg_right wx k
      exact Int.le_of_mul_le_mul_left (by omega : v * (α * u + β * u') ≤ v * (α * v + β * v')) hv
  · left
    have h0 : u = 0 := by omega
    have := hu h0
    rw [h0, Int.mul_zero, Int.zero_add]
    exact Int.mul_nonpos_of_nonpos_of_nonneg hβ (by omega)
theorem FC.top {Q : Int × Int → Prop} {α β : Int} (hβ : β ≤ 0) {M : Int × Int} : ∀ (L : List (Int × Int)) (a q : Int × Int), FC Q (a :: L) → (a :: L).getLast? = some M → Q q → (q = a ∨ lt2 a q) → (q = M ∨ lt2 q M) → ∃ x ∈ a :: L, α * q.1 + β * q.2 ≤ α * x.1 + β * x.2
  | [], a, q, _, e, _, h1, h2 => by
    obtain rfl : a = M := by simpa using e
    refine ⟨a, by simp, ?_⟩
    rcases h1 with h | h
    · rw [h]; omega
    · rcases h2 with k | k
      · rw [k]; omega
      · exact (h.trans k).irr.elim
  | b :: r, a, q, h, e, hq, h1, h2 => by
    rcases h1 with h1 | h1
    · exact ⟨a, by simp, by rw [h1]; omega⟩
    · rcases lt2.tri q b with k | k | k
      · rcases top_btw (α := α) hβ h1 k (h.2.1 q hq) with j | j
        · exact ⟨a, by simp, j⟩
        · exact ⟨b, by simp, j⟩
      · exact ⟨b, by simp, by rw [k]; omega⟩
      · obtain ⟨x, hx, j⟩ := FC.top (α := α) hβ r b q h.2.2.2 (by simpa using e) hq (Or.inr k) h2
        exact ⟨x, List.mem_cons_of_mem _ hx, j⟩
/-- A linear function is nowhere greater than at a corner. -/
theorem corners_top (l : List (Int × Int)) (h1 : 1 ≤ l.length) (α β : Int) {q : Int × Int} (hq : q ∈ l) : ∃ x ∈ cornersL l, α * q.1 + β * q.2 ≤ α * x.1 + β * x.2 := by
  have hpos := sdL_pos l h1
  have hqs := (mem_sdL l q).2 hq
  by_cases h : (sdL l).length = 1
  · obtain ⟨m, hm⟩ := List.length_eq_one_iff.1 h
    have hc : cornersL l = [m] := by unfold cornersL; rw [if_pos h, hm]
    rw [hm] at hqs
    obtain rfl : q = m := by simpa using hqs
    rw [hc]; exact ⟨q, by simp, by omega⟩
  · obtain ⟨m, M, L, U, hH, e, e'⟩ := hul_of (sdL_rise l) (by omega)
    rw [corners_ring h e e']
    rcases Int.le_total β 0 with hb | hb
    · obtain ⟨x, hx, k⟩ := FC.top (α := α) hb L m q hH.fl hH.ll hqs (hH.lo q hqs) (hH.hi q hqs)
      exact ⟨x, (hH.mem x).2 (Or.inl hx), k⟩
    · have hl : (ng M :: U.map ng).getLast? = some (ng m) := by
        have : ng M :: U.map ng = (M :: U).map ng := rfl
        rw [this, List.getLast?_map, hH.lu]; rfl
      have c1 : ng q = ng M ∨ lt2 (ng M) (ng q) := by
        rcases hH.hi q hqs with k | k
        · exact Or.inl (by rw [k])
        · exact Or.inr (lt_ng.2 k)
      have c2 : ng q = ng m ∨ lt2 (ng q) (ng m) := by
        rcases hH.lo q hqs with k | k
        · exact Or.inl (by rw [k])
        · exact Or.inr (lt_ng.2 k)
      obtain ⟨x, hx, k⟩ := FC.top (Q := fun q => ng q ∈ sdL l) (α := -α) (β := -β) (by omega) (U.map ng) (ng M) (ng q) hH.fu hl (by show ng (ng q) ∈ sdL l; rw [ng_ng]; exact hqs) c1 c2
      have hx' : x ∈ (M :: U).map ng := hx
      obtain ⟨y, hy, rfl⟩ := List.mem_map.1 hx'
      refine ⟨y, (hH.mem y).2 (Or.inr hy), ?_⟩
      unfold ng at k
      simp only [Int.neg_mul_neg] at k
      exact k

/-- The greatest distance of two points of a list. -/
def IsMax (l : List (Int × Int)) (v : Int) : Prop := (∀ p ∈ l, ∀ q ∈ l, sqP p q ≤ v) ∧ ∃ p ∈ l, ∃ q ∈ l, v = sqP p q
theorem IsMax.unique {l : List (Int × Int)} {v w : Int} (h : IsMax l v) (k : IsMax l w) : v = w := by
  obtain ⟨h1, p, hp, q, hq, e⟩ := h
  obtain ⟨k1, p', hp', q', hq', e'⟩ := k
  have a := k1 p hp q hq
  have b := h1 p' hp' q' hq'
  omega
theorem max_corner {l : List (Int × Int)} (h1 : 1 ≤ l.length) {p q : Int × Int} (hp : p ∈ l) (hm : ∀ x ∈ l, sqP x q ≤ sqP p q) : p ∈ cornersL l := by
  obtain ⟨x, hx, k⟩ := corners_top l h1 (p.1 - q.1) (p.2 - q.2) hp
  have hxl := cornersL_mem l x hx
  have hle := hm x hxl
  have e : sqP x q = sqP x p + 2 * (((p.1 - q.1) * x.1 + (p.2 - q.2) * x.2) - ((p.1 - q.1) * p.1 + (p.2 - q.2) * p.2)) + sqP p q := by unfold sqP sqd; grind
  have : x = p := by
    by_cases hne : x = p
    · exact hne
    · have := sqP_pos hne; omega
  rw [← this]; exact hx
theorem max_corners {l : List (Int × Int)} (h1 : 1 ≤ l.length) {v w : Int} (hv : IsMax (cornersL l) v) (hw : IsMax l w) : v = w := by
  obtain ⟨k1, p, hp, q, hq, e⟩ := hw
  obtain ⟨g1, p', hp', q', hq', e'⟩ := hv
  have a : p ∈ cornersL l := max_corner h1 hp (fun x hx => by rw [← e]; exact k1 x hx q hq)
  have b : q ∈ cornersL l := max_corner h1 hq (fun x hx => by rw [sqP_symm q p, ← e, sqP_symm]; exact k1 p hp x hx)
  have c := g1 p a q b
  have d := k1 p' (cornersL_mem l p' hp') q' (cornersL_mem l q' hq')
  omega
/-- A running greatest over all pairs i < j. -/
theorem max_of {l : List (Int × Int)} {v : Int} (h1 : 1 ≤ l.length) (h0 : 0 ≤ v) (hle : ∀ i j, i < j → j < l.length → sqP (l.getD i (0, 0)) (l.getD j (0, 0)) ≤ v) (hat : v = 0 ∨ ∃ i j, i < l.length ∧ j < l.length ∧ v = sqP (l.getD i (0, 0)) (l.getD j (0, 0))) : IsMax l v := by
  have hself : ∀ p : Int × Int, sqP p p = 0 := fun p => by unfold sqP sqd; grind
  have hget : ∀ p ∈ l, ∃ i, i < l.length ∧ p = l.getD i (0, 0) := fun p hp => by
    obtain ⟨i, hi, e⟩ := List.mem_iff_getElem.1 hp
    exact ⟨i, hi, by rw [List.getD_eq_getElem?_getD, List.getElem?_eq_getElem hi]; exact e.symm⟩
  constructor
  · intro p hp q hq
    obtain ⟨i, hi, rfl⟩ := hget p hp
    obtain ⟨j, hj, rfl⟩ := hget q hq
    rcases Nat.lt_trichotomy i j with k | k | k
    · exact hle i j k hj
    · rw [k, hself]; exact h0
    · rw [sqP_symm]; exact hle j i k hi
  · rcases hat with k | ⟨i, j, hi, hj, e⟩
    · have hm : l.getD 0 (0, 0) ∈ l := List.mem_of_getElem? (getD_of (0, 0) (by omega))
      exact ⟨_, hm, _, hm, by rw [hself]; exact k⟩
    · exact ⟨_, List.mem_of_getElem? (getD_of (0, 0) hi), _, List.mem_of_getElem? (getD_of (0, 0) hj), e⟩
theorem wiJ_spec (cs : List (Int × Int)) (i : Nat) (a : Int) : ∀ j, a ≤ wiJ cs i a j ∧ (∀ t, t < j → sqP (cs.getD i (0, 0)) (cs.getD (i + 1 + t) (0, 0)) ≤ wiJ cs i a j) ∧ (wiJ cs i a j = a ∨ ∃ t, t < j ∧ wiJ cs i a j = sqP (cs.getD i (0, 0)) (cs.getD (i + 1 + t) (0, 0)))
  | 0 => ⟨Int.le_refl _, fun t h => by omega, Or.inl rfl⟩
  | j + 1 => by
    obtain ⟨h1, h2, h3⟩ := wiJ_spec cs i a j
    unfold wiJ
    refine ⟨by omega, fun t ht => ?_, ?_⟩
    · rcases Nat.lt_succ_iff_lt_or_eq.1 ht with k | rfl
      · have := h2 t k; omega
      · omega
    · rcases Int.le_total (sqP (cs.getD i (0, 0)) (cs.getD (i + 1 + j) (0, 0))) (wiJ cs i a j) with k | k
      · rw [Int.max_eq_left k]
        rcases h3 with e | ⟨t, ht, e⟩
        · exact Or.inl e
        · exact Or.inr ⟨t, by omega, e⟩
      · rw [Int.max_eq_right k]; exact Or.inr ⟨j, by omega, rfl⟩
theorem wiI_spec (cs : List (Int × Int)) : ∀ i, i ≤ cs.length → 0 ≤ wiI cs i ∧ (∀ s t, s < i → s < t → t < cs.length → sqP (cs.getD s (0, 0)) (cs.getD t (0, 0)) ≤ wiI cs i) ∧ (wiI cs i = 0 ∨ ∃ s t, s < cs.length ∧ t < cs.length ∧ wiI cs i = sqP (cs.getD s (0, 0)) (cs.getD t (0, 0)))
  | 0, _ => ⟨Int.le_refl _, fun s t h => by omega, Or.inl rfl⟩
  | i + 1, hi => by
    obtain ⟨h1, h2, h3⟩ := wiI_spec cs i (by omega)
    obtain ⟨k1, k2, k3⟩ := wiJ_spec cs i (wiI cs i) (cs.length - (i + 1))
    unfold wiI
    refine ⟨by omega, fun s t hs hst ht => ?_, ?_⟩
    · rcases Nat.lt_succ_iff_lt_or_eq.1 hs with k | rfl
      · have := h2 s t k hst ht; omega
      · have := k2 (t - (s + 1)) (by omega)
        rw [show s + 1 + (t - (s + 1)) = t by omega] at this; exact this
    · rcases k3 with e | ⟨t, ht, e⟩
      · rcases h3 with e2 | ⟨s, t, hs, ht, e2⟩
        · exact Or.inl (e.trans e2)
        · exact Or.inr ⟨s, t, hs, ht, e.trans e2⟩
      · exact Or.inr ⟨i, i + 1 + t, by omega, by omega, e⟩
theorem widest_max {cs : List (Int × Int)} (h : 1 ≤ cs.length) : IsMax cs (widestL cs) := by
  obtain ⟨h1, h2, h3⟩ := wiI_spec cs cs.length (Nat.le_refl _)
  exact max_of h h1 (fun i j hij hj => h2 i j (by omega) hij hj) h3
/-- The reference's. -/
def rwJ (l : List (Int × Int)) (i : Nat) (a : Int) : Nat → Int
  | 0 => a
  | j + 1 => max (rwJ l i a j) (sqP (l.getD i (0, 0)) (l.getD j (0, 0)))
def rwI (l : List (Int × Int)) : Nat → Int
  | 0 => 0
  | i + 1 => rwJ l i (rwI l i) i
theorem rwJ_spec (l : List (Int × Int)) (i : Nat) (a : Int) : ∀ j, a ≤ rwJ l i a j ∧ (∀ t, t < j → sqP (l.getD i (0, 0)) (l.getD t (0, 0)) ≤ rwJ l i a j) ∧ (rwJ l i a j = a ∨ ∃ t, t < j ∧ rwJ l i a j = sqP (l.getD i (0, 0)) (l.getD t (0, 0)))
  | 0 => ⟨Int.le_refl _, fun t h => by omega, Or.inl rfl⟩
  | j + 1 => by
    obtain ⟨h1, h2, h3⟩ := rwJ_spec l i a j
    unfold rwJ
    refine ⟨by omega, fun t ht => ?_, ?_⟩
    · rcases Nat.lt_succ_iff_lt_or_eq.1 ht with k | rfl
      · have := h2 t k; omega
      · omega
    · rcases Int.le_total (sqP (l.getD i (0, 0)) (l.getD j (0, 0))) (rwJ l i a j) with k | k
      · rw [Int.max_eq_left k]
        rcases h3 with e | ⟨t, ht, e⟩
        · exact Or.inl e
        · exact Or.inr ⟨t, by omega, e⟩
      · rw [Int.max_eq_right k]; exact Or.inr ⟨j, by omega, rfl⟩
theorem rwI_spec (l : List (Int × Int)) : ∀ i, i ≤ l.length → 0 ≤ rwI l i ∧ (∀ s t, s < i → t < s → sqP (l.getD s (0, 0)) (l.getD t (0, 0)) ≤ rwI l i) ∧ (rwI l i = 0 ∨ ∃ s t, s < l.length ∧ t < l.length ∧ rwI l i = sqP (l.getD s (0, 0)) (l.getD t (0, 0)))
  | 0, _ => ⟨Int.le_refl _, fun s t h => by omega, Or.inl rfl⟩
  | i + 1, hi => by
    obtain ⟨h1, h2, h3⟩ := rwI_spec l i (by omega)
    obtain ⟨k1, k2, k3⟩ := rwJ_spec l i (rwI l i) i
    unfold rwI
    refine ⟨by omega, fun s t hs hst => ?_, ?_⟩
    · rcases Nat.lt_succ_iff_lt_or_eq.1 hs with k | rfl
      · have := h2 s t k hst; omega
      · exact k2 t hst
    · rcases k3 with e | ⟨t, ht, e⟩
      · rcases h3 with e2 | ⟨s, t, hs, ht, e2⟩
        · exact Or.inl (e.trans e2)
        · exact Or.inr ⟨s, t, hs, ht, e.trans e2⟩
      · exact Or.inr ⟨i, t, by omega, by omega, e⟩
theorem rw_max {l : List (Int × Int)} (h : 1 ≤ l.length) : IsMax l (rwI l l.length) := by
  obtain ⟨h1, h2, h3⟩ := rwI_spec l l.length (Nat.le_refl _)
  exact max_of h h1 (fun i j hij hj => by rw [sqP_symm]; exact h2 j i hj hij) h3
/-- The greatest distance of all points is that of the corners. -/
theorem widest_eq {l : List (Int × Int)} (h : 1 ≤ l.length) : widestL (cornersL l) = rwI l l.length :=
  max_corners h (widest_max (cornersL_len l h).1) (rw_max h)
theorem rwJ_bd {l : List (Int × Int)} (h : Cos l) (i : Nat) {a : Int} (ha : 0 ≤ a ∧ a ≤ 134217728) : ∀ j, 0 ≤ rwJ l i a j ∧ rwJ l i a j ≤ 134217728
  | 0 => ha
  | j + 1 => by
    have h1 := rwJ_bd h i ha j
    have h2 := sqP_bd (h i) (h j)
    unfold rwJ; omega
theorem rwI_bd {l : List (Int × Int)} (h : Cos l) : ∀ i, 0 ≤ rwI l i ∧ rwI l i ≤ 134217728
  | 0 => by simp [rwI]
  | i + 1 => rwJ_bd h i (rwI_bd h i) _

/-- The least distance of the pairs in D, and of some pair. -/
def MinOn (l : List (Int × Int)) (D : Nat → Nat → Prop) (v : Int) : Prop :=
  (∀ i j, i < j → j < l.length → D i j → v ≤ sqP (l.getD i (0, 0)) (l.getD j (0, 0))) ∧ ∃ i j, i < j ∧ j < l.length ∧ v = sqP (l.getD i (0, 0)) (l.getD j (0, 0))
theorem MinOn.unique {l : List (Int × Int)} {v w : Int} (h : MinOn l (fun _ _ => True) v) (k : MinOn l (fun _ _ => True) w) : v = w := by
  obtain ⟨h1, i, j, hij, hj, e⟩ := h
  obtain ⟨k1, i', j', hij', hj', e'⟩ := k
  have a := k1 i j hij hj trivial
  have b := h1 i' j' hij' hj' trivial
  omega
theorem MinOn.imp {l : List (Int × Int)} {D D' : Nat → Nat → Prop} {v : Int} (h : MinOn l D v) (hd : ∀ i j, i < j → j < l.length → D' i j → D i j) : MinOn l D' v :=
  ⟨fun i j h1 h2 h3 => h.1 i j h1 h2 (hd i j h1 h2 h3), h.2⟩
theorem MinOn.step {l : List (Int × Int)} {D D' : Nat → Nat → Prop} {v : Int} {i j : Nat} (h : MinOn l D v) (hij : i < j) (hj : j < l.length) (hd : ∀ i' j', D' i' j' → D i' j' ∨ (i' = i ∧ j' = j)) : MinOn l D' (min v (sqP (l.getD i (0, 0)) (l.getD j (0, 0)))) := by
  constructor
  · intro i' j' h1 h2 h3
    rcases hd i' j' h3 with k | ⟨rfl, rfl⟩
    · have := h.1 i' j' h1 h2 k; omega
    · omega
  · rcases Int.le_total v (sqP (l.getD i (0, 0)) (l.getD j (0, 0))) with k | k
    · rw [Int.min_eq_left k]; exact h.2
    · rw [Int.min_eq_right k]; exact ⟨i, j, hij, hj, rfl⟩
theorem MinOn.bd {l : List (Int × Int)} {D : Nat → Nat → Prop} {v : Int} (h : MinOn l D v) (hc : Cos l) : 0 ≤ v ∧ v ≤ 134217728 := by
  obtain ⟨-, i, j, -, -, e⟩ := h
  rw [e]; exact sqP_bd (hc i) (hc j)

end Go.Proofs.Ytbdofhoifhpbnaa
