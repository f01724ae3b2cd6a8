/- Layer 4: newPlan. -/
import Derived.Test.YtpnkpejnahhajaaGreatBc32
import Derived.Test.YtpnkpejnahhajaaGreatBc35
namespace Go.Proofs.YtpnkpejnahhajaaGreat
open Go.RowKit
set_option linter.unusedSimpArgs false

/-- A span, its length; whether a job may be worked on in it. -/
def spA (T : List Int) (s : Nat) : Int × Int := (spanL T).getD s (0, 0)
def lnA (T : List Int) (s : Nat) : Int := (spA T s).2 - (spA T s).1
def covA (l : List Jb) (T : List Int) (j s : Nat) : Prop := (jbA l j).1 ≤ (spA T s).1 ∧ (spA T s).2 ≤ (jbA l j).2.1
/-- How much room each arc has. -/
def capA (B : Int) (l : List Jb) (T : List Int) (n : Nat) (u v : Nat) : Int := if u = 0 then (jbA l (v - 2)).2.2 else if u < 2 + n then lnA T (v - 2 - n) else B * lnA T (u - 2 - n)
/-- The arcs of the first j jobs. -/
def arcs1 (l : List Jb) (T : List Int) (n K j : Nat) (u v : Nat) : Prop := (u = 0 ∧ 2 ≤ v ∧ v < 2 + j) ∨ (2 ≤ u ∧ u < 2 + j ∧ 2 + n ≤ v ∧ v < 2 + n + K ∧ covA l T (u - 2) (v - 2 - n))
/-- And those of job j to the first s spans. -/
def arcs2 (l : List Jb) (T : List Int) (n K j s : Nat) (u v : Nat) : Prop := arcs1 l T n K j u v ∨ (u = 0 ∧ v = 2 + j) ∨ (u = 2 + j ∧ 2 + n ≤ v ∧ v < 2 + n + s ∧ covA l T j (v - 2 - n))
/-- All of the jobs, and those of the first s spans to the sink. -/
def arcs3 (l : List Jb) (T : List Int) (n K s : Nat) (u v : Nat) : Prop := arcs1 l T n K n u v ∨ (2 + n ≤ u ∧ u < 2 + n + s ∧ v = 1)
theorem arcs_start (l : List Jb) (T : List Int) (n K : Nat) (u v : Nat) : False ↔ arcs1 l T n K 0 u v := by
  unfold arcs1
  constructor
  · exact False.elim
  · rintro (⟨h1, h2, h3⟩ | ⟨h1, h2, -⟩) <;> omega
theorem arcs_job (l : List Jb) (T : List Int) (n K j : Nat) (u v : Nat) : orD (arcs1 l T n K j) 0 (2 + j) u v ↔ arcs2 l T n K j 0 u v := by
  unfold orD arcs2
  constructor
  · rintro (h | h)
    · exact Or.inl h
    · exact Or.inr (Or.inl h)
  · rintro (h | h | h)
    · exact Or.inl h
    · exact Or.inr h
    · omega
theorem arcs_span (l : List Jb) (T : List Int) (n K j s : Nat) (hc : covA l T j s) (u v : Nat) : orD (arcs2 l T n K j s) (2 + j) (2 + n + s) u v ↔ arcs2 l T n K j (s + 1) u v := by
  unfold orD arcs2
  constructor
  · rintro ((h | h | ⟨h1, h2, h3, h4⟩) | ⟨h1, h2⟩)
    · exact Or.inl h
    · exact Or.inr (Or.inl h)
    · exact Or.inr (Or.inr ⟨h1, h2, by omega, h4⟩)
    · exact Or.inr (Or.inr ⟨h1, by omega, by omega, by rw [show v - 2 - n = s by omega]; exact hc⟩)
  · rintro (h | h | ⟨h1, h2, h3, h4⟩)
    · exact Or.inl (Or.inl h)
    · exact Or.inl (Or.inr (Or.inl h))
    · by_cases e : v = 2 + n + s
      · exact Or.inr ⟨h1, e⟩
      · exact Or.inl (Or.inr (Or.inr ⟨h1, h2, by omega, h4⟩))
theorem arcs_skip (l : List Jb) (T : List Int) (n K j s : Nat) (hc : ¬ covA l T j s) (u v : Nat) : arcs2 l T n K j s u v ↔ arcs2 l T n K j (s + 1) u v := by
  unfold arcs2
  constructor
  · rintro (h | h | ⟨h1, h2, h3, h4⟩)
    · exact Or.inl h
    · exact Or.inr (Or.inl h)
    · exact Or.inr (Or.inr ⟨h1, h2, by omega, h4⟩)
  · rintro (h | h | ⟨h1, h2, h3, h4⟩)
    · exact Or.inl h
    · exact Or.inr (Or.inl h)
    · by_cases e : v = 2 + n + s
      · rw [e, show 2 + n + s - 2 - n = s by omega] at h4; exact absurd h4 hc
      · exact Or.inr (Or.inr ⟨h1, h2, by omega, h4⟩)
theorem arcs_next (l : List Jb) (T : List Int) (n K j : Nat) (u v : Nat) : arcs2 l T n K j K u v ↔ arcs1 l T n K (j + 1) u v := by
  unfold arcs2 arcs1
  constructor
  · rintro ((⟨h1, h2, h3⟩ | ⟨h1, h2, h3, h4, h5⟩) | ⟨h1, h2⟩ | ⟨h1, h2, h3, h4⟩)
    · exact Or.inl ⟨h1, h2, by omega⟩
    · exact Or.inr ⟨h1, by omega, h3, h4, h5⟩
    · exact Or.inl ⟨h1, by omega, by omega⟩
    · exact Or.inr ⟨by omega, by omega, h2, h3, by rw [h1, show 2 + j - 2 = j by omega]; exact h4⟩
  · rintro (⟨h1, h2, h3⟩ | ⟨h1, h2, h3, h4, h5⟩)
    · by_cases e : v = 2 + j
      · exact Or.inr (Or.inl ⟨h1, e⟩)
      · exact Or.inl (Or.inl ⟨h1, h2, by omega⟩)
    · by_cases e : u = 2 + j
      · exact Or.inr (Or.inr ⟨e, h3, h4, by rw [e, show 2 + j - 2 = j by omega] at h5; exact h5⟩)
      · exact Or.inl (Or.inr ⟨h1, by omega, h3, h4, h5⟩)
theorem arcs_last (l : List Jb) (T : List Int) (n K : Nat) (u v : Nat) : arcs1 l T n K n u v ↔ arcs3 l T n K 0 u v := by
  unfold arcs3
  constructor
  · exact Or.inl
  · rintro (h | h)
    · exact h
    · omega
theorem arcs_sink (l : List Jb) (T : List Int) (n K s : Nat) (u v : Nat) : orD (arcs3 l T n K s) (2 + n + s) 1 u v ↔ arcs3 l T n K (s + 1) u v := by
  unfold orD arcs3
  constructor
  · rintro ((h | ⟨h1, h2, h3⟩) | ⟨h1, h2⟩)
    · exact Or.inl h
    · exact Or.inr ⟨h1, by omega, h3⟩
    · exact Or.inr ⟨by omega, by omega, h2⟩
  · rintro (h | ⟨h1, h2, h3⟩)
    · exact Or.inl (Or.inl h)
    · by_cases e : u = 2 + n + s
      · exact Or.inr ⟨e, h3⟩
      · exact Or.inl (Or.inr ⟨h1, by omega, h3⟩)

/-- The work of jobs. -/
def workL : List Jb → Int
  | [] => 0
  | j :: r => j.2.2 + workL r
theorem workL_app (a b : List Jb) : workL (a ++ b) = workL a + workL b := by
  induction a with
  | nil => simp [workL]
  | cons x r ih => simp only [List.cons_append, workL, ih]; omega
theorem workL_bd {l : List Jb} (h : ∀ j ∈ l, 1 ≤ j.2.2 ∧ j.2.2 ≤ 1048576) : (l.length : Int) ≤ workL l ∧ workL l ≤ 1048576 * l.length := by
  induction l with
  | nil => simp [workL]
  | cons x r ih =>
    have h1 := ih (fun j hj => h j (List.mem_cons_of_mem _ hj))
    have h2 := h x List.mem_cons_self
    simp only [workL, List.length_cons]; omega

/-- What newPlan asks of the jobs: they may be too late to be ready. -/
def JobsP (l : List Jb) : Prop := ∀ j ∈ l, (0 ≤ j.1 ∧ j.1 ≤ 4194304) ∧ (0 ≤ j.2.1 ∧ j.2.1 ≤ 4194304) ∧ 1 ≤ j.2.2 ∧ j.2.2 ≤ 1048576
theorem tms_bd {l : List Jb} (h : JobsP l) : ∀ x ∈ tms l, 0 ≤ x ∧ x ≤ 4194304 := fun x hx => by
  have hx' := (timesL_mem (tmL l) x).1 hx
  obtain ⟨j, hj, hxj⟩ := List.mem_flatMap.1 hx'
  have := h j hj
  simp at hxj
  omega
theorem spA_at {T : List Int} {s : Nat} (h : s < T.length - 1) : spA T s = (T.getD s 0, T.getD (s + 1) 0) := by
  unfold spA spanL
  simp [List.getD_eq_getElem?_getD, h]
theorem spA_out {T : List Int} {s : Nat} (h : ¬ s < T.length - 1) : spA T s = (0, 0) := by
  unfold spA
  rw [List.getD_eq_getElem?_getD, List.getElem?_eq_none (by rw [spanL_len]; omega)]
  rfl
theorem lnA_bd {l : List Jb} (h : JobsP l) (s : Nat) : 0 ≤ lnA (tms l) s ∧ lnA (tms l) s ≤ 4194304 := by
  unfold lnA
  by_cases hs : s < (tms l).length - 1
  · rw [spA_at hs]
    dsimp only
    have h1 : s < (tms l).length := by omega
    have h2 : s + 1 < (tms l).length := by omega
    rw [List.getD_eq_getElem?_getD, List.getD_eq_getElem?_getD, List.getElem?_eq_getElem h1, List.getElem?_eq_getElem h2]
    have ha := List.pairwise_iff_getElem.1 (timesL_asc (tmL l)) s (s + 1) h1 h2 (by omega)
    have hb := tms_bd h _ (List.getElem_mem h1)
    have hc := tms_bd h _ (List.getElem_mem h2)
    simp only [Option.getD_some]
    change (tms l)[s] < (tms l)[s + 1] at ha
    omega
  · rw [spA_out hs]; simp
theorem jbA_bd {l : List Jb} (h : JobsP l) (j : Nat) : 0 ≤ (jbA l j).2.2 ∧ (jbA l j).2.2 ≤ 1048576 := by
  unfold jbA
  rcases Nat.lt_or_ge j l.length with c | c
  · rw [List.getD_eq_getElem?_getD, List.getElem?_eq_getElem c]
    have := h _ (List.getElem_mem c)
    simp only [Option.getD_some]; omega
  · rw [List.getD_eq_getElem?_getD, List.getElem?_eq_none c]; simp
theorem capA_bd {l : List Jb} (h : JobsP l) {B : Int} (hB : 0 ≤ B ∧ B ≤ 8) (n u v : Nat) : 0 ≤ capA B l (tms l) n u v ∧ capA B l (tms l) n u v ≤ 549755813888 := by
  unfold capA
  have h1 := jbA_bd h (v - 2)
  have h2 := lnA_bd h (v - 2 - n)
  have h3 := lnA_bd h (u - 2 - n)
  have m1 : B * lnA (tms l) (u - 2 - n) ≤ 8 * 4194304 := Int.mul_le_mul hB.2 h3.2 h3.1 (by omega)
  have m2 : 0 ≤ B * lnA (tms l) (u - 2 - n) := Int.mul_nonneg hB.1 h3.1
  split
  · omega
  · split <;> omega

end Go.Proofs.YtpnkpejnahhajaaGreat
