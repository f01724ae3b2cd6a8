/- Layer 4: a cut is a refusal; a full flow has a schedule. Plain mathematics. -/
import Derived.Test.YtngcgienhdifaaaBnL
namespace Go.Proofs.Ytngcgienhdifaaa

/-- The pieces of one job in one span. -/
theorem Lay.fill {G : Grid} {N : Nat} {f : Nat → Nat → Nat} {s j : Nat} (hs : s < G.K) (hj : j < N) : ∀ (d u : Nat) (L : List Rc), upto f s (j + 1) - u ≤ d → u ≤ upto f s (j + 1) → Lay G N f s j u L → ∃ L', Lay G N f s (j + 1) (upto f s (j + 1)) L'
  | d, u, L, hd, hu, h => by
    rcases Nat.lt_or_ge u (upto f s (j + 1)) with c | c
    · have hl := G.pos s hs
      have hm := Nat.mod_lt u (by omega : 0 < G.ln s)
      rcases h.piece hs hj c rfl with k | ⟨e, k⟩
      · match d with
        | 0 => omega
        | d + 1 => exact Lay.fill hs hj d _ _ (by omega) (by omega) k
      · rw [e] at k; exact ⟨_, k⟩
    · obtain rfl : u = upto f s (j + 1) := by omega
      exact ⟨_, h.job rfl⟩
theorem Lay.row {G : Grid} {N : Nat} {f : Nat → Nat → Nat} {s : Nat} (hs : s < G.K) {L : List Rc} (h : Lay G N f s 0 0 L) : ∀ j, j ≤ N → ∃ L', Lay G N f s j (upto f s j) L'
  | 0, _ => ⟨L, h⟩
  | j + 1, hj => by
    obtain ⟨L', k⟩ := Lay.row hs h j (by omega)
    exact Lay.fill hs (by omega) _ _ _ (Nat.le_refl _) (by simp only [upto]; omega) k
theorem Lay.all {G : Grid} {N n : Nat} {f : Nat → Nat → Nat} (hN : N ≤ 32) (hn : n ≤ 8) (hcol : ∀ s, s < G.K → upto f s N ≤ n * G.ln s) : ∀ s, s ≤ G.K → ∃ L, Lay G N f s 0 0 L
  | 0, _ => ⟨[], Lay.nil G N f⟩
  | s + 1, hs => by
    obtain ⟨L, h⟩ := Lay.all hN hn hcol s (by omega)
    obtain ⟨L', k⟩ := Lay.row (by omega) h N (Nat.le_refl _)
    exact ⟨L', k.span hN (by omega) (hcol s (by omega)) hn⟩

/-- The spans between neighbouring times. -/
structure Times (G : Grid) (l : List Jb) (T : Nat → Int) : Prop where
  beg : ∀ s, s < G.K → G.at_ s = T s ∧ G.at_ s + G.ln s = T (s + 1)
  asc : ∀ s, s < G.K → T s < T (s + 1)
  has : ∀ j, j < l.length → (∃ a, a ≤ G.K ∧ T a = (jbA l j).1) ∧ ∃ b, b ≤ G.K ∧ T b = (jbA l j).2.1
theorem asc_le {K : Nat} {T : Nat → Int} (h : ∀ s, s < K → T s < T (s + 1)) {a : Nat} : ∀ b, a ≤ b → b ≤ K → T a ≤ T b
  | 0, h1, _ => by obtain rfl : a = 0 := by omega
                   exact Int.le_refl _
  | b + 1, h1, h2 => by
    rcases Nat.lt_or_ge b a with c | c
    · obtain rfl : a = b + 1 := by omega
      exact Int.le_refl _
    · have := asc_le h b c (by omega)
      have := h b (by omega)
      omega
theorem asc_lt {K : Nat} {T : Nat → Int} (h : ∀ s, s < K → T s < T (s + 1)) {a b : Nat} (h1 : a < b) (h2 : b ≤ K) : T a < T b := by
  have := asc_le h (a := a + 1) b (by omega) h2
  have := h a (by omega)
  omega
/-- How much of a span a job has: all or nothing. -/
theorem Times.all_or {G : Grid} {l : List Jb} {T : Nat → Int} (h : Times G l T) {j s : Nat} (hj : j < l.length) (hs : s < G.K) (hjb : (jbA l j).1 < (jbA l j).2.1) :
    (covG G l j s ∧ ovr (jbA l j).1 (jbA l j).2.1 (T s) (T (s + 1)) = G.ln s) ∨ (¬ covG G l j s ∧ ovr (jbA l j).1 (jbA l j).2.1 (T s) (T (s + 1)) = 0) := by
  obtain ⟨⟨a, ha, ea⟩, b, hb, eb⟩ := h.has j hj
  have h1 := h.beg s hs
  have hl := G.pos s hs
  have hA : T a ≤ T s ∨ T (s + 1) ≤ T a := by
    rcases Nat.lt_or_ge s a with c | c
    · exact Or.inr (asc_le h.asc a c ha)
    · exact Or.inl (asc_le h.asc s c (by omega))
  have hB : T b ≤ T s ∨ T (s + 1) ≤ T b := by
    rcases Nat.lt_or_ge s b with c | c
    · exact Or.inr (asc_le h.asc b c hb)
    · exact Or.inl (asc_le h.asc s c (by omega))
  unfold covG ovr
  omega
theorem ovr_tel (c d : Int) (hcd : c ≤ d) (T : Nat → Int) : ∀ K, (∀ s, s < K → T s < T (s + 1)) → smN (fun s => ovr c d (T s) (T (s + 1))) K = max c (min d (T K)) - max c (min d (T 0))
  | 0, _ => by simp only [smN]; omega
  | K + 1, h => by
    simp only [smN]
    rw [ovr_tel c d hcd T K (fun s hs => h s (by omega))]
    have := h K (by omega)
    unfold ovr
    omega
theorem Times.whole {G : Grid} {l : List Jb} {T : Nat → Int} (h : Times G l T) {j : Nat} (hj : j < l.length) (hjb : (jbA l j).1 < (jbA l j).2.1) :
    smN (fun s => ovr (jbA l j).1 (jbA l j).2.1 (T s) (T (s + 1))) G.K = (jbA l j).2.1 - (jbA l j).1 := by
  obtain ⟨⟨a, ha, ea⟩, b, hb, eb⟩ := h.has j hj
  rw [ovr_tel _ _ (by omega) T G.K h.asc]
  have := asc_le h.asc (a := 0) a (by omega) ha
  have := asc_le h.asc (a := b) G.K hb (Nat.le_refl _)
  omega

/-- The numbers below k that are wanted. -/
def pickN (A : Nat → Bool) (k : Nat) : List Nat := (List.range k).filter A
theorem pickN_succ (A : Nat → Bool) (k : Nat) : pickN A (k + 1) = if A k = true then pickN A k ++ [k] else pickN A k := by
  unfold pickN
  rw [List.range_succ, List.filter_append]
  split
  · rename_i h; rw [List.filter_cons_of_pos h]; rfl
  · rename_i h; rw [List.filter_cons_of_neg h]; simp
theorem lsum_pickN {α : Type} (A : Nat → Bool) (g : α → Int) (h : Nat → α) : ∀ k, lsum g ((pickN A k).map h) = smN (fun i => if A i = true then g (h i) else 0) k
  | 0 => rfl
  | k + 1 => by
    rw [pickN_succ]
    simp only [smN]
    split
    · rw [List.map_append, lsum_app, lsum_pickN A g h k]; simp [lsum]
    · rw [lsum_pickN A g h k]; omega
theorem mem_pickN {A : Nat → Bool} {k i : Nat} : i ∈ pickN A k ↔ i < k ∧ A i = true := by unfold pickN; simp
theorem pickN_asc (A : Nat → Bool) (k : Nat) : (pickN A k).Pairwise (· < ·) := List.Pairwise.filter A List.pairwise_lt_range
theorem pickN_len (A : Nat → Bool) (k : Nat) : (pickN A k).length ≤ k := by
  have := List.length_filter_le A (List.range k)
  simpa [pickN] using this

/-- What the greatest flow leaves. -/
structure CutF (G : Grid) (n : Nat) (l : List Jb) (f : Nat → Nat → Nat) (r0 : Nat → Nat) (A B : Nat → Bool) : Prop where
  row : ∀ j, j < l.length → smN (fun s => (f j s : Int)) G.K + r0 j = (jbA l j).2.2
  cov : ∀ j s, j < l.length → s < G.K → 1 ≤ f j s → covG G l j s
  full : ∀ j s, j < l.length → s < G.K → A j = true → B s = false → covG G l j s → f j s = G.ln s
  none : ∀ j s, j < l.length → s < G.K → A j = false → B s = true → f j s = 0
  col : ∀ s, s < G.K → B s = true → upto f s l.length = n * G.ln s
  left : ∃ j, j < l.length ∧ A j = true ∧ 1 ≤ r0 j
theorem upto_smN (f : Nat → Nat → Nat) (s : Nat) : ∀ k, ((upto f s k : Nat) : Int) = smN (fun j => (f j s : Int)) k
  | 0 => rfl
  | k + 1 => by simp only [upto, smN]; rw [← upto_smN f s k]; omega

theorem CutF.refuse {G : Grid} {n : Nat} {l : List Jb} {f : Nat → Nat → Nat} {r0 : Nat → Nat} {A B : Nat → Bool} (c : CutF G n l f r0 A B) {T : Nat → Int} (h : Times G l T) (hK : G.K ≤ 64) (hjb : ∀ j, j < l.length → 0 ≤ (jbA l j).1 ∧ (jbA l j).1 < (jbA l j).2.1 ∧ (jbA l j).2.1 ≤ 1048576)
    (hT : ∀ s, s ≤ G.K → 0 ≤ T s ∧ T s ≤ 1048576) : RefuseP n l ((pickN A l.length).map fun j : Nat => (j : Int)) ((pickN B G.K).map fun s => (T s, T (s + 1))) := by
  refine ⟨?_, ⟨?_, ?_⟩, ?_, ?_, ?_⟩
  · rw [List.length_map]; have := pickN_len B G.K; omega
  · intro p hp
    obtain ⟨s, hs, rfl⟩ := List.mem_map.1 hp
    obtain ⟨h1, -⟩ := mem_pickN.1 hs
    have := h.asc s h1
    have := hT s (by omega)
    have := hT (s + 1) (by omega)
    dsimp only; omega
  · refine List.pairwise_map.2 ((pickN_asc B G.K).imp_of_mem fun {s t} hs ht hlt => ?_)
    have h1 := (mem_pickN.1 ht).1
    exact asc_le h.asc t hlt (by omega)
  · intro j hj
    obtain ⟨i, hi, rfl⟩ := List.mem_map.1 hj
    have := (mem_pickN.1 hi).1
    omega
  · exact List.pairwise_map.2 ((pickN_asc A l.length).imp fun {a b} h => by omega)
  · unfold roomS
    rw [lsum_pickN, lsum_pickN, lsum_pickN]
    simp only [Int.toNat_natCast]
    -- what is done of the jobs that are reached
    have e1 : smN (fun i => if A i = true then (jbA l i).2.2 else 0) l.length = smN (fun i => if A i = true then (r0 i : Int) else 0) l.length + smN (fun i => smN (fun s => if A i = true then (f i s : Int) else 0) G.K) l.length := by
      rw [← smN_add]
      refine smN_congr _ fun i hi => ?_
      by_cases a : A i = true
      · simp only [if_pos a]; have := c.row i hi; omega
      · simp only [if_neg a]; rw [smN_zero]; rfl
    have e2 : smN (fun i => smN (fun s => if A i = true then (f i s : Int) else 0) G.K) l.length = smN (fun s => if B s = true then (n : Int) * (T (s + 1) - T s) else 0) G.K + smN (fun i => if A i = true then besS ((pickN B G.K).map fun s => (T s, T (s + 1))) (jbA l i) else 0) l.length := by
      have e3 : ∀ i, i < l.length → smN (fun s => if A i = true then (f i s : Int) else 0) G.K = smN (fun s => if A i = true ∧ B s = true then (f i s : Int) else 0) G.K + if A i = true then besS ((pickN B G.K).map fun s => (T s, T (s + 1))) (jbA l i) else 0 := fun i hi => by
        by_cases a : A i = true
        · simp only [if_pos a]
          unfold besS
          rw [← h.whole hi (hjb i hi).2.1, lsum_pickN]
          dsimp only
          have e4 : smN (fun s => ovr (jbA l i).1 (jbA l i).2.1 (T s) (T (s + 1))) G.K = smN (fun s => if B s = true then ovr (jbA l i).1 (jbA l i).2.1 (T s) (T (s + 1)) else 0) G.K + smN (fun s => if B s = true then 0 else (f i s : Int)) G.K := by
            rw [← smN_add]
            refine smN_congr _ fun s hs => ?_
            by_cases b : B s = true
            · simp [b]
            · simp only [if_neg b]
              rcases h.all_or hi hs (hjb i hi).2.1 with ⟨k1, k2⟩ | ⟨k1, k2⟩
              · rw [k2, c.full i s hi hs a (by simpa using b) k1]; omega
              · rw [k2]
                have : f i s = 0 := by
                  have := c.cov i s hi hs
                  rcases Nat.eq_zero_or_pos (f i s) with z | z
                  · exact z
                  · exact absurd (this z) k1
                rw [this]; rfl
          have e5 : smN (fun s => (f i s : Int)) G.K = smN (fun s => if A i = true ∧ B s = true then (f i s : Int) else 0) G.K + smN (fun s => if B s = true then 0 else (f i s : Int)) G.K := by
            rw [← smN_add]
            refine smN_congr _ fun s _ => ?_
            by_cases b : B s = true <;> simp [a, b]
          omega
        · simp only [a, false_and, if_false, Bool.false_eq_true]
          rw [smN_zero]; rfl
      rw [smN_congr _ e3, smN_add, smN_swap]
      congr 1
      refine smN_congr _ fun s hs => ?_
      by_cases b : B s = true
      · rw [if_pos b]
        have h1 := c.col s hs b
        have h2 := upto_smN f s l.length
        have h3 := h.beg s hs
        rw [show T (s + 1) - T s = (G.ln s : Int) by omega]
        rw [smN_congr (g := fun j => (f j s : Int)) _ (fun i hi => by
          by_cases a : A i = true
          · simp [a, b]
          · rw [c.none i s hi hs (by simpa using a) b]; simp), ← h2, h1]
        exact Int.natCast_mul _ _
      · rw [if_neg b]
        rw [smN_congr (g := fun _ => 0) _ (fun i _ => by simp [b]), smN_zero]
    have e6 : 1 ≤ smN (fun i => if A i = true then (r0 i : Int) else 0) l.length := by
      obtain ⟨j, hj, ha, hr⟩ := c.left
      have := smN_ge_one (f := fun i => if A i = true then (r0 i : Int) else 0) l.length j (fun i _ => by show (0 : Int) ≤ if A i = true then (r0 i : Int) else 0; split <;> omega) hj
      simp only [if_pos ha] at this
      omega
    rw [e1, e2]
    omega

/-- A flow of all the work has a schedule. -/
theorem full_sched {G : Grid} {n : Nat} {l : List Jb} {f : Nat → Nat → Nat} (hK : G.K ≤ 64) (hN : l.length ≤ 32) (hn : n ≤ 8) (hcov : ∀ j s, j < l.length → s < G.K → 1 ≤ f j s → covG G l j s)
    (hle : ∀ j s, j < l.length → s < G.K → f j s ≤ G.ln s) (hcol : ∀ s, s < G.K → upto f s l.length ≤ n * G.ln s) (hrow : ∀ j, j < l.length → smN (fun s => (f j s : Int)) G.K = (jbA l j).2.2) : ∃ s, SchedP n l s := by
  obtain ⟨L, h⟩ := Lay.all hN hn hcol G.K (Nat.le_refl _)
  exact ⟨_, h.sched hK hcov hle hcol hrow⟩

end Go.Proofs.Ytngcgienhdifaaa
