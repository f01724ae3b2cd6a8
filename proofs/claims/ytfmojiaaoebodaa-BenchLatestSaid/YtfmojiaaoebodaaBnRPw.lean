/- Layer 4: mathematics of the reference's push: work moves along the way that a search found.
Layer 4: the reference's with: a number goes into an ascending list.
Layer 4: the reference's cuts: all times of a task, ascending.
Layer 4: the reference's plan as it lies in memory.
Layer 4: a frame: only the blocks of a set are written. -/
import Derived.Test.YtfmojiaaoebodaaBnM
import Derived.Test.YtfmojiaaoebodaaBnLaw
namespace Go.Proofs.Ytfmojiaaoebodaa

/-- One cell of a table is set. -/
def updU (U : Nat → Nat → Int) (i k : Nat) (v : Int) : Nat → Nat → Int := fun j s => if j = i ∧ s = k then v else U j s
theorem smN_upd (g : Nat → Int) (k : Nat) (v : Int) : ∀ K, smN (fun s => if s = k then v else g s) K = smN g K + if k < K then v - g k else 0
  | 0 => by simp [smN]
  | K + 1 => by
    have ih := smN_upd g k v K
    simp only [smN]
    rw [ih]
    by_cases h1 : K = k
    · subst h1
      rw [if_pos rfl, if_neg (Nat.lt_irrefl _), if_pos (by omega)]; omega
    · rw [if_neg h1]
      by_cases h2 : k < K
      · rw [if_pos h2, if_pos (by omega)]; omega
      · rw [if_neg h2, if_neg (by omega)]; omega
/-- The sum of a row and of a column. -/
def rowU (U : Nat → Nat → Int) (K j : Nat) : Int := smN (fun s => U j s) K
def colU (U : Nat → Nat → Int) (N s : Nat) : Int := smN (fun j => U j s) N
theorem rowU_upd (U : Nat → Nat → Int) (i k : Nat) (v : Int) (K j : Nat) (hk : k < K) : rowU (updU U i k v) K j = rowU U K j + if j = i then v - U i k else 0 := by
  unfold rowU updU
  by_cases h : j = i
  · subst h
    simp only [true_and, if_true]
    rw [smN_upd, if_pos hk]
  · rw [if_neg h, Int.add_zero]
    exact smN_congr _ fun s _ => if_neg (fun e => h e.1)
theorem colU_upd (U : Nat → Nat → Int) (i k : Nat) (v : Int) (N s : Nat) (hi : i < N) : colU (updU U i k v) N s = colU U N s + if s = k then v - U i k else 0 := by
  unfold colU updU
  by_cases h : s = k
  · subst h
    simp only [and_true, if_true]
    rw [smN_upd, if_pos hi]
  · rw [if_neg h, Int.add_zero]
    exact smN_congr _ fun j _ => if_neg (fun e => h e.2)

/-- A way back from a span to the job, by which n more can flow. -/
inductive Way (U0 : Nat → Nat → Int) (ln : Nat → Int) (bya fra : Nat → Int) (job : Nat) (n : Int) : Nat → Prop
  | last (k : Nat) : bya k = (job : Int) → U0 job k + n ≤ ln k → Way U0 ln bya fra job n k
  | step (k i k' : Nat) : bya k = (i : Int) → i ≠ job → U0 i k + n ≤ ln k → fra i = (k' : Int) → n ≤ U0 i k' → Way U0 ln bya fra job n k' → Way U0 ln bya fra job n k

/-- What a search leaves: each reached span has its job, each reached job its span, ever earlier ones. -/
structure Sea (U : Nat → Nat → Int) (ln : Nat → Int) (cov : Nat → Nat → Prop) (N K job : Nat) (bya fra : Nat → Int) (rk : Nat → Nat) : Prop where
  jobN : job < N
  bys : ∀ k, k < K → 0 ≤ bya k → ∃ i : Nat, bya k = (i : Int) ∧ i < N ∧ cov i k ∧ U i k < ln k ∧ (i = job ∨ 0 ≤ fra i)
  frs : ∀ i, i < N → 0 ≤ fra i → i ≠ job ∧ ∃ k : Nat, fra i = (k : Int) ∧ k < K ∧ 0 ≤ bya k ∧ 0 < U i k ∧ rk (bya k).toNat < rk i
  nofr : fra job < 0

/-- How the table stands in the middle of a push: n more at the span where it ends, n less at the span where it stands. -/
structure Pu (U0 U : Nat → Nat → Int) (ln : Nat → Int) (cov : Nat → Nat → Prop) (N K : Nat) (n : Int) (bya : Nat → Int) (rk : Nat → Nat) (span k : Nat) : Prop where
  same : ∀ j s, rk j ≤ rk (bya k).toNat → U j s = U0 j s
  row : ∀ j, rowU U K j = rowU U0 K j
  col : ∀ s, colU U N s = colU U0 N s + (if s = span then n else 0) - (if s = k then n else 0)
  pos : ∀ j s, 0 ≤ U j s
  cap : ∀ j s, j < N → s < K → U j s ≤ ln s
  cov : ∀ j s, j < N → s < K → 0 < U j s → cov j s
section
variable {U0 U : Nat → Nat → Int} {ln : Nat → Int} {cov : Nat → Nat → Prop} {N K job span k : Nat} {n : Int} {bya fra : Nat → Int} {rk : Nat → Nat}
theorem Pu.start (hpos : ∀ j s, 0 ≤ U0 j s) (hcap : ∀ j s, j < N → s < K → U0 j s ≤ ln s) (hcov : ∀ j s, j < N → s < K → 0 < U0 j s → cov j s) : Pu U0 U0 ln cov N K n bya rk span span :=
  ⟨fun _ _ _ => rfl, fun _ => rfl, fun s => by split <;> omega, hpos, hcap, hcov⟩
/-- The last step: the job itself. -/
theorem Pu.done (h : Pu U0 U ln cov N K n bya rk span k) (hS : Sea U0 ln cov N K job bya fra rk) (hk : k < K) (hn : 0 ≤ n) (hb : bya k = (job : Int)) (hf : U0 job k + n ≤ ln k) :
    (∀ j, rowU (updU U job k (U job k + n)) K j = rowU U0 K j + if j = job then n else 0) ∧ (∀ s, colU (updU U job k (U job k + n)) N s = colU U0 N s + if s = span then n else 0) ∧
    (∀ j s, 0 ≤ updU U job k (U job k + n) j s) ∧ (∀ j s, j < N → s < K → updU U job k (U job k + n) j s ≤ ln s) ∧ (∀ j s, j < N → s < K → 0 < updU U job k (U job k + n) j s → cov j s) := by
  have hsame : U job k = U0 job k := h.same job k (by rw [hb]; simp)
  obtain ⟨i, e, hi, hc, _⟩ := hS.bys k hk (by rw [hb]; omega)
  obtain rfl : i = job := by omega
  refine ⟨fun j => ?_, fun s => ?_, fun j s => ?_, fun j s hj hs => ?_, fun j s hj hs hp => ?_⟩
  · rw [rowU_upd _ _ _ _ _ _ hk, h.row]; split <;> omega
  · rw [colU_upd _ _ _ _ _ _ hi, h.col]; split <;> split <;> omega
  · unfold updU; split
    · have := h.pos i k; omega
    · exact h.pos j s
  · unfold updU; split
    · rename_i e; rw [e.2, hsame]; exact hf
    · exact h.cap j s hj hs
  · by_cases e : j = i ∧ s = k
    · rw [e.1, e.2]; exact hc
    · unfold updU at hp; rw [if_neg e] at hp; exact h.cov j s hj hs hp
/-- A step: a job takes n more in the span and n less in the span from which it was reached. -/
theorem Pu.step (h : Pu U0 U ln cov N K n bya rk span k) (hS : Sea U0 ln cov N K job bya fra rk) (hk : k < K) (hn : 0 ≤ n) {i k' : Nat} (hi : i < N) (hb : bya k = (i : Int)) (hij : i ≠ job) (hf : U0 i k + n ≤ ln k) (hfr : fra i = (k' : Int)) (hle : n ≤ U0 i k') :
    k' < K ∧ k' ≠ k ∧ rk (bya k').toNat < rk i ∧ Pu U0 (updU (updU U i k (U i k + n)) i k' (U i k' - n)) ln cov N K n bya rk span k' := by
  obtain ⟨_, k2, e2, hk', hb', hu', hr'⟩ := hS.frs i hi (by omega)
  obtain rfl : k2 = k' := by omega
  obtain ⟨i2, e3, _, hc, hul, _⟩ := hS.bys k hk (by omega)
  obtain rfl : i2 = i := by omega
  have hne : k2 ≠ k := by rintro rfl; rw [hb] at hr'; simp at hr'
  have hs1 : U i2 k = U0 i2 k := h.same i2 k (by rw [hb]; simp)
  have hs2 : U i2 k2 = U0 i2 k2 := h.same i2 k2 (by rw [hb]; simp)
  have hu1 : updU U i2 k (U i2 k + n) i2 k2 = U i2 k2 := if_neg (fun e => hne e.2)
  refine ⟨hk', hne, hr', ?_, fun j => ?_, fun s => ?_, fun j s => ?_, fun j s hj hs => ?_, fun j s hj hs hp => ?_⟩
  · intro j s hj
    have hji : j ≠ i2 := by rintro rfl; omega
    unfold updU
    rw [if_neg (fun e => hji e.1), if_neg (fun e => hji e.1)]
    exact h.same j s (by rw [hb]; simp only [Int.toNat_natCast]; omega)
  · rw [rowU_upd _ _ _ _ _ _ hk', rowU_upd _ _ _ _ _ _ hk, h.row, hu1]; split <;> omega
  · rw [colU_upd _ _ _ _ _ _ hi, colU_upd _ _ _ _ _ _ hi, h.col, hu1]
    by_cases a : s = k2
    · subst a; rw [if_neg hne, if_pos rfl, if_neg hne, if_pos rfl]; omega
    · rw [if_neg a, if_neg a]; split <;> split <;> omega
  · by_cases a : j = i2 ∧ s = k2
    · unfold updU; rw [if_pos a]; omega
    · unfold updU; rw [if_neg a]; split
      · have := h.pos i2 k; omega
      · exact h.pos j s
  · by_cases a : j = i2 ∧ s = k2
    · unfold updU; rw [if_pos a, a.2]; have := h.cap i2 k2 hi hk'; omega
    · unfold updU; rw [if_neg a]; split
      · rename_i e; rw [e.2]; omega
      · exact h.cap j s hj hs
  · by_cases a : j = i2 ∧ s = k2
    · rw [a.1, a.2]; exact h.cov i2 k2 hi hk' (by omega)
    · by_cases e : j = i2 ∧ s = k
      · rw [e.1, e.2]; exact hc
      · unfold updU at hp; rw [if_neg a, if_neg e] at hp; exact h.cov j s hj hs hp
theorem Way.mono {m : Int} (h : Way U0 ln bya fra job n k) (hm : m ≤ n) : Way U0 ln bya fra job m k := by
  induction h with
  | last k a b => exact Way.last k a (by omega)
  | step k i k' a b c d e _ ih => exact Way.step k i k' a b (by omega) d (by omega) ih
end

theorem nodup_len : ∀ (N : Nat) (Q : List Nat), Q.Nodup → (∀ j ∈ Q, j < N) → Q.length ≤ N
  | 0, Q, _, h => by
    cases Q with
    | nil => simp
    | cons a r => exact absurd (h a (by simp)) (by omega)
  | N + 1, Q, hn, h => by
    have h1 := nodup_len N (Q.erase N) (hn.erase N) (fun j hj => by
      have h2 := (List.Nodup.mem_erase_iff hn).1 hj
      have := h j h2.2
      omega)
    rw [List.length_erase] at h1
    split at h1 <;> omega
/-- One entry of a row is set. -/
def updV (f : Nat → Int) (k : Nat) (v : Int) : Nat → Int := fun s => if s = k then v else f s
theorem updV_at (f : Nat → Int) (k : Nat) (v : Int) : updV f k v k = v := if_pos rfl
theorem updV_ne (f : Nat → Int) {k s : Nat} (v : Int) (h : s ≠ k) : updV f k v s = f s := if_neg h

/-- A search under way: the queue holds each reached job once. -/
structure Sq (U : Nat → Nat → Int) (ln : Nat → Int) (cov : Nat → Nat → Prop) (N K job : Nat) (bya fra : Nat → Int) (Q : List Nat) : Prop where
  sea : Sea U ln cov N K job bya fra (fun j => Q.idxOf j)
  nd : Q.Nodup
  mem : ∀ j, j ∈ Q ↔ j = job ∨ (j < N ∧ 0 ≤ fra j)
section
variable {U : Nat → Nat → Int} {ln : Nat → Int} {cov : Nat → Nat → Prop} {N K job : Nat} {bya fra : Nat → Int} {Q : List Nat}
theorem Sq.start (hj : job < N) : Sq U ln cov N K job (fun _ => -1) (fun _ => -1) [job] :=
  ⟨⟨hj, fun k _ h => absurd h (by omega), fun i _ h => absurd h (by omega), by decide⟩, by simp, fun j => by simp⟩
theorem Sq.lt (h : Sq U ln cov N K job bya fra Q) {j : Nat} (hj : j ∈ Q) : j < N := by
  rcases (h.mem j).1 hj with e | e
  · rw [e]; exact h.sea.jobN
  · exact e.1
theorem Sq.len (h : Sq U ln cov N K job bya fra Q) : Q.length ≤ N := by
  exact nodup_len N Q h.nd (fun j hj => h.lt hj)
theorem Sq.reach (h : Sq U ln cov N K job bya fra Q) {i k : Nat} (hk : k < K) (hb : bya k < 0) (hi : i ∈ Q) (hc : cov i k) (hu : U i k < ln k) : Sq U ln cov N K job (updV bya k i) fra Q := by
  refine ⟨⟨h.sea.jobN, fun s hs h0 => ?_, fun j hj h0 => ?_, h.sea.nofr⟩, h.nd, h.mem⟩
  · by_cases e : s = k
    · subst e
      refine ⟨i, updV_at _ _ _, h.lt hi, hc, hu, ?_⟩
      rcases (h.mem i).1 hi with e | e
      · exact Or.inl e
      · exact Or.inr e.2
    · rw [updV_ne _ _ e] at h0 ⊢
      exact h.sea.bys s hs h0
  · obtain ⟨a, s, b, c, d, e, f⟩ := h.sea.frs j hj h0
    have hne : s ≠ k := by rintro rfl; omega
    exact ⟨a, s, b, c, by rw [updV_ne _ _ hne]; exact d, e, by rw [updV_ne _ _ hne]; exact f⟩
theorem idxOf_app {Q : List Nat} {a b : Nat} (h : a ∈ Q) : (Q ++ [b]).idxOf a = Q.idxOf a := by
  rw [List.idxOf_append]; simp [h]
theorem idxOf_new {Q : List Nat} {b : Nat} (h : b ∉ Q) : (Q ++ [b]).idxOf b = Q.length := by
  rw [List.idxOf_append]; simp [h]
theorem Sq.take (h : Sq U ln cov N K job bya fra Q) {j k : Nat} (hj : j < N) (hjb : j ≠ job) (hf : fra j < 0) (hk : k < K) (hb : 0 ≤ bya k) (hu : 0 < U j k) : Sq U ln cov N K job bya (updV fra j k) (Q ++ [j]) := by
  have hnot : j ∉ Q := fun e => by rcases (h.mem j).1 e with e | e <;> omega
  have hin : ∀ s, s < K → 0 ≤ bya s → (bya s).toNat ∈ Q := fun s hs h0 => by
    obtain ⟨i, e, hi, _, _, hr⟩ := h.sea.bys s hs h0
    rw [e, Int.toNat_natCast]
    exact (h.mem i).2 (hr.imp (fun e => e) (fun e => ⟨hi, e⟩))
  refine ⟨⟨h.sea.jobN, fun s hs h0 => ?_, fun i hi h0 => ?_, ?_⟩, ?_, fun i => ?_⟩
  · obtain ⟨i, e, hi, hc, hl, hr⟩ := h.sea.bys s hs h0
    refine ⟨i, e, hi, hc, hl, hr.imp (fun e => e) (fun e2 => ?_)⟩
    rw [updV_ne _ _ (by rintro rfl; omega)]; exact e2
  · by_cases e : i = j
    · subst e
      refine ⟨hjb, k, updV_at _ _ _, hk, hb, hu, ?_⟩
      show (Q ++ [i]).idxOf (bya k).toNat < (Q ++ [i]).idxOf i
      rw [idxOf_app (hin k hk hb), idxOf_new hnot]
      exact List.idxOf_lt_length_of_mem (hin k hk hb)
    · rw [updV_ne _ _ e] at h0 ⊢
      obtain ⟨a, s, b, c, d, e1, f⟩ := h.sea.frs i hi h0
      refine ⟨a, s, b, c, d, e1, ?_⟩
      show (Q ++ [j]).idxOf (bya s).toNat < (Q ++ [j]).idxOf i
      rw [idxOf_app (hin s c d), idxOf_app ((h.mem i).2 (Or.inr ⟨hi, h0⟩))]
      exact f
  · rw [updV_ne _ _ (Ne.symm hjb)]; exact h.sea.nofr
  · rw [List.nodup_append]
    exact ⟨h.nd, by simp, fun a ha b hb' => by rintro rfl; simp at hb'; subst hb'; exact hnot ha⟩
  · rw [List.mem_append, h.mem, List.mem_singleton]
    by_cases e : i = j
    · subst e; rw [updV_at]; exact ⟨fun _ => Or.inr ⟨hj, by omega⟩, fun _ => Or.inr rfl⟩
    · rw [updV_ne _ _ e]; exact ⟨fun a => a.elim (fun a => a) (fun a => absurd a e), fun a => Or.inl a⟩
end

/-- What stands of a flow: rows with what is left make up the work, nothing is more than its span. -/
structure FlU (G : Grid) (B : Nat) (l : List Jb) (U : Nat → Nat → Int) (left : Nat → Int) : Prop where
  pos : ∀ j s, 0 ≤ U j s
  cap : ∀ j s, j < l.length → s < G.K → U j s ≤ G.ln s
  cov : ∀ j s, j < l.length → s < G.K → 0 < U j s → covG G l j s
  col : ∀ s, s < G.K → colU U l.length s ≤ B * G.ln s
  row : ∀ j, j < l.length → rowU U G.K j + left j = (jbA l j).2.2
  left : ∀ j, j < l.length → 0 ≤ left j
section
variable {G : Grid} {B : Nat} {l : List Jb} {U : Nat → Nat → Int} {left : Nat → Int}
theorem FlU.start (hw : ∀ j, j < l.length → 0 ≤ (jbA l j).2.2) : FlU G B l (fun _ _ => 0) (fun j => (jbA l j).2.2) := by
  refine ⟨fun _ _ => Int.le_refl _, fun _ _ _ _ => by omega, fun _ _ _ _ h => absurd h (by omega), fun s _ => ?_, fun j hj => ?_, hw⟩
  · unfold colU; rw [smN_zero]; exact Int.mul_nonneg (by omega) (by omega)
  · unfold rowU; rw [smN_zero]; omega
theorem toNat_pos {x : Int} (h : 0 ≤ x) : ((x.toNat : Nat) : Int) = x := Int.toNat_of_nonneg h
theorem FlU.cut (h : FlU G B l U left) {job : Nat} {bya fra : Nat → Int} {Q : List Nat} (hS : Sq U (fun s => (G.ln s : Int)) (covG G l) l.length G.K job bya fra Q)
    (hclosed : ∀ i, i ∈ Q → ∀ k, k < G.K → covG G l i k → U i k < G.ln k → 0 ≤ bya k)
    (hfull : ∀ k, k < G.K → 0 ≤ bya k → B * (G.ln k : Int) ≤ colU U l.length k ∧ ∀ j, j < l.length → 0 < U j k → j ∈ Q) (hl : 0 < left job) :
    CutF G B l (fun j s => (U j s).toNat) (fun j => (left j).toNat) (fun j => decide (j ∈ Q)) (fun s => decide (0 ≤ bya s)) := by
  refine ⟨fun j hj => ?_, fun j s hj hs h1 => ?_, fun j s hj hs hA hB hc => ?_, fun j s hj hs hA hB => ?_, fun s hs hB => ?_, ⟨job, hS.sea.jobN, ?_, ?_⟩⟩
  · rw [toNat_pos (h.left j hj), ← h.row j hj]
    congr 1
    exact smN_congr _ fun s _ => toNat_pos (h.pos j s)
  · exact h.cov j s hj hs (by omega)
  · have hA' : j ∈ Q := of_decide_eq_true hA
    have hB' : ¬ 0 ≤ bya s := of_decide_eq_false hB
    have h1 : ¬ U j s < G.ln s := fun e => hB' (hclosed j hA' s hs hc e)
    have := h.cap j s hj hs
    omega
  · have hA' : ¬ j ∈ Q := of_decide_eq_false hA
    have hB' : 0 ≤ bya s := of_decide_eq_true hB
    have h1 : ¬ 0 < U j s := fun e => hA' ((hfull s hs hB').2 j hj e)
    omega
  · have hB' : 0 ≤ bya s := of_decide_eq_true hB
    have h1 := (hfull s hs hB').1
    have h2 := h.col s hs
    have h3 : ((upto (fun j s => (U j s).toNat) s l.length : Nat) : Int) = colU U l.length s := by
      rw [upto_smN]
      exact smN_congr _ fun j _ => toNat_pos (h.pos j s)
    have h4 : ((upto (fun j s => (U j s).toNat) s l.length : Nat) : Int) = ((B * G.ln s : Nat) : Int) := by rw [h3, Int.natCast_mul]; omega
    exact_mod_cast h4
  · exact decide_eq_true ((hS.mem job).2 (Or.inl rfl))
  · omega
/-- All work flows: there is a schedule. -/
theorem FlU.full (h : FlU G B l U left) (h0 : ∀ j, j < l.length → left j ≤ 0) (hK : G.K ≤ 64) (hN : l.length ≤ 32) (hn : B ≤ 8) : ∃ s, SchedP B l s := by
  refine full_sched (f := fun j s => (U j s).toNat) hK hN hn (fun j s hj hs h1 => h.cov j s hj hs (by omega)) (fun j s hj hs => ?_) (fun s hs => ?_) (fun j hj => ?_)
  · have := h.cap j s hj hs; omega
  · have h2 := h.col s hs
    have h3 : ((upto (fun j s => (U j s).toNat) s l.length : Nat) : Int) = colU U l.length s := by
      rw [upto_smN]
      exact smN_congr _ fun j _ => toNat_pos (h.pos j s)
    have h4 : ((upto (fun j s => (U j s).toNat) s l.length : Nat) : Int) ≤ ((B * G.ln s : Nat) : Int) := by rw [h3, Int.natCast_mul]; exact h2
    exact_mod_cast h4
  · have h1 := h.row j hj
    have h2 := h.left j hj
    have h3 := h0 j hj
    have h4 : smN (fun s => ((U j s).toNat : Int)) G.K = rowU U G.K j := smN_congr _ fun s _ => toNat_pos (h.pos j s)
    omega
/-- A push leaves a flow again, with n less to do. -/
theorem FlU.push (h : FlU G B l U left) {V : Nat → Nat → Int} {job span : Nat} {n : Int} (hnl : n ≤ left job) (hroom : span < G.K → n ≤ B * (G.ln span : Int) - colU U l.length span)
    (hV : (∀ j, rowU V G.K j = rowU U G.K j + if j = job then n else 0) ∧ (∀ s, colU V l.length s = colU U l.length s + if s = span then n else 0) ∧ (∀ j s, 0 ≤ V j s) ∧ (∀ j s, j < l.length → s < G.K → V j s ≤ G.ln s) ∧ (∀ j s, j < l.length → s < G.K → 0 < V j s → covG G l j s)) :
    FlU G B l V (updV left job (left job - n)) := by
  obtain ⟨h1, h2, h3, h4, h5⟩ := hV
  refine ⟨h3, h4, h5, fun s hs => ?_, fun j hjl => ?_, fun j hjl => ?_⟩
  · rw [h2]
    by_cases e : s = span
    · subst e; rw [if_pos rfl]; have := hroom hs; omega
    · rw [if_neg e]; have := h.col s hs; omega
  · have := h.row j hjl
    rw [h1]
    by_cases e : j = job
    · subst e; rw [if_pos rfl, updV_at]; omega
    · rw [if_neg e, updV_ne _ _ e]; omega
  · by_cases e : j = job
    · subst e; rw [updV_at]; omega
    · rw [updV_ne _ _ e]; exact h.left j hjl
/-- The cells of a flow, as they lie in memory, are small. -/
theorem FlU.small (h : FlU G B l U left) {j s : Nat} (hj : j < l.length) (hs : s < G.K) : 0 ≤ U j s ∧ U j s ≤ G.ln s := ⟨h.pos j s, h.cap j s hj hs⟩
end

end Go.Proofs.Ytfmojiaaoebodaa

namespace Go.Proofs.Ytfmojiaaoebodaa
open Go.RowKit
set_option linter.unusedSimpArgs false

/-- A number put into an ascending list, once. -/
def insI : List Int → Int → List Int
  | [], x => [x]
  | y :: r, x => if y < x then y :: insI r x else if y = x then y :: r else x :: y :: r
theorem insI_mem (l : List Int) (x z : Int) : z ∈ insI l x ↔ z = x ∨ z ∈ l := by
  induction l with
  | nil => simp [insI]
  | cons y r ih =>
    unfold insI
    split
    · simp only [List.mem_cons, ih]; exact ⟨fun h => by rcases h with h | h | h <;> simp [h], fun h => by rcases h with h | h | h <;> simp [h]⟩
    · split
      · rename_i h; subst h; simp
      · simp
theorem insI_asc (l : List Int) (x : Int) (h : l.Pairwise (· < ·)) : (insI l x).Pairwise (· < ·) := by
  induction l with
  | nil => simp [insI]
  | cons y r ih =>
    obtain ⟨h1, h2⟩ := List.pairwise_cons.1 h
    unfold insI
    split
    · refine List.pairwise_cons.2 ⟨fun z hz => ?_, ih h2⟩
      rcases (insI_mem r x z).1 hz with rfl | hz
      · assumption
      · exact h1 z hz
    · split
      · exact h
      · refine List.pairwise_cons.2 ⟨fun z hz => ?_, h⟩
        rcases List.mem_cons.1 hz with rfl | hz
        · omega
        · have := h1 z hz; omega
theorem insI_len (l : List Int) (x : Int) : (insI l x).length ≤ l.length + 1 := by
  induction l with
  | nil => simp [insI]
  | cons y r ih =>
    unfold insI
    split
    · simp only [List.length_cons]; omega
    · split <;> simp
theorem insI_at (l : List Int) (x : Int) (k : Nat) (hk : k ≤ l.length) (h : ∀ i, i < k → l.getD i 0 < x) (h2 : k = l.length ∨ ¬ l.getD k 0 < x) :
    insI l x = if k < l.length ∧ l.getD k 0 = x then l else l.take k ++ [x] ++ l.drop k := by
  induction l generalizing k with
  | nil => obtain rfl : k = 0 := by simpa using hk
           simp [insI]
  | cons y r ih =>
    cases k with
    | zero =>
      have h3 : ¬ y < x := by rcases h2 with e | e; · simp at e
                              · simpa using e
      unfold insI
      rw [if_neg h3]
      simp
    | succ k =>
      have h0 : y < x := by simpa using h 0 (by omega)
      unfold insI
      rw [if_pos h0, ih k (by simpa using hk) (fun i hi => by simpa using h (i + 1) (by omega)) (by simpa using h2)]
      by_cases c : k < r.length ∧ r.getD k 0 = x
      · rw [if_pos c, if_pos (by simpa using c)]
      · rw [if_neg c, if_neg (by simpa using c)]
        simp
/-- Two strictly ascending lists with the same members are one. -/
theorem asc_one : ∀ (l m : List Int), l.Pairwise (· < ·) → m.Pairwise (· < ·) → (∀ z, z ∈ l ↔ z ∈ m) → l = m
  | [], [], _, _, _ => rfl
  | [], y :: r, _, _, h => absurd ((h y).2 (by simp)) (by simp)
  | y :: r, [], _, _, h => absurd ((h y).1 (by simp)) (by simp)
  | x :: l, y :: m, hl, hm, h => by
    obtain ⟨a1, a2⟩ := List.pairwise_cons.1 hl
    obtain ⟨b1, b2⟩ := List.pairwise_cons.1 hm
    have e : x = y := by
      rcases List.mem_cons.1 ((h x).1 (by simp)) with e | e
      · exact e
      · rcases List.mem_cons.1 ((h y).2 (by simp)) with e2 | e2
        · exact e2.symm
        · have := a1 y e2; have := b1 x e; omega
    subst e
    rw [asc_one l m a2 b2 fun z => ⟨fun hz => by
        rcases List.mem_cons.1 ((h z).1 (List.mem_cons_of_mem _ hz)) with e | e
        · have := a1 z hz; omega
        · exact e, fun hz => by
        rcases List.mem_cons.1 ((h z).2 (List.mem_cons_of_mem _ hz)) with e | e
        · have := b1 z hz; omega
        · exact e⟩]

theorem Rd_drop' {α : Type} {enc : α → List Value} {k : Nat} {w : World} {b off : Nat} {xs : List α} (h : Rd k enc w (some ⟨b, off, none⟩) xs) (m : Nat) : Rd k enc w (some ⟨b, off + m * k, none⟩) (xs.drop m) := fun i x hx => by
  rw [List.getElem?_drop] at hx
  obtain ⟨b', off', e, hc⟩ := h (m + i) x hx
  cases e
  refine ⟨b, off + m * k, rfl, fun j u hj => ?_⟩
  have := hc j u hj
  rw [show off + m * k + i * k + j = off + (m + i) * k + j by rw [Nat.add_mul]; omega]
  exact this

section
variable {α : Type} {enc : α → List Value} {size : Nat}
theorem run_appO {P : Program} (w : World) (base : Nat) (t ty : TypeId) (e : TypeId) (i : TypeInfo) (z : Value) (bytes : Nat) (ht : P.underlying t = some (.slice e)) (hi : P.info? e = some i) (hz : i.zero = some z)
    (hsize : i.size = size) (hby : i.bytes = bytes) (hzs : z.cells.size = size) (hsz : 0 < size) (hk : ∀ x : α, (enc x).length = size) (h1 : ∀ x : α, ∀ u ∈ enc x, u.oneCell' = true)
    (v : Value) (n0 : Nat) (xs0 : List α) (hown : w.ownsRow base e size v n0 (flatE enc xs0)) (hbase : base ≤ w.heap.size)
    (A : Option Addr) (k c : Nat) (xs : List α) (hA : A = none → k = 0 ∧ c = 0) (hn : xs.length = k) (hp : Rd size enc w A xs) (h63 : n0 + k ≤ maxLen) (hbytes : (n0 + k) * bytes ≤ 140737488355328) (m : Nat) (hm : n0 + k = m) :
    ∃ A' c' w', (Builtin.append_ #[t, t] ty #[v, .slice A k c]).run P w = .ok (.slice A' m c') w' ∧ w'.ownsRow base e size (.slice A' m c') m (flatE enc (xs0 ++ xs)) ∧ (∀ w0 : World, base = w0.heap.size → Gr w0 w → Gr w0 w') := by
  subst hm
  have hsh : ∀ (v' : Value) (w' : World), w'.ownsRow base e size v' (n0 + k) (flatE enc (xs0 ++ xs)) → ∃ A' c', v' = .slice A' (n0 + k) c' := fun v' w' h => by
    rcases h.2 with ⟨rfl, h0⟩ | ⟨g, cap, cur, rfl, _⟩
    · exact ⟨none, 0, by rw [h0]⟩
    · exact ⟨_, _, rfl⟩
  rcases A with _ | ad
  · obtain ⟨rfl, rfl⟩ := hA rfl
    have hx : xs = [] := List.eq_nil_of_length_eq_zero hn
    subst hx
    have hown' : w.ownsRow base e size v (n0 + 0) (flatE enc (xs0 ++ [])) := by simpa using hown
    obtain ⟨A', c', rfl⟩ := hsh v w hown'
    exact ⟨A', c', w, run_append_owned_none (P := P) (w := w) base t ty e i size ht hi _ n0 _ hown, hown', fun _ _ h => h⟩
  · obtain ⟨v', w', hr, h2, h3, _, h5⟩ := run_append_own_at (P := P) w base t ty e i z size bytes ht hi hz hsize hby hzs hsz v n0 _ hown ad k c (flatE enc xs) (by rw [flatE_len hk, hn]) (Rd_news hk hsz hp) (oneCell_flat h1 xs) h63 hbytes hbase
    have h2' : w'.ownsRow base e size v' (n0 + k) (flatE enc (xs0 ++ xs)) := by rw [flatE_app]; exact h2
    obtain ⟨A', c', rfl⟩ := hsh v' w' h2'
    exact ⟨A', c', w', hr, h2', fun w0 e0 hg => Below.grown hg h3 hg.size (fun t ht => by rw [← e0]; exact (hown.lt t ht).1)⟩
variable {P : Program} {w : World} {ops : Array Oper} {o : Oper} {a : Act} {K : Act → World → Prop} {Q : Exit → Act → World → Prop}
theorem wpList_appO {rest : List Oper} (hgd : o.guard = none) (s x : Operand) (t : TypeId) (ho : o.op = .call { callee := .builtin .append, args := #[s, x], argTypes := #[t, t] })
    (base : Nat) (e : TypeId) (i : TypeInfo) (z : Value) (bytes : Nat) (ht : P.underlying t = some (.slice e)) (hi : P.info? e = some i) (hz : i.zero = some z)
    (hsize : i.size = size) (hby : i.bytes = bytes) (hzs : z.cells.size = size) (hsz : 0 < size) (hk : ∀ x : α, (enc x).length = size) (h1 : ∀ x : α, ∀ u ∈ enc x, u.oneCell' = true)
    (v : Value) (n0 : Nat) (xs0 : List α) (hs : a.eval s = v) (hown : w.ownsRow base e size v n0 (flatE enc xs0)) (hbase : base ≤ w.heap.size)
    (A : Option Addr) (k c : Nat) (xs : List α) (hx : a.eval x = .slice A k c) (hA : A = none → k = 0 ∧ c = 0) (hn : xs.length = k) (hp : Rd size enc w A xs) (h63 : n0 + k ≤ maxLen) (hbytes : (n0 + k) * bytes ≤ 140737488355328) (m : Nat) (hm : n0 + k = m)
    (h : ∀ A' c' w', w'.ownsRow base e size (.slice A' m c') m (flatE enc (xs0 ++ xs)) → (∀ w0 : World, base = w0.heap.size → Gr w0 w → Gr w0 w') → wpList P ops Q rest (a.put o.dst (.slice A' m c')) w') : wpList P ops Q (o :: rest) a w :=
  wpList_plain hgd fun _ hK => by
    obtain ⟨A', c', w', hr, h2, h3⟩ := run_appO (P := P) w base t o.type e i z bytes ht hi hz hsize hby hzs hsz hk h1 v n0 xs0 hown hbase A k c xs hA hn hp h63 hbytes m hm
    unfold Oper.wp execOp
    simp only [ho, resolve, invoke, builtin, Sem.run_bind, Sem.run_pure, Result.andThen_ok, List.map_toArray, List.map_cons, List.map_nil, hs, hx, hr]
    exact hK _ _ (h A' c' w' h2 h3)
end

/-- What `with` leaves. -/
def WithP (xs : List Int) (w : World) (e : Ending) (w' : World) : Prop :=
  ∃ A n c, e = .returned (.slice A n c) ∧ xs.length = n ∧ Ints w' A xs ∧ (A = none ∧ n = 0 ∧ c = 0 ∨ ∃ b off, A = some ⟨b, off, none⟩) ∧ n ≤ c ∧ Gr w w'

set_option maxRecDepth 100000 in
set_option maxHeartbeats 4000000 in
theorem with_any (A : Option Addr) (n c : Nat) (l : List Int) (x : Int) (w : World) (hn : l.length = n) (hl : n ≤ 4096) (hc : n ≤ c) (hA : A = none ∧ n = 0 ∧ c = 0 ∨ ∃ b off, A = some ⟨b, off, none⟩) (hp : Ints w A l) : Calls Try.prog 45 #[.slice A n c, .int .i64 x] w (WithP (insI l x) w) := by
  obtain ⟨i0, hi, hz0, hz1, hz2⟩ := info_parts Try.infoBnI
  have HI := Lib.hid (And.intro hi (And.intro hz0 (And.intro hz1 hz2)))
  have HN := Lib.hid hn
  have HP := Lib.hid hp
  have HA := Lib.hid hA
  clear hi hz0 hz1 hz2 hn hp hA
  go_enter Try.func45, Try.ntmps45
  go_wp2_with fail
  go_loopw [5] (fun z wr => ∃ k : Nat, k ≤ n ∧ z = .int .i64 (k : Int) ∧ Hid (∀ i, i < k → l.getD i 0 < x) ∧ wr = w) (fun z _ => n - (intOf z).toNat)
  case atStart => exact ⟨0, Nat.zero_le _, rfl, Lib.hid (fun i h => by omega), rfl⟩
  case round =>
    obtain ⟨k, hk, rfl, hlow, rfl⟩ := hrel
    by_cases hlt : k < n
    · obtain ⟨b, off, rfl, x0⟩ := Ints_at HP.out (i := k) (by rw [HN.out]; exact hlt)
      have HIN := Lib.hid (insI_at l x k (by rw [HN.out]; exact hk) hlow.out)
      have hki : (k : Int) < (n : Int) := by omega
      have HL : Hid (l.getD k 0 < x → ∀ i, i < k + 1 → l.getD i 0 < x) := Lib.hid (fun h i hi => by
        rcases Nat.lt_or_ge i k with e | e
        · exact hlow.out i e
        · obtain rfl : i = k := by omega
          exact h)
      generalize l.getD k 0 = y at x0 HIN HL
      by_cases hyx : y < x
      · go_wp2_with fail
        go_roundw
        case rel => exact ⟨k + 1, by omega, by go_num, Lib.hid (HL.out hyx), by first | rfl | trivial⟩
        case measure => simp [intOf]; omega
      · by_cases hyx2 : y = x
        · subst hyx2
          have HR : Hid (insI l y = l) := Lib.hid (by rw [HIN.out (Or.inr hyx), if_pos ⟨by rw [HN.out]; exact hlt, rfl⟩])
          clear HIN HL
          go_wp2_with fail
          go_ret
          exact ⟨_, _, _, rfl, by rw [HR.out]; exact HN.out, by rw [HR.out]; exact HP.out, HA.out, hc, Gr.refl _⟩
        · have HR : Hid (insI l x = l.take k ++ [x] ++ l.drop k) := Lib.hid (by rw [HIN.out (Or.inr hyx), if_neg (fun h => hyx2 h.2)])
          have hyb : (y == x) = false := by simpa using hyx2
          have hkc : (k : Int) ≤ (c : Int) := by omega
          have hkc' : k ≤ c := by omega
          have hk0 : (0 : Int) ≤ (k : Int) := by omega
          have HT : Hid (Ints wr (some ⟨b, off, none⟩) (l.take k)) := Lib.hid (Rd_take HP.out _)
          have HTL : Hid ((l.take k).length = k) := Lib.hid (by rw [List.length_take, HN.out]; omega)
          clear HIN HL
          obtain ⟨hi, hz0, hz1, hz2⟩ := HI.out
          go_wp2_with (at_builtin; refine wpList_appO (by rfl) (.tmp 34) (.tmp 37) 25 (by rfl) wr.heap.size 3 i0 _ 8 Try.underlying25 hi hz0 hz1 hz2 rfl (by decide) enc1_len enc1_one (.slice none 0 0) 0 [] (by rfl) (World.ownsRow_nil wr _ _ _) (Nat.le_refl _) (some ⟨b, off, none⟩) k c (l.take k) (by rfl) (fun h => by (cases h)) HTL.out HT.out (by unfold maxLen; omega) (by omega) k (by omega) ?_)
          intro A1 c1 w1 ho1 hg1
          have hgr1 := hg1 wr rfl (Gr.refl _)
          have HO1 : Hid (w1.ownsRow wr.heap.size 3 1 (.slice A1 k c1) k (flatE enc1 (l.take k))) := Lib.hid (by simpa using ho1)
          clear ho1 hg1
          go_wp2_with (at_builtin; refine wpList_append_own _ rfl _ _ 25 rfl wr.heap.size 3 i0 _ 1 8 Try.underlying25 hi hz0 hz1 hz2 rfl (by decide) _ _ _ rfl (HO1.out.alloc _) ⟨w1.heap.size, 0, none⟩ 1 1 [.int .i64 x] rfl rfl ?a1 ?a2 ?a3 ?a4 ?a5 ?_)
          case a1 =>
            intro t u ht
            rw [Addr.add_lit]
            exact alloc_new rfl (by rw [Nat.zero_add]; simpa using ht)
          case a2 => intro u hu; simp at hu; rcases hu with rfl; rfl
          case a3 => unfold maxLen; omega
          case a4 => omega
          case a5 => have := hgr1.size; simp; omega
          intro v2 w2 hown2 hgrow2 _
          have hal : Gr w1 (w1.alloc (.cells #[.int .i64 x] 3)) := (Gr.refl _).alloc _
          have ho2 := HO1.out.alloc (.cells #[.int .i64 x] 3)
          have hgr2 : Gr wr w2 := Below.grown (hgr1.trans hal) hgrow2 (hgr1.trans hal).size (fun t ht => (ho2.lt t ht).1)
          have HO2 : Hid (w2.ownsRow wr.heap.size 3 1 v2 (k + 1) (flatE enc1 (l.take k ++ [x]))) := Lib.hid (by rw [flatE_app]; exact hown2)
          obtain ⟨g2, c2, rfl, hc2⟩ := owns_shape HO2.out (by omega)
          clear hown2 hgrow2 hal ho2 hgr1 HO1
          have hsz2 := hgr2.size
          have HD : Hid (Ints w2 (some ⟨b, off + k, none⟩) (l.drop k)) := Lib.hid (by have := Rd_drop' (HP.out.keep hgr2) k; rwa [Nat.mul_one] at this)
          have HDL : Hid ((l.drop k).length = n - k) := Lib.hid (by rw [List.length_drop, HN.out])
          go_wp2_with (at_builtin; refine wpList_appO (by rfl) (.tmp 43) (.tmp 46) 25 (by rfl) wr.heap.size 3 i0 _ 8 Try.underlying25 hi hz0 hz1 hz2 rfl (by decide) enc1_len enc1_one (.slice (some ⟨g2, 0, none⟩) (k + 1) c2) (k + 1) (l.take k ++ [x]) (by rfl) HO2.out hsz2 (some ⟨b, off + k, none⟩) (n - k) (c - k) (l.drop k) (by rfl) (fun h => by (cases h)) HDL.out HD.out (by unfold maxLen; omega) (by omega) (n + 1) (by omega) ?_)
          intro A3 c3 w3 ho3 hg3
          have hgr3 := hg3 wr rfl hgr2
          have HO3 : Hid (w3.ownsRow wr.heap.size 3 1 (.slice A3 (n + 1) c3) (n + 1) (flatE enc1 (insI l x))) := Lib.hid (by rw [HR.out, List.append_assoc]; exact ho3)
          obtain ⟨g3, c3', e3, hc3⟩ := owns_shape HO3.out (by omega)
          cases e3
          clear ho3 hg3
          go_wp2_with fail
          go_ret
          have hlen : (insI l x).length = n + 1 := by rw [HR.out, List.length_append, List.length_append, HTL.out, HDL.out, List.length_singleton]; omega
          exact ⟨_, _, _, rfl, hlen, Rd_of_owns enc1_len hlen HO3.out, Or.inr ⟨_, _, rfl⟩, hc3, hgr3⟩
    · rcases HA.out with ⟨rfl, rfl, rfl⟩ | ⟨b, off, rfl⟩
      · obtain rfl : k = 0 := by omega
        have HLN : Hid (l = []) := Lib.hid (List.eq_nil_of_length_eq_zero HN.out)
        have HR : Hid (insI l x = l.take 0 ++ [x] ++ l.drop 0) := Lib.hid (by rw [HLN.out]; rfl)
        have HT : Hid (Ints wr none (l.take 0)) := Lib.hid (Rd_take HP.out _)
        have HTL : Hid ((l.take 0).length = 0) := Lib.hid (by simp)
        obtain ⟨hi, hz0, hz1, hz2⟩ := HI.out
        go_wp2_with (at_builtin; refine wpList_appO (by rfl) (.tmp 34) (.tmp 37) 25 (by rfl) wr.heap.size 3 i0 _ 8 Try.underlying25 hi hz0 hz1 hz2 rfl (by decide) enc1_len enc1_one (.slice none 0 0) 0 [] (by rfl) (World.ownsRow_nil wr _ _ _) (Nat.le_refl _) none 0 0 (l.take 0) (by rfl) (fun _ => ⟨by omega, by omega⟩) HTL.out HT.out (by unfold maxLen; omega) (by omega) 0 (by omega) ?_)
        intro A1 c1 w1 ho1 hg1
        have hgr1 := hg1 wr rfl (Gr.refl _)
        have HO1 : Hid (w1.ownsRow wr.heap.size 3 1 (.slice A1 0 c1) 0 (flatE enc1 (l.take 0))) := Lib.hid (by simpa using ho1)
        clear ho1 hg1
        go_wp2_with (at_builtin; refine wpList_append_own _ rfl _ _ 25 rfl wr.heap.size 3 i0 _ 1 8 Try.underlying25 hi hz0 hz1 hz2 rfl (by decide) _ _ _ rfl (HO1.out.alloc _) ⟨w1.heap.size, 0, none⟩ 1 1 [.int .i64 x] rfl rfl ?a1 ?a2 ?a3 ?a4 ?a5 ?_)
        case a1 =>
          intro t u ht
          rw [Addr.add_lit]
          exact alloc_new rfl (by rw [Nat.zero_add]; simpa using ht)
        case a2 => intro u hu; simp at hu; rcases hu with rfl; rfl
        case a3 => unfold maxLen; omega
        case a4 => omega
        case a5 => have := hgr1.size; simp; omega
        intro v2 w2 hown2 hgrow2 _
        have hal : Gr w1 (w1.alloc (.cells #[.int .i64 x] 3)) := (Gr.refl _).alloc _
        have ho2 := HO1.out.alloc (.cells #[.int .i64 x] 3)
        have hgr2 : Gr wr w2 := Below.grown (hgr1.trans hal) hgrow2 (hgr1.trans hal).size (fun t ht => (ho2.lt t ht).1)
        have HO2 : Hid (w2.ownsRow wr.heap.size 3 1 v2 (0 + 1) (flatE enc1 (l.take 0 ++ [x]))) := Lib.hid (by rw [flatE_app]; exact hown2)
        obtain ⟨g2, c2, rfl, hc2⟩ := owns_shape HO2.out (by omega)
        clear hown2 hgrow2 hal ho2 hgr1 HO1
        have hsz2 := hgr2.size
        have HD : Hid (Ints w2 none (l.drop 0)) := Lib.hid (by rw [HLN.out]; exact Rd_nil _ _)
        have HDL : Hid ((l.drop 0).length = 0 - 0) := Lib.hid (by rw [List.length_drop, HN.out])
        go_wp2_with (at_builtin; refine wpList_appO (by rfl) (.tmp 43) (.tmp 46) 25 (by rfl) wr.heap.size 3 i0 _ 8 Try.underlying25 hi hz0 hz1 hz2 rfl (by decide) enc1_len enc1_one (.slice (some ⟨g2, 0, none⟩) (0 + 1) c2) (0 + 1) (l.take 0 ++ [x]) (by rfl) HO2.out hsz2 none (0 - 0) (0 - 0) (l.drop 0) (by rfl) (fun _ => ⟨by omega, by omega⟩) HDL.out HD.out (by unfold maxLen; omega) (by omega) (0 + 1) (by omega) ?_)
        intro A3 c3 w3 ho3 hg3
        have hgr3 := hg3 wr rfl hgr2
        have HO3 : Hid (w3.ownsRow wr.heap.size 3 1 (.slice A3 (0 + 1) c3) (0 + 1) (flatE enc1 (insI l x))) := Lib.hid (by rw [HR.out, List.append_assoc]; exact ho3)
        obtain ⟨g3, c3', e3, hc3⟩ := owns_shape HO3.out (by omega)
        cases e3
        clear ho3 hg3
        go_wp2_with fail
        go_ret
        have hlen : (insI l x).length = 0 + 1 := by rw [HR.out, List.length_append, List.length_append, HTL.out, HDL.out, List.length_singleton]
        exact ⟨_, _, _, rfl, hlen, Rd_of_owns enc1_len hlen HO3.out, Or.inr ⟨_, _, rfl⟩, hc3, hgr3⟩
      · obtain rfl : k = n := by omega
        have hkc : (k : Int) ≤ (c : Int) := by omega
        have hk0 : (0 : Int) ≤ (k : Int) := by omega
        have HIN := Lib.hid (insI_at l x k (by rw [HN.out]; exact hk) hlow.out (Or.inl HN.out.symm))
        have HR : Hid (insI l x = l.take k ++ [x] ++ l.drop k) := Lib.hid (by rw [HIN.out, if_neg (fun h => by have := h.1; rw [HN.out] at this; omega)])
        have HT : Hid (Ints wr (some ⟨b, off, none⟩) (l.take k)) := Lib.hid (Rd_take HP.out _)
        have HTL : Hid ((l.take k).length = k) := Lib.hid (by rw [List.length_take, HN.out]; omega)
        clear HIN
        obtain ⟨hi, hz0, hz1, hz2⟩ := HI.out
        go_wp2_with (at_builtin; refine wpList_appO (by rfl) (.tmp 34) (.tmp 37) 25 (by rfl) wr.heap.size 3 i0 _ 8 Try.underlying25 hi hz0 hz1 hz2 rfl (by decide) enc1_len enc1_one (.slice none 0 0) 0 [] (by rfl) (World.ownsRow_nil wr _ _ _) (Nat.le_refl _) (some ⟨b, off, none⟩) k c (l.take k) (by rfl) (fun h => by (cases h)) HTL.out HT.out (by unfold maxLen; omega) (by omega) k (by omega) ?_)
        intro A1 c1 w1 ho1 hg1
        have hgr1 := hg1 wr rfl (Gr.refl _)
        have HO1 : Hid (w1.ownsRow wr.heap.size 3 1 (.slice A1 k c1) k (flatE enc1 (l.take k))) := Lib.hid (by simpa using ho1)
        clear ho1 hg1
        go_wp2_with (at_builtin; refine wpList_append_own _ rfl _ _ 25 rfl wr.heap.size 3 i0 _ 1 8 Try.underlying25 hi hz0 hz1 hz2 rfl (by decide) _ _ _ rfl (HO1.out.alloc _) ⟨w1.heap.size, 0, none⟩ 1 1 [.int .i64 x] rfl rfl ?a1 ?a2 ?a3 ?a4 ?a5 ?_)
        case a1 =>
          intro t u ht
          rw [Addr.add_lit]
          exact alloc_new rfl (by rw [Nat.zero_add]; simpa using ht)
        case a2 => intro u hu; simp at hu; rcases hu with rfl; rfl
        case a3 => unfold maxLen; omega
        case a4 => omega
        case a5 => have := hgr1.size; simp; omega
        intro v2 w2 hown2 hgrow2 _
        have hal : Gr w1 (w1.alloc (.cells #[.int .i64 x] 3)) := (Gr.refl _).alloc _
        have ho2 := HO1.out.alloc (.cells #[.int .i64 x] 3)
        have hgr2 : Gr wr w2 := Below.grown (hgr1.trans hal) hgrow2 (hgr1.trans hal).size (fun t ht => (ho2.lt t ht).1)
        have HO2 : Hid (w2.ownsRow wr.heap.size 3 1 v2 (k + 1) (flatE enc1 (l.take k ++ [x]))) := Lib.hid (by rw [flatE_app]; exact hown2)
        obtain ⟨g2, c2, rfl, hc2⟩ := owns_shape HO2.out (by omega)
        clear hown2 hgrow2 hal ho2 hgr1 HO1
        have hsz2 := hgr2.size
        have HD : Hid (Ints w2 (some ⟨b, off + k, none⟩) (l.drop k)) := Lib.hid (by have := Rd_drop' (HP.out.keep hgr2) k; rwa [Nat.mul_one] at this)
        have HDL : Hid ((l.drop k).length = k - k) := Lib.hid (by rw [List.length_drop, HN.out])
        have HR2 : Hid (insI l x = l.take k ++ [x]) := Lib.hid (by rw [HR.out, List.drop_of_length_le (by rw [HN.out]; exact Nat.le_refl _), List.append_nil])
        have hlen : (insI l x).length = k + 1 := by rw [HR2.out, List.length_append, HTL.out, List.length_singleton]
        have HO3 : Hid (w2.ownsRow wr.heap.size 3 1 (.slice (some ⟨g2, 0, none⟩) (k + 1) c2) (k + 1) (flatE enc1 (insI l x))) := Lib.hid (by rw [HR2.out]; exact HO2.out)
        go_wp2_with fail
        all_goals go_ret
        all_goals exact ⟨_, _, _, rfl, hlen, Rd_of_owns enc1_len hlen HO3.out, Or.inr ⟨_, _, rfl⟩, hc2, hgr2⟩

end Go.Proofs.Ytfmojiaaoebodaa

namespace Go.Proofs.Ytfmojiaaoebodaa
open Go.RowKit
set_option linter.unusedSimpArgs false

/-- The times, one job after the other. -/
def cutsF (l : List Jb) : List Int := l.foldl (fun o j => insI (insI o j.1) j.2.1) []
theorem cutsF_snoc (l : List Jb) (j : Jb) : cutsF (l ++ [j]) = insI (insI (cutsF l) j.1) j.2.1 := by simp [cutsF]
theorem cutsF_mem (l : List Jb) : ∀ z, z ∈ cutsF l ↔ z ∈ tmL l := by
  suffices h : ∀ (r : List Jb) (o : List Int) (z : Int), z ∈ r.foldl (fun o j => insI (insI o j.1) j.2.1) o ↔ z ∈ o ∨ z ∈ tmL r by
    intro z; unfold cutsF; rw [h]; simp
  intro r
  induction r with
  | nil => intro o z; simp [tmL]
  | cons j r ih =>
    intro o z
    rw [List.foldl_cons, ih, insI_mem, insI_mem]
    simp only [tmL, List.flatMap_cons, List.mem_append, List.mem_cons, List.not_mem_nil, or_false]
    constructor
    · rintro ((h | h | h) | h) <;> simp [h]
    · rintro (h | (h | h) | h) <;> simp [h]
theorem cutsF_asc (l : List Jb) : (cutsF l).Pairwise (· < ·) := by
  suffices h : ∀ (r : List Jb) (o : List Int), o.Pairwise (· < ·) → (r.foldl (fun o j => insI (insI o j.1) j.2.1) o).Pairwise (· < ·) from h l [] List.Pairwise.nil
  intro r
  induction r with
  | nil => intro o h; exact h
  | cons j r ih => intro o h; rw [List.foldl_cons]; exact ih _ (insI_asc _ _ (insI_asc _ _ h))

set_option maxRecDepth 100000 in
set_option maxHeartbeats 4000000 in
theorem rCuts_raw (A : Option Addr) (n c : Nat) (l : List Jb) (w : World) (hn : l.length = n) (hl : n ≤ 64) (hp : Tris w A l) : Calls Try.prog 24 #[.slice A n c] w (WithP (cutsF l) w) := by
  have HN := Lib.hid hn
  have HP := Lib.hid hp
  clear hn hp
  go_enter Try.func24, Try.ntmps24
  go_wp2_with fail
  go_loopw [3, 4] (fun q z wr => ∃ (k : Nat) (B : Option Addr) (m d : Nat), k ≤ n ∧ z = .int .i64 (k : Int) ∧ q = .slice B m d ∧ m ≤ 2 * k ∧ m ≤ d ∧ Hid ((cutsF (l.take k)).length = m) ∧ Hid (Ints wr B (cutsF (l.take k))) ∧ Hid (B = none ∧ m = 0 ∧ d = 0 ∨ ∃ b off, B = some ⟨b, off, none⟩) ∧ Gr w wr) (fun _ z _ => n - (intOf z).toNat)
  case atStart => exact ⟨0, none, 0, 0, Nat.zero_le _, rfl, rfl, by omega, by omega, Lib.hid rfl, Lib.hid (Rd_nil _ _), Lib.hid (Or.inl ⟨rfl, rfl, rfl⟩), Gr.refl _⟩
  case round =>
    obtain ⟨k, B, m, d, hk, rfl, rfl, hm, hd, hL, hR, hS, hgr⟩ := hrel
    by_cases hlt : k < n
    · obtain ⟨b, off, rfl, q0, q1, q2⟩ := Tris_at (HP.out.keep hgr) (i := k) (by rw [HN.out]; exact hlt)
      have HTK : Hid (cutsF (l.take (k + 1)) = insI (insI (cutsF (l.take k)) (l.getD k (0, 0, 0)).1) (l.getD k (0, 0, 0)).2.1) := Lib.hid (by rw [List.take_add_one, getD_of (0, 0, 0) (by rw [HN.out]; exact hlt), Option.toList_some, cutsF_snoc])
      generalize l.getD k (0, 0, 0) = jb at q0 q1 q2 HTK
      obtain ⟨a1, a2, a3⟩ := jb
      dsimp only at q0 q1 q2 HTK
      generalize cutsF (l.take k) = xs at hL hR HTK
      have hki : (k : Int) < (n : Int) := by omega
      have HW1 := Lib.hid (fun W (hW : Gr wr W) => with_any B m d xs a1 W hL.out (by omega) hd hS.out (hR.out.keep hW))
      have HM1 : Hid ((insI xs a1).length ≤ m + 1) := Lib.hid (by rw [← hL.out]; exact insI_len _ _)
      have HM2 : Hid ((insI (insI xs a1) a2).length ≤ m + 2) := Lib.hid (by have := insI_len (insI xs a1) a2; have := HM1.out; omega)
      have HW2 := Lib.hid (fun (A2 : Option Addr) (n2 c2 : Nat) W (h1 : (insI xs a1).length = n2) (h2 : Ints W A2 (insI xs a1)) (h3 : A2 = none ∧ n2 = 0 ∧ c2 = 0 ∨ ∃ b off, A2 = some ⟨b, off, none⟩) (h4 : n2 ≤ c2) => with_any A2 n2 c2 (insI xs a1) a2 W h1 (by have := HM1.out; omega) h4 h3 h2)
      clear hL hR hS q2
      have KS : Hid (∀ W', Gr wr W' → Gr wr W' ∧ W'.cell? ⟨b, off + k * 3, none⟩ = some (.int .i64 a1) ∧ W'.cell? ⟨b, off + k * 3 + 1, none⟩ = some (.int .i64 a2)) := Lib.hid (fun W' hW => ⟨hW, hW.keep q0, hW.keep q1⟩)
      go_upto_region 5 with fail
      refine wp_region_held_drew (S := (fun W' => Gr wr W' ∧ W'.cell? ⟨b, off + k * 3, none⟩ = some (.int .i64 a1) ∧ W'.cell? ⟨b, off + k * 3 + 1, none⟩ = some (.int .i64 a2))) ?_ ?_ (fun hHeld => ?_)
      · kernel_rfl
      · ((try dsimp only); (first | exact hHeld | exact KS.out _ (Gr.refl wr).drew | exact KS.out _ HGB.out | exact KS.out _ HGA.out))
      refine take_in (i := 0) (v := ?_) (d := (some 11)) rfl rfl ?_ ?_ ?_ ?_ ?_ ?_ ?_ ?_
      rotate_left
      · kernel_rfl
      · kernel_rfl
      · kernel_rfl
      · (intro _ _ _ hq; exact hq)
      · rfl
      · (intro _w hSw; (try dsimp only at hSw); go_simp; try with_reducible rfl)
      · assumption
      try simp only [Act.put, List.setIfInBounds_toArray, List.set_cons_zero, List.set_cons_succ]
      refine take_in (i := 1) (v := ?_) (d := (some 12)) rfl rfl ?_ ?_ ?_ ?_ ?_ ?_ ?_ ?_
      rotate_left
      · kernel_rfl
      · kernel_rfl
      · kernel_rfl
      · (intro _ _ _ hq; exact hq)
      · rfl
      · (intro _w hSw; (try dsimp only at hSw); go_simp; try with_reducible rfl)
      · assumption
      try simp only [Act.put, List.setIfInBounds_toArray, List.set_cons_zero, List.set_cons_succ]
      refine take_in (i := 2) (v := ?_) (d := (some 13)) rfl rfl ?_ ?_ ?_ ?_ ?_ ?_ ?_ ?_
      rotate_left
      · kernel_rfl
      · kernel_rfl
      · kernel_rfl
      · (intro _ _ _ hq; exact hq)
      · rfl
      · (intro _w hSw; (try dsimp only at hSw); go_simp; try with_reducible rfl)
      · assumption
      try simp only [Act.put, List.setIfInBounds_toArray, List.set_cons_zero, List.set_cons_succ]
      refine take_in (i := 3) (v := ?_) (d := (some 14)) rfl rfl ?_ ?_ ?_ ?_ ?_ ?_ ?_ ?_
      rotate_left
      · kernel_rfl
      · kernel_rfl
      · kernel_rfl
      · (intro _ _ _ hq; exact hq)
      · rfl
      · (intro _w hSw; (try dsimp only at hSw); go_simp; try with_reducible rfl)
      · assumption
      try simp only [Act.put, List.setIfInBounds_toArray, List.set_cons_zero, List.set_cons_succ]
      refine take_in (i := 4) (v := ?_) (d := (some 15)) rfl rfl ?_ ?_ ?_ ?_ ?_ ?_ ?_ ?_
      rotate_left
      · kernel_rfl
      · kernel_rfl
      · kernel_rfl
      · (intro _ _ _ hq; exact hq)
      · rfl
      · (intro _w hSw; (try dsimp only at hSw); go_simp; try with_reducible rfl)
      · assumption
      try simp only [Act.put, List.setIfInBounds_toArray, List.set_cons_zero, List.set_cons_succ]
      refine take_in (i := 5) (v := ?_) (d := (some 16)) rfl rfl ?_ ?_ ?_ ?_ ?_ ?_ ?_ ?_
      rotate_left
      · kernel_rfl
      · kernel_rfl
      · kernel_rfl
      · (intro _ _ _ hq; exact hq)
      · rfl
      · (intro _w hSw; (try dsimp only at hSw); go_simp; try with_reducible rfl)
      · assumption
      try simp only [Act.put, List.setIfInBounds_toArray, List.set_cons_zero, List.set_cons_succ]
      refine take_in (i := 7) (v := ?_) (d := (some 18)) rfl rfl ?_ ?_ ?_ ?_ ?_ ?_ ?_ ?_
      rotate_left
      · kernel_rfl
      · kernel_rfl
      · kernel_rfl
      · (intro _ _ _ hq; exact hq)
      · rfl
      · (intro _w hSw; (try dsimp only at hSw); go_simp; try with_reducible rfl)
      · assumption
      try simp only [Act.put, List.setIfInBounds_toArray, List.set_cons_zero, List.set_cons_succ]
      refine take_in (i := 8) (v := ?_) (d := (some 19)) rfl rfl ?_ ?_ ?_ ?_ ?_ ?_ ?_ ?_
      rotate_left
      · kernel_rfl
      · kernel_rfl
      · kernel_rfl
      · (intro _ _ _ hq; exact hq)
      · rfl
      · (intro _w hSw; (try dsimp only at hSw); go_simp; try with_reducible rfl)
      · assumption
      try simp only [Act.put, List.setIfInBounds_toArray, List.set_cons_zero, List.set_cons_succ]
      refine take_in (i := 9) (v := ?_) (d := (some 20)) rfl rfl ?_ ?_ ?_ ?_ ?_ ?_ ?_ ?_
      rotate_left
      · kernel_rfl
      · kernel_rfl
      · kernel_rfl
      · (intro _ _ _ hq; exact hq)
      · rfl
      · (intro _w hSw; (try dsimp only at hSw); go_simp; try with_reducible rfl)
      · assumption
      try simp only [Act.put, List.setIfInBounds_toArray, List.set_cons_zero, List.set_cons_succ]
      refine take_in (i := 10) (v := ?_) (d := (some 21)) rfl rfl ?_ ?_ ?_ ?_ ?_ ?_ ?_ ?_
      rotate_left
      · kernel_rfl
      · kernel_rfl
      · kernel_rfl
      · (intro _ _ _ hq; exact hq)
      · rfl
      · (intro _w hSw; (try dsimp only at hSw); go_simp; try with_reducible rfl)
      · assumption
      try simp only [Act.put, List.setIfInBounds_toArray, List.set_cons_zero, List.set_cons_succ]
      refine take_in (i := 11) (v := ?_) (d := (some 22)) rfl rfl ?_ ?_ ?_ ?_ ?_ ?_ ?_ ?_
      rotate_left
      · kernel_rfl
      · kernel_rfl
      · kernel_rfl
      · (intro _ _ _ hq; exact hq)
      · rfl
      · (intro _w hSw; (try dsimp only at hSw); go_simp; try with_reducible rfl)
      · assumption
      try simp only [Act.put, List.setIfInBounds_toArray, List.set_cons_zero, List.set_cons_succ]
      refine wpAnyH_ready (rs := [6]) ?_ ?_ ?_
      · kernel_rfl
      · simp
      refine (AllReadyH.cons rfl (fun K hK => ?_) AllReadyH.nil)
      go_simp
      first | (go_at_call 45; (with_reducible refine (HW1.out _ hHeld.1).mono ?_); rintro e w2 ⟨A2, n2, c2, rfl, h1, h2, h3, h4, hg2⟩; have HGA := Lib.hid (hHeld.1.trans hg2); have H1 := Lib.hid h1; have H2 := Lib.hid h2; have H3 := Lib.hid h3; have H4 := Lib.hid h4; clear h1 h2 h3 h4 hg2) | (go_at_call 45; (with_reducible refine (HW2.out A2 n2 c2 _ H1.out H2.out H3.out H4.out).mono ?_); rintro e w3 ⟨A3, n3, c3, rfl, h1, h2, h3, h4, hg3⟩; have HGB := Lib.hid (hHeld.1.trans hg3); have G1 := Lib.hid h1; have G2 := Lib.hid h2; have G3 := Lib.hid h3; have G4 := Lib.hid h4; clear h1 h2 h3 h4 hg3)
      refine hK.out _ _ ?_ (fun hHeld => ?_)
      · ((try dsimp only); (first | exact hHeld | exact KS.out _ (Gr.refl wr).drew | exact KS.out _ HGB.out | exact KS.out _ HGA.out))
      clear hK K
      try simp only [Act.put, List.setIfInBounds_toArray, List.set_cons_zero, List.set_cons_succ]
      refine wpAnyH_ready (rs := [12]) ?_ ?_ ?_
      · kernel_rfl
      · simp
      refine (AllReadyH.cons rfl (fun K hK => ?_) AllReadyH.nil)
      go_simp
      first | (go_at_call 45; (with_reducible refine (HW1.out _ hHeld.1).mono ?_); rintro e w2 ⟨A2, n2, c2, rfl, h1, h2, h3, h4, hg2⟩; have HGA := Lib.hid (hHeld.1.trans hg2); have H1 := Lib.hid h1; have H2 := Lib.hid h2; have H3 := Lib.hid h3; have H4 := Lib.hid h4; clear h1 h2 h3 h4 hg2) | (go_at_call 45; (with_reducible refine (HW2.out A2 n2 c2 _ H1.out H2.out H3.out H4.out).mono ?_); rintro e w3 ⟨A3, n3, c3, rfl, h1, h2, h3, h4, hg3⟩; have HGB := Lib.hid (hHeld.1.trans hg3); have G1 := Lib.hid h1; have G2 := Lib.hid h2; have G3 := Lib.hid h3; have G4 := Lib.hid h4; clear h1 h2 h3 h4 hg3)
      refine hK.out _ _ ?_ (fun hHeld => ?_)
      · ((try dsimp only); (first | exact hHeld | exact KS.out _ (Gr.refl wr).drew | exact KS.out _ HGB.out | exact KS.out _ HGA.out))
      clear hK K
      try simp only [Act.put, List.setIfInBounds_toArray, List.set_cons_zero, List.set_cons_succ]
      refine take_in (i := 13) (v := ?_) (d := (some 3)) rfl rfl ?_ ?_ ?_ ?_ ?_ ?_ ?_ ?_
      rotate_left
      · kernel_rfl
      · kernel_rfl
      · kernel_rfl
      · (intro _ _ _ hq; exact hq)
      · rfl
      · (intro _w hSw; (try dsimp only at hSw); go_simp; try with_reducible rfl)
      · assumption
      try simp only [Act.put, List.setIfInBounds_toArray, List.set_cons_zero, List.set_cons_succ]
      refine wpAnyH_done ?_ ?_ _
      · kernel_rfl
      rotate_left
      all_goals (have GL : Hid ((cutsF (l.take (k + 1))).length = n3) := Lib.hid (by rw [HTK.out]; exact G1.out))
      all_goals (have GR : Hid (Ints w3 A3 (cutsF (l.take (k + 1)))) := Lib.hid (by rw [HTK.out]; exact G2.out))
      all_goals (have GM : n3 ≤ 2 * (k + 1) := by have := HM2.out; have := G1.out; omega)
      all_goals (have GG := Lib.hid (hgr.trans HGB.out))
      all_goals (clear HTK HW1 HW2 HM1 HM2 KS HGA G1 G2 H1 H2 H3 H4)
      all_goals go_wp2_with fail
      all_goals go_roundw
      case rel => exact ⟨k + 1, A3, n3, c3, by omega, by go_num, rfl, GM, G4.out, GL, GR, G3, GG.out⟩
      case measure => simp [intOf]; omega
    · obtain rfl : k = n := by omega
      have hx : l.take k = l := List.take_of_length_le (by rw [HN.out]; exact Nat.le_refl _)
      have HL2 := Lib.hid (hx ▸ hL.out)
      have HR2 := Lib.hid (hx ▸ hR.out)
      clear hL hR hx
      go_wp2_with fail
      go_ret
      exact ⟨_, _, _, rfl, HL2.out, HR2.out, hS.out, hd, hgr⟩

theorem cutsF_tms (l : List Jb) : cutsF l = tms l := asc_one _ _ (cutsF_asc l) (tms_asc l) (fun z => by rw [cutsF_mem]; exact (timesL_mem (tmL l) z).symm)
theorem rCuts_any (A : Option Addr) (n c : Nat) (l : List Jb) (w : World) (hn : l.length = n) (hl : n ≤ 64) (hp : Tris w A l) : Calls Try.prog 24 #[.slice A n c] w (WithP (tms l) w) := by
  rw [← cutsF_tms]
  exact rCuts_raw A n c l w hn hl hp

end Go.Proofs.Ytfmojiaaoebodaa

namespace Go.Proofs.Ytfmojiaaoebodaa
open Go.RowKit
set_option linter.unusedSimpArgs false

/-- A block whose first cells are these numbers. -/
def RB (w : World) (g n : Nat) (f : Nat → Int) : Prop := ∃ cs : Array Value, Blk w g 3 cs ∧ ∀ i, i < n → cs[i]? = some (.int .i64 (f i))
theorem RB.keep {w w' : World} {g n : Nat} {f : Nat → Int} (h : RB w g n f) (hg : Gr w w') : RB w' g n f := by
  obtain ⟨cs, h1, h2⟩ := h
  exact ⟨cs, h1.keep hg, h2⟩
theorem RB.at {w : World} {g n : Nat} {f : Nat → Int} (h : RB w g n f) {i : Nat} (hi : i < n) : w.cell? ⟨g, i, none⟩ = some (.int .i64 (f i)) := by
  obtain ⟨cs, h1, h2⟩ := h
  exact (h1.cell i).trans (h2 i hi)
theorem RB.free {w : World} {g n : Nat} {f : Nat → Int} (h : RB w g n f) (i : Nat) : w.frozen? ⟨g, i, none⟩ = false := by
  obtain ⟨cs, h1, h2⟩ := h
  exact h1.free i
theorem RB.other {w : World} {g n : Nat} {f : Nat → Int} (h : RB w g n f) {p : Addr} (hne : g ≠ p.block) (u : Value) : RB (w.setCell p u) g n f := by
  obtain ⟨cs, h1, h2⟩ := h
  exact ⟨cs, h1.other hne u, h2⟩
theorem RB.put {w : World} {g n : Nat} {f : Nat → Int} (h : RB w g n f) (i : Nat) (v : Int) : RB (w.setCell ⟨g, i, none⟩ (.int .i64 v)) g n (updV f i v) := by
  obtain ⟨cs, h1, h2⟩ := h
  refine ⟨_, h1.put i _, fun k hk => ?_⟩
  rw [Array.getElem?_setIfInBounds]
  have hk2 := h2 k hk
  have hs : k < cs.size := (Array.getElem?_eq_some_iff.1 hk2).1
  by_cases e : i = k
  · subst e; rw [if_pos rfl, if_pos hs, updV_at]
  · rw [if_neg e, updV_ne _ _ (Ne.symm e)]; exact hk2

/-- The plan: rows of the jobs' work in each span, and what is left of each job. -/
structure PlM (w : World) (base n K : Nat) (gU gL : Nat) (rw : Nat → Nat) (U : Nat → Nat → Int) (left : Nat → Int) : Prop where
  used : ∃ cs, Blk w gU 25 cs ∧ ∀ j, j < n → cs[j]? = some (.slice (some ⟨rw j, 0, none⟩) K K)
  row : ∀ j, j < n → RB w (rw j) K (U j)
  left : RB w gL n left
  one : ∀ i j, i < n → j < n → rw i = rw j → i = j
  apart : ∀ j, j < n → rw j ≠ gL
  lo : base ≤ gL ∧ ∀ j, j < n → base ≤ rw j
section
variable {w : World} {base n K gU gL : Nat} {rw : Nat → Nat} {U : Nat → Nat → Int} {left : Nat → Int}
theorem PlM.keep {w' : World} (h : PlM w base n K gU gL rw U left) (hg : Gr w w') : PlM w' base n K gU gL rw U left := by
  obtain ⟨cs, h1, h2⟩ := h.used
  exact ⟨⟨cs, h1.keep hg, h2⟩, fun j hj => (h.row j hj).keep hg, h.left.keep hg, h.one, h.apart, h.lo⟩
theorem PlM.usedAt (h : PlM w base n K gU gL rw U left) {j : Nat} (hj : j < n) : w.cell? ⟨gU, j, none⟩ = some (.slice (some ⟨rw j, 0, none⟩) K K) := by
  obtain ⟨cs, h1, h2⟩ := h.used
  exact (h1.cell j).trans (h2 j hj)
theorem PlM.putU (h : PlM w base n K gU gL rw U left) {i : Nat} (hi : i < n) (k : Nat) (v : Int) : PlM (w.setCell ⟨rw i, k, none⟩ (.int .i64 v)) base n K gU gL rw (updU U i k v) left := by
  obtain ⟨cs, h1, h2⟩ := h.used
  have hne : gU ≠ rw i := by
    obtain ⟨ci, e1, _⟩ := h.row i hi
    exact h1.differ e1 (by decide)
  refine ⟨⟨cs, h1.other hne _, h2⟩, fun j hj => ?_, h.left.other (h.apart i hi).symm _, h.one, h.apart, h.lo⟩
  by_cases e : j = i
  · subst e
    have := (h.row j hi).put k v
    have e2 : updU U j k v j = updV (U j) k v := by funext s; unfold updU updV; simp
    rw [e2]; exact this
  · have e2 : updU U i k v j = U j := by funext s; unfold updU; rw [if_neg (fun x => e x.1)]
    rw [e2]
    exact (h.row j hj).other (fun x => e (h.one j i hj hi x)) _
theorem PlM.putL (h : PlM w base n K gU gL rw U left) (i : Nat) (v : Int) : PlM (w.setCell ⟨gL, i, none⟩ (.int .i64 v)) base n K gU gL rw U (updV left i v) := by
  obtain ⟨cs, h1, h2⟩ := h.used
  have hne : gU ≠ gL := by
    obtain ⟨ci, e1, _⟩ := h.left
    exact h1.differ e1 (by decide)
  exact ⟨⟨cs, h1.other hne _, h2⟩, fun j hj => (h.row j hj).other (h.apart j hj) _, h.left.put i v, h.one, h.apart, h.lo⟩
end

end Go.Proofs.Ytfmojiaaoebodaa

namespace Go.Proofs.Ytfmojiaaoebodaa
open Go.RowKit
set_option linter.unusedSimpArgs false

/-- Only blocks of S have turned; what is older than all of S has not. -/
structure Fx (S : Nat → Prop) (w w' : World) : Prop where
  keep : ∀ g, g < w.heap.size → ¬ S g → w'.heap[g]? = w.heap[g]?
  size : w.heap.size ≤ w'.heap.size
  gr : ∀ w0 : World, (∀ g, S g → w0.heap.size ≤ g) → Gr w0 w → Gr w0 w'
section
variable {S : Nat → Prop} {w w' w2 : World}
theorem Fx.of (h : Gr w w') : Fx S w w' := ⟨fun g hg _ => Below.block h g hg, h.size, fun _ _ h0 => h0.trans h⟩
theorem Fx.refl : Fx S w w := Fx.of (Gr.refl w)
theorem Fx.trans (h : Fx S w w') (h2 : Fx S w' w2) : Fx S w w2 :=
  ⟨fun g hg hs => (h2.keep g (Nat.lt_of_lt_of_le hg h.size) hs).trans (h.keep g hg hs), Nat.le_trans h.size h2.size, fun w0 hs h0 => h2.gr w0 hs (h.gr w0 hs h0)⟩
theorem Fx.set (h : Fx S w w') {p : Addr} (hp : S p.block) (u : Value) : Fx S w (w'.setCell p u) :=
  ⟨fun g hg hs => by
      have hne : g ≠ p.block := fun e => hs (e ▸ hp)
      exact (Below.heap_setCell w' p u g hne).trans (h.keep g hg hs),
    by have := h.size; simpa [World.setCell] using this,
    fun w0 hs h0 => (h.gr w0 hs h0).setCell (hs _ hp) u⟩
theorem Blk.fx {g : Nat} {t : TypeId} {cs : Array Value} (h : Blk w g t cs) (hf : Fx S w w') (hs : ¬ S g) : Blk w' g t cs := (hf.keep g h.lt hs).trans h
theorem RB.fx {g n : Nat} {f : Nat → Int} (h : RB w g n f) (hf : Fx S w w') (hs : ¬ S g) : RB w' g n f := by
  obtain ⟨cs, h1, h2⟩ := h
  exact ⟨cs, h1.fx hf hs, h2⟩
end
/-- The blocks of a plan that a push writes. -/
def PlS (n gL : Nat) (rw : Nat → Nat) (g : Nat) : Prop := g = gL ∨ ∃ j, j < n ∧ g = rw j

end Go.Proofs.Ytfmojiaaoebodaa
