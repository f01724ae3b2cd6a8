/- Layer 4: sums, schedules and refusals. Plain mathematics. -/
namespace Go.Proofs.Ytngcgienhdifaaa

def smN (f : Nat → Int) : Nat → Int
  | 0 => 0
  | k + 1 => smN f k + f k
theorem smN_congr {f g : Nat → Int} : ∀ k, (∀ i, i < k → f i = g i) → smN f k = smN g k
  | 0, _ => rfl
  | k + 1, h => by simp only [smN]; rw [smN_congr k (fun i hi => h i (by omega)), h k (by omega)]
theorem smN_le {f g : Nat → Int} : ∀ k, (∀ i, i < k → f i ≤ g i) → smN f k ≤ smN g k
  | 0, _ => Int.le_refl _
  | k + 1, h => by
    have h1 := smN_le k (fun i hi => h i (by omega))
    have h2 := h k (by omega)
    simp only [smN]; omega
theorem smN_add (f g : Nat → Int) : ∀ k, smN (fun i => f i + g i) k = smN f k + smN g k
  | 0 => rfl
  | k + 1 => by simp only [smN]; rw [smN_add f g k]; omega
theorem smN_zero : ∀ k, smN (fun _ => 0) k = 0
  | 0 => rfl
  | k + 1 => by simp only [smN]; rw [smN_zero k]; rfl
theorem smN_mul (c : Int) (f : Nat → Int) : ∀ k, smN (fun i => c * f i) k = c * smN f k
  | 0 => by simp [smN]
  | k + 1 => by simp only [smN]; rw [smN_mul c f k, Int.mul_add]
theorem smN_swap (f : Nat → Nat → Int) (n : Nat) : ∀ m, smN (fun i => smN (fun j => f i j) n) m = smN (fun j => smN (fun i => f i j) m) n
  | 0 => by simp only [smN]; rw [smN_zero]
  | m + 1 => by simp only [smN]; rw [smN_swap f n m, smN_add]
theorem smN_nonneg {f : Nat → Int} (k : Nat) (h : ∀ i, i < k → 0 ≤ f i) : 0 ≤ smN f k := by
  have := smN_le (f := fun _ => 0) (g := f) k h
  rwa [smN_zero] at this
theorem smN_ge_one {f : Nat → Int} : ∀ (k i : Nat), (∀ i, i < k → 0 ≤ f i) → i < k → f i ≤ smN f k
  | 0, _, _, h => by omega
  | k + 1, i, h, hi => by
    simp only [smN]
    rcases Nat.lt_or_ge i k with c | c
    · have := smN_ge_one k i (fun i hi => h i (by omega)) c
      have := h k (by omega)
      omega
    · obtain rfl : i = k := by omega
      have := smN_nonneg (f := f) i (fun i hi => h i (by omega))
      omega
theorem smN_one {f : Nat → Int} : ∀ (k i : Nat), i < k → (∀ j, j < k → j ≠ i → f j = 0) → smN f k = f i
  | 0, _, h, _ => by omega
  | k + 1, i, hi, h => by
    simp only [smN]
    rcases Nat.lt_or_ge i k with c | c
    · rw [smN_one k i c (fun j hj => h j (by omega)), h k (by omega) (by omega)]; omega
    · obtain rfl : i = k := by omega
      rw [smN_congr i (fun j hj => h j (by omega) (by omega)), smN_zero]; omega
/-- A number of what lies between two ends. -/
theorem smN_span (a b : Int) : ∀ k : Nat, smN (fun t => if a ≤ (t : Int) ∧ (t : Int) < b then 1 else 0) k = max 0 (min b k - max a 0)
  | 0 => by simp only [smN]; omega
  | k + 1 => by
    simp only [smN]
    rw [smN_span a b k]
    split <;> omega

def lsum {α : Type} (f : α → Int) : List α → Int
  | [] => 0
  | x :: r => f x + lsum f r
theorem lsum_le {α : Type} {f g : α → Int} : ∀ l : List α, (∀ x ∈ l, f x ≤ g x) → lsum f l ≤ lsum g l
  | [], _ => Int.le_refl _
  | x :: r, h => by
    have h1 := lsum_le r (fun y hy => h y (List.mem_cons_of_mem _ hy))
    have h2 := h x List.mem_cons_self
    simp only [lsum]; omega
theorem lsum_congr {α : Type} {f g : α → Int} (l : List α) (h : ∀ x ∈ l, f x = g x) : lsum f l = lsum g l :=
  Int.le_antisymm (lsum_le l fun x hx => Int.le_of_eq (h x hx)) (lsum_le l fun x hx => Int.le_of_eq (h x hx).symm)
theorem lsum_add {α : Type} (f g : α → Int) : ∀ l : List α, lsum (fun x => f x + g x) l = lsum f l + lsum g l
  | [] => rfl
  | x :: r => by simp only [lsum]; rw [lsum_add f g r]; omega
theorem lsum_mul {α : Type} (c : Int) (f : α → Int) : ∀ l : List α, lsum (fun x => c * f x) l = c * lsum f l
  | [] => by simp [lsum]
  | x :: r => by simp only [lsum]; rw [lsum_mul c f r, Int.mul_add]
theorem lsum_app {α : Type} (f : α → Int) : ∀ a b : List α, lsum f (a ++ b) = lsum f a + lsum f b
  | [], b => by simp [lsum]
  | x :: r, b => by simp only [List.cons_append, lsum]; rw [lsum_app f r b]; omega
theorem lsum_zero {α : Type} (l : List α) : lsum (fun _ => 0) l = 0 := by
  induction l with
  | nil => rfl
  | cons x r ih => simp only [lsum, ih]; rfl
theorem lsum_nonneg {α : Type} {f : α → Int} (l : List α) (h : ∀ x ∈ l, 0 ≤ f x) : 0 ≤ lsum f l := by
  have := lsum_le (f := fun _ => 0) (g := f) l h
  rwa [lsum_zero] at this
theorem lsum_smN {α : Type} (f : α → Nat → Int) (k : Nat) : ∀ l : List α, lsum (fun x => smN (f x) k) l = smN (fun t => lsum (fun x => f x t) l) k
  | [] => by simp only [lsum]; rw [smN_zero]
  | x :: r => by simp only [lsum]; rw [lsum_smN f k r, smN_add]
theorem lsum_swap {α β : Type} (f : α → β → Int) (m : List β) : ∀ l : List α, lsum (fun x => lsum (f x) m) l = lsum (fun y => lsum (fun x => f x y) l) m
  | [] => by simp only [lsum]; rw [lsum_zero]
  | x :: r => by simp only [lsum]; rw [lsum_swap f m r, lsum_add]
theorem lsum_perm {α : Type} (f : α → Int) {a b : List α} (h : a.Perm b) : lsum f a = lsum f b := by
  induction h with
  | nil => rfl
  | cons x _ ih => simp only [lsum, ih]
  | swap x y l => simp only [lsum]; omega
  | trans _ _ h1 h2 => exact h1.trans h2

/-- A job: ready, due, work. A slot: job, bench, from, to. -/
abbrev Jb := Int × Int × Int
abbrev Sl := Int × Int × Int × Int
def jbA (l : List Jb) (j : Nat) : Jb := l.getD j (0, 0, 0)
/-- A slot of the task. -/
def okS (n : Int) (l : List Jb) (x : Sl) : Prop :=
  (0 ≤ x.1 ∧ x.1 < l.length) ∧ (0 ≤ x.2.1 ∧ x.2.1 < n) ∧ x.2.2.1 < x.2.2.2 ∧ (jbA l x.1.toNat).1 ≤ x.2.2.1 ∧ x.2.2.2 ≤ (jbA l x.1.toNat).2.1
def apS (x y : Sl) : Prop := (x.1 = y.1 ∨ x.2.1 = y.2.1) → x.2.2.2 ≤ y.2.2.1 ∨ y.2.2.2 ≤ x.2.2.1
def lenS (x : Sl) : Int := x.2.2.2 - x.2.2.1
/-- How much is done of a job. -/
def doneS (s : List Sl) (j : Int) : Int := lsum (fun x => if x.1 = j then lenS x else 0) s
structure SchedP (n : Int) (l : List Jb) (s : List Sl) : Prop where
  few : s.length ≤ 4096
  ok : ∀ x ∈ s, okS n l x
  apart : s.Pairwise apS
  done : ∀ j : Nat, j < l.length → doneS s j = (jbA l j).2.2

/-- How much of two spans is common. -/
def ovr (a b c d : Int) : Int := max 0 (min b d - max a c)
/-- Spans one behind the other. -/
def spansP (S : List (Int × Int)) : Prop := (∀ p ∈ S, 0 ≤ p.1 ∧ p.1 < p.2 ∧ p.2 ≤ 1048576) ∧ S.Pairwise fun p q => p.2 ≤ q.1
def roomS (n : Int) (S : List (Int × Int)) : Int := lsum (fun p => n * (p.2 - p.1)) S
/-- The time of a job beside spans. -/
def besS (S : List (Int × Int)) (j : Jb) : Int := j.2.1 - j.1 - lsum (fun p => ovr j.1 j.2.1 p.1 p.2) S
structure RefuseP (n : Int) (l : List Jb) (J : List Int) (S : List (Int × Int)) : Prop where
  few : S.length ≤ 4096
  spans : spansP S
  jobs : ∀ j ∈ J, 0 ≤ j ∧ j < l.length
  asc : J.Pairwise (· < ·)
  more : roomS n S + lsum (fun j => besS S (jbA l j.toNat)) J < lsum (fun j => (jbA l j.toNat).2.2) J

/-- Is t in the span? -/
def onI (a b : Int) (t : Nat) : Int := if a ≤ (t : Int) ∧ (t : Int) < b then 1 else 0
theorem onI_01 (a b : Int) (t : Nat) : onI a b t = 0 ∨ onI a b t = 1 := by unfold onI; split <;> simp
theorem onI_sum {a b : Int} {T : Nat} (h1 : 0 ≤ a) (h2 : a ≤ b) (h3 : b ≤ T) : smN (onI a b) T = b - a := by
  have := smN_span a b T
  unfold onI
  rw [this]; omega
theorem onI_both {a b c d : Int} {T : Nat} (h1 : 0 ≤ a) (h3 : b ≤ T) (h4 : 0 ≤ c) : smN (fun t => onI a b t * onI c d t) T = ovr a b c d := by
  have := smN_span (max a c) (min b d) T
  rw [smN_congr (g := fun t => if max a c ≤ (t : Int) ∧ (t : Int) < min b d then 1 else 0) T, this]
  · unfold ovr; omega
  · intro t _
    unfold onI
    split <;> split <;> split <;> omega

/-- Many things that are on at once at different places below n. -/
theorem count_places {α : Type} (pl : α → Int) (on : α → Int) : ∀ (n : Nat) (l : List α), (∀ x ∈ l, on x = 0 ∨ on x = 1) → (∀ x ∈ l, on x = 1 → 0 ≤ pl x ∧ pl x < n) → (l.Pairwise fun x y => on x = 1 → on y = 1 → pl x ≠ pl y) → lsum on l ≤ n
  | 0, l, h1, h2, _ => by
    rw [lsum_congr (g := fun _ => 0) l, lsum_zero]; · exact Int.le_refl _
    intro x hx
    rcases h1 x hx with h | h
    · exact h
    · have := h2 x hx h; omega
  | n + 1, l, h1, h2, h3 => by
    -- those at place n: at most one
    have hsplit : lsum on l = lsum (fun x => if pl x = n then on x else 0) l + lsum (fun x => if pl x = n then 0 else on x) l := by
      rw [← lsum_add]; exact lsum_congr l fun x _ => by split <;> omega
    have hone : ∀ m : List α, (∀ x ∈ m, on x = 0 ∨ on x = 1) → (m.Pairwise fun x y => on x = 1 → on y = 1 → pl x ≠ pl y) → lsum (fun x => if pl x = (n : Int) then on x else 0) m ≤ 1 := by
      intro m
      induction m with
      | nil => intro _ _; simp [lsum]
      | cons x r ih =>
        intro a b
        obtain ⟨b1, b2⟩ := List.pairwise_cons.1 b
        have ih' := ih (fun y hy => a y (List.mem_cons_of_mem _ hy)) b2
        simp only [lsum]
        split
        · rename_i hp
          rcases a x List.mem_cons_self with h | h
          · omega
          · rw [lsum_congr (g := fun _ => 0) r, lsum_zero]; · omega
            intro y hy
            split
            · rename_i hq
              rcases a y (List.mem_cons_of_mem _ hy) with k | k
              · exact k
              · exact absurd (hp.trans hq.symm) (b1 y hy h k)
            · rfl
        · omega
    have hrest := count_places pl (fun x => if pl x = n then 0 else on x) n l
      (fun x hx => by
        by_cases e : pl x = n
        · rw [if_pos e]; exact Or.inl rfl
        · rw [if_neg e]; exact h1 x hx)
      (fun x hx e => by
        by_cases c : pl x = n
        · rw [if_pos c] at e; omega
        · rw [if_neg c] at e; have := h2 x hx e; omega)
      (h3.imp fun {x y} h e1 e2 => by
        by_cases c : pl x = n
        · rw [if_pos c] at e1; omega
        · by_cases d : pl y = n
          · rw [if_pos d] at e2; omega
          · rw [if_neg c] at e1; rw [if_neg d] at e2; exact h e1 e2)
    have h0 := hone l h1 h3
    rw [hsplit]; push_cast; omega

theorem lsum_pick {α : Type} (f : α → Int) (c : α → Prop) [DecidablePred c] : ∀ l : List α, lsum (fun x => if c x then f x else 0) l = lsum f (l.filter fun x => decide (c x))
  | [] => rfl
  | x :: r => by
    simp only [lsum]
    by_cases h : c x
    · rw [if_pos h, List.filter_cons_of_pos (by simpa using h)]; simp only [lsum]; rw [lsum_pick f c r]
    · rw [if_neg h, List.filter_cons_of_neg (by simpa using h), lsum_pick f c r]; omega

/-- In a list without repetitions each number is met at most once. -/
theorem lsum_at_most {J : List Int} (h : J.Pairwise (· < ·)) (v : Int) {c : Int} (hc : 0 ≤ c) : lsum (fun j => if v = j then c else 0) J ≤ c := by
  induction J with
  | nil => simpa [lsum] using hc
  | cons x r ih =>
    obtain ⟨h1, h2⟩ := List.pairwise_cons.1 h
    simp only [lsum]
    split
    · rename_i e
      rw [lsum_congr (g := fun _ => 0) r, lsum_zero]; · omega
      intro y hy
      have := h1 y hy
      rw [if_neg (by omega)]
    · have := ih h2; omega

theorem dual {n : Nat} {l : List Jb} {s : List Sl} {J : List Int} {S : List (Int × Int)} (hl : ∀ j ∈ l, 0 ≤ j.1 ∧ j.1 < j.2.1 ∧ j.2.1 ≤ 1048576) (h : SchedP n l s) (k : RefuseP n l J S) : False := by
  obtain ⟨T, hT⟩ : ∃ T : Nat, T = 1048576 := ⟨_, rfl⟩
  have hjb : ∀ j : Nat, j < l.length → 0 ≤ (jbA l j).1 ∧ (jbA l j).1 < (jbA l j).2.1 ∧ (jbA l j).2.1 ≤ T := fun j hj => by
    have : jbA l j ∈ l := by unfold jbA; rw [List.getD_eq_getElem?_getD, List.getElem?_eq_getElem hj]; exact List.getElem_mem hj
    have := hl _ this
    omega
  have hok := h.ok
  -- what is on at a time
  let on : Sl → Nat → Int := fun x => onI x.2.2.1 x.2.2.2
  let inn : Nat → Int := fun t => lsum (fun p : Int × Int => onI p.1 p.2 t) S
  have hin : ∀ t, 0 ≤ inn t ∧ inn t ≤ 1 := fun t => by
    constructor
    · exact lsum_nonneg S fun p _ => by rcases onI_01 p.1 p.2 t with h | h <;> omega
    · have := count_places (fun _ : Int × Int => 0) (fun p => onI p.1 p.2 t) 1 S (fun p _ => onI_01 _ _ _) (fun p _ _ => by omega) (k.spans.2.imp_of_mem fun {p q} hp hq h e1 e2 => by
        have := k.spans.1 p hp
        have := k.spans.1 q hq
        unfold onI at e1 e2
        split at e1
        · split at e2
          · omega
          · simp at e2
        · simp at e1)
      simpa using this
  have hlen : ∀ x ∈ s, smN (on x) T = lenS x := fun x hx => by
    obtain ⟨⟨a1, a2⟩, -, a3, a4, a5⟩ := hok x hx
    have := hjb x.1.toNat (by omega)
    exact onI_sum (by omega) (by omega) (by omega)
  -- the work of the jobs
  have hwork : lsum (fun j => (jbA l j.toNat).2.2) J = smN (fun t => lsum (fun j => lsum (fun x => if x.1 = j then on x t else 0) s) J) T := by
    rw [← lsum_smN]
    refine lsum_congr J fun j hj => ?_
    obtain ⟨h0, h1⟩ := k.jobs j hj
    rw [← h.done j.toNat (by omega), ← lsum_smN]
    unfold doneS
    refine lsum_congr s fun x hx => ?_
    rw [show ((j.toNat : Nat) : Int) = j by omega]
    split
    · exact (hlen x hx).symm
    · rw [smN_zero]
  -- at one time
  have hpt : ∀ t, t < T → lsum (fun j => lsum (fun x => if x.1 = j then on x t else 0) s) J ≤ n * inn t + lsum (fun j => (1 - inn t) * onI (jbA l j.toNat).1 (jbA l j.toNat).2.1 t) J := fun t ht => by
    obtain ⟨i0, i1⟩ := hin t
    rcases (by omega : inn t = 0 ∨ inn t = 1) with e | e
    · rw [e]
      have : lsum (fun j => lsum (fun x => if x.1 = j then on x t else 0) s) J ≤ lsum (fun j => (1 - 0) * onI (jbA l j.toNat).1 (jbA l j.toNat).2.1 t) J := by
        refine lsum_le J fun j hj => ?_
        have hc := count_places (fun _ : Sl => 0) (fun x => if x.1 = j then on x t else 0) 1 s (fun x _ => by
            split
            · exact onI_01 _ _ _
            · exact Or.inl rfl) (fun _ _ _ => by omega) (h.apart.imp_of_mem fun {x y} hx hy ha e1 e2 => by
            have hx1 := hok x hx
            have hy1 := hok y hy
            simp only [on, onI] at e1 e2
            split at e1
            · split at e1
              · split at e2
                · split at e2
                  · rename_i p1 p2 p3 p4
                    have := ha (Or.inl (p1.trans p3.symm))
                    omega
                  · simp at e2
                · simp at e2
              · simp at e1
            · simp at e1)
        rcases onI_01 (jbA l j.toNat).1 (jbA l j.toNat).2.1 t with e0 | e0
        · rw [e0]
          rw [lsum_congr (g := fun _ => 0) s, lsum_zero]; · omega
          intro x hx
          split
          · rename_i hj1
            obtain ⟨-, -, a3, a4, a5⟩ := hok x hx
            rw [hj1] at a4 a5
            simp only [on, onI] at e0 ⊢
            split at e0
            · simp at e0
            · rw [if_neg (by omega)]
          · rfl
        · rw [e0]; simpa using hc
      omega
    · rw [e]
      have h1 : lsum (fun j => lsum (fun x => if x.1 = j then on x t else 0) s) J ≤ lsum (fun x => on x t) s := by
        rw [lsum_swap]
        refine lsum_le s fun x hx => lsum_at_most k.asc x.1 ?_
        rcases onI_01 x.2.2.1 x.2.2.2 t with h | h <;> simp only [on] <;> omega
      have h2 := count_places (fun x : Sl => x.2.1) (fun x => on x t) n s (fun x _ => onI_01 _ _ _) (fun x hx _ => (hok x hx).2.1) (h.apart.imp_of_mem fun {x y} hx hy ha e1 e2 => by
          have hx1 := hok x hx
          have hy1 := hok y hy
          simp only [on, onI] at e1 e2
          split at e1
          · split at e2
            · intro e
              have := ha (Or.inr e)
              omega
            · simp at e2
          · simp at e1)
      have h3 : lsum (fun j => (1 - 1 : Int) * onI (jbA l j.toNat).1 (jbA l j.toNat).2.1 t) J = 0 := by
        rw [lsum_congr (g := fun _ => 0) J (fun j _ => by simp), lsum_zero]
      rw [h3]; omega
  have hle := smN_le T hpt
  rw [← hwork, smN_add] at hle
  have hroom : smN (fun t => (n : Int) * inn t) T = roomS n S := by
    rw [smN_mul, ← lsum_smN]
    unfold roomS
    rw [lsum_mul]
    congr 1
    refine lsum_congr S fun p hp => ?_
    have := k.spans.1 p hp
    exact onI_sum (by omega) (by omega) (by omega)
  have hbes : smN (fun t => lsum (fun j => (1 - inn t) * onI (jbA l j.toNat).1 (jbA l j.toNat).2.1 t) J) T = lsum (fun j => besS S (jbA l j.toNat)) J := by
    rw [← lsum_smN]
    refine lsum_congr J fun j hj => ?_
    obtain ⟨h0, h1⟩ := k.jobs j hj
    obtain ⟨b1, b2, b3⟩ := hjb j.toNat (by omega)
    have e1 : smN (fun t => (1 - inn t) * onI (jbA l j.toNat).1 (jbA l j.toNat).2.1 t) T + smN (fun t => lsum (fun p : Int × Int => onI (jbA l j.toNat).1 (jbA l j.toNat).2.1 t * onI p.1 p.2 t) S) T = smN (onI (jbA l j.toNat).1 (jbA l j.toNat).2.1) T := by
      rw [← smN_add]
      refine smN_congr T fun t _ => ?_
      have : lsum (fun p : Int × Int => onI (jbA l j.toNat).1 (jbA l j.toNat).2.1 t * onI p.1 p.2 t) S = inn t * onI (jbA l j.toNat).1 (jbA l j.toNat).2.1 t := by
        rw [lsum_mul, Int.mul_comm]
      rw [this, Int.sub_mul]; omega
    rw [onI_sum (by omega) (by omega) b3, ← lsum_smN] at e1
    have e2 : lsum (fun p : Int × Int => smN (fun t => onI (jbA l j.toNat).1 (jbA l j.toNat).2.1 t * onI p.1 p.2 t) T) S = lsum (fun p : Int × Int => ovr (jbA l j.toNat).1 (jbA l j.toNat).2.1 p.1 p.2) S :=
      lsum_congr S fun p hp => onI_both (by omega) b3 (by have := k.spans.1 p hp; omega)
    rw [e2] at e1
    unfold besS
    omega
  rw [hroom, hbes] at hle
  have := k.more
  omega

end Go.Proofs.Ytngcgienhdifaaa
