/- Layer 4: sums, schedules and refusals. Plain mathematics. -/

namespace Go.Proofs.YtobcdkjomehdkaaGreat
set_option linter.unusedSimpArgs false
set_option maxRecDepth 100000
set_option maxHeartbeats 80000000

def smN (f : Nat → Int) : Nat → Int
 | 0 => 0
 | k + 1 => smN f k + f k
theorem smN_congr {f g : Nat → Int} : ∀ k, (∀ i, i < k → f i = g i) → smN f k = smN g k
 | 0, _ => rfl
 | k + 1, h => by simp only [smN]; rw [smN_congr k (fun i hi => h i (by omega)), h k (by omega)]
theorem smN_le {f g : Nat → Int} : ∀ k, (∀ i, i < k → f i ≤ g i) → smN f k ≤ smN g k
 | 0, _ => Int.le_refl _
 | k + 1, h => by
   have h1 := smN_le k (fun i hi => h i (by omega))
   have h2 := h k (by omega)
   simp only [smN]; omega
theorem smN_add (f g : Nat → Int) : ∀ k, smN (fun i => f i + g i) k = smN f k + smN g k
 | 0 => rfl
 | k + 1 => by simp only [smN]; rw [smN_add f g k]; omega
theorem smN_zero : ∀ k, smN (fun _ => 0) k = 0
 | 0 => rfl
 | k + 1 => by simp only [smN]; rw [smN_zero k]; rfl
theorem smN_mul (c : Int) (f : Nat → Int) : ∀ k, smN (fun i => c * f i) k = c * smN f k
 | 0 => by simp [smN]
 | k + 1 => by simp only [smN]; rw [smN_mul c f k, Int.mul_add]
theorem smN_swap (f : Nat → Nat → Int) (n : Nat) : ∀ m, smN (fun i => smN (fun j => f i j) n) m = smN (fun j => smN (fun i => f i j) m) n
 | 0 => by simp only [smN]; rw [smN_zero]
 | m + 1 => by simp only [smN]; rw [smN_swap f n m, smN_add]
theorem smN_nonneg {f : Nat → Int} (k : Nat) (h : ∀ i, i < k → 0 ≤ f i) : 0 ≤ smN f k := by
 have := smN_le (f := fun _ => 0) (g := f) k h
 rwa [smN_zero] at this
theorem smN_ge_one {f : Nat → Int} : ∀ (k i : Nat), (∀ i, i < k → 0 ≤ f i) → i < k → f i ≤ smN f k
 | 0, _, _, h => by omega
 | k + 1, i, h, hi => by
   simp only [smN]
   rcases Nat.lt_or_ge i k with c | c
   ·have := smN_ge_one k i (fun i hi => h i (by omega)) c
    have := h k (by omega)
    omega
   ·obtain rfl : i = k := by omega
    have := smN_nonneg (f := f) i (fun i hi => h i (by omega))
    omega
theorem smN_one {f : Nat → Int} : ∀ (k i : Nat), i < k → (∀ j, j < k → j ≠ i → f j = 0) → smN f k = f i
 | 0, _, h, _ => by omega
 | k + 1, i, hi, h => by
   simp only [smN]
   rcases Nat.lt_or_ge i k with c | c
   ·rw [smN_one k i c (fun j hj => h j (by omega)), h k (by omega) (by omega)]; omega
   ·obtain rfl : i = k := by omega
    rw [smN_congr i (fun j hj => h j (by omega) (by omega)), smN_zero]; omega
theorem smN_span (a b : Int) : ∀ k : Nat, smN (fun t => if a ≤ (t : Int) ∧ (t : Int) < b then 1 else 0) k = max 0 (min b k - max a 0)
 | 0 => by simp only [smN]; omega
 | k + 1 => by
   simp only [smN]
   rw [smN_span a b k]
   split <;> omega

def lsum {α : Type} (f : α → Int) : List α → Int
 | [] => 0
 | x :: r => f x + lsum f r
theorem lsum_le {α : Type} {f g : α → Int} : ∀ l : List α, (∀ x ∈ l, f x ≤ g x) → lsum f l ≤ lsum g l
 | [], _ => Int.le_refl _
 | x :: r, h => by
   have h1 := lsum_le r (fun y hy => h y (List.mem_cons_of_mem _ hy))
   have h2 := h x List.mem_cons_self
   simp only [lsum]; omega
theorem lsum_congr {α : Type} {f g : α → Int} (l : List α) (h : ∀ x ∈ l, f x = g x) : lsum f l = lsum g l :=
 Int.le_antisymm (lsum_le l fun x hx => Int.le_of_eq (h x hx)) (lsum_le l fun x hx => Int.le_of_eq (h x hx).symm)
theorem lsum_add {α : Type} (f g : α → Int) : ∀ l : List α, lsum (fun x => f x + g x) l = lsum f l + lsum g l
 | [] => rfl
 | x :: r => by simp only [lsum]; rw [lsum_add f g r]; omega
theorem lsum_mul {α : Type} (c : Int) (f : α → Int) : ∀ l : List α, lsum (fun x => c * f x) l = c * lsum f l
 | [] => by simp [lsum]
 | x :: r => by simp only [lsum]; rw [lsum_mul c f r, Int.mul_add]
theorem lsum_app {α : Type} (f : α → Int) : ∀ a b : List α, lsum f (a ++ b) = lsum f a + lsum f b
 | [], b => by simp [lsum]
 | x :: r, b => by simp only [List.cons_append, lsum]; rw [lsum_app f r b]; omega
theorem lsum_zero {α : Type} (l : List α) : lsum (fun _ => 0) l = 0 := by
 induction l with
 | nil => rfl
 | cons x r ih => simp only [lsum, ih]; rfl
theorem lsum_nonneg {α : Type} {f : α → Int} (l : List α) (h : ∀ x ∈ l, 0 ≤ f x) : 0 ≤ lsum f l := by
 have := lsum_le (f := fun _ => 0) (g := f) l h
 rwa [lsum_zero] at this
theorem lsum_smN {α : Type} (f : α → Nat → Int) (k : Nat) : ∀ l : List α, lsum (fun x => smN (f x) k) l = smN (fun t => lsum (fun x => f x t) l) k
 | [] => by simp only [lsum]; rw [smN_zero]
 | x :: r => by simp only [lsum]; rw [lsum_smN f k r, smN_add]
theorem lsum_swap {α β : Type} (f : α → β → Int) (m : List β) : ∀ l : List α, lsum (fun x => lsum (f x) m) l = lsum (fun y => lsum (fun x => f x y) l) m
 | [] => by simp only [lsum]; rw [lsum_zero]
 | x :: r => by simp only [lsum]; rw [lsum_swap f m r, lsum_add]
theorem lsum_perm {α : Type} (f : α → Int) {a b : List α} (h : a.Perm b) : lsum f a = lsum f b := by
 induction h with
 | nil => rfl
 | cons x _ ih => simp only [lsum, ih]
 | swap x y l => simp only [lsum]; omega
 | trans _ _ h1 h2 => exact h1.trans h2

abbrev Jb := Int × Int × Int
abbrev Sl := Int × Int × Int × Int
def jbA (l : List Jb) (j : Nat) : Jb := l.getD j (0, 0, 0)
def okS (n : Int) (l : List Jb) (x : Sl) : Prop :=
 (0 ≤ x.1 ∧ x.1 < l.length) ∧ (0 ≤ x.2.1 ∧ x.2.1 < n) ∧ x.2.2.1 < x.2.2.2 ∧ (jbA l x.1.toNat).1 ≤ x.2.2.1 ∧ x.2.2.2 ≤ (jbA l x.1.toNat).2.1
def apS (x y : Sl) : Prop := (x.1 = y.1 ∨ x.2.1 = y.2.1) → x.2.2.2 ≤ y.2.2.1 ∨ y.2.2.2 ≤ x.2.2.1
def lenS (x : Sl) : Int := x.2.2.2 - x.2.2.1
def doneS (s : List Sl) (j : Int) : Int := lsum (fun x => if x.1 = j then lenS x else 0) s
structure SchedP (n : Int) (l : List Jb) (s : List Sl) : Prop where
 few : s.length ≤ 4096
 ok : ∀ x ∈ s, okS n l x
 apart : s.Pairwise apS
 done : ∀ j : Nat, j < l.length → doneS s j = (jbA l j).2.2

def ovr (a b c d : Int) : Int := max 0 (min b d - max a c)
def spansP (S : List (Int × Int)) : Prop := (∀ p ∈ S, 0 ≤ p.1 ∧ p.1 < p.2 ∧ p.2 ≤ 1048576) ∧ S.Pairwise fun p q => p.2 ≤ q.1
def roomS (n : Int) (S : List (Int × Int)) : Int := lsum (fun p => n * (p.2 - p.1)) S
def besS (S : List (Int × Int)) (j : Jb) : Int := j.2.1 - j.1 - lsum (fun p => ovr j.1 j.2.1 p.1 p.2) S
structure RefuseP (n : Int) (l : List Jb) (J : List Int) (S : List (Int × Int)) : Prop where
 few : S.length ≤ 4096
 spans : spansP S
 jobs : ∀ j ∈ J, 0 ≤ j ∧ j < l.length
 asc : J.Pairwise (· < ·)
 more : roomS n S + lsum (fun j => besS S (jbA l j.toNat)) J < lsum (fun j => (jbA l j.toNat).2.2) J

def onI (a b : Int) (t : Nat) : Int := if a ≤ (t : Int) ∧ (t : Int) < b then 1 else 0
theorem onI_01 (a b : Int) (t : Nat) : onI a b t = 0 ∨ onI a b t = 1 := by unfold onI; split <;> simp
theorem onI_sum {a b : Int} {T : Nat} (h1 : 0 ≤ a) (h2 : a ≤ b) (h3 : b ≤ T) : smN (onI a b) T = b - a := by
 have := smN_span a b T
 unfold onI
 rw [this]; omega
theorem onI_both {a b c d : Int} {T : Nat} (h1 : 0 ≤ a) (h3 : b ≤ T) (h4 : 0 ≤ c) : smN (fun t => onI a b t * onI c d t) T = ovr a b c d := by
 have := smN_span (max a c) (min b d) T
 rw [smN_congr (g := fun t => if max a c ≤ (t : Int) ∧ (t : Int) < min b d then 1 else 0) T, this]
 ·unfold ovr; omega
 ·intro t _
  unfold onI
  split <;> split <;> split <;> omega

theorem count_places {α : Type} (pl : α → Int) (on : α → Int) : ∀ (n : Nat) (l : List α), (∀ x ∈ l, on x = 0 ∨ on x = 1) → (∀ x ∈ l, on x = 1 → 0 ≤ pl x ∧ pl x < n) → (l.Pairwise fun x y => on x = 1 → on y = 1 → pl x ≠ pl y) → lsum on l ≤ n
 | 0, l, h1, h2, _ => by
   rw [lsum_congr (g := fun _ => 0) l, lsum_zero]; · exact Int.le_refl _
   intro x hx
   rcases h1 x hx with h | h
   ·exact h
   ·have := h2 x hx h; omega
 | n + 1, l, h1, h2, h3 => by
   -- those at place n: at most one
   have hsplit : lsum on l = lsum (fun x => if pl x = n then on x else 0) l + lsum (fun x => if pl x = n then 0 else on x) l := by
    rw [← lsum_add]; exact lsum_congr l fun x _ => by split <;> omega
   have hone : ∀ m : List α, (∀ x ∈ m, on x = 0 ∨ on x = 1) → (m.Pairwise fun x y => on x = 1 → on y = 1 → pl x ≠ pl y) → lsum (fun x => if pl x = (n : Int) then on x else 0) m ≤ 1 := by
    intro m
    induction m with
    | nil => intro _ _; simp [lsum]
    | cons x r ih =>
      intro a b
      obtain ⟨b1, b2⟩ := List.pairwise_cons.1 b
      have ih' := ih (fun y hy => a y (List.mem_cons_of_mem _ hy)) b2
      simp only [lsum]
      split
      ·rename_i hp
       rcases a x List.mem_cons_self with h | h
       ·omega
       ·rw [lsum_congr (g := fun _ => 0) r, lsum_zero]; · omega
        intro y hy
        split
        ·rename_i hq
         rcases a y (List.mem_cons_of_mem _ hy) with k | k
         ·exact k
         ·exact absurd (hp.trans hq.symm) (b1 y hy h k)
        ·rfl
      ·omega
   have hrest := count_places pl (fun x => if pl x = n then 0 else on x) n l
    (fun x hx => by
      by_cases e : pl x = n
      ·rw [if_pos e]; exact Or.inl rfl
      ·rw [if_neg e]; exact h1 x hx)
    (fun x hx e => by
      by_cases c : pl x = n
      ·rw [if_pos c] at e; omega
      ·rw [if_neg c] at e; have := h2 x hx e; omega)
    (h3.imp fun {x y} h e1 e2 => by
      by_cases c : pl x = n
      ·rw [if_pos c] at e1; omega
      ·by_cases d : pl y = n
       ·rw [if_pos d] at e2; omega
       ·rw [if_neg c] at e1; rw [if_neg d] at e2; exact h e1 e2)
   have h0 := hone l h1 h3
   rw [hsplit]; push_cast; omega

theorem lsum_at_most {J : List Int} (h : J.Pairwise (· < ·)) (v : Int) {c : Int} (hc : 0 ≤ c) : lsum (fun j => if v = j then c else 0) J ≤ c := by
 induction J with
 | nil => simpa [lsum] using hc
 | cons x r ih =>
   obtain ⟨h1, h2⟩ := List.pairwise_cons.1 h
   simp only [lsum]
   split
   ·rename_i e
    rw [lsum_congr (g := fun _ => 0) r, lsum_zero]; · omega
    intro y hy
    have := h1 y hy
    rw [if_neg (by omega)]
   ·have := ih h2; omega

theorem dual {n : Nat} {l : List Jb} {s : List Sl} {J : List Int} {S : List (Int × Int)} (hl : ∀ j ∈ l, 0 ≤ j.1 ∧ j.1 < j.2.1 ∧ j.2.1 ≤ 1048576) (h : SchedP n l s) (k : RefuseP n l J S) : False := by
 obtain ⟨T, hT⟩ : ∃ T : Nat, T = 1048576 := ⟨_, rfl⟩
 have hjb : ∀ j : Nat, j < l.length → 0 ≤ (jbA l j).1 ∧ (jbA l j).1 < (jbA l j).2.1 ∧ (jbA l j).2.1 ≤ T := fun j hj => by
  have : jbA l j ∈ l := by unfold jbA; rw [List.getD_eq_getElem?_getD, List.getElem?_eq_getElem hj]; exact List.getElem_mem hj
  have := hl _ this
  omega
 have hok := h.ok
 -- what is on at a time
 let on : Sl → Nat → Int := fun x => onI x.2.2.1 x.2.2.2
 let inn : Nat → Int := fun t => lsum (fun p : Int × Int => onI p.1 p.2 t) S
 have hin : ∀ t, 0 ≤ inn t ∧ inn t ≤ 1 := fun t => by
  constructor
  ·exact lsum_nonneg S fun p _ => by rcases onI_01 p.1 p.2 t with h | h <;> omega
  ·have := count_places (fun _ : Int × Int => 0) (fun p => onI p.1 p.2 t) 1 S (fun p _ => onI_01 _ _ _) (fun p _ _ => by omega) (k.spans.2.imp_of_mem fun {p q} hp hq h e1 e2 => by
    have := k.spans.1 p hp
    have := k.spans.1 q hq
    unfold onI at e1 e2
    split at e1
    ·split at e2
     ·omega
     ·simp at e2
    ·simp at e1)
   simpa using this
 have hlen : ∀ x ∈ s, smN (on x) T = lenS x := fun x hx => by
  obtain ⟨⟨a1, a2⟩, -, a3, a4, a5⟩ := hok x hx
  have := hjb x.1.toNat (by omega)
  exact onI_sum (by omega) (by omega) (by omega)
 -- the work of the jobs
 have hwork : lsum (fun j => (jbA l j.toNat).2.2) J = smN (fun t => lsum (fun j => lsum (fun x => if x.1 = j then on x t else 0) s) J) T := by
  rw [← lsum_smN]
  refine lsum_congr J fun j hj => ?_
  obtain ⟨h0, h1⟩ := k.jobs j hj
  rw [← h.done j.toNat (by omega), ← lsum_smN]
  unfold doneS
  refine lsum_congr s fun x hx => ?_
  rw [show ((j.toNat : Nat) : Int) = j by omega]
  split
  ·exact (hlen x hx).symm
  ·rw [smN_zero]
 -- at one time
 have hpt : ∀ t, t < T → lsum (fun j => lsum (fun x => if x.1 = j then on x t else 0) s) J ≤ n * inn t + lsum (fun j => (1 - inn t) * onI (jbA l j.toNat).1 (jbA l j.toNat).2.1 t) J := fun t ht => by
  obtain ⟨i0, i1⟩ := hin t
  rcases (by omega : inn t = 0 ∨ inn t = 1) with e | e
  ·rw [e]
   have : lsum (fun j => lsum (fun x => if x.1 = j then on x t else 0) s) J ≤ lsum (fun j => (1 - 0) * onI (jbA l j.toNat).1 (jbA l j.toNat).2.1 t) J := by
    refine lsum_le J fun j hj => ?_
    have hc := count_places (fun _ : Sl => 0) (fun x => if x.1 = j then on x t else 0) 1 s (fun x _ => by
     split
     ·exact onI_01 _ _ _
     ·exact Or.inl rfl) (fun _ _ _ => by omega) (h.apart.imp_of_mem fun {x y} hx hy ha e1 e2 => by
     have hx1 := hok x hx
     have hy1 := hok y hy
     simp only [on, onI] at e1 e2
     split at e1
     ·split at e1
      ·split at e2
       ·split at e2
        ·rename_i p1 p2 p3 p4
         have := ha (Or.inl (p1.trans p3.symm))
         omega
        ·simp at e2
       ·simp at e2
      ·simp at e1
     ·simp at e1)
    rcases onI_01 (jbA l j.toNat).1 (jbA l j.toNat).2.1 t with e0 | e0
    ·rw [e0]
     rw [lsum_congr (g := fun _ => 0) s, lsum_zero]; · omega
     intro x hx
     split
     ·rename_i hj1
      obtain ⟨-, -, a3, a4, a5⟩ := hok x hx
      rw [hj1] at a4 a5
      simp only [on, onI] at e0 ⊢
      split at e0
      ·simp at e0
      ·rw [if_neg (by omega)]
     ·rfl
    ·rw [e0]; simpa using hc
   omega
  ·rw [e]
   have h1 : lsum (fun j => lsum (fun x => if x.1 = j then on x t else 0) s) J ≤ lsum (fun x => on x t) s := by
    rw [lsum_swap]
    refine lsum_le s fun x hx => lsum_at_most k.asc x.1 ?_
    rcases onI_01 x.2.2.1 x.2.2.2 t with h | h <;> simp only [on] <;> omega
   have h2 := count_places (fun x : Sl => x.2.1) (fun x => on x t) n s (fun x _ => onI_01 _ _ _) (fun x hx _ => (hok x hx).2.1) (h.apart.imp_of_mem fun {x y} hx hy ha e1 e2 => by
    have hx1 := hok x hx
    have hy1 := hok y hy
    simp only [on, onI] at e1 e2
    split at e1
    ·split at e2
     ·intro e
      have := ha (Or.inr e)
      omega
     ·simp at e2
    ·simp at e1)
   have h3 : lsum (fun j => (1 - 1 : Int) * onI (jbA l j.toNat).1 (jbA l j.toNat).2.1 t) J = 0 := by
    rw [lsum_congr (g := fun _ => 0) J (fun j _ => by simp), lsum_zero]
   rw [h3]; omega
 have hle := smN_le T hpt
 rw [← hwork, smN_add] at hle
 have hroom : smN (fun t => (n : Int) * inn t) T = roomS n S := by
  rw [smN_mul, ← lsum_smN]
  unfold roomS
  rw [lsum_mul]
  congr 1
  refine lsum_congr S fun p hp => ?_
  have := k.spans.1 p hp
  exact onI_sum (by omega) (by omega) (by omega)
 have hbes : smN (fun t => lsum (fun j => (1 - inn t) * onI (jbA l j.toNat).1 (jbA l j.toNat).2.1 t) J) T = lsum (fun j => besS S (jbA l j.toNat)) J := by
  rw [← lsum_smN]
  refine lsum_congr J fun j hj => ?_
  obtain ⟨h0, h1⟩ := k.jobs j hj
  obtain ⟨b1, b2, b3⟩ := hjb j.toNat (by omega)
  have e1 : smN (fun t => (1 - inn t) * onI (jbA l j.toNat).1 (jbA l j.toNat).2.1 t) T + smN (fun t => lsum (fun p : Int × Int => onI (jbA l j.toNat).1 (jbA l j.toNat).2.1 t * onI p.1 p.2 t) S) T = smN (onI (jbA l j.toNat).1 (jbA l j.toNat).2.1) T := by
   rw [← smN_add]
   refine smN_congr T fun t _ => ?_
   have : lsum (fun p : Int × Int => onI (jbA l j.toNat).1 (jbA l j.toNat).2.1 t * onI p.1 p.2 t) S = inn t * onI (jbA l j.toNat).1 (jbA l j.toNat).2.1 t := by
    rw [lsum_mul, Int.mul_comm]
   rw [this, Int.sub_mul]; omega
  rw [onI_sum (by omega) (by omega) b3, ← lsum_smN] at e1
  have e2 : lsum (fun p : Int × Int => smN (fun t => onI (jbA l j.toNat).1 (jbA l j.toNat).2.1 t * onI p.1 p.2 t) T) S = lsum (fun p : Int × Int => ovr (jbA l j.toNat).1 (jbA l j.toNat).2.1 p.1 p.2) S :=
   lsum_congr S fun p hp => onI_both (by omega) b3 (by have := k.spans.1 p hp; omega)
  rw [e2] at e1
  unfold besS
  omega
 rw [hroom, hbes] at hle
 have := k.more
 omega

set_option maxRecDepth 100000
set_option maxHeartbeats 80000000

structure Rc where
 s : Nat
 j : Nat
 q : Nat
 o : Nat
 p : Nat

structure Grid where
 K : Nat
 at_ : Nat → Int
 ln : Nat → Nat
 pos : ∀ s, s < K → 1 ≤ ln s
 up : ∀ s t, s < t → t < K → at_ s + ln s ≤ at_ t

def slR (G : Grid) (r : Rc) : Sl := (r.j, r.q, G.at_ r.s + r.o, G.at_ r.s + r.o + r.p)
def begR (G : Grid) (r : Rc) : Nat := r.q * G.ln r.s + r.o
def upto (f : Nat → Nat → Nat) (s : Nat) : Nat → Nat
 | 0 => 0
 | j + 1 => upto f s j + f j s
theorem upto_mono {f : Nat → Nat → Nat} {s i j : Nat} (h : i ≤ j) : upto f s i ≤ upto f s j := by
 induction j with
 | zero => obtain rfl : i = 0 := by omega
           exact Nat.le_refl _
 | succ j ih =>
   rcases Nat.lt_or_ge j i with c | c
   ·obtain rfl : i = j + 1 := by omega
    exact Nat.le_refl _
   ·have := ih c; simp only [upto]; omega
def okR (G : Grid) (N : Nat) (f : Nat → Nat → Nat) (r : Rc) : Prop :=
 r.s < G.K ∧ r.j < N ∧ 1 ≤ r.p ∧ r.o + r.p ≤ G.ln r.s ∧ upto f r.s r.j ≤ begR G r ∧ begR G r + r.p ≤ upto f r.s (r.j + 1)
def bfR (G : Grid) (r t : Rc) : Prop := r.s < t.s ∨ (r.s = t.s ∧ begR G r + r.p ≤ begR G t)
def gotR (L : List Rc) (j s : Nat) : Int := lsum (fun r => if r.j = j ∧ r.s = s then (r.p : Int) else 0) L
structure Lay (G : Grid) (N : Nat) (f : Nat → Nat → Nat) (s j u : Nat) (L : List Rc) : Prop where
 ok : ∀ r ∈ L, okR G N f r
 bf : L.Pairwise (bfR G)
 far : ∀ r ∈ L, r.s < s ∨ (r.s = s ∧ begR G r + r.p ≤ u)
 got : ∀ i t, i < N → t < G.K → gotR L i t = if t < s ∨ (t = s ∧ i < j) then (f i t : Int) else if t = s ∧ i = j then (u : Int) - upto f s j else 0
 lo : upto f s j ≤ u
 few : L.length ≤ 40 * s + j + u / G.ln s
theorem gotR_snoc (L : List Rc) (r : Rc) (j s : Nat) : gotR (L ++ [r]) j s = gotR L j s + if r.j = j ∧ r.s = s then (r.p : Int) else 0 := by
 unfold gotR; rw [lsum_app]; simp [lsum]

theorem Lay.nil (G : Grid) (N : Nat) (f : Nat → Nat → Nat) : Lay G N f 0 0 0 [] := by
 refine ⟨by simp, by simp, by simp, fun i t _ _ => ?_, Nat.le_refl _, by simp⟩
 unfold gotR; simp [lsum, upto]

theorem Lay.job {G : Grid} {N : Nat} {f : Nat → Nat → Nat} {s j u : Nat} {L : List Rc} (h : Lay G N f s j u L) (hu : u = upto f s (j + 1)) : Lay G N f s (j + 1) u L := by
 refine ⟨h.ok, h.bf, h.far, fun i t hi ht => ?_, by omega, by have := h.few; omega⟩
 rw [h.got i t hi ht]
 by_cases a : t < s ∨ (t = s ∧ i < j)
 ·rw [if_pos a, if_pos (by omega)]
 ·rw [if_neg a]
  by_cases b : t = s ∧ i = j
  ·obtain ⟨rfl, rfl⟩ := b
   rw [if_pos ⟨rfl, rfl⟩, if_pos (by omega), hu]
   simp only [upto]; omega
  ·rw [if_neg b, if_neg (by omega)]
   split
   ·omega
   ·rfl

theorem Lay.span {G : Grid} {N : Nat} {f : Nat → Nat → Nat} {s u n : Nat} {L : List Rc} (h : Lay G N f s N u L) (hN : N ≤ 32) (hs : s < G.K) (hu : u ≤ n * G.ln s) (hn : n ≤ 8) : Lay G N f (s + 1) 0 0 L := by
 refine ⟨h.ok, h.bf, fun r hr => ?_, fun i t hi ht => ?_, Nat.le_refl _, ?_⟩
 ·have := h.far r hr; omega
 ·rw [h.got i t hi ht]
  by_cases a : t < s ∨ (t = s ∧ i < N)
  ·rw [if_pos a, if_pos (by omega)]
  ·rw [if_neg a, if_neg (by omega), if_neg (by omega)]
   split
   ·simp [upto]
   ·rfl
 ·have h1 := h.few
  have h2 := G.pos s hs
  have h3 : u / G.ln s ≤ n := by
   rw [Nat.div_le_iff_le_mul_add_pred (by omega)]
   have : n * G.ln s = G.ln s * n := Nat.mul_comm _ _
   omega
  simp; omega

theorem Lay.piece {G : Grid} {N : Nat} {f : Nat → Nat → Nat} {s j u p : Nat} {L : List Rc} (h : Lay G N f s j u L) (hs : s < G.K) (hj : j < N) (hu : u < upto f s (j + 1)) (hp : p = min (upto f s (j + 1) - u) (G.ln s - u % G.ln s)) :
 Lay G N f s j (u + p) (L ++ [⟨s, j, u / G.ln s, u % G.ln s, p⟩]) ∨ (u + p = upto f s (j + 1) ∧ Lay G N f s (j + 1) (u + p) (L ++ [⟨s, j, u / G.ln s, u % G.ln s, p⟩])) := by
 have hl := G.pos s hs
 have hm := Nat.mod_lt u (by omega : 0 < G.ln s)
 have hd : u / G.ln s * G.ln s + u % G.ln s = u := by rw [Nat.mul_comm]; exact Nat.div_add_mod u _
 have hp1 : 1 ≤ p := by omega
 have hbeg : begR G ⟨s, j, u / G.ln s, u % G.ln s, p⟩ = u := hd
 have hlo := h.lo
 have ok' : ∀ r ∈ L ++ [⟨s, j, u / G.ln s, u % G.ln s, p⟩], okR G N f r := fun r hr => by
  rcases List.mem_append.1 hr with hr | hr
  ·exact h.ok r hr
  ·obtain rfl := List.mem_singleton.1 hr
   refine ⟨hs, hj, hp1, ?_, ?_, ?_⟩
   ·show u % G.ln s + p ≤ G.ln s; omega
   ·rw [hbeg]; exact hlo
   ·rw [hbeg]; show u + p ≤ upto f s (j + 1); omega
 have bf' : (L ++ [(⟨s, j, u / G.ln s, u % G.ln s, p⟩ : Rc)]).Pairwise (bfR G) := by
  refine List.pairwise_append.2 ⟨h.bf, List.pairwise_singleton _ _, fun r hr t ht => ?_⟩
  obtain rfl := List.mem_singleton.1 ht
  have := h.far r hr
  unfold bfR
  rw [hbeg]
  exact this
 have far' : ∀ r ∈ L ++ [(⟨s, j, u / G.ln s, u % G.ln s, p⟩ : Rc)], r.s < s ∨ (r.s = s ∧ begR G r + r.p ≤ u + p) := fun r hr => by
  rcases List.mem_append.1 hr with hr | hr
  ·have := h.far r hr; omega
  ·obtain rfl := List.mem_singleton.1 hr
   rw [hbeg]; exact Or.inr ⟨rfl, Nat.le_refl _⟩
 have got' : ∀ i t, i < N → t < G.K → gotR (L ++ [⟨s, j, u / G.ln s, u % G.ln s, p⟩]) i t = if t < s ∨ (t = s ∧ i < j) then (f i t : Int) else if t = s ∧ i = j then ((u + p : Nat) : Int) - upto f s j else 0 := fun i t hi ht => by
  rw [gotR_snoc, h.got i t hi ht]
  dsimp only
  by_cases a : t < s ∨ (t = s ∧ i < j)
  ·rw [if_pos a, if_neg (by omega)]; simp [a]
  ·rw [if_neg a]
   by_cases b : t = s ∧ i = j
   ·obtain ⟨rfl, rfl⟩ := b
    rw [if_pos ⟨rfl, rfl⟩, if_pos ⟨rfl, rfl⟩, if_neg a, if_pos ⟨rfl, rfl⟩]; omega
   ·rw [if_neg b, if_neg (by omega), if_neg a, if_neg b]; rfl
 by_cases hfin : u + p = upto f s (j + 1)
 ·refine Or.inr ⟨hfin, ?_⟩
  have base : Lay G N f s j (u + p) (L ++ [⟨s, j, u / G.ln s, u % G.ln s, p⟩]) ∨ True := Or.inr trivial
  refine ⟨ok', bf', far', fun i t hi ht => ?_, by omega, ?_⟩
  ·rw [got' i t hi ht]
   by_cases a : t < s ∨ (t = s ∧ i < j)
   ·rw [if_pos a, if_pos (by omega)]
   ·rw [if_neg a]
    by_cases b : t = s ∧ i = j
    ·obtain ⟨rfl, rfl⟩ := b
     rw [if_pos ⟨rfl, rfl⟩, if_pos (by omega), hfin]
     simp only [upto]; omega
    ·rw [if_neg b, if_neg (by omega)]
     split
     ·omega
     ·rfl
  ·have := h.few
   have h2 : u / G.ln s ≤ (u + p) / G.ln s := Nat.div_le_div_right (by omega)
   simp; omega
 ·refine Or.inl ⟨ok', bf', far', got', by omega, ?_⟩
  have := h.few
  have hp2 : p = G.ln s - u % G.ln s := by omega
  have h2 : (u + p) / G.ln s = u / G.ln s + 1 := by
   have : u + p = (u / G.ln s + 1) * G.ln s := by rw [Nat.add_mul, Nat.one_mul]; omega
   rw [this, Nat.mul_div_cancel _ (by omega)]
  rw [h2]; simp; omega

theorem pairwise_map {α β : Type} {R : β → β → Prop} {f : α → β} {l : List α} (h : l.Pairwise fun a b => R (f a) (f b)) : (l.map f).Pairwise R := List.pairwise_map.2 h

def covG (G : Grid) (l : List Jb) (j s : Nat) : Prop := (jbA l j).1 ≤ G.at_ s ∧ G.at_ s + G.ln s ≤ (jbA l j).2.1

theorem lsum_map {α β : Type} (f : β → Int) (g : α → β) : ∀ l : List α, lsum f (l.map g) = lsum (fun x => f (g x)) l
 | [] => rfl
 | x :: r => by simp only [List.map_cons, lsum]; rw [lsum_map f g r]

theorem Lay.sched {G : Grid} {f : Nat → Nat → Nat} {n : Nat} {l : List Jb} {L : List Rc} (h : Lay G l.length f G.K 0 0 L) (hK : G.K ≤ 64) (hcov : ∀ j s, j < l.length → s < G.K → 1 ≤ f j s → covG G l j s)
 (hle : ∀ j s, j < l.length → s < G.K → f j s ≤ G.ln s) (hcol : ∀ s, s < G.K → upto f s l.length ≤ n * G.ln s) (hrow : ∀ j, j < l.length → smN (fun s => (f j s : Int)) G.K = (jbA l j).2.2) : SchedP n l (L.map (slR G)) := by
 refine ⟨?_, ?_, ?_, ?_⟩
 ·have := h.few
  simp at this ⊢; omega
 ·intro x hx
  obtain ⟨r, hr, rfl⟩ := List.mem_map.1 hx
  obtain ⟨a1, a2, a3, a4, a5, a6⟩ := h.ok r hr
  have hf : 1 ≤ f r.j r.s := by simp only [upto] at a6; omega
  obtain ⟨c1, c2⟩ := hcov r.j r.s a2 a1 hf
  have hq : r.q < n := by
   have h1 := upto_mono (f := f) (s := r.s) (show r.j + 1 ≤ l.length by omega)
   have h2 := hcol r.s a1
   have h3 : r.q * G.ln r.s < n * G.ln r.s := by unfold begR at a6; omega
   exact Nat.lt_of_mul_lt_mul_right h3
  unfold slR okS
  dsimp only
  rw [Int.toNat_natCast]
  omega
 ·refine pairwise_map (h.bf.imp_of_mem fun {r t} hr ht hb => ?_)
  obtain ⟨a1, a2, a3, a4, a5, a6⟩ := h.ok r hr
  obtain ⟨b1, b2, b3, b4, b5, b6⟩ := h.ok t ht
  unfold slR apS
  dsimp only
  intro hsame
  rcases hb with hb | ⟨hb, hbe⟩
  ·have := G.up r.s t.s hb b1
   exact Or.inl (by omega)
  ·rw [← hb] at b4 b5 b6 ⊢
   have hl := G.pos r.s a1
   have hl2 := hle r.j r.s a2 a1
   unfold begR at *
   rw [← hb] at hbe b5 b6
   rcases hsame with e | e
   ·have ej : r.j = t.j := by omega
    rw [← ej] at b5 b6
    simp only [upto] at b6 a6
    rcases Nat.lt_trichotomy r.q t.q with c | c | c
    ·right
     have : (r.q + 1) * G.ln r.s ≤ t.q * G.ln r.s := Nat.mul_le_mul_right _ c
     rw [Nat.add_mul] at this
     omega
    ·rw [c] at hbe; left; omega
    ·have : (t.q + 1) * G.ln r.s ≤ r.q * G.ln r.s := Nat.mul_le_mul_right _ c
     rw [Nat.add_mul] at this
     omega
   ·have eq : r.q = t.q := by omega
    rw [eq] at hbe; left; omega
 ·intro j hj
  rw [← hrow j hj]
  unfold doneS
  rw [lsum_map]
  have h1 : lsum (fun x => if (slR G x).1 = (j : Int) then lenS (slR G x) else 0) L = lsum (fun r => smN (fun s => if r.j = j ∧ r.s = s then (r.p : Int) else 0) G.K) L := by
   refine lsum_congr L fun r hr => ?_
   obtain ⟨a1, -⟩ := h.ok r hr
   rw [smN_one (f := fun s => if r.j = j ∧ r.s = s then (r.p : Int) else 0) G.K r.s a1 (fun t _ ht => by rw [if_neg (by omega)])]
   unfold slR lenS
   dsimp only
   by_cases e : r.j = j
   ·rw [if_pos (by omega), if_pos ⟨e, rfl⟩]; omega
   ·rw [if_neg (by omega), if_neg (by omega)]
  rw [h1, lsum_smN]
  refine smN_congr G.K fun s hs => ?_
  have := h.got j s hj hs
  unfold gotR at this
  rw [this, if_pos (Or.inl hs)]

set_option maxRecDepth 100000
set_option maxHeartbeats 80000000

theorem Lay.fill {G : Grid} {N : Nat} {f : Nat → Nat → Nat} {s j : Nat} (hs : s < G.K) (hj : j < N) : ∀ (d u : Nat) (L : List Rc), upto f s (j + 1) - u ≤ d → u ≤ upto f s (j + 1) → Lay G N f s j u L → ∃ L', Lay G N f s (j + 1) (upto f s (j + 1)) L'
 | d, u, L, hd, hu, h => by
   rcases Nat.lt_or_ge u (upto f s (j + 1)) with c | c
   ·have hl := G.pos s hs
    have hm := Nat.mod_lt u (by omega : 0 < G.ln s)
    rcases h.piece hs hj c rfl with k | ⟨e, k⟩
    ·match d with
     | 0 => omega
     | d + 1 => exact Lay.fill hs hj d _ _ (by omega) (by omega) k
    ·rw [e] at k; exact ⟨_, k⟩
   ·obtain rfl : u = upto f s (j + 1) := by omega
    exact ⟨_, h.job rfl⟩
theorem Lay.row {G : Grid} {N : Nat} {f : Nat → Nat → Nat} {s : Nat} (hs : s < G.K) {L : List Rc} (h : Lay G N f s 0 0 L) : ∀ j, j ≤ N → ∃ L', Lay G N f s j (upto f s j) L'
 | 0, _ => ⟨L, h⟩
 | j + 1, hj => by
   obtain ⟨L', k⟩ := Lay.row hs h j (by omega)
   exact Lay.fill hs (by omega) _ _ _ (Nat.le_refl _) (by simp only [upto]; omega) k
theorem Lay.all {G : Grid} {N n : Nat} {f : Nat → Nat → Nat} (hN : N ≤ 32) (hn : n ≤ 8) (hcol : ∀ s, s < G.K → upto f s N ≤ n * G.ln s) : ∀ s, s ≤ G.K → ∃ L, Lay G N f s 0 0 L
 | 0, _ => ⟨[], Lay.nil G N f⟩
 | s + 1, hs => by
   obtain ⟨L, h⟩ := Lay.all hN hn hcol s (by omega)
   obtain ⟨L', k⟩ := Lay.row (by omega) h N (Nat.le_refl _)
   exact ⟨L', k.span hN (by omega) (hcol s (by omega)) hn⟩

structure Times (G : Grid) (l : List Jb) (T : Nat → Int) : Prop where
 beg : ∀ s, s < G.K → G.at_ s = T s ∧ G.at_ s + G.ln s = T (s + 1)
 asc : ∀ s, s < G.K → T s < T (s + 1)
 has : ∀ j, j < l.length → (∃ a, a ≤ G.K ∧ T a = (jbA l j).1) ∧ ∃ b, b ≤ G.K ∧ T b = (jbA l j).2.1
theorem asc_le {K : Nat} {T : Nat → Int} (h : ∀ s, s < K → T s < T (s + 1)) {a : Nat} : ∀ b, a ≤ b → b ≤ K → T a ≤ T b
 | 0, h1, _ => by obtain rfl : a = 0 := by omega
                  exact Int.le_refl _
 | b + 1, h1, h2 => by
   rcases Nat.lt_or_ge b a with c | c
   ·obtain rfl : a = b + 1 := by omega
    exact Int.le_refl _
   ·have := asc_le h b c (by omega)
    have := h b (by omega)
    omega
theorem Times.all_or {G : Grid} {l : List Jb} {T : Nat → Int} (h : Times G l T) {j s : Nat} (hj : j < l.length) (hs : s < G.K) (hjb : (jbA l j).1 < (jbA l j).2.1) :
 (covG G l j s ∧ ovr (jbA l j).1 (jbA l j).2.1 (T s) (T (s + 1)) = G.ln s) ∨ (¬ covG G l j s ∧ ovr (jbA l j).1 (jbA l j).2.1 (T s) (T (s + 1)) = 0) := by
 obtain ⟨⟨a, ha, ea⟩, b, hb, eb⟩ := h.has j hj
 have h1 := h.beg s hs
 have hl := G.pos s hs
 have hA : T a ≤ T s ∨ T (s + 1) ≤ T a := by
  rcases Nat.lt_or_ge s a with c | c
  ·exact Or.inr (asc_le h.asc a c ha)
  ·exact Or.inl (asc_le h.asc s c (by omega))
 have hB : T b ≤ T s ∨ T (s + 1) ≤ T b := by
  rcases Nat.lt_or_ge s b with c | c
  ·exact Or.inr (asc_le h.asc b c hb)
  ·exact Or.inl (asc_le h.asc s c (by omega))
 unfold covG ovr
 omega
theorem ovr_tel (c d : Int) (hcd : c ≤ d) (T : Nat → Int) : ∀ K, (∀ s, s < K → T s < T (s + 1)) → smN (fun s => ovr c d (T s) (T (s + 1))) K = max c (min d (T K)) - max c (min d (T 0))
 | 0, _ => by simp only [smN]; omega
 | K + 1, h => by
   simp only [smN]
   rw [ovr_tel c d hcd T K (fun s hs => h s (by omega))]
   have := h K (by omega)
   unfold ovr
   omega
theorem Times.whole {G : Grid} {l : List Jb} {T : Nat → Int} (h : Times G l T) {j : Nat} (hj : j < l.length) (hjb : (jbA l j).1 < (jbA l j).2.1) :
 smN (fun s => ovr (jbA l j).1 (jbA l j).2.1 (T s) (T (s + 1))) G.K = (jbA l j).2.1 - (jbA l j).1 := by
 obtain ⟨⟨a, ha, ea⟩, b, hb, eb⟩ := h.has j hj
 rw [ovr_tel _ _ (by omega) T G.K h.asc]
 have := asc_le h.asc (a := 0) a (by omega) ha
 have := asc_le h.asc (a := b) G.K hb (Nat.le_refl _)
 omega

def pickN (A : Nat → Bool) (k : Nat) : List Nat := (List.range k).filter A
theorem pickN_succ (A : Nat → Bool) (k : Nat) : pickN A (k + 1) = if A k = true then pickN A k ++ [k] else pickN A k := by
 unfold pickN
 rw [List.range_succ, List.filter_append]
 split
 ·rename_i h; rw [List.filter_cons_of_pos h]; rfl
 ·rename_i h; rw [List.filter_cons_of_neg h]; simp
theorem lsum_pickN {α : Type} (A : Nat → Bool) (g : α → Int) (h : Nat → α) : ∀ k, lsum g ((pickN A k).map h) = smN (fun i => if A i = true then g (h i) else 0) k
 | 0 => rfl
 | k + 1 => by
   rw [pickN_succ]
   simp only [smN]
   split
   ·rw [List.map_append, lsum_app, lsum_pickN A g h k]; simp [lsum]
   ·rw [lsum_pickN A g h k]; omega
theorem mem_pickN {A : Nat → Bool} {k i : Nat} : i ∈ pickN A k ↔ i < k ∧ A i = true := by unfold pickN; simp
theorem pickN_asc (A : Nat → Bool) (k : Nat) : (pickN A k).Pairwise (· < ·) := List.Pairwise.filter A List.pairwise_lt_range
theorem pickN_len (A : Nat → Bool) (k : Nat) : (pickN A k).length ≤ k := by
 have := List.length_filter_le A (List.range k)
 simpa [pickN] using this

structure CutF (G : Grid) (n : Nat) (l : List Jb) (f : Nat → Nat → Nat) (r0 : Nat → Nat) (A B : Nat → Bool) : Prop where
 row : ∀ j, j < l.length → smN (fun s => (f j s : Int)) G.K + r0 j = (jbA l j).2.2
 cov : ∀ j s, j < l.length → s < G.K → 1 ≤ f j s → covG G l j s
 full : ∀ j s, j < l.length → s < G.K → A j = true → B s = false → covG G l j s → f j s = G.ln s
 none : ∀ j s, j < l.length → s < G.K → A j = false → B s = true → f j s = 0
 col : ∀ s, s < G.K → B s = true → upto f s l.length = n * G.ln s
 left : ∃ j, j < l.length ∧ A j = true ∧ 1 ≤ r0 j
theorem upto_smN (f : Nat → Nat → Nat) (s : Nat) : ∀ k, ((upto f s k : Nat) : Int) = smN (fun j => (f j s : Int)) k
 | 0 => rfl
 | k + 1 => by simp only [upto, smN]; rw [← upto_smN f s k]; omega

theorem CutF.refuse {G : Grid} {n : Nat} {l : List Jb} {f : Nat → Nat → Nat} {r0 : Nat → Nat} {A B : Nat → Bool} (c : CutF G n l f r0 A B) {T : Nat → Int} (h : Times G l T) (hK : G.K ≤ 64) (hjb : ∀ j, j < l.length → 0 ≤ (jbA l j).1 ∧ (jbA l j).1 < (jbA l j).2.1 ∧ (jbA l j).2.1 ≤ 1048576)
 (hT : ∀ s, s ≤ G.K → 0 ≤ T s ∧ T s ≤ 1048576) : RefuseP n l ((pickN A l.length).map fun j : Nat => (j : Int)) ((pickN B G.K).map fun s => (T s, T (s + 1))) := by
 refine ⟨?_, ⟨?_, ?_⟩, ?_, ?_, ?_⟩
 ·rw [List.length_map]; have := pickN_len B G.K; omega
 ·intro p hp
  obtain ⟨s, hs, rfl⟩ := List.mem_map.1 hp
  obtain ⟨h1, -⟩ := mem_pickN.1 hs
  have := h.asc s h1
  have := hT s (by omega)
  have := hT (s + 1) (by omega)
  dsimp only; omega
 ·refine List.pairwise_map.2 ((pickN_asc B G.K).imp_of_mem fun {s t} hs ht hlt => ?_)
  have h1 := (mem_pickN.1 ht).1
  exact asc_le h.asc t hlt (by omega)
 ·intro j hj
  obtain ⟨i, hi, rfl⟩ := List.mem_map.1 hj
  have := (mem_pickN.1 hi).1
  omega
 ·exact List.pairwise_map.2 ((pickN_asc A l.length).imp fun {a b} h => by omega)
 ·unfold roomS
  rw [lsum_pickN, lsum_pickN, lsum_pickN]
  simp only [Int.toNat_natCast]
  -- what is done of the jobs that are reached
  have e1 : smN (fun i => if A i = true then (jbA l i).2.2 else 0) l.length = smN (fun i => if A i = true then (r0 i : Int) else 0) l.length + smN (fun i => smN (fun s => if A i = true then (f i s : Int) else 0) G.K) l.length := by
   rw [← smN_add]
   refine smN_congr _ fun i hi => ?_
   by_cases a : A i = true
   ·simp only [if_pos a]; have := c.row i hi; omega
   ·simp only [if_neg a]; rw [smN_zero]; rfl
  have e2 : smN (fun i => smN (fun s => if A i = true then (f i s : Int) else 0) G.K) l.length = smN (fun s => if B s = true then (n : Int) * (T (s + 1) - T s) else 0) G.K + smN (fun i => if A i = true then besS ((pickN B G.K).map fun s => (T s, T (s + 1))) (jbA l i) else 0) l.length := by
   have e3 : ∀ i, i < l.length → smN (fun s => if A i = true then (f i s : Int) else 0) G.K = smN (fun s => if A i = true ∧ B s = true then (f i s : Int) else 0) G.K + if A i = true then besS ((pickN B G.K).map fun s => (T s, T (s + 1))) (jbA l i) else 0 := fun i hi => by
    by_cases a : A i = true
    ·simp only [if_pos a]
     unfold besS
     rw [← h.whole hi (hjb i hi).2.1, lsum_pickN]
     dsimp only
     have e4 : smN (fun s => ovr (jbA l i).1 (jbA l i).2.1 (T s) (T (s + 1))) G.K = smN (fun s => if B s = true then ovr (jbA l i).1 (jbA l i).2.1 (T s) (T (s + 1)) else 0) G.K + smN (fun s => if B s = true then 0 else (f i s : Int)) G.K := by
      rw [← smN_add]
      refine smN_congr _ fun s hs => ?_
      by_cases b : B s = true
      ·simp [b]
      ·simp only [if_neg b]
       rcases h.all_or hi hs (hjb i hi).2.1 with ⟨k1, k2⟩ | ⟨k1, k2⟩
       ·rw [k2, c.full i s hi hs a (by simpa using b) k1]; omega
       ·rw [k2]
        have : f i s = 0 := by
         have := c.cov i s hi hs
         rcases Nat.eq_zero_or_pos (f i s) with z | z
         ·exact z
         ·exact absurd (this z) k1
        rw [this]; rfl
     have e5 : smN (fun s => (f i s : Int)) G.K = smN (fun s => if A i = true ∧ B s = true then (f i s : Int) else 0) G.K + smN (fun s => if B s = true then 0 else (f i s : Int)) G.K := by
      rw [← smN_add]
      refine smN_congr _ fun s _ => ?_
      by_cases b : B s = true <;> simp [a, b]
     omega
    ·simp only [a, false_and, if_false, Bool.false_eq_true]
     rw [smN_zero]; rfl
   rw [smN_congr _ e3, smN_add, smN_swap]
   congr 1
   refine smN_congr _ fun s hs => ?_
   by_cases b : B s = true
   ·rw [if_pos b]
    have h1 := c.col s hs b
    have h2 := upto_smN f s l.length
    have h3 := h.beg s hs
    rw [show T (s + 1) - T s = (G.ln s : Int) by omega]
    rw [smN_congr (g := fun j => (f j s : Int)) _ (fun i hi => by
     by_cases a : A i = true
     ·simp [a, b]
     ·rw [c.none i s hi hs (by simpa using a) b]; simp), ← h2, h1]
    exact Int.natCast_mul _ _
   ·rw [if_neg b]
    rw [smN_congr (g := fun _ => 0) _ (fun i _ => by simp [b]), smN_zero]
  have e6 : 1 ≤ smN (fun i => if A i = true then (r0 i : Int) else 0) l.length := by
   obtain ⟨j, hj, ha, hr⟩ := c.left
   have := smN_ge_one (f := fun i => if A i = true then (r0 i : Int) else 0) l.length j (fun i _ => by show (0 : Int) ≤ if A i = true then (r0 i : Int) else 0; split <;> omega) hj
   simp only [if_pos ha] at this
   omega
  rw [e1, e2]
  omega

theorem full_sched {G : Grid} {n : Nat} {l : List Jb} {f : Nat → Nat → Nat} (hK : G.K ≤ 64) (hN : l.length ≤ 32) (hn : n ≤ 8) (hcov : ∀ j s, j < l.length → s < G.K → 1 ≤ f j s → covG G l j s)
 (hle : ∀ j s, j < l.length → s < G.K → f j s ≤ G.ln s) (hcol : ∀ s, s < G.K → upto f s l.length ≤ n * G.ln s) (hrow : ∀ j, j < l.length → smN (fun s => (f j s : Int)) G.K = (jbA l j).2.2) : ∃ s, SchedP n l s := by
 obtain ⟨L, h⟩ := Lay.all hN hn hcol G.K (Nat.le_refl _)
 exact ⟨_, h.sched hK hcov hle hcol hrow⟩

end Go.Proofs.YtobcdkjomehdkaaGreat
