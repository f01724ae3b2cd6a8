/- Layer 4: refusals and schedules of tasks that are changed. Plain mathematics. -/
import Derived.Test.YtfmojiaaoebodaaBnChkM
namespace Go.Proofs.Ytfmojiaaoebodaa

/-- A refusal whose spans end at T at the latest. -/
structure RefuT (T : Nat) (n : Int) (l : List Jb) (J : List Int) (S : List (Int × Int)) : Prop where
  spans : (∀ p ∈ S, 0 ≤ p.1 ∧ p.1 < p.2 ∧ p.2 ≤ T) ∧ S.Pairwise fun p q => p.2 ≤ q.1
  jobs : ∀ j ∈ J, 0 ≤ j ∧ j < l.length
  asc : J.Pairwise (· < ·)
  more : roomS n S + lsum (fun j => besS S (jbA l j.toNat)) J < lsum (fun j => (jbA l j.toNat).2.2) J
theorem dualT {T n : Nat} {l : List Jb} {s : List Sl} {J : List Int} {S : List (Int × Int)} (hl : ∀ j ∈ l, 0 ≤ j.1 ∧ j.1 < j.2.1 ∧ j.2.1 ≤ T) (h : SchedP n l s) (k : RefuT T n l J S) : False := by
  have hjb : ∀ j : Nat, j < l.length → 0 ≤ (jbA l j).1 ∧ (jbA l j).1 < (jbA l j).2.1 ∧ (jbA l j).2.1 ≤ T := fun j hj => by
    have : jbA l j ∈ l := by unfold jbA; rw [List.getD_eq_getElem?_getD, List.getElem?_eq_getElem hj]; exact List.getElem_mem hj
    have := hl _ this
    omega
  have hok := h.ok
  -- what is on at a time
  let on : Sl → Nat → Int := fun x => onI x.2.2.1 x.2.2.2
  let inn : Nat → Int := fun t => lsum (fun p : Int × Int => onI p.1 p.2 t) S
  have hin : ∀ t, 0 ≤ inn t ∧ inn t ≤ 1 := fun t => by
    constructor
    · exact lsum_nonneg S fun p _ => by rcases onI_01 p.1 p.2 t with h | h <;> omega
    · have := count_places (fun _ : Int × Int => 0) (fun p => onI p.1 p.2 t) 1 S (fun p _ => onI_01 _ _ _) (fun p _ _ => by omega) (k.spans.2.imp_of_mem fun {p q} hp hq h e1 e2 => by
        have := k.spans.1 p hp
        have := k.spans.1 q hq
        unfold onI at e1 e2
        split at e1
        · split at e2
          · omega
          · simp at e2
        · simp at e1)
      simpa using this
  have hlen : ∀ x ∈ s, smN (on x) T = lenS x := fun x hx => by
    obtain ⟨⟨a1, a2⟩, -, a3, a4, a5⟩ := hok x hx
    have := hjb x.1.toNat (by omega)
    exact onI_sum (by omega) (by omega) (by omega)
  -- the work of the jobs
  have hwork : lsum (fun j => (jbA l j.toNat).2.2) J = smN (fun t => lsum (fun j => lsum (fun x => if x.1 = j then on x t else 0) s) J) T := by
    rw [← lsum_smN]
    refine lsum_congr J fun j hj => ?_
    obtain ⟨h0, h1⟩ := k.jobs j hj
    rw [← h.done j.toNat (by omega), ← lsum_smN]
    unfold doneS
    refine lsum_congr s fun x hx => ?_
    rw [show ((j.toNat : Nat) : Int) = j by omega]
    split
    · exact (hlen x hx).symm
    · rw [smN_zero]
  -- at one time
  have hpt : ∀ t, t < T → lsum (fun j => lsum (fun x => if x.1 = j then on x t else 0) s) J ≤ n * inn t + lsum (fun j => (1 - inn t) * onI (jbA l j.toNat).1 (jbA l j.toNat).2.1 t) J := fun t ht => by
    obtain ⟨i0, i1⟩ := hin t
    rcases (by omega : inn t = 0 ∨ inn t = 1) with e | e
    · rw [e]
      have : lsum (fun j => lsum (fun x => if x.1 = j then on x t else 0) s) J ≤ lsum (fun j => (1 - 0) * onI (jbA l j.toNat).1 (jbA l j.toNat).2.1 t) J := by
        refine lsum_le J fun j hj => ?_
        have hc := count_places (fun _ : Sl => 0) (fun x => if x.1 = j then on x t else 0) 1 s (fun x _ => by
            split
            · exact onI_01 _ _ _
            · exact Or.inl rfl) (fun _ _ _ => by omega) (h.apart.imp_of_mem fun {x y} hx hy ha e1 e2 => by
            have hx1 := hok x hx
            have hy1 := hok y hy
            simp only [on, onI] at e1 e2
            split at e1
            · split at e1
              · split at e2
                · split at e2
                  · rename_i p1 p2 p3 p4
                    have := ha (Or.inl (p1.trans p3.symm))
                    omega
                  · simp at e2
                · simp at e2
              · simp at e1
            · simp at e1)
        rcases onI_01 (jbA l j.toNat).1 (jbA l j.toNat).2.1 t with e0 | e0
        · rw [e0]
          rw [lsum_congr (g := fun _ => 0) s, lsum_zero]; · omega
          intro x hx
          split
          · rename_i hj1
            obtain ⟨-, -, a3, a4, a5⟩ := hok x hx
            rw [hj1] at a4 a5
            simp only [on, onI] at e0 ⊢
            split at e0
            · simp at e0
            · rw [if_neg (by omega)]
          · rfl
        · rw [e0]; simpa using hc
      omega
    · rw [e]
      have h1 : lsum (fun j => lsum (fun x => if x.1 = j then on x t else 0) s) J ≤ lsum (fun x => on x t) s := by
        rw [lsum_swap]
        refine lsum_le s fun x hx => lsum_at_most k.asc x.1 ?_
        rcases onI_01 x.2.2.1 x.2.2.2 t with h | h <;> simp only [on] <;> omega
      have h2 := count_places (fun x : Sl => x.2.1) (fun x => on x t) n s (fun x _ => onI_01 _ _ _) (fun x hx _ => (hok x hx).2.1) (h.apart.imp_of_mem fun {x y} hx hy ha e1 e2 => by
          have hx1 := hok x hx
          have hy1 := hok y hy
          simp only [on, onI] at e1 e2
          split at e1
          · split at e2
            · intro e
              have := ha (Or.inr e)
              omega
            · simp at e2
          · simp at e1)
      have h3 : lsum (fun j => (1 - 1 : Int) * onI (jbA l j.toNat).1 (jbA l j.toNat).2.1 t) J = 0 := by
        rw [lsum_congr (g := fun _ => 0) J (fun j _ => by simp), lsum_zero]
      rw [h3]; omega
  have hle := smN_le T hpt
  rw [← hwork, smN_add] at hle
  have hroom : smN (fun t => (n : Int) * inn t) T = roomS n S := by
    rw [smN_mul, ← lsum_smN]
    unfold roomS
    rw [lsum_mul]
    congr 1
    refine lsum_congr S fun p hp => ?_
    have := k.spans.1 p hp
    exact onI_sum (by omega) (by omega) (by omega)
  have hbes : smN (fun t => lsum (fun j => (1 - inn t) * onI (jbA l j.toNat).1 (jbA l j.toNat).2.1 t) J) T = lsum (fun j => besS S (jbA l j.toNat)) J := by
    rw [← lsum_smN]
    refine lsum_congr J fun j hj => ?_
    obtain ⟨h0, h1⟩ := k.jobs j hj
    obtain ⟨b1, b2, b3⟩ := hjb j.toNat (by omega)
    have e1 : smN (fun t => (1 - inn t) * onI (jbA l j.toNat).1 (jbA l j.toNat).2.1 t) T + smN (fun t => lsum (fun p : Int × Int => onI (jbA l j.toNat).1 (jbA l j.toNat).2.1 t * onI p.1 p.2 t) S) T = smN (onI (jbA l j.toNat).1 (jbA l j.toNat).2.1) T := by
      rw [← smN_add]
      refine smN_congr T fun t _ => ?_
      have : lsum (fun p : Int × Int => onI (jbA l j.toNat).1 (jbA l j.toNat).2.1 t * onI p.1 p.2 t) S = inn t * onI (jbA l j.toNat).1 (jbA l j.toNat).2.1 t := by
        rw [lsum_mul, Int.mul_comm]
      rw [this, Int.sub_mul]; omega
    rw [onI_sum (by omega) (by omega) b3, ← lsum_smN] at e1
    have e2 : lsum (fun p : Int × Int => smN (fun t => onI (jbA l j.toNat).1 (jbA l j.toNat).2.1 t * onI p.1 p.2 t) T) S = lsum (fun p : Int × Int => ovr (jbA l j.toNat).1 (jbA l j.toNat).2.1 p.1 p.2) S :=
      lsum_congr S fun p hp => onI_both (by omega) b3 (by have := k.spans.1 p hp; omega)
    rw [e2] at e1
    unfold besS
    omega
  rw [hroom, hbes] at hle
  have := k.more
  omega


/-- The time beside spans, moment by moment. -/
theorem besS_sum {T : Nat} {S : List (Int × Int)} (hS : ∀ p ∈ S, 0 ≤ p.1 ∧ p.1 < p.2 ∧ p.2 ≤ T) {j : Jb} (h0 : 0 ≤ j.1) (h1 : j.1 ≤ j.2.1) (h2 : j.2.1 ≤ T) :
    besS S j = smN (fun t => (1 - lsum (fun p : Int × Int => onI p.1 p.2 t) S) * onI j.1 j.2.1 t) T := by
  have e1 : smN (fun t => (1 - lsum (fun p : Int × Int => onI p.1 p.2 t) S) * onI j.1 j.2.1 t) T + smN (fun t => lsum (fun p : Int × Int => onI j.1 j.2.1 t * onI p.1 p.2 t) S) T = smN (onI j.1 j.2.1) T := by
    rw [← smN_add]
    refine smN_congr T fun t _ => ?_
    have : lsum (fun p : Int × Int => onI j.1 j.2.1 t * onI p.1 p.2 t) S = lsum (fun p : Int × Int => onI p.1 p.2 t) S * onI j.1 j.2.1 t := by
      rw [lsum_mul, Int.mul_comm]
    rw [this, Int.sub_mul]; omega
  rw [onI_sum h0 h1 h2, ← lsum_smN] at e1
  have e2 : lsum (fun p : Int × Int => smN (fun t => onI j.1 j.2.1 t * onI p.1 p.2 t) T) S = lsum (fun p : Int × Int => ovr j.1 j.2.1 p.1 p.2) S :=
    lsum_congr S fun p hp => onI_both h0 h2 (by have := hS p hp; omega)
  rw [e2] at e1
  unfold besS
  omega
theorem onI_le {a b a' b' : Int} (h1 : a' ≤ a) (h2 : b ≤ b') (t : Nat) : onI a b t ≤ onI a' b' t := by
  unfold onI
  split <;> split <;> omega
theorem besS_mono {T : Nat} {S : List (Int × Int)} (hS : ∀ p ∈ S, 0 ≤ p.1 ∧ p.1 < p.2 ∧ p.2 ≤ T) (hd : S.Pairwise fun p q => p.2 ≤ q.1) {j j' : Jb} (h1 : j.1 ≤ j.2.1) (h3 : 0 ≤ j'.1) (h4 : j'.1 ≤ j.1) (h5 : j.2.1 ≤ j'.2.1) (h6 : j'.2.1 ≤ T) :
    besS S j ≤ besS S j' := by
  rw [besS_sum hS (by omega) h1 (by omega), besS_sum hS h3 (by omega) h6]
  refine smN_le T fun t _ => ?_
  have hin : lsum (fun p : Int × Int => onI p.1 p.2 t) S ≤ 1 := by
    have := count_places (fun _ : Int × Int => 0) (fun p => onI p.1 p.2 t) 1 S (fun p _ => onI_01 _ _ _) (fun p _ _ => by omega) (hd.imp_of_mem fun {p q} hp hq h e1 e2 => by
      have := hS p hp
      have := hS q hq
      unfold onI at e1 e2
      split at e1
      · split at e2
        · omega
        · simp at e2
      · simp at e1)
    simpa using this
  exact Int.mul_le_mul_of_nonneg_left (onI_le h4 h5 t) (by omega)
theorem roomS_mono {n n' : Int} (h : n ≤ n') {S : List (Int × Int)} (hS : ∀ p ∈ S, p.1 < p.2) : roomS n S ≤ roomS n' S := by
  unfold roomS
  exact lsum_le S fun p hp => Int.mul_le_mul_of_nonneg_right h (by have := hS p hp; omega)

/-- There is a refusal. -/
def Refd (n : Int) (l : List Jb) : Prop := ∃ J S, RefuseP n l J S
def Poss (B : Int) (l : List Jb) : Prop := ∃ s, SchedP B l s
theorem Refd.no {n : Nat} {l : List Jb} (hl : ∀ j ∈ l, 0 ≤ j.1 ∧ j.1 < j.2.1 ∧ j.2.1 ≤ 1048576) (h : Refd n l) : ¬ Poss n l := fun ⟨_, hs⟩ => by
  obtain ⟨J, S, h⟩ := h
  exact dual hl hs h
theorem RefuseP.refuT {n : Int} {l : List Jb} {J : List Int} {S : List (Int × Int)} (h : RefuseP n l J S) : RefuT 1048576 n l J S := ⟨⟨fun p hp => h.spans.1 p hp, h.spans.2⟩, h.jobs, h.asc, h.more⟩
/-- What refuses an easier task refuses a harder one. -/
theorem Refd.harder {n n' : Int} {l l' : List Jb} (hlen : l.length = l'.length) (hn : n ≤ n') (hl : ∀ j, j < l.length → (jbA l j).1 ≤ (jbA l j).2.1 ∧ 0 ≤ (jbA l' j).1 ∧ (jbA l' j).1 ≤ (jbA l j).1 ∧ (jbA l j).2.1 ≤ (jbA l' j).2.1 ∧ (jbA l' j).2.1 ≤ 1048576 ∧ (jbA l' j).2.2 ≤ (jbA l j).2.2)
    (h : Refd n' l') : Refd n l := by
  obtain ⟨J, S, h⟩ := h
  refine ⟨J, S, h.few, h.spans, fun j hj => by rw [hlen]; exact h.jobs j hj, h.asc, ?_⟩
  have h1 := roomS_mono hn (S := S) (fun p hp => (h.spans.1 p hp).2.1)
  have h2 : lsum (fun j => besS S (jbA l j.toNat)) J ≤ lsum (fun j => besS S (jbA l' j.toNat)) J := lsum_le J fun j hj => by
    have hb := h.jobs j hj
    obtain ⟨a1, a2, a3, a4, a5, -⟩ := hl j.toNat (by omega)
    exact besS_mono (T := 1048576) h.spans.1 h.spans.2 a1 a2 a3 a4 a5
  have h3 : lsum (fun j => (jbA l' j.toNat).2.2) J ≤ lsum (fun j => (jbA l j.toNat).2.2) J := lsum_le J fun j hj => by
    have hb := h.jobs j hj
    exact (hl j.toNat (by omega)).2.2.2.2.2
  have := h.more
  omega
theorem lsum_mapS {α β : Type} (f : β → Int) (g : α → β) : ∀ l : List α, lsum f (l.map g) = lsum (fun x => f (g x)) l
  | [] => rfl
  | x :: r => by simp only [List.map_cons, lsum]; rw [lsum_mapS f g r]
/-- One job less. -/
theorem Refd.more {n : Int} {l : List Jb} {k : Nat} (hk : k < l.length) (h : Refd n (l.eraseIdx k)) : Refd n l := by
  obtain ⟨J, S, h⟩ := h
  let up : Int → Int := fun i => if i < k then i else i + 1
  have hlen : (l.eraseIdx k).length = l.length - 1 := List.length_eraseIdx_of_lt hk
  have hat : ∀ i : Int, 0 ≤ i → jbA l (up i).toNat = jbA (l.eraseIdx k) i.toNat := fun i hi => by
    unfold jbA
    rw [List.getD_eq_getElem?_getD, List.getD_eq_getElem?_getD, List.getElem?_eraseIdx]
    simp only [up]
    by_cases e : i < k
    · rw [if_pos e, if_pos (by omega)]
    · rw [if_neg e, if_neg (by omega), show (i + 1).toNat = i.toNat + 1 by omega]
  refine ⟨J.map up, S, h.few, h.spans, fun j hj => ?_, ?_, ?_⟩
  · obtain ⟨i, hi, rfl⟩ := List.mem_map.1 hj
    have := h.jobs i hi
    rw [hlen] at this
    simp only [up]
    split <;> omega
  · refine List.pairwise_map.2 (h.asc.imp fun {a b} hab => ?_)
    simp only [up]
    split <;> split <;> omega
  · rw [lsum_mapS, lsum_mapS]
    have h1 := h.more
    rw [lsum_congr (g := fun j => besS S (jbA l (up j).toNat)) J (fun j hj => by rw [hat j (h.jobs j hj).1]), lsum_congr (f := fun j => (jbA (l.eraseIdx k) j.toNat).2.2) (g := fun j => (jbA l (up j).toNat).2.2) J (fun j hj => by rw [hat j (h.jobs j hj).1])] at h1
    exact h1

/-! ### Times multiplied -/
def scJ (k : Int) (j : Jb) : Jb := (k * j.1, k * j.2.1, k * j.2.2)
def scS (k : Int) (x : Sl) : Sl := (x.1, x.2.1, k * x.2.2.1, k * x.2.2.2)
theorem jbA_map (f : Jb → Jb) (l : List Jb) {j : Nat} (hj : j < l.length) : jbA (l.map f) j = f (jbA l j) := by
  unfold jbA
  rw [List.getD_eq_getElem?_getD, List.getD_eq_getElem?_getD, List.getElem?_map, List.getElem?_eq_getElem hj]
  rfl
theorem ovr_scale {k : Int} (hk : 0 ≤ k) (a b c d : Int) : ovr (k * a) (k * b) (k * c) (k * d) = k * ovr a b c d := by
  have hm : ∀ x y : Int, x ≤ y → k * x ≤ k * y := fun x y h => Int.mul_le_mul_of_nonneg_left h hk
  have hmin : min (k * b) (k * d) = k * min b d := by
    rcases Int.le_total b d with h | h
    · rw [Int.min_eq_left h, Int.min_eq_left (hm _ _ h)]
    · rw [Int.min_eq_right h, Int.min_eq_right (hm _ _ h)]
  have hmax : max (k * a) (k * c) = k * max a c := by
    rcases Int.le_total a c with h | h
    · rw [Int.max_eq_right h, Int.max_eq_right (hm _ _ h)]
    · rw [Int.max_eq_left h, Int.max_eq_left (hm _ _ h)]
  unfold ovr
  rw [hmin, hmax, ← Int.mul_sub]
  rcases Int.le_total 0 (min b d - max a c) with h | h
  · rw [Int.max_eq_right h, Int.max_eq_right (by have := hm _ _ h; simpa using this)]
  · rw [Int.max_eq_left h, Int.max_eq_left (by have := hm _ _ h; simpa using this), Int.mul_zero]
theorem besS_scale {k : Int} (hk : 0 ≤ k) (S : List (Int × Int)) (j : Jb) : besS (S.map fun p => (k * p.1, k * p.2)) (scJ k j) = k * besS S j := by
  unfold besS scJ
  rw [lsum_mapS]
  dsimp only
  rw [lsum_congr (g := fun p : Int × Int => k * ovr j.1 j.2.1 p.1 p.2) S (fun p _ => ovr_scale hk _ _ _ _), lsum_mul, Int.mul_sub, Int.mul_sub]
theorem Poss.scale {n k : Int} {l : List Jb} (hk : 1 ≤ k) (h : Poss n l) : Poss n (l.map (scJ k)) := by
  obtain ⟨s, h⟩ := h
  have hm : ∀ x y : Int, x ≤ y → k * x ≤ k * y := fun x y h => Int.mul_le_mul_of_nonneg_left h (by omega)
  have hm2 : ∀ x y : Int, x < y → k * x < k * y := fun x y h => Int.mul_lt_mul_of_pos_left h (by omega)
  refine ⟨s.map (scS k), by rw [List.length_map]; exact h.few, fun x hx => ?_, ?_, fun j hj => ?_⟩
  · obtain ⟨y, hy, rfl⟩ := List.mem_map.1 hx
    obtain ⟨a1, a2, a3, a4, a5⟩ := h.ok y hy
    refine ⟨by rw [List.length_map]; exact a1, a2, hm2 _ _ a3, ?_, ?_⟩
    · rw [show (scS k y).1.toNat = y.1.toNat from rfl, jbA_map _ _ (by omega)]; exact hm _ _ a4
    · rw [show (scS k y).1.toNat = y.1.toNat from rfl, jbA_map _ _ (by omega)]; exact hm _ _ a5
  · refine List.pairwise_map.2 (h.apart.imp fun {a b} hab e => ?_)
    exact (hab e).imp (hm _ _) (hm _ _)
  · rw [List.length_map] at hj
    rw [jbA_map _ _ hj]
    unfold doneS
    rw [lsum_mapS, lsum_congr (g := fun x => k * (if x.1 = (j : Int) then lenS x else 0)) s (fun x _ => by
      by_cases e : x.1 = (j : Int)
      · rw [if_pos (show (scS k x).1 = (j : Int) from e), if_pos e]; simp only [scS, lenS]; rw [Int.mul_sub]
      · rw [if_neg (show ¬ (scS k x).1 = (j : Int) from e), if_neg e, Int.mul_zero]), lsum_mul]
    have := h.done j hj
    unfold doneS at this
    rw [this]; rfl
theorem Refd.scale {n : Nat} {k : Int} {l : List Jb} (hl : ∀ j ∈ l, 0 ≤ j.1 ∧ j.1 < j.2.1 ∧ j.2.1 ≤ 1048576) (hk : 1 ≤ k) (h : Refd n l) : ¬ Poss n (l.map (scJ k)) := fun ⟨s, hs⟩ => by
  obtain ⟨J, S, h⟩ := h
  have hm : ∀ x y : Int, x ≤ y → k * x ≤ k * y := fun x y h => Int.mul_le_mul_of_nonneg_left h (by omega)
  have hm2 : ∀ x y : Int, x < y → k * x < k * y := fun x y h => Int.mul_lt_mul_of_pos_left h (by omega)
  have hm0 : ∀ x : Int, 0 ≤ x → 0 ≤ k * x := fun x h => Int.mul_nonneg (by omega) h
  obtain ⟨K, rfl⟩ : ∃ K : Nat, k = K := ⟨k.toNat, by omega⟩
  refine dualT (T := K * 1048576) (J := J) (S := S.map fun p => ((K : Int) * p.1, (K : Int) * p.2)) (fun j hj => ?_) hs ⟨⟨fun p hp => ?_, ?_⟩, fun j hj => by rw [List.length_map]; exact h.jobs j hj, h.asc, ?_⟩
  · obtain ⟨i, hi, rfl⟩ := List.mem_map.1 hj
    have := hl i hi
    refine ⟨hm0 _ this.1, hm2 _ _ this.2.1, ?_⟩
    have := hm _ _ this.2.2
    have e : ((K * 1048576 : Nat) : Int) = (K : Int) * 1048576 := by omega
    rw [e]
    exact this
  · obtain ⟨q, hq, rfl⟩ := List.mem_map.1 hp
    have := h.spans.1 q hq
    refine ⟨hm0 _ this.1, hm2 _ _ this.2.1, ?_⟩
    have := hm _ _ this.2.2
    have e : ((K * 1048576 : Nat) : Int) = (K : Int) * 1048576 := by omega
    rw [e]
    exact this
  · exact List.pairwise_map.2 (h.spans.2.imp fun {a b} hab => hm _ _ hab)
  · have e1 : roomS n (S.map fun p => ((K : Int) * p.1, (K : Int) * p.2)) = K * roomS n S := by
      unfold roomS
      rw [lsum_mapS, ← lsum_mul]
      exact lsum_congr S fun p _ => by dsimp only; rw [← Int.mul_sub, Int.mul_left_comm]
    have e2 : lsum (fun j => besS (S.map fun p => ((K : Int) * p.1, (K : Int) * p.2)) (jbA (l.map (scJ K)) j.toNat)) J = K * lsum (fun j => besS S (jbA l j.toNat)) J := by
      rw [← lsum_mul]
      exact lsum_congr J fun j hj => by
        have := h.jobs j hj
        rw [jbA_map _ _ (by omega), besS_scale (by omega)]
    have e3 : lsum (fun j => (jbA (l.map (scJ K)) j.toNat).2.2) J = K * lsum (fun j => (jbA l j.toNat).2.2) J := by
      rw [← lsum_mul]
      exact lsum_congr J fun j hj => by
        have := h.jobs j hj
        rw [jbA_map _ _ (by omega)]; rfl
    rw [e1, e2, e3, ← Int.mul_add]
    exact hm2 _ _ h.more

/-! ### Times shifted -/
def shJ (d : Int) (j : Jb) : Jb := (j.1 + d, j.2.1 + d, j.2.2)
def shS (d : Int) (x : Sl) : Sl := (x.1, x.2.1, x.2.2.1 + d, x.2.2.2 + d)
theorem besS_shift (d : Int) (S : List (Int × Int)) (j : Jb) : besS (S.map fun p => (p.1 + d, p.2 + d)) (shJ d j) = besS S j := by
  unfold besS shJ
  rw [lsum_mapS]
  dsimp only
  rw [lsum_congr (g := fun p : Int × Int => ovr j.1 j.2.1 p.1 p.2) S (fun p _ => by unfold ovr; omega)]
  omega
theorem Poss.shift {n d : Int} {l : List Jb} (h : Poss n l) : Poss n (l.map (shJ d)) := by
  obtain ⟨s, h⟩ := h
  refine ⟨s.map (shS d), by rw [List.length_map]; exact h.few, fun x hx => ?_, ?_, fun j hj => ?_⟩
  · obtain ⟨y, hy, rfl⟩ := List.mem_map.1 hx
    obtain ⟨a1, a2, a3, a4, a5⟩ := h.ok y hy
    refine ⟨by rw [List.length_map]; exact a1, a2, ?_, ?_, ?_⟩
    · simp only [shS]; omega
    · rw [show (shS d y).1.toNat = y.1.toNat from rfl, jbA_map _ _ (by omega)]; simp only [shS, shJ]; omega
    · rw [show (shS d y).1.toNat = y.1.toNat from rfl, jbA_map _ _ (by omega)]; simp only [shS, shJ]; omega
  · refine List.pairwise_map.2 (h.apart.imp fun {a b} hab e => ?_)
    have := hab e
    simp only [shS]
    omega
  · rw [List.length_map] at hj
    rw [jbA_map _ _ hj]
    unfold doneS
    rw [lsum_mapS, lsum_congr (g := fun x => (if x.1 = (j : Int) then lenS x else 0)) s (fun x _ => by
      by_cases e : x.1 = (j : Int)
      · rw [if_pos (show (shS d x).1 = (j : Int) from e), if_pos e]; simp only [shS, lenS]; omega
      · rw [if_neg (show ¬ (shS d x).1 = (j : Int) from e), if_neg e])]
    exact h.done j hj
theorem Refd.shift {n : Nat} {d : Int} {l : List Jb} (hl : ∀ j ∈ l, 0 ≤ j.1 ∧ j.1 < j.2.1 ∧ j.2.1 ≤ 1048576) (hd : 0 ≤ d) (h : Refd n l) : ¬ Poss n (l.map (shJ d)) := fun ⟨s, hs⟩ => by
  obtain ⟨J, S, h⟩ := h
  refine dualT (T := 1048576 + d.toNat) (J := J) (S := S.map fun p => (p.1 + d, p.2 + d)) (fun j hj => ?_) hs ⟨⟨fun p hp => ?_, ?_⟩, fun j hj => by rw [List.length_map]; exact h.jobs j hj, h.asc, ?_⟩
  · obtain ⟨i, hi, rfl⟩ := List.mem_map.1 hj
    have := hl i hi
    simp only [shJ]
    omega
  · obtain ⟨q, hq, rfl⟩ := List.mem_map.1 hp
    have := h.spans.1 q hq
    dsimp only
    omega
  · exact List.pairwise_map.2 (h.spans.2.imp fun {a b} hab => by omega)
  · have e1 : roomS n (S.map fun p => (p.1 + d, p.2 + d)) = roomS n S := by
      unfold roomS
      rw [lsum_mapS]
      exact lsum_congr S fun p _ => by dsimp only; congr 1; omega
    have e2 : lsum (fun j => besS (S.map fun p => (p.1 + d, p.2 + d)) (jbA (l.map (shJ d)) j.toNat)) J = lsum (fun j => besS S (jbA l j.toNat)) J :=
      lsum_congr J fun j hj => by
        have := h.jobs j hj
        rw [jbA_map _ _ (by omega), besS_shift]
    have e3 : lsum (fun j => (jbA (l.map (shJ d)) j.toNat).2.2) J = lsum (fun j => (jbA l j.toNat).2.2) J :=
      lsum_congr J fun j hj => by
        have := h.jobs j hj
        rw [jbA_map _ _ (by omega)]; rfl
    rw [e1, e2, e3]
    exact h.more

/-! ### Jobs in another order -/
theorem jbA_rev (l : List Jb) {j : Nat} (hj : j < l.length) : jbA l.reverse j = jbA l (l.length - 1 - j) := by
  unfold jbA
  rw [List.getD_eq_getElem?_getD, List.getD_eq_getElem?_getD, List.getElem?_reverse hj]
theorem Poss.rev {n : Int} {l : List Jb} (h : Poss n l) : Poss n l.reverse := by
  obtain ⟨s, h⟩ := h
  let f : Sl → Sl := fun x => ((l.length : Int) - 1 - x.1, x.2)
  refine ⟨s.map f, by rw [List.length_map]; exact h.few, fun x hx => ?_, ?_, fun j hj => ?_⟩
  · obtain ⟨y, hy, rfl⟩ := List.mem_map.1 hx
    obtain ⟨a1, a2, a3, a4, a5⟩ := h.ok y hy
    have hfy : (f y).1 = (l.length : Int) - 1 - y.1 := rfl
    have e : jbA l.reverse (f y).1.toNat = jbA l y.1.toNat := by
      rw [jbA_rev l (by rw [hfy]; omega), hfy]
      congr 1
      omega
    refine ⟨by rw [List.length_reverse, hfy]; omega, a2, a3, ?_, ?_⟩
    · rw [e]; exact a4
    · rw [e]; exact a5
  · refine List.pairwise_map.2 (h.apart.imp fun {a b} hab e => hab (e.imp (fun e => ?_) id))
    have e' : (l.length : Int) - 1 - a.1 = (l.length : Int) - 1 - b.1 := e
    omega
  · rw [List.length_reverse] at hj
    rw [jbA_rev l hj]
    unfold doneS
    rw [lsum_mapS, lsum_congr (g := fun x => (if x.1 = ((l.length - 1 - j : Nat) : Int) then lenS x else 0)) s (fun x _ => by
      by_cases e : x.1 = ((l.length - 1 - j : Nat) : Int)
      · rw [if_pos (show (f x).1 = (j : Int) by simp only [f]; omega), if_pos e]; rfl
      · rw [if_neg (show ¬ (f x).1 = (j : Int) by simp only [f]; omega), if_neg e])]
    exact h.done _ (by omega)
theorem Refd.rev {n : Nat} {l : List Jb} (hl : ∀ j ∈ l, 0 ≤ j.1 ∧ j.1 < j.2.1 ∧ j.2.1 ≤ 1048576) (h : Refd n l) : ¬ Poss n l.reverse := fun hp => by
  have := hp.rev
  rw [List.reverse_reverse] at this
  exact h.no hl this

/-! ### Time turned round -/
def tuJ (j : Jb) : Jb := (1048576 - j.2.1, 1048576 - j.1, j.2.2)
def tuS (x : Sl) : Sl := (x.1, x.2.1, 1048576 - x.2.2.2, 1048576 - x.2.2.1)
def tuP (p : Int × Int) : Int × Int := (1048576 - p.2, 1048576 - p.1)
theorem tuJ_tuJ (j : Jb) : tuJ (tuJ j) = j := by
  obtain ⟨a, b, c⟩ := j
  simp only [tuJ]
  congr 1
  · omega
  · congr 1; omega
theorem SchedP.turn {n : Int} {l : List Jb} {s : List Sl} (h : SchedP n l s) : SchedP n (l.map tuJ) (s.reverse.map tuS) := by
  refine ⟨by rw [List.length_map, List.length_reverse]; exact h.few, fun x hx => ?_, ?_, fun j hj => ?_⟩
  · obtain ⟨y, hy, rfl⟩ := List.mem_map.1 hx
    obtain ⟨a1, a2, a3, a4, a5⟩ := h.ok y (List.mem_reverse.1 hy)
    refine ⟨by rw [List.length_map]; exact a1, a2, ?_, ?_, ?_⟩
    · simp only [tuS]; omega
    · rw [show (tuS y).1.toNat = y.1.toNat from rfl, jbA_map _ _ (by omega)]; simp only [tuS, tuJ]; omega
    · rw [show (tuS y).1.toNat = y.1.toNat from rfl, jbA_map _ _ (by omega)]; simp only [tuS, tuJ]; omega
  · refine List.pairwise_map.2 (List.pairwise_reverse.2 (h.apart.imp fun {a b} hab e => ?_))
    have := hab (e.imp Eq.symm Eq.symm)
    simp only [tuS]
    omega
  · rw [List.length_map] at hj
    rw [jbA_map _ _ hj]
    unfold doneS
    rw [lsum_mapS, lsum_congr (g := fun x => (if x.1 = (j : Int) then lenS x else 0)) s.reverse (fun x _ => by
      by_cases e : x.1 = (j : Int)
      · rw [if_pos (show (tuS x).1 = (j : Int) from e), if_pos e]; simp only [tuS, lenS]; omega
      · rw [if_neg (show ¬ (tuS x).1 = (j : Int) from e), if_neg e]), lsum_perm _ (List.reverse_perm s)]
    exact h.done j hj
theorem besS_turn (S : List (Int × Int)) (j : Jb) : besS (S.reverse.map tuP) (tuJ j) = besS S j := by
  unfold besS tuJ
  rw [lsum_mapS]
  dsimp only
  rw [lsum_congr (g := fun p : Int × Int => ovr j.1 j.2.1 p.1 p.2) S.reverse (fun p _ => by unfold ovr tuP; dsimp only; omega), lsum_perm _ (List.reverse_perm S)]
  omega
theorem RefuseP.turn {n : Int} {l : List Jb} {J : List Int} {S : List (Int × Int)} (h : RefuseP n l J S) : RefuseP n (l.map tuJ) J (S.reverse.map tuP) := by
  refine ⟨by rw [List.length_map, List.length_reverse]; exact h.few, ⟨fun p hp => ?_, ?_⟩, fun j hj => by rw [List.length_map]; exact h.jobs j hj, h.asc, ?_⟩
  · obtain ⟨q, hq, rfl⟩ := List.mem_map.1 hp
    have := h.spans.1 q (List.mem_reverse.1 hq)
    simp only [tuP]
    omega
  · exact List.pairwise_map.2 (List.pairwise_reverse.2 (h.spans.2.imp fun {a b} hab => by simp only [tuP]; omega))
  · have e1 : roomS n (S.reverse.map tuP) = roomS n S := by
      unfold roomS
      rw [lsum_mapS, lsum_perm _ (List.reverse_perm S)]
      exact lsum_congr S fun p _ => by unfold tuP; dsimp only; congr 1; omega
    have e2 : lsum (fun j => besS (S.reverse.map tuP) (jbA (l.map tuJ) j.toNat)) J = lsum (fun j => besS S (jbA l j.toNat)) J :=
      lsum_congr J fun j hj => by
        have := h.jobs j hj
        rw [jbA_map _ _ (by omega), besS_turn]
    have e3 : lsum (fun j => (jbA (l.map tuJ) j.toNat).2.2) J = lsum (fun j => (jbA l j.toNat).2.2) J :=
      lsum_congr J fun j hj => by
        have := h.jobs j hj
        rw [jbA_map _ _ (by omega)]; rfl
    rw [e1, e2, e3]
    exact h.more
theorem Poss.turn {n : Int} {l : List Jb} : Poss n (l.map tuJ) ↔ Poss n l := by
  have hid : (l.map tuJ).map tuJ = l := by
    rw [List.map_map]
    conv => rhs; rw [← List.map_id l]
    exact List.map_congr_left fun j _ => tuJ_tuJ j
  constructor
  · rintro ⟨s, h⟩
    have := h.turn
    rw [hid] at this
    exact ⟨_, this⟩
  · rintro ⟨s, h⟩
    exact ⟨_, h.turn⟩

end Go.Proofs.Ytfmojiaaoebodaa
