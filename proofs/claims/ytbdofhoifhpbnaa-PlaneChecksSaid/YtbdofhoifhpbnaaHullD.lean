/- Hulls: the reference wraps the ring. Plain mathematics. -/
import Derived.Test.YtbdofhoifhpbnaaHullC
import Derived.Test.YtbdofhoifhpbnaaWidest
namespace Go.Proofs.Ytbdofhoifhpbnaa
open Go.RowKit

/-- Behind a, on the way from a to b: to the right of the way that leads to a. -/
theorem behind {z a b q : Int × Int} (h1 : lt2 a b) (h2 : lt2 q a) (h0 : cr a b q = 0) (h3 : 0 < cr z a b) (h4 : 0 ≤ cr z a q) : False := by
  have k : 0 < -cr z a q := by
    refine comb_pos (a := 0) (b := cr z a b) (vx := b.1 - a.1) (vy := b.2 - a.2) (wx := 0) (wy := 0) (ux := a.1 - q.1) (uy := a.2 - q.2) ?_ ?_ h1.lp h2.lp (Or.inr ⟨rfl, by omega⟩) (by omega) h3
    · unfold cr crs at *; clear h1 h2 h3 h4; grind
    · unfold cr crs at *; clear h1 h2 h3 h4; grind
  omega
/-- A point on the way from a to b lies between them. -/
def Btw (Q : Int × Int → Prop) (a b : Int × Int) : Prop := ∀ q, Q q → q ≠ a → cr a b q = 0 → q = b ∨ (lt2 a q ∧ lt2 q b)
theorem FC.col {Q : Int × Int → Prop} {M : Int × Int} (hi : ∀ q, Q q → q = M ∨ lt2 q M) : ∀ (r : List (Int × Int)) (a b : Int × Int), FC Q (a :: b :: r) → (a :: b :: r).getLast? = some M → (∀ q, Q q → lt2 q a → cr a b q = 0 → False) → Prs (Btw Q) (a :: b :: r)
  | [], a, b, h, e, hlo => by
    obtain rfl : b = M := by simpa using e
    refine ⟨fun q hq hne h0 => ?_, trivial⟩
    rcases lt2.tri q a with k | k | k
    · exact (hlo q hq k h0).elim
    · exact absurd k hne
    · rcases hi q hq with k2 | k2
      · exact Or.inl k2
      · exact Or.inr ⟨k, k2⟩
  | c :: r, a, b, ⟨h1, h2, h3, h4⟩, e, hlo => by
    have ht := h3 c r rfl
    refine ⟨fun q hq hne h0 => ?_, FC.col hi r b c h4 (by simpa using e) (fun q hq hlt h0 => behind h4.1 hlt h0 ht (h2 q hq))⟩
    rcases lt2.tri q a with k | k | k
    · exact (hlo q hq k h0).elim
    · exact absurd k hne
    · rcases lt2.tri q b with k2 | k2 | k2
      · exact Or.inr ⟨k, k2⟩
      · exact Or.inl k2
      · exact (beyond h1 k2 h0 ht (h4.2.1 q hq)).elim
theorem dot_nn {ux uy wx wy : Int} (hu : LP ux uy) (hw : LP wx wy) (h : ux * wy = uy * wx) : 0 ≤ ux * wx + uy * wy := by
  rcases hu with hu | ⟨hu, hu'⟩
  · rcases hw with hw | ⟨hw, hw'⟩
    · have p := Int.mul_pos hu hw
      have e : (ux * wx) * (uy * wy) = (uy * wx) * (uy * wx) := by
        have := congrArg (fun z => z * (uy * wx)) h
        grind
      have n : 0 ≤ (uy * wx) * (uy * wx) := by
        rcases Int.le_total 0 (uy * wx) with k | k
        · exact Int.mul_nonneg k k
        · exact Int.mul_nonneg_of_nonpos_of_nonpos k k
      rcases Int.lt_or_le (uy * wy) 0 with k | k
      · have := Int.mul_neg_of_pos_of_neg p k; omega
      · omega
    · rw [hw, Int.mul_zero] at h
      have := Int.mul_pos hu hw'; omega
  · rw [hu, Int.zero_mul] at h
    rcases hw with hw | ⟨hw, hw'⟩
    · have := Int.mul_pos hu' hw; omega
    · rw [hu, hw]
      have := Int.mul_pos hu' hw'; omega
theorem sqP_pos {a b : Int × Int} (h : a ≠ b) : 0 < sqP a b := by
  have n : ∀ z : Int, 0 ≤ z * z := fun z => by
    rcases Int.le_total 0 z with k | k
    · exact Int.mul_nonneg k k
    · exact Int.mul_nonneg_of_nonpos_of_nonpos k k
  have n1 := n (b.1 - a.1)
  have n2 := n (b.2 - a.2)
  rcases Int.lt_or_eq_of_le (show 0 ≤ sqP a b by unfold sqP sqd; omega) with k | k
  · exact k
  · exfalso
    unfold sqP sqd at k
    have z : ∀ z : Int, z * z = 0 → z = 0 := fun z h => by rcases Int.mul_eq_zero.1 h with h | h <;> exact h
    have e1 := z _ (show (b.1 - a.1) * (b.1 - a.1) = 0 by omega)
    have e2 := z _ (show (b.2 - a.2) * (b.2 - a.2) = 0 by omega)
    exact h (Prod.ext (by omega) (by omega))
theorem sq_btw {a b q : Int × Int} (h1 : lt2 a q) (h2 : lt2 q b) (h0 : cr a b q = 0) : sqP a q < sqP a b := by
  have d := dot_nn h1.lp h2.lp (by unfold cr crs at h0; grind)
  have p := sqP_pos (a := q) (b := b) (fun e => by rw [e] at h2; exact h2.irr)
  have e : sqP a b = sqP a q + 2 * ((q.1 - a.1) * (b.1 - q.1) + (q.2 - a.2) * (b.2 - q.2)) + sqP q b := by unfold sqP sqd; grind
  omega
theorem sqP_symm (a b : Int × Int) : sqP a b = sqP b a := by unfold sqP; exact sqd_symm _ _ _ _
theorem sqP_ng (a b : Int × Int) : sqP (ng a) (ng b) = sqP a b := by unfold sqP sqd ng; grind

/-- What an edge of the ring is, to the reference: nothing lies to its right, and nothing farther on it. -/
def Way (s : List (Int × Int)) (a b : Int × Int) : Prop := a ≠ b ∧ ∀ q ∈ s, 0 ≤ cr a b q ∧ (q ≠ a → cr a b q = 0 → q = b ∨ sqP a q < sqP a b)
section
variable {s : List (Int × Int)} {m M : Int × Int} {L U : List (Int × Int)}
theorem prs_and {R R' : Int × Int → Int × Int → Prop} : ∀ L, Prs R L → Prs R' L → Prs (fun a b => R a b ∧ R' a b) L
  | [], _, _ => trivial
  | [_], _, _ => trivial
  | _ :: b :: r, h, k => ⟨⟨h.1, k.1⟩, prs_and (b :: r) h.2 k.2⟩
theorem Hul.wayL (h : Hul s m M L U) : Prs (Way s) (m :: L) := by
  match L, h with
  | [], _ => exact trivial
  | b :: r, h =>
    have hc := FC.col (Q := (· ∈ s)) h.hi r m b h.fl h.ll (fun q hq hlt _ => by
      rcases h.lo q hq with e | e
      · rw [e] at hlt; exact hlt.irr
      · exact (e.trans hlt).irr)
    have hp := h.low
    refine Prs.imp (fun a b k => ⟨fun e => by have := k.1.1; rw [e] at this; exact this.irr, fun q hq => ⟨k.1.2 q hq, fun hq1 h0 => ?_⟩⟩) _ (prs_and _ hp hc)
    rcases k.2 q hq hq1 h0 with e | ⟨e1, e2⟩
    · exact Or.inl e
    · exact Or.inr (sq_btw e1 e2 h0)
theorem Hul.wayU (h : Hul s m M L U) : Prs (Way s) (M :: U) := by
  match U, h with
  | [], _ => exact trivial
  | b :: r, h =>
    have hlast : (ng M :: ng b :: r.map ng).getLast? = some (ng m) := by
      have : ng M :: ng b :: r.map ng = (M :: b :: r).map ng := rfl
      rw [this, List.getLast?_map, h.lu]; rfl
    have hfc : FC (fun q => ng q ∈ s) (ng M :: ng b :: r.map ng) := by
      exact h.fu
    have hc := FC.col (Q := fun q => ng q ∈ s) (M := ng m) (fun q hq => by
      rcases h.lo (ng q) hq with e | e
      · left; rw [← e, ng_ng]
      · right; rw [← ng_ng q]; exact lt_ng.2 e) (r.map ng) (ng M) (ng b) hfc hlast (fun q hq hlt _ => by
      rcases h.hi (ng q) hq with e | e
      · rw [← e, ng_ng] at hlt; exact hlt.irr
      · have := lt_ng.2 e; rw [ng_ng] at this; exact (this.trans hlt).irr)
    have hc2 : Prs (fun a b => Btw (fun q => ng q ∈ s) (ng a) (ng b)) (M :: b :: r) := Prs.ng _ hc
    have hp := h.upp
    refine Prs.imp (fun a b k => ⟨fun e => by have := k.1.1; rw [e] at this; exact this.irr, fun q hq => ⟨k.1.2 q hq, fun hq1 h0 => ?_⟩⟩) _ (prs_and _ hp hc2)
    rcases k.2 (ng q) (by show ng (ng q) ∈ s; rw [ng_ng]; exact hq) (fun e => hq1 (by rw [← ng_ng q, e, ng_ng])) (by rw [cr_ng]; exact h0) with e | ⟨e1, e2⟩
    · left; rw [← ng_ng q, e, ng_ng]
    · right
      have := sq_btw e1 e2 (by rw [cr_ng]; exact h0)
      rwa [sqP_ng, sqP_ng] at this
theorem Hul.first (h : Hul s m M L U) : (ring m M L U).getD 0 (0, 0) = m := by
  obtain ⟨X, Y, e, hX, -, hXn, -⟩ := h.split
  cases X with
  | nil => exact absurd rfl hXn
  | cons x X => rw [e]; simp at hX; simp [hX.1]
theorem Hul.way (h : Hul s m M L U) {i : Nat} (hi : i < (ring m M L U).length) : Way s ((ring m M L U).getD i (0, 0)) ((ring m M L U).getD ((i + 1) % (ring m M L U).length) (0, 0)) := by
  obtain ⟨X, Y, e, hX, hY, hXn, -⟩ := h.split
  have eC : ring m M L U ++ [m] = X ++ M :: U := by rw [e, List.append_assoc, hY]
  have hP : Prs (Way s) (ring m M L U ++ [m]) := by
    rw [eC]; exact Prs.append h.wayU X (by rw [hX]; exact h.wayL)
  have k := Prs.at_ _ i hP (by rw [List.length_append]; simpa using hi)
  have e1 : (ring m M L U ++ [m]).getD i (0, 0) = (ring m M L U).getD i (0, 0) := getD_left hi
  have e2 : (ring m M L U ++ [m]).getD (i + 1) (0, 0) = (ring m M L U).getD ((i + 1) % (ring m M L U).length) (0, 0) := by
    rcases Nat.lt_or_ge (i + 1) (ring m M L U).length with k | k
    · rw [Nat.mod_eq_of_lt k, getD_left k]
    · have : i + 1 = (ring m M L U).length := by omega
      rw [this, Nat.mod_self, h.first, getD_right (Nat.le_refl _)]; simp
  rw [e1, e2] at k
  exact k
theorem rise_all {R : Int × Int → Int × Int → Prop} (hR : ∀ a b c, R a b → R b c → R a c) {a : Int × Int} : ∀ L, Prs R (a :: L) → ∀ x ∈ L, R a x
  | [], _, x, hx => by simp at hx
  | b :: r, h, x, hx => by
    rcases List.mem_cons.1 hx with e | e
    · rw [e]; exact h.1
    · exact hR a b x h.1 (rise_all hR r h.2 x e)
/-- The first corner comes once. -/
theorem Hul.once (h : Hul s m M L U) {j : Nat} (h0 : 0 < j) (hj : j < (ring m M L U).length) : (ring m M L U).getD j (0, 0) ≠ m := by
  obtain ⟨X, Y, e, hX, hY, hXn, hYn⟩ := h.split
  have hup : ∀ x ∈ Y, lt2 m x := by
    have hu := Prs.imp (fun a b k => k.1) _ h.upp
    rw [← hY] at hu
    intro x hx
    have : ∀ Z : List (Int × Int), Prs (fun a b => lt2 b a) (Z ++ [m]) → ∀ x ∈ Z, lt2 m x := by
      intro Z
      induction Z with
      | nil => intro _ x hx; simp at hx
      | cons z Z ih =>
        intro k x hx
        cases Z with
        | nil =>
          obtain rfl : x = z := by simpa using hx
          exact k.1
        | cons z' Z' =>
          rcases List.mem_cons.1 hx with rfl | hx
          · exact (ih k.2 z' (by simp)).trans k.1
          · exact ih k.2 x hx
    exact this Y hu x hx
  have hlo : ∀ x ∈ L, lt2 m x := rise_all (R := lt2) (fun _ _ _ h k => h.trans k) L (Prs.imp (fun a b k => k.1) _ h.low)
  have hx : lt2 m ((ring m M L U).getD j (0, 0)) := by
    rw [e] at hj ⊢
    rw [List.length_append] at hj
    rcases Nat.lt_or_ge j X.length with k | k
    · rw [getD_left k]
      cases X with
      | nil => exact absurd rfl hXn
      | cons x X =>
        obtain ⟨j', rfl⟩ : ∃ j', j = j' + 1 := ⟨j - 1, by omega⟩
        have hm : (x :: X).getD (j' + 1) (0, 0) ∈ X := by
          have := getD_of (0, 0) (l := X) (k := j') (by simpa using k)
          simpa using List.mem_of_getElem? this
        simp at hX
        exact hlo _ (by rw [← hX.2]; exact List.mem_append_left _ hm)
    · rw [getD_right k]
      exact hup _ (List.mem_of_getElem? (getD_of (0, 0) (by omega)))
  intro e
  rw [e] at hx
  exact hx.irr
end

/-- One step of the reference's choice, and all of them. -/
def sel (at_ cur p : Int × Int) : Int × Int := if p = at_ then cur else if cur = at_ ∨ cr at_ cur p < 0 ∨ (cr at_ cur p = 0 ∧ sqP at_ cur < sqP at_ p) then p else cur
def selI (at_ : Int × Int) (l : List (Int × Int)) : Nat → Int × Int
  | 0 => at_
  | i + 1 => sel at_ (selI at_ l i) (l.getD i (0, 0))
theorem sel_way {l : List (Int × Int)} {a b : Int × Int} (h : Way l a b) (hb : b ∈ l) : selI a l l.length = b := by
  have inv : ∀ i, i ≤ l.length → (selI a l i = a ∨ (selI a l i ∈ l ∧ selI a l i ≠ a)) ∧ (b ∈ l.take i → selI a l i = b) := by
    intro i
    induction i with
    | zero => intro _; exact ⟨Or.inl rfl, fun hb => by simp at hb⟩
    | succ i ih =>
      intro hi
      obtain ⟨h1, h2⟩ := ih (by omega)
      have hp : l.getD i (0, 0) ∈ l := List.mem_of_getElem? (getD_of (0, 0) (by omega))
      have htk : l.take (i + 1) = l.take i ++ [l.getD i (0, 0)] := by rw [List.take_add_one, getD_of (0, 0) (by omega)]; rfl
      rw [htk]
      show (sel a (selI a l i) (l.getD i (0, 0)) = a ∨ _) ∧ (_ → sel a (selI a l i) (l.getD i (0, 0)) = b)
      rw [show selI a l (i + 1) = sel a (selI a l i) (l.getD i (0, 0)) from rfl]
      generalize l.getD i (0, 0) = p at hp
      generalize selI a l i = cur at h1 h2
      unfold sel
      by_cases hpa : p = a
      · rw [if_pos hpa]
        refine ⟨h1, fun hm => ?_⟩
        rcases List.mem_append.1 hm with k | k
        · exact h2 k
        · exact absurd (by simpa [hpa] using k) h.1.symm
      · rw [if_neg hpa]
        constructor
        · split
          · exact Or.inr ⟨hp, hpa⟩
          · exact h1
        · intro hm
          by_cases hpb : p = b
          · subst hpb
            split
            · rfl
            · rename_i hno
              rcases h1 with e | ⟨e1, e2⟩
              · exact absurd (Or.inl e) hno
              · obtain ⟨g1, g2⟩ := h.2 cur e1
                have e3 : cr a cur p = -cr a p cur := cr_swap a p cur
                rcases Int.lt_or_eq_of_le g1 with k | k
                · exact absurd (Or.inr (Or.inl (by omega))) hno
                · rcases g2 e2 k.symm with e | e
                  · exact e
                  · exact absurd (Or.inr (Or.inr ⟨by omega, e⟩)) hno
          · have hb2 : b ∈ l.take i := by
              rcases List.mem_append.1 hm with k | k
              · exact k
              · exact absurd (by simpa using k : b = p).symm hpb
            obtain rfl := h2 hb2
            rw [if_neg]
            rintro (k | k | ⟨k1, k2⟩)
            · exact h.1 k.symm
            · have := (h.2 p hp).1; omega
            · rcases (h.2 p hp).2 hpa k1 with e | e
              · exact hpb e
              · omega
  exact (inv l.length (Nat.le_refl _)).2 (by rw [List.take_length]; exact hb)
theorem sel_alone {l : List (Int × Int)} {a : Int × Int} (h : ∀ q ∈ l, q = a) : ∀ i, i ≤ l.length → selI a l i = a
  | 0, _ => rfl
  | i + 1, hi => by
    have hp : l.getD i (0, 0) = a := h _ (List.mem_of_getElem? (getD_of (0, 0) (by omega)))
    show sel a (selI a l i) (l.getD i (0, 0)) = a
    rw [sel_alone h i (by omega), hp]
    unfold sel; rw [if_pos rfl]

/-- What the reference's wrapping leans on. -/
structure Wrap (l cs : List (Int × Int)) : Prop where
  pos : 1 ≤ cs.length
  one : cs.length = 1 → selI (cs.getD 0 (0, 0)) l l.length = cs.getD 0 (0, 0)
  next : 1 < cs.length → ∀ k, k < cs.length → selI (cs.getD k (0, 0)) l l.length = cs.getD ((k + 1) % cs.length) (0, 0)
  step : ∀ k, k + 1 < cs.length → cs.getD (k + 1) (0, 0) ≠ cs.getD k (0, 0) ∧ cs.getD (k + 1) (0, 0) ≠ cs.getD 0 (0, 0)
  last : 1 < cs.length → cs.getD 0 (0, 0) ≠ cs.getD (cs.length - 1) (0, 0)
  mem : ∀ k, k < cs.length → cs.getD k (0, 0) ∈ l
  least : ∀ q ∈ l, q = cs.getD 0 (0, 0) ∨ lt2 (cs.getD 0 (0, 0)) q
theorem wrap_of (l : List (Int × Int)) (h1 : 1 ≤ l.length) : Wrap l (cornersL l) := by
  have hpos := sdL_pos l h1
  by_cases h : (sdL l).length = 1
  · obtain ⟨m, hm⟩ := List.length_eq_one_iff.1 h
    have hc : cornersL l = [m] := by unfold cornersL; rw [if_pos h, hm]
    have hall : ∀ q ∈ l, q = m := fun q hq => by have := (mem_sdL l q).2 hq; rw [hm] at this; simpa using this
    have hml : m ∈ l := (mem_sdL l m).1 (by rw [hm]; simp)
    rw [hc]
    exact ⟨by simp, fun _ => sel_alone hall _ (Nat.le_refl _), fun h => by simp at h, fun k hk => by simp at hk, fun h => by simp at h, fun k hk => by
      obtain rfl : k = 0 := by simpa using hk
      exact hml, fun q hq => Or.inl (hall q hq)⟩
  · obtain ⟨m, M, L, U, hH, e, e'⟩ := hul_of (sdL_rise l) (by omega)
    rw [corners_ring h e e']
    have hmem : ∀ k, k < (ring m M L U).length → (ring m M L U).getD k (0, 0) ∈ l := fun k hk => by
      have : (ring m M L U).getD k (0, 0) ∈ ring m M L U := List.mem_of_getElem? (getD_of (0, 0) hk)
      rcases (hH.mem _).1 this with k | k
      · exact (mem_sdL l _).1 (hH.ml _ k)
      · exact (mem_sdL l _).1 (hH.mu _ k)
    have hway : ∀ k, k < (ring m M L U).length → Way l ((ring m M L U).getD k (0, 0)) ((ring m M L U).getD ((k + 1) % (ring m M L U).length) (0, 0)) := fun k hk => by
      have w := hH.way hk
      exact ⟨w.1, fun q hq => w.2 q ((mem_sdL l q).2 hq)⟩
    have hr1 : 1 ≤ (ring m M L U).length := by
      obtain ⟨X, Y, e, -, -, hXn, -⟩ := hH.split
      have := List.length_pos_iff.2 hXn
      rw [e, List.length_append]; omega
    have hlast : 1 < (ring m M L U).length → (ring m M L U).getD 0 (0, 0) ≠ (ring m M L U).getD ((ring m M L U).length - 1) (0, 0) := fun hn => by
      rw [hH.first]
      exact (hH.once (by omega) (by omega)).symm
    refine ⟨hr1, fun hn => ?_, fun hn k hk => sel_way (hway k hk) (hmem _ (Nat.mod_lt _ (by omega))), fun k hk => ⟨?_, ?_⟩, hlast, hmem, fun q hq => ?_⟩
    · exfalso
      have w := (hway 0 (by omega)).1
      rw [hn] at w
      exact w rfl
    · have w := (hway k (by omega)).1
      rw [Nat.mod_eq_of_lt hk] at w
      exact w.symm
    · rw [hH.first]; exact hH.once (by omega) hk
    · rw [hH.first]; exact hH.lo q ((mem_sdL l q).2 hq)

end Go.Proofs.Ytbdofhoifhpbnaa
