/- Hulls: the reference wraps the ring. Plain mathematics.
Hulls: a linear function is greatest at a corner, and so is a distance. Plain mathematics. -/
import Derived.Test.YthleajmamkihaaaHullA
import Derived.Test.YthleajmamkihaaaWidest
namespace Go.Proofs.Ythleajmamkihaaa
open Go.RowKit

/-- Behind a, on the way from a to b: to the right of the way that leads to a. -/
theorem behind {z a b q : Int × Int} (h1 : lt2 a b) (h2 : lt2 q a) (h0 : cr a b q = 0) (h3 : 0 < cr z a b) (h4 : 0 ≤ cr z a q) : False := by
  have k : 0 < -cr z a q := by
    refine comb_pos (a := 0) (b := cr z a b) (vx := b.1 - a.1) (vy := b.2 - a.2) (wx := 0) (wy := 0) (ux := a.1 - q.1) (uy := a.2 - q.2) ?_ ?_ h1.lp h2.lp (Or.inr ⟨rfl, by omega⟩) (by omega) h3
    · unfold cr crs at *; clear h1 h2 h3 h4; grind
    · unfold cr crs at *; clear h1 h2 h3 h4; grind
  omega
/-- A point on the way from a to b lies between them. -/
def Btw (Q : Int × Int → Prop) (a b : Int × Int) : Prop := ∀ q, Q q → q ≠ a → cr a b q = 0 → q = b ∨ (lt2 a q ∧ lt2 q b)
theorem FC.col {Q : Int × Int → Prop} {M : Int × Int} (hi : ∀ q, Q q → q = M ∨ lt2 q M) : ∀ (r : List (Int × Int)) (a b : Int × Int), FC Q (a :: b :: r) → (a :: b :: r).getLast? = some M → (∀ q, Q q → lt2 q a → cr a b q = 0 → False) → Prs (Btw Q) (a :: b :: r)
  | [], a, b, h, e, hlo => by
    obtain rfl : b = M := by simpa using e
    refine ⟨fun q hq hne h0 => ?_, trivial⟩
    rcases lt2.tri q a with k | k | k
    · exact (hlo q hq k h0).elim
    · exact absurd k hne
    · rcases hi q hq with k2 | k2
      · exact Or.inl k2
      · exact Or.inr ⟨k, k2⟩
  | c :: r, a, b, ⟨h1, h2, h3, h4⟩, e, hlo => by
    have ht := h3 c r rfl
    refine ⟨fun q hq hne h0 => ?_, FC.col hi r b c h4 (by simpa using e) (fun q hq hlt h0 => behind h4.1 hlt h0 ht (h2 q hq))⟩
    rcases lt2.tri q a with k | k | k
    · exact (hlo q hq k h0).elim
    · exact absurd k hne
    · rcases lt2.tri q b with k2 | k2 | k2
      · exact Or.inr ⟨k, k2⟩
      · exact Or.inl k2
      · exact (beyond h1 k2 h0 ht (h4.2.1 q hq)).elim
theorem dot_nn {ux uy wx wy : Int} (hu : LP ux uy) (hw : LP wx wy) (h : ux * wy = uy * wx) : 0 ≤ ux * wx + uy * wy := by
  rcases hu with hu | ⟨hu, hu'⟩
  · rcases hw with hw | ⟨hw, hw'⟩
    · have p := Int.mul_pos hu hw
      have e : (ux * wx) * (uy * wy) = (uy * wx) * (uy * wx) := by
        have := congrArg (fun z => z * (uy * wx)) h
        grind
      have n : 0 ≤ (uy * wx) * (uy * wx) := by
        rcases Int.le_total 0 (uy * wx) with k | k
        · exact Int.mul_nonneg k k
        · exact Int.mul_nonneg_of_nonpos_of_nonpos k k
      rcases Int.lt_or_le (uy * wy) 0 with k | k
      · have := Int.mul_neg_of_pos_of_neg p k; omega
      · omega
    · rw [hw, Int.mul_zero] at h
      have := Int.mul_pos hu hw'; omega
  · rw [hu, Int.zero_mul] at h
    rcases hw with hw | ⟨hw, hw'⟩
    · have := Int.mul_pos hu' hw; omega
    · rw [hu, hw]
      have := Int.mul_pos hu' hw'; omega
theorem sqP_pos {a b : Int × Int} (h : a ≠ b) : 0 < sqP a b := by
  have n : ∀ z : Int, 0 ≤ z * z := fun z => by
    rcases Int.le_total 0 z with k | k
    · exact Int.mul_nonneg k k
    · exact Int.mul_nonneg_of_nonpos_of_nonpos k k
  have n1 := n (b.1 - a.1)
  have n2 := n (b.2 - a.2)
  rcases Int.lt_or_eq_of_le (show 0 ≤ sqP a b by unfold sqP sqd; omega) with k | k
  · exact k
  · exfalso
    unfold sqP sqd at k
    have z : ∀ z : Int, z * z = 0 → z = 0 := fun z h => by rcases Int.mul_eq_zero.1 h with h | h <;> exact h
    have e1 := z _ (show (b.1 - a.1) * (b.1 - a.1) = 0 by omega)
    have e2 := z _ (show (b.2 - a.2) * (b.2 - a.2) = 0 by omega)
    exact h (Prod.ext (by omega) (by omega))
theorem sq_btw {a b q : Int × Int} (h1 : lt2 a q) (h2 : lt2 q b) (h0 : cr a b q = 0) : sqP a q < sqP a b := by
  have d := dot_nn h1.lp h2.lp (by unfold cr crs at h0; grind)
  have p := sqP_pos (a := q) (b := b) (fun e => by rw [e] at h2; exact h2.irr)
  have e : sqP a b = sqP a q + 2 * ((q.1 - a.1) * (b.1 - q.1) + (q.2 - a.2) * (b.2 - q.2)) + sqP q b := by unfold sqP sqd; grind
  omega
theorem sqP_symm (a b : Int × Int) : sqP a b = sqP b a := by unfold sqP; exact sqd_symm _ _ _ _
theorem sqP_ng (a b : Int × Int) : sqP (ng a) (ng b) = sqP a b := by unfold sqP sqd ng; grind

/-- What an edge of the ring is, to the reference: nothing lies to its right, and nothing farther on it. -/
def Way (s : List (Int × Int)) (a b : Int × Int) : Prop := a ≠ b ∧ ∀ q ∈ s, 0 ≤ cr a b q ∧ (q ≠ a → cr a b q = 0 → q = b ∨ sqP a q < sqP a b)
section
variable {s : List (Int × Int)} {m M : Int × Int} {L U : List (Int × Int)}
theorem prs_and {R R' : Int × Int → Int × Int → Prop} : ∀ L, Prs R L → Prs R' L → Prs (fun a b => R a b ∧ R' a b) L
  | [], _, _ => trivial
  | [_], _, _ => trivial
  | _ :: b :: r, h, k => ⟨⟨h.1, k.1⟩, prs_and (b :: r) h.2 k.2⟩
theorem Hul.wayL (h : Hul s m M L U) : Prs (Way s) (m :: L) := by
  match L, h with
  | [], _ => exact trivial
  | b :: r, h =>
    have hc := FC.col (Q := (· ∈ s)) h.hi r m b h.fl h.ll (fun q hq hlt _ => by
      rcases h.lo q hq with e | e
      · rw [e] at hlt; exact hlt.irr
      · exact (e.trans hlt).irr)
    have hp := h.low
    refine Prs.imp (fun a b k => ⟨fun e => by have := k.1.1; rw [e] at this; exact this.irr, fun q hq => ⟨k.1.2 q hq, fun hq1 h0 => ?_⟩⟩) _ (prs_and _ hp hc)
    rcases k.2 q hq hq1 h0 with e | ⟨e1, e2⟩
    · exact Or.inl e
    · exact Or.inr (sq_btw e1 e2 h0)
theorem Hul.wayU (h : Hul s m M L U) : Prs (Way s) (M :: U) := by
  match U, h with
  | [], _ => exact trivial
  | b :: r, h =>
    have hlast : (ng M :: ng b :: r.map ng).getLast? = some (ng m) := by
      have : ng M :: ng b :: r.map ng = (M :: b :: r).map ng := rfl
      rw [this, List.getLast?_map, h.lu]; rfl
    have hfc : FC (fun q => ng q ∈ s) (ng M :: ng b :: r.map ng) := by
      exact h.fu
    have hc := FC.col (Q := fun q => ng q ∈ s) (M := ng m) (fun q hq => by
      rcases h.lo (ng q) hq with e | e
      · left; rw [← e, ng_ng]
      · right; rw [← ng_ng q]; exact lt_ng.2 e) (r.map ng) (ng M) (ng b) hfc hlast (fun q hq hlt _ => by
      rcases h.hi (ng q) hq with e | e
      · rw [← e, ng_ng] at hlt; exact hlt.irr
      · have := lt_ng.2 e; rw [ng_ng] at this; exact (this.trans hlt).irr)
    have hc2 : Prs (fun a b => Btw (fun q => ng q ∈ s) (ng a) (ng b)) (M :: b :: r) := Prs.ng _ hc
    have hp := h.upp
    refine Prs.imp (fun a b k => ⟨fun e => by have := k.1.1; rw [e] at this; exact this.irr, fun q hq => ⟨k.1.2 q hq, fun hq1 h0 => ?_⟩⟩) _ (prs_and _ hp hc2)
    rcases k.2 (ng q) (by show ng (ng q) ∈ s; rw [ng_ng]; exact hq) (fun e => hq1 (by rw [← ng_ng q, e, ng_ng])) (by rw [cr_ng]; exact h0) with e | ⟨e1, e2⟩
    · left; rw [← ng_ng q, e, ng_ng]
    · right
      have := sq_btw e1 e2 (by rw [cr_ng]; exact h0)
      rwa [sqP_ng, sqP_ng] at this
theorem Hul.first (h : Hul s m M L U) : (ring m M L U).getD 0 (0, 0) = m := by
  obtain ⟨X, Y, e, hX, -, hXn, -⟩ := h.split
  cases X with
  | nil => exact absurd rfl hXn
  | cons x X => rw [e]; simp at hX; simp [hX.1]
theorem Hul.way (h : Hul s m M L U) {i : Nat} (hi : i < (ring m M L U).length) : Way s ((ring m M L U).getD i (0, 0)) ((ring m M L U).getD ((i + 1) % (ring m M L U).length) (0, 0)) := by
  obtain ⟨X, Y, e, hX, hY, hXn, -⟩ := h.split
  have eC : ring m M L U ++ [m] = X ++ M :: U := by rw [e, List.append_assoc, hY]
  have hP : Prs (Way s) (ring m M L U ++ [m]) := by
    rw [eC]; exact Prs.append h.wayU X (by rw [hX]; exact h.wayL)
  have k := Prs.at_ _ i hP (by rw [List.length_append]; simpa using hi)
  have e1 : (ring m M L U ++ [m]).getD i (0, 0) = (ring m M L U).getD i (0, 0) := getD_left hi
  have e2 : (ring m M L U ++ [m]).getD (i + 1) (0, 0) = (ring m M L U).getD ((i + 1) % (ring m M L U).length) (0, 0) := by
    rcases Nat.lt_or_ge (i + 1) (ring m M L U).length with k | k
    · rw [Nat.mod_eq_of_lt k, getD_left k]
    · have : i + 1 = (ring m M L U).length := by omega
      rw [this, Nat.mod_self, h.first, getD_right (Nat.le_refl _)]; simp
  rw [e1, e2] at k
  exact k
theorem rise_all {R : Int × Int → Int × Int → Prop} (hR : ∀ a b c, R a b → R b c → R a c) {a : Int × Int} : ∀ L, Prs R (a :: L) → ∀ x ∈ L, R a x
  | [], _, x, hx => by simp at hx
  | b :: r, h, x, hx => by
    rcases List.mem_cons.1 hx with e | e
    · rw [e]; exact h.1
    · exact hR a b x h.1 (rise_all hR r h.2 x e)
/-- The first corner comes once. -/
theorem Hul.once (h : Hul s m M L U) {j : Nat} (h0 : 0 < j) (hj : j < (ring m M L U).length) : (ring m M L U).getD j (0, 0) ≠ m := by
  obtain ⟨X, Y, e, hX, hY, hXn, hYn⟩ := h.split
  have hup : ∀ x ∈ Y, lt2 m x := by
    have hu := Prs.imp (fun a b k => k.1) _ h.upp
    rw [← hY] at hu
    intro x hx
    have : ∀ Z : List (Int × Int), Prs (fun a b => lt2 b a) (Z ++ [m]) → ∀ x ∈ Z, lt2 m x := by
      intro Z
      induction Z with
      | nil => intro _ x hx; simp at hx
      | cons z Z ih =>
        intro k x hx
        cases Z with
        | nil =>
          obtain rfl : x = z := by simpa using hx
          exact k.1
        | cons z' Z' =>
          rcases List.mem_cons.1 hx with rfl | hx
          · exact (ih k.2 z' (by simp)).trans k.1
          · exact ih k.2 x hx
    exact this Y hu x hx
  have hlo : ∀ x ∈ L, lt2 m x := rise_all (R := lt2) (fun _ _ _ h k => h.trans k) L (Prs.imp (fun a b k => k.1) _ h.low)
  have hx : lt2 m ((ring m M L U).getD j (0, 0)) := by
    rw [e] at hj ⊢
    rw [List.length_append] at hj
    rcases Nat.lt_or_ge j X.length with k | k
    · rw [getD_left k]
      cases X with
      | nil => exact absurd rfl hXn
      | cons x X =>
        obtain ⟨j', rfl⟩ : ∃ j', j = j' + 1 := ⟨j - 1, by omega⟩
        have hm : (x :: X).getD (j' + 1) (0, 0) ∈ X := by
          have := getD_of (0, 0) (l := X) (k := j') (by simpa using k)
          simpa using List.mem_of_getElem? this
        simp at hX
        exact hlo _ (by rw [← hX.2]; exact List.mem_append_left _ hm)
    · rw [getD_right k]
      exact hup _ (List.mem_of_getElem? (getD_of (0, 0) (by omega)))
  intro e
  rw [e] at hx
  exact hx.irr
end

/-- One step of the reference's choice, and all of them. -/
def sel (at_ cur p : Int × Int) : Int × Int := if p = at_ then cur else if cur = at_ ∨ cr at_ cur p < 0 ∨ (cr at_ cur p = 0 ∧ sqP at_ cur < sqP at_ p) then p else cur
def selI (at_ : Int × Int) (l : List (Int × Int)) : Nat → Int × Int
  | 0 => at_
  | i + 1 => sel at_ (selI at_ l i) (l.getD i (0, 0))
theorem sel_way {l : List (Int × Int)} {a b : Int × Int} (h : Way l a b) (hb : b ∈ l) : selI a l l.length = b := by
  have inv : ∀ i, i ≤ l.length → (selI a l i = a ∨ (selI a l i ∈ l ∧ selI a l i ≠ a)) ∧ (b ∈ l.take i → selI a l i = b) := by
    intro i
    induction i with
    | zero => intro _; exact ⟨Or.inl rfl, fun hb => by simp at hb⟩
    | succ i ih =>
      intro hi
      obtain ⟨h1, h2⟩ := ih (by omega)
      have hp : l.getD i (0, 0) ∈ l := List.mem_of_getElem? (getD_of (0, 0) (by omega))
      have htk : l.take (i + 1) = l.take i ++ [l.getD i (0, 0)] := by rw [List.take_add_one, getD_of (0, 0) (by omega)]; rfl
      rw [htk]
      show (sel a (selI a l i) (l.getD i (0, 0)) = a ∨ _) ∧ (_ → sel a (selI a l i) (l.getD i (0, 0)) = b)
      rw [show selI a l (i + 1) = sel a (selI a l i) (l.getD i (0, 0)) from rfl]
      generalize l.getD i (0, 0) = p at hp
      generalize selI a l i = cur at h1 h2
      unfold sel
      by_cases hpa : p = a
      · rw [if_pos hpa]
        refine ⟨h1, fun hm => ?_⟩
        rcases List.mem_append.1 hm with k | k
        · exact h2 k
        · exact absurd (by simpa [hpa] using k) h.1.symm
      · rw [if_neg hpa]
        constructor
        · split
          · exact Or.inr ⟨hp, hpa⟩
          · exact h1
        · intro hm
          by_cases hpb : p = b
          · subst hpb
            split
            · rfl
            · rename_i hno
              rcases h1 with e | ⟨e1, e2⟩
              · exact absurd (Or.inl e) hno
              · obtain ⟨g1, g2⟩ := h.2 cur e1
                have e3 : cr a cur p = -cr a p cur := cr_swap a p cur
                rcases Int.lt_or_eq_of_le g1 with k | k
                · exact absurd (Or.inr (Or.inl (by omega))) hno
                · rcases g2 e2 k.symm with e | e
                  · exact e
                  · exact absurd (Or.inr (Or.inr ⟨by omega, e⟩)) hno
          · have hb2 : b ∈ l.take i := by
              rcases List.mem_append.1 hm with k | k
              · exact k
              · exact absurd (by simpa using k : b = p).symm hpb
            obtain rfl := h2 hb2
            rw [if_neg]
            rintro (k | k | ⟨k1, k2⟩)
            · exact h.1 k.symm
            · have := (h.2 p hp).1; omega
            · rcases (h.2 p hp).2 hpa k1 with e | e
              · exact hpb e
              · omega
  exact (inv l.length (Nat.le_refl _)).2 (by rw [List.take_length]; exact hb)
theorem sel_alone {l : List (Int × Int)} {a : Int × Int} (h : ∀ q ∈ l, q = a) : ∀ i, i ≤ l.length → selI a l i = a
  | 0, _ => rfl
  | i + 1, hi => by
    have hp : l.getD i (0, 0) = a := h _ (List.mem_of_getElem? (getD_of (0, 0) (by omega)))
    show sel a (selI a l i) (l.getD i (0, 0)) = a
    rw [sel_alone h i (by omega), hp]
    unfold sel; rw [if_pos rfl]

/-- What the reference's wrapping leans on. -/
structure Wrap (l cs : List (Int × Int)) : Prop where
  pos : 1 ≤ cs.length
  one : cs.length = 1 → selI (cs.getD 0 (0, 0)) l l.length = cs.getD 0 (0, 0)
  next : 1 < cs.length → ∀ k, k < cs.length → selI (cs.getD k (0, 0)) l l.length = cs.getD ((k + 1) % cs.length) (0, 0)
  step : ∀ k, k + 1 < cs.length → cs.getD (k + 1) (0, 0) ≠ cs.getD k (0, 0) ∧ cs.getD (k + 1) (0, 0) ≠ cs.getD 0 (0, 0)
  last : 1 < cs.length → cs.getD 0 (0, 0) ≠ cs.getD (cs.length - 1) (0, 0)
  mem : ∀ k, k < cs.length → cs.getD k (0, 0) ∈ l
  least : ∀ q ∈ l, q = cs.getD 0 (0, 0) ∨ lt2 (cs.getD 0 (0, 0)) q
theorem wrap_of (l : List (Int × Int)) (h1 : 1 ≤ l.length) : Wrap l (cornersL l) := by
  have hpos := sdL_pos l h1
  by_cases h : (sdL l).length = 1
  · obtain ⟨m, hm⟩ := List.length_eq_one_iff.1 h
    have hc : cornersL l = [m] := by unfold cornersL; rw [if_pos h, hm]
    have hall : ∀ q ∈ l, q = m := fun q hq => by have := (mem_sdL l q).2 hq; rw [hm] at this; simpa using this
    have hml : m ∈ l := (mem_sdL l m).1 (by rw [hm]; simp)
    rw [hc]
    exact ⟨by simp, fun _ => sel_alone hall _ (Nat.le_refl _), fun h => by simp at h, fun k hk => by simp at hk, fun h => by simp at h, fun k hk => by
      obtain rfl : k = 0 := by simpa using hk
      exact hml, fun q hq => Or.inl (hall q hq)⟩
  · obtain ⟨m, M, L, U, hH, e, e'⟩ := hul_of (sdL_rise l) (by omega)
    rw [corners_ring h e e']
    have hmem : ∀ k, k < (ring m M L U).length → (ring m M L U).getD k (0, 0) ∈ l := fun k hk => by
      have : (ring m M L U).getD k (0, 0) ∈ ring m M L U := List.mem_of_getElem? (getD_of (0, 0) hk)
      rcases (hH.mem _).1 this with k | k
      · exact (mem_sdL l _).1 (hH.ml _ k)
      · exact (mem_sdL l _).1 (hH.mu _ k)
    have hway : ∀ k, k < (ring m M L U).length → Way l ((ring m M L U).getD k (0, 0)) ((ring m M L U).getD ((k + 1) % (ring m M L U).length) (0, 0)) := fun k hk => by
      have w := hH.way hk
      exact ⟨w.1, fun q hq => w.2 q ((mem_sdL l q).2 hq)⟩
    have hr1 : 1 ≤ (ring m M L U).length := by
      obtain ⟨X, Y, e, -, -, hXn, -⟩ := hH.split
      have := List.length_pos_iff.2 hXn
      rw [e, List.length_append]; omega
    have hlast : 1 < (ring m M L U).length → (ring m M L U).getD 0 (0, 0) ≠ (ring m M L U).getD ((ring m M L U).length - 1) (0, 0) := fun hn => by
      rw [hH.first]
      exact (hH.once (by omega) (by omega)).symm
    refine ⟨hr1, fun hn => ?_, fun hn k hk => sel_way (hway k hk) (hmem _ (Nat.mod_lt _ (by omega))), fun k hk => ⟨?_, ?_⟩, hlast, hmem, fun q hq => ?_⟩
    · exfalso
      have w := (hway 0 (by omega)).1
      rw [hn] at w
      exact w rfl
    · have w := (hway k (by omega)).1
      rw [Nat.mod_eq_of_lt hk] at w
      exact w.symm
    · rw [hH.first]; exact hH.once (by omega) hk
    · rw [hH.first]; exact hH.lo q ((mem_sdL l q).2 hq)

end Go.Proofs.Ythleajmamkihaaa

namespace Go.Proofs.Ythleajmamkihaaa
open Go.RowKit

/-- A point above a way that falls off to below: not beyond both ends. -/
theorem top_btw {α β : Int} {a b q : Int × Int} (hβ : β ≤ 0) (h1 : lt2 a q) (h2 : lt2 q b) (h0 : 0 ≤ cr a b q) :
    α * q.1 + β * q.2 ≤ α * a.1 + β * a.2 ∨ α * q.1 + β * q.2 ≤ α * b.1 + β * b.2 := by
  have ux : 0 ≤ q.1 - a.1 := by unfold lt2 at h1; omega
  have wx : q.1 - a.1 ≤ b.1 - a.1 := by unfold lt2 at h2; omega
  have ef : ∀ z : Int × Int, α * z.1 + β * z.2 = (α * a.1 + β * a.2) + (α * (z.1 - a.1) + β * (z.2 - a.2)) := fun z => by grind
  rw [ef q, ef b]
  generalize hF : α * a.1 + β * a.2 = F
  suffices h : α * (q.1 - a.1) + β * (q.2 - a.2) ≤ 0 ∨ α * (q.1 - a.1) + β * (q.2 - a.2) ≤ α * (b.1 - a.1) + β * (b.2 - a.2) by omega
  have hc : 0 ≤ (b.1 - a.1) * (q.2 - a.2) - (b.2 - a.2) * (q.1 - a.1) := by unfold cr crs at h0; exact h0
  have hu : q.1 - a.1 = 0 → 0 < q.2 - a.2 := fun h => by unfold lt2 at h1; omega
  generalize q.1 - a.1 = u at *
  generalize q.2 - a.2 = u' at *
  generalize b.1 - a.1 = v at *
  generalize b.2 - a.2 = v' at *
  rcases Int.lt_or_eq_of_le (show 0 ≤ v by omega) with hv | hv
  · have k1 : v * (α * u + β * u') ≤ u * (α * v + β * v') := by
      have := Int.mul_nonpos_of_nonpos_of_nonneg hβ hc
      have e : v * (α * u + β * u') - u * (α * v + β * v') = β * (v * u' - v' * u) := by grind
      omega
    rcases Int.le_total (α * v + β * v') 0 with k | k
    · left
      have := Int.mul_nonpos_of_nonneg_of_nonpos ux k
      rcases Int.lt_or_le 0 (α * u + β * u') with j | j
      · have := Int.mul_pos hv j; omega
      · exact j
    · right
      have k2 := Int.mul_le_mul_of_nonneg_right wx k
      exact Int.le_of_mul_le_mul_left (by omega : v * (α * u + β * u') ≤ v * (α * v + β * v')) hv
  · left
    have h0 : u = 0 := by omega
    have := hu h0
    rw [h0, Int.mul_zero, Int.zero_add]
    exact Int.mul_nonpos_of_nonpos_of_nonneg hβ (by omega)
theorem FC.top {Q : Int × Int → Prop} {α β : Int} (hβ : β ≤ 0) {M : Int × Int} : ∀ (L : List (Int × Int)) (a q : Int × Int), FC Q (a :: L) → (a :: L).getLast? = some M → Q q → (q = a ∨ lt2 a q) → (q = M ∨ lt2 q M) → ∃ x ∈ a :: L, α * q.1 + β * q.2 ≤ α * x.1 + β * x.2
  | [], a, q, _, e, _, h1, h2 => by
    obtain rfl : a = M := by simpa using e
    refine ⟨a, by simp, ?_⟩
    rcases h1 with h | h
    · rw [h]; omega
    · rcases h2 with k | k
      · rw [k]; omega
      · exact (h.trans k).irr.elim
  | b :: r, a, q, h, e, hq, h1, h2 => by
    rcases h1 with h1 | h1
    · exact ⟨a, by simp, by rw [h1]; omega⟩
    · rcases lt2.tri q b with k | k | k
      · rcases top_btw (α := α) hβ h1 k (h.2.1 q hq) with j | j
        · exact ⟨a, by simp, j⟩
        · exact ⟨b, by simp, j⟩
      · exact ⟨b, by simp, by rw [k]; omega⟩
      · obtain ⟨x, hx, j⟩ := FC.top (α := α) hβ r b q h.2.2.2 (by simpa using e) hq (Or.inr k) h2
        exact ⟨x, List.mem_cons_of_mem _ hx, j⟩
/-- A linear function is nowhere greater than at a corner. -/
theorem corners_top (l : List (Int × Int)) (h1 : 1 ≤ l.length) (α β : Int) {q : Int × Int} (hq : q ∈ l) : ∃ x ∈ cornersL l, α * q.1 + β * q.2 ≤ α * x.1 + β * x.2 := by
  have hpos := sdL_pos l h1
  have hqs := (mem_sdL l q).2 hq
  by_cases h : (sdL l).length = 1
  · obtain ⟨m, hm⟩ := List.length_eq_one_iff.1 h
    have hc : cornersL l = [m] := by unfold cornersL; rw [if_pos h, hm]
    rw [hm] at hqs
    obtain rfl : q = m := by simpa using hqs
    rw [hc]; exact ⟨q, by simp, by omega⟩
  · obtain ⟨m, M, L, U, hH, e, e'⟩ := hul_of (sdL_rise l) (by omega)
    rw [corners_ring h e e']
    rcases Int.le_total β 0 with hb | hb
    · obtain ⟨x, hx, k⟩ := FC.top (α := α) hb L m q hH.fl hH.ll hqs (hH.lo q hqs) (hH.hi q hqs)
      exact ⟨x, (hH.mem x).2 (Or.inl hx), k⟩
    · have hl : (ng M :: U.map ng).getLast? = some (ng m) := by
        have : ng M :: U.map ng = (M :: U).map ng := rfl
        rw [this, List.getLast?_map, hH.lu]; rfl
      have c1 : ng q = ng M ∨ lt2 (ng M) (ng q) := by
        rcases hH.hi q hqs with k | k
        · exact Or.inl (by rw [k])
        · exact Or.inr (lt_ng.2 k)
      have c2 : ng q = ng m ∨ lt2 (ng q) (ng m) := by
        rcases hH.lo q hqs with k | k
        · exact Or.inl (by rw [k])
        · exact Or.inr (lt_ng.2 k)
      obtain ⟨x, hx, k⟩ := FC.top (Q := fun q => ng q ∈ sdL l) (α := -α) (β := -β) (by omega) (U.map ng) (ng M) (ng q) hH.fu hl (by show ng (ng q) ∈ sdL l; rw [ng_ng]; exact hqs) c1 c2
      have hx' : x ∈ (M :: U).map ng := hx
      obtain ⟨y, hy, rfl⟩ := List.mem_map.1 hx'
      refine ⟨y, (hH.mem y).2 (Or.inr hy), ?_⟩
      unfold ng at k
      simp only [Int.neg_mul_neg] at k
      exact k

/-- The greatest distance of two points of a list. -/
def IsMax (l : List (Int × Int)) (v : Int) : Prop := (∀ p ∈ l, ∀ q ∈ l, sqP p q ≤ v) ∧ ∃ p ∈ l, ∃ q ∈ l, v = sqP p q
theorem IsMax.unique {l : List (Int × Int)} {v w : Int} (h : IsMax l v) (k : IsMax l w) : v = w := by
  obtain ⟨h1, p, hp, q, hq, e⟩ := h
  obtain ⟨k1, p', hp', q', hq', e'⟩ := k
  have a := k1 p hp q hq
  have b := h1 p' hp' q' hq'
  omega
theorem max_corner {l : List (Int × Int)} (h1 : 1 ≤ l.length) {p q : Int × Int} (hp : p ∈ l) (hm : ∀ x ∈ l, sqP x q ≤ sqP p q) : p ∈ cornersL l := by
  obtain ⟨x, hx, k⟩ := corners_top l h1 (p.1 - q.1) (p.2 - q.2) hp
  have hxl := cornersL_mem l x hx
  have hle := hm x hxl
  have e : sqP x q = sqP x p + 2 * (((p.1 - q.1) * x.1 + (p.2 - q.2) * x.2) - ((p.1 - q.1) * p.1 + (p.2 - q.2) * p.2)) + sqP p q := by unfold sqP sqd; grind
  have : x = p := by
    by_cases hne : x = p
    · exact hne
    · have := sqP_pos hne; omega
  rw [← this]; exact hx
theorem max_corners {l : List (Int × Int)} (h1 : 1 ≤ l.length) {v w : Int} (hv : IsMax (cornersL l) v) (hw : IsMax l w) : v = w := by
  obtain ⟨k1, p, hp, q, hq, e⟩ := hw
  obtain ⟨g1, p', hp', q', hq', e'⟩ := hv
  have a : p ∈ cornersL l := max_corner h1 hp (fun x hx => by rw [← e]; exact k1 x hx q hq)
  have b : q ∈ cornersL l := max_corner h1 hq (fun x hx => by rw [sqP_symm q p, ← e, sqP_symm]; exact k1 p hp x hx)
  have c := g1 p a q b
  have d := k1 p' (cornersL_mem l p' hp') q' (cornersL_mem l q' hq')
  omega
/-- A running greatest over all pairs i < j. -/
theorem max_of {l : List (Int × Int)} {v : Int} (h1 : 1 ≤ l.length) (h0 : 0 ≤ v) (hle : ∀ i j, i < j → j < l.length → sqP (l.getD i (0, 0)) (l.getD j (0, 0)) ≤ v) (hat : v = 0 ∨ ∃ i j, i < l.length ∧ j < l.length ∧ v = sqP (l.getD i (0, 0)) (l.getD j (0, 0))) : IsMax l v := by
  have hself : ∀ p : Int × Int, sqP p p = 0 := fun p => by unfold sqP sqd; grind
  have hget : ∀ p ∈ l, ∃ i, i < l.length ∧ p = l.getD i (0, 0) := fun p hp => by
    obtain ⟨i, hi, e⟩ := List.mem_iff_getElem.1 hp
    exact ⟨i, hi, by rw [List.getD_eq_getElem?_getD, List.getElem?_eq_getElem hi]; exact e.symm⟩
  constructor
  · intro p hp q hq
    obtain ⟨i, hi, rfl⟩ := hget p hp
    obtain ⟨j, hj, rfl⟩ := hget q hq
    rcases Nat.lt_trichotomy i j with k | k | k
    · exact hle i j k hj
    · rw [k, hself]; exact h0
    · rw [sqP_symm]; exact hle j i k hi
  · rcases hat with k | ⟨i, j, hi, hj, e⟩
    · have hm : l.getD 0 (0, 0) ∈ l := List.mem_of_getElem? (getD_of (0, 0) (by omega))
      exact ⟨_, hm, _, hm, by rw [hself]; exact k⟩
    · exact ⟨_, List.mem_of_getElem? (getD_of (0, 0) hi), _, List.mem_of_getElem? (getD_of (0, 0) hj), e⟩
theorem wiJ_spec (cs : List (Int × Int)) (i : Nat) (a : Int) : ∀ j, a ≤ wiJ cs i a j ∧ (∀ t, t < j → sqP (cs.getD i (0, 0)) (cs.getD (i + 1 + t) (0, 0)) ≤ wiJ cs i a j) ∧ (wiJ cs i a j = a ∨ ∃ t, t < j ∧ wiJ cs i a j = sqP (cs.getD i (0, 0)) (cs.getD (i + 1 + t) (0, 0)))
  | 0 => ⟨Int.le_refl _, fun t h => by omega, Or.inl rfl⟩
  | j + 1 => by
    obtain ⟨h1, h2, h3⟩ := wiJ_spec cs i a j
    unfold wiJ
    refine ⟨by omega, fun t ht => ?_, ?_⟩
    · rcases Nat.lt_succ_iff_lt_or_eq.1 ht with k | rfl
      · have := h2 t k; omega
      · omega
    · rcases Int.le_total (sqP (cs.getD i (0, 0)) (cs.getD (i + 1 + j) (0, 0))) (wiJ cs i a j) with k | k
      · rw [Int.max_eq_left k]
        rcases h3 with e | ⟨t, ht, e⟩
        · exact Or.inl e
        · exact Or.inr ⟨t, by omega, e⟩
      · rw [Int.max_eq_right k]; exact Or.inr ⟨j, by omega, rfl⟩
theorem wiI_spec (cs : List (Int × Int)) : ∀ i, i ≤ cs.length → 0 ≤ wiI cs i ∧ (∀ s t, s < i → s < t → t < cs.length → sqP (cs.getD s (0, 0)) (cs.getD t (0, 0)) ≤ wiI cs i) ∧ (wiI cs i = 0 ∨ ∃ s t, s < cs.length ∧ t < cs.length ∧ wiI cs i = sqP (cs.getD s (0, 0)) (cs.getD t (0, 0)))
  | 0, _ => ⟨Int.le_refl _, fun s t h => by omega, Or.inl rfl⟩
  | i + 1, hi => by
    obtain ⟨h1, h2, h3⟩ := wiI_spec cs i (by omega)
    obtain ⟨k1, k2, k3⟩ := wiJ_spec cs i (wiI cs i) (cs.length - (i + 1))
    unfold wiI
    refine ⟨by omega, fun s t hs hst ht => ?_, ?_⟩
    · rcases Nat.lt_succ_iff_lt_or_eq.1 hs with k | rfl
      · have := h2 s t k hst ht; omega
      · have := k2 (t - (s + 1)) (by omega)
        rw [show s + 1 + (t - (s + 1)) = t by omega] at this; exact this
    · rcases k3 with e | ⟨t, ht, e⟩
      · rcases h3 with e2 | ⟨s, t, hs, ht, e2⟩
        · exact Or.inl (e.trans e2)
        · exact Or.inr ⟨s, t, hs, ht, e.trans e2⟩
      · exact Or.inr ⟨i, i + 1 + t, by omega, by omega, e⟩
theorem widest_max {cs : List (Int × Int)} (h : 1 ≤ cs.length) : IsMax cs (widestL cs) := by
  obtain ⟨h1, h2, h3⟩ := wiI_spec cs cs.length (Nat.le_refl _)
  exact max_of h h1 (fun i j hij hj => h2 i j (by omega) hij hj) h3
/-- The reference's. -/
def rwJ (l : List (Int × Int)) (i : Nat) (a : Int) : Nat → Int
  | 0 => a
  | j + 1 => max (rwJ l i a j) (sqP (l.getD i (0, 0)) (l.getD j (0, 0)))
def rwI (l : List (Int × Int)) : Nat → Int
  | 0 => 0
  | i + 1 => rwJ l i (rwI l i) i
theorem rwJ_spec (l : List (Int × Int)) (i : Nat) (a : Int) : ∀ j, a ≤ rwJ l i a j ∧ (∀ t, t < j → sqP (l.getD i (0, 0)) (l.getD t (0, 0)) ≤ rwJ l i a j) ∧ (rwJ l i a j = a ∨ ∃ t, t < j ∧ rwJ l i a j = sqP (l.getD i (0, 0)) (l.getD t (0, 0)))
  | 0 => ⟨Int.le_refl _, fun t h => by omega, Or.inl rfl⟩
  | j + 1 => by
    obtain ⟨h1, h2, h3⟩ := rwJ_spec l i a j
    unfold rwJ
    refine ⟨by omega, fun t ht => ?_, ?_⟩
    · rcases Nat.lt_succ_iff_lt_or_eq.1 ht with k | rfl
      · have := h2 t k; omega
      · omega
    · rcases Int.le_total (sqP (l.getD i (0, 0)) (l.getD j (0, 0))) (rwJ l i a j) with k | k
      · rw [Int.max_eq_left k]
        rcases h3 with e | ⟨t, ht, e⟩
        · exact Or.inl e
        · exact Or.inr ⟨t, by omega, e⟩
      · rw [Int.max_eq_right k]; exact Or.inr ⟨j, by omega, rfl⟩
theorem rwI_spec (l : List (Int × Int)) : ∀ i, i ≤ l.length → 0 ≤ rwI l i ∧ (∀ s t, s < i → t < s → sqP (l.getD s (0, 0)) (l.getD t (0, 0)) ≤ rwI l i) ∧ (rwI l i = 0 ∨ ∃ s t, s < l.length ∧ t < l.length ∧ rwI l i = sqP (l.getD s (0, 0)) (l.getD t (0, 0)))
  | 0, _ => ⟨Int.le_refl _, fun s t h => by omega, Or.inl rfl⟩
  | i + 1, hi => by
    obtain ⟨h1, h2, h3⟩ := rwI_spec l i (by omega)
    obtain ⟨k1, k2, k3⟩ := rwJ_spec l i (rwI l i) i
    unfold rwI
    refine ⟨by omega, fun s t hs hst => ?_, ?_⟩
    · rcases Nat.lt_succ_iff_lt_or_eq.1 hs with k | rfl
      · have := h2 s t k hst; omega
      · exact k2 t hst
    · rcases k3 with e | ⟨t, ht, e⟩
      · rcases h3 with e2 | ⟨s, t, hs, ht, e2⟩
        · exact Or.inl (e.trans e2)
        · exact Or.inr ⟨s, t, hs, ht, e.trans e2⟩
      · exact Or.inr ⟨i, t, by omega, by omega, e⟩
theorem rw_max {l : List (Int × Int)} (h : 1 ≤ l.length) : IsMax l (rwI l l.length) := by
  obtain ⟨h1, h2, h3⟩ := rwI_spec l l.length (Nat.le_refl _)
  exact max_of h h1 (fun i j hij hj => by rw [sqP_symm]; exact h2 j i hj hij) h3
/-- The greatest distance of all points is that of the corners. -/
theorem widest_eq {l : List (Int × Int)} (h : 1 ≤ l.length) : widestL (cornersL l) = rwI l l.length :=
  max_corners h (widest_max (cornersL_len l h).1) (rw_max h)
theorem rwJ_bd {l : List (Int × Int)} (h : Cos l) (i : Nat) {a : Int} (ha : 0 ≤ a ∧ a ≤ 134217728) : ∀ j, 0 ≤ rwJ l i a j ∧ rwJ l i a j ≤ 134217728
  | 0 => ha
  | j + 1 => by
    have h1 := rwJ_bd h i ha j
    have h2 := sqP_bd (h i) (h j)
    unfold rwJ; omega
theorem rwI_bd {l : List (Int × Int)} (h : Cos l) : ∀ i, 0 ≤ rwI l i ∧ rwI l i ≤ 134217728
  | 0 => by simp [rwI]
  | i + 1 => rwJ_bd h i (rwI_bd h i) _

/-- The least distance of the pairs in D, and of some pair. -/
def MinOn (l : List (Int × Int)) (D : Nat → Nat → Prop) (v : Int) : Prop :=
  (∀ i j, i < j → j < l.length → D i j → v ≤ sqP (l.getD i (0, 0)) (l.getD j (0, 0))) ∧ ∃ i j, i < j ∧ j < l.length ∧ v = sqP (l.getD i (0, 0)) (l.getD j (0, 0))
theorem MinOn.unique {l : List (Int × Int)} {v w : Int} (h : MinOn l (fun _ _ => True) v) (k : MinOn l (fun _ _ => True) w) : v = w := by
  obtain ⟨h1, i, j, hij, hj, e⟩ := h
  obtain ⟨k1, i', j', hij', hj', e'⟩ := k
  have a := k1 i j hij hj trivial
  have b := h1 i' j' hij' hj' trivial
  omega
theorem MinOn.imp {l : List (Int × Int)} {D D' : Nat → Nat → Prop} {v : Int} (h : MinOn l D v) (hd : ∀ i j, i < j → j < l.length → D' i j → D i j) : MinOn l D' v :=
  ⟨fun i j h1 h2 h3 => h.1 i j h1 h2 (hd i j h1 h2 h3), h.2⟩
theorem MinOn.step {l : List (Int × Int)} {D D' : Nat → Nat → Prop} {v : Int} {i j : Nat} (h : MinOn l D v) (hij : i < j) (hj : j < l.length) (hd : ∀ i' j', D' i' j' → D i' j' ∨ (i' = i ∧ j' = j)) : MinOn l D' (min v (sqP (l.getD i (0, 0)) (l.getD j (0, 0)))) := by
  constructor
  · intro i' j' h1 h2 h3
    rcases hd i' j' h3 with k | ⟨rfl, rfl⟩
    · have := h.1 i' j' h1 h2 k; omega
    · omega
  · rcases Int.le_total v (sqP (l.getD i (0, 0)) (l.getD j (0, 0))) with k | k
    · rw [Int.min_eq_left k]; exact h.2
    · rw [Int.min_eq_right k]; exact ⟨i, j, hij, hj, rfl⟩
theorem MinOn.bd {l : List (Int × Int)} {D : Nat → Nat → Prop} {v : Int} (h : MinOn l D v) (hc : Cos l) : 0 ≤ v ∧ v ≤ 134217728 := by
  obtain ⟨-, i, j, -, -, e⟩ := h
  rw [e]; exact sqP_bd (hc i) (hc j)

end Go.Proofs.Ythleajmamkihaaa
