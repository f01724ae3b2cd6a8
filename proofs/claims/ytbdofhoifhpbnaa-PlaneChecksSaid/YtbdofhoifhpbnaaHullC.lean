/- Hulls: at each corner the ring turns left, and all points are left of each edge or on it. Plain mathematics. -/
import Derived.Test.YtbdofhoifhpbnaaHullB
namespace Go.Proofs.Ytbdofhoifhpbnaa
open Go.RowKit

theorem getD_left {l l' : List (Int × Int)} {i : Nat} (h : i < l.length) : (l ++ l').getD i (0, 0) = l.getD i (0, 0) := by
  rw [List.getD_eq_getElem?_getD, List.getD_eq_getElem?_getD, List.getElem?_append_left h]
theorem getD_right {l l' : List (Int × Int)} {i : Nat} (h : l.length ≤ i) : (l ++ l').getD i (0, 0) = l'.getD (i - l.length) (0, 0) := by
  rw [List.getD_eq_getElem?_getD, List.getD_eq_getElem?_getD, List.getElem?_append_right h]
/-- All neighbours in a list. -/
def Prs (R : Int × Int → Int × Int → Prop) : List (Int × Int) → Prop
  | a :: b :: r => R a b ∧ Prs R (b :: r)
  | _ => True
def Trs (T : Int × Int → Int × Int → Int × Int → Prop) : List (Int × Int) → Prop
  | a :: b :: c :: r => T a b c ∧ Trs T (b :: c :: r)
  | _ => True
theorem Prs.append {R : Int × Int → Int × Int → Prop} {z : Int × Int} {Y : List (Int × Int)} (hY : Prs R (z :: Y)) : ∀ X, Prs R (X ++ [z]) → Prs R (X ++ z :: Y)
  | [], _ => hY
  | [_], h => ⟨h.1, hY⟩
  | _ :: b :: X, h => ⟨h.1, Prs.append hY (b :: X) h.2⟩
theorem Trs.append {T : Int × Int → Int × Int → Int × Int → Prop} {z : Int × Int} {Y : List (Int × Int)} (hY : Trs T (z :: Y)) : ∀ X, Trs T (X ++ [z]) → (∀ X' a b Y', X = X' ++ [a] → Y = b :: Y' → T a z b) → Trs T (X ++ z :: Y)
  | [], _, _ => hY
  | [a], _, hj => by
    cases Y with
    | nil => exact trivial
    | cons b Y' => exact ⟨hj [] a b Y' rfl rfl, hY⟩
  | [a, b], h, hj => ⟨h.1, Trs.append hY [b] trivial (fun X' x y Y' e e' => hj (a :: X') x y Y' (by rw [e]; rfl) e')⟩
  | a :: b :: c :: X, h, hj => ⟨h.1, Trs.append hY (b :: c :: X) h.2 (fun X' x y Y' e e' => hj (a :: X') x y Y' (by rw [e]; rfl) e')⟩
theorem Prs.at_ {R : Int × Int → Int × Int → Prop} : ∀ (C : List (Int × Int)) (i : Nat), Prs R C → i + 1 < C.length → R (C.getD i (0, 0)) (C.getD (i + 1) (0, 0))
  | a :: b :: r, 0, h, _ => h.1
  | a :: b :: r, i + 1, h, hi => by
    have := Prs.at_ (b :: r) i h.2 (by simpa using hi)
    simpa using this
  | [_], i, _, hi => by simp at hi
  | [], i, _, hi => by simp at hi
theorem Trs.at_ {T : Int × Int → Int × Int → Int × Int → Prop} : ∀ (C : List (Int × Int)) (i : Nat), Trs T C → i + 2 < C.length → T (C.getD i (0, 0)) (C.getD (i + 1) (0, 0)) (C.getD (i + 2) (0, 0))
  | a :: b :: c :: r, 0, h, _ => h.1
  | a :: b :: c :: r, i + 1, h, hi => by
    have := Trs.at_ (b :: c :: r) i h.2 (by simpa using hi)
    simpa using this
  | [_, _], i, _, hi => by simp at hi; omega
  | [_], i, _, hi => by simp at hi
  | [], i, _, hi => by simp at hi
theorem FC.prs {Q : Int × Int → Prop} : ∀ (L : List (Int × Int)), FC Q L → Prs (fun a b => lt2 a b ∧ ∀ q, Q q → 0 ≤ cr a b q) L
  | [], _ => trivial
  | [_], _ => trivial
  | _ :: b :: r, ⟨h1, h2, _, h4⟩ => ⟨⟨h1, h2⟩, FC.prs (b :: r) h4⟩
theorem FC.trs {Q : Int × Int → Prop} : ∀ (L : List (Int × Int)), FC Q L → Trs (fun a b c => 0 < cr a b c) L
  | [], _ => trivial
  | [_], _ => trivial
  | [_, _], _ => trivial
  | _ :: b :: c :: r, ⟨_, _, h3, h4⟩ => ⟨h3 c r rfl, FC.trs (b :: c :: r) h4⟩
theorem Prs.imp {R R' : Int × Int → Int × Int → Prop} (h : ∀ a b, R a b → R' a b) : ∀ L, Prs R L → Prs R' L
  | [], _ => trivial
  | [_], _ => trivial
  | a :: b :: r, k => ⟨h a b k.1, Prs.imp h (b :: r) k.2⟩
theorem Prs.ng {R : Int × Int → Int × Int → Prop} : ∀ L, Prs R (L.map ng) → Prs (fun a b => R (ng a) (ng b)) L
  | [], _ => trivial
  | [_], _ => trivial
  | _ :: b :: r, k => ⟨k.1, Prs.ng (b :: r) k.2⟩
theorem Trs.ng {T : Int × Int → Int × Int → Int × Int → Prop} : ∀ L, Trs T (L.map ng) → Trs (fun a b c => T (ng a) (ng b) (ng c)) L
  | [], _ => trivial
  | [_], _ => trivial
  | [_, _], _ => trivial
  | _ :: b :: c :: r, k => ⟨k.1, Trs.ng (b :: c :: r) k.2⟩
theorem Trs.imp {T T' : Int × Int → Int × Int → Int × Int → Prop} (h : ∀ a b c, T a b c → T' a b c) : ∀ L, Trs T L → Trs T' L
  | [], _ => trivial
  | [_], _ => trivial
  | [_, _], _ => trivial
  | a :: b :: c :: r, k => ⟨h a b c k.1, Trs.imp h (b :: c :: r) k.2⟩

section
variable {s : List (Int × Int)} {m M : Int × Int} {L U : List (Int × Int)}
theorem Hul.low (h : Hul s m M L U) : Prs (fun a b => lt2 a b ∧ ∀ q ∈ s, 0 ≤ cr a b q) (m :: L) := FC.prs _ h.fl
theorem Hul.upp (h : Hul s m M L U) : Prs (fun a b => lt2 b a ∧ ∀ q ∈ s, 0 ≤ cr a b q) (M :: U) :=
  Prs.imp (fun a b k => ⟨lt_ng.1 k.1, fun q hq => by have := k.2 (ng q) (by rw [ng_ng]; exact hq); rwa [cr_ng] at this⟩) _ (Prs.ng _ (FC.prs _ h.fu))
theorem Hul.lowT (h : Hul s m M L U) : Trs (fun a b c => 0 < cr a b c) (m :: L) := FC.trs _ h.fl
theorem Hul.uppT (h : Hul s m M L U) : Trs (fun a b c => 0 < cr a b c) (M :: U) :=
  Trs.imp (fun a b c k => by rwa [cr_ng] at k) _ (Trs.ng _ (FC.trs _ h.fu))

/-- All points on one line: no turn at all. -/
theorem flat_of {a b x y z : Int × Int} (hab : lt2 a b) (hx : cr a b x = 0) (hy : cr a b y = 0) (hz : cr a b z = 0) : cr x y z = 0 := by
  have e1 : cr x y z * (b.1 - a.1) = 0 := by unfold cr crs at *; grind
  have e2 : cr x y z * (b.2 - a.2) = 0 := by unfold cr crs at *; grind
  have h := hab.lp
  unfold LP at h
  rcases Int.mul_eq_zero.1 e1 with k | k
  · exact k
  · rcases Int.mul_eq_zero.1 e2 with k' | k'
    · exact k'
    · omega
/-- Two ways through t that lie on one line and bound all points: all points lie on it. -/
theorem line_all {a t b q : Int × Int} (ha : lt2 a t) (hb : lt2 b t) (h0 : cr a t b = 0) (h1 : 0 ≤ cr a t q) (h2 : 0 ≤ cr t b q) : cr a t q = 0 := by
  have k : 0 ≤ -cr a t q := by
    refine comb_nn (a := 0) (b := cr t b q) (vx := t.1 - b.1) (vy := t.2 - b.2) (wx := 0) (wy := 0) (ux := t.1 - a.1) (uy := t.2 - a.2) ?_ ?_ hb.lp ha.lp.z (Or.inr ⟨rfl, by omega⟩) (by omega) h2
    · unfold cr crs at *; clear ha hb h1 h2; grind
    · unfold cr crs at *; clear ha hb h1 h2; grind
  omega
theorem Hul.turns (h : Hul s m M L U) (hn : 2 < L.length + U.length) : ∃ x ∈ s, ∃ y ∈ s, ∃ z ∈ s, 0 < cr x y z := by
  have hL := h.ml
  have hU := h.mu
  have tL := h.lowT
  have tU := h.uppT
  match hl : L, hu : U with
  | b :: c :: r, _ => exact ⟨m, hL m (by simp), b, hL b (by simp), c, hL c (by simp), tL.1⟩
  | _, b :: c :: r => exact ⟨M, hU M (by simp), b, hU b (by simp), c, hU c (by simp), tU.1⟩
  | [], [] => simp at hn
  | [_], [] => simp at hn
  | [], [_] => simp at hn
  | [_], [_] => simp at hn
/-- The turn at the far end. -/
theorem Hul.atM (h : Hul s m M L U) (hn : 2 < L.length + U.length) {a b : Int × Int} (ha : lt2 a M ∧ ∀ q ∈ s, 0 ≤ cr a M q) (hb : lt2 b M ∧ ∀ q ∈ s, 0 ≤ cr M b q) (hbs : b ∈ s) : 0 < cr a M b := by
  rcases Int.lt_or_eq_of_le (ha.2 b hbs) with k | k
  · exact k
  · exfalso
    obtain ⟨x, hx, y, hy, z, hz, ht⟩ := h.turns hn
    have all : ∀ q ∈ s, cr a M q = 0 := fun q hq => line_all ha.1 hb.1 k.symm (ha.2 q hq) (hb.2 q hq)
    rw [flat_of ha.1 (all x hx) (all y hy) (all z hz)] at ht
    omega
/-- The turn at the near end. -/
theorem Hul.atm (h : Hul s m M L U) (hn : 2 < L.length + U.length) {a b : Int × Int} (ha : lt2 m a ∧ ∀ q ∈ s, 0 ≤ cr a m q) (hb : lt2 m b ∧ ∀ q ∈ s, 0 ≤ cr m b q) (hbs : b ∈ s) : 0 < cr a m b := by
  rcases Int.lt_or_eq_of_le (ha.2 b hbs) with k | k
  · exact k
  · exfalso
    obtain ⟨x, hx, y, hy, z, hz, ht⟩ := h.turns hn
    have all : ∀ q ∈ s, cr (ng a) (ng m) (ng q) = 0 := fun q hq => line_all (lt_ng.2 ha.1) (lt_ng.2 hb.1) (by rw [cr_ng]; exact k.symm) (by rw [cr_ng]; exact ha.2 q hq) (by rw [cr_ng]; exact hb.2 q hq)
    have := flat_of (lt_ng.2 ha.1) (all x hx) (all y hy) (all z hz)
    rw [cr_ng] at this
    omega

theorem Hul.split (h : Hul s m M L U) : ∃ X Y, ring m M L U = X ++ Y ∧ X ++ [M] = m :: L ∧ Y ++ [m] = M :: U ∧ X ≠ [] ∧ Y ≠ [] := by
  obtain ⟨X, hX⟩ := List.getLast?_eq_some_iff.1 h.ll
  obtain ⟨Y, hY⟩ := List.getLast?_eq_some_iff.1 h.lu
  have hne : m ≠ M := fun e => by have := h.lt; rw [e] at this; exact this.irr
  refine ⟨X, Y, by unfold ring; rw [hX, hY, List.dropLast_concat, List.dropLast_concat], hX.symm, hY.symm, fun e => ?_, fun e => ?_⟩
  · rw [e] at hX; simp at hX; exact hne hX.1
  · rw [e] at hY; simp at hY; exact hne hY.1.symm
/-- The ring, closed. -/
theorem Hul.closed (h : Hul s m M L U) : ∃ C, C = ring m M L U ++ [m] ∧ Prs (fun a b => ∀ q ∈ s, 0 ≤ cr a b q) C ∧ (2 < L.length + U.length → Trs (fun a b c => 0 < cr a b c) C) := by
  obtain ⟨X, Y, e, hX, hY, -, -⟩ := h.split
  have eC : ring m M L U ++ [m] = X ++ M :: U := by rw [e, List.append_assoc, hY]
  refine ⟨_, rfl, ?_, fun hn => ?_⟩
  · rw [eC]
    exact Prs.append (Prs.imp (fun a b k => k.2) _ h.upp) X (by rw [hX]; exact Prs.imp (fun a b k => k.2) _ h.low)
  · rw [eC]
    refine Trs.append h.uppT X (by rw [hX]; exact h.lowT) (fun X' a b Y' e1 e2 => ?_)
    have hlow := h.low
    have hupp := h.upp
    rw [← hX, e1] at hlow
    rw [e2] at hupp
    have h1 : lt2 a M ∧ ∀ q ∈ s, 0 ≤ cr a M q := by
      have : ∀ X' : List (Int × Int), Prs (fun a b => lt2 a b ∧ ∀ q ∈ s, 0 ≤ cr a b q) (X' ++ [a] ++ [M]) → lt2 a M ∧ ∀ q ∈ s, 0 ≤ cr a M q := by
        intro X'
        induction X' with
        | nil => intro k; exact k.1
        | cons x X' ih =>
          intro k
          cases X' with
          | nil => exact ih k.2
          | cons y X' => exact ih k.2
      exact this X' hlow
    exact h.atM hn h1 hupp.1 (h.mu b (by rw [e2]; simp))
theorem ring_len : (ring m M L U).length = L.length + U.length := by
  unfold ring; simp

theorem Hul.edge (h : Hul s m M L U) {i : Nat} (hi : i < (ring m M L U).length) : ∀ q ∈ s, 0 ≤ cr ((ring m M L U).getD i (0, 0)) ((ring m M L U).getD ((i + 1) % (ring m M L U).length) (0, 0)) q := by
  obtain ⟨C, hC, hP, -⟩ := h.closed
  obtain ⟨X, Y, e, hX, -, hXn, -⟩ := h.split
  have h0 : (ring m M L U).getD 0 (0, 0) = m := by
    cases X with
    | nil => exact absurd rfl hXn
    | cons x X => rw [e]; simp at hX; simp [hX.1]
  have hlen : C.length = (ring m M L U).length + 1 := by rw [hC]; simp
  have k := Prs.at_ C i hP (by omega)
  have e1 : C.getD i (0, 0) = (ring m M L U).getD i (0, 0) := by rw [hC, getD_left hi]
  have e2 : C.getD (i + 1) (0, 0) = (ring m M L U).getD ((i + 1) % (ring m M L U).length) (0, 0) := by
    rcases Nat.lt_or_ge (i + 1) (ring m M L U).length with k | k
    · rw [Nat.mod_eq_of_lt k, hC, getD_left k]
    · have : i + 1 = (ring m M L U).length := by omega
      rw [this, Nat.mod_self, h0, hC, getD_right (Nat.le_refl _)]; simp
  rw [e1, e2] at k
  exact k
theorem Hul.corner (h : Hul s m M L U) (hn : 2 < (ring m M L U).length) {i : Nat} (hi : i < (ring m M L U).length) :
    0 < cr ((ring m M L U).getD i (0, 0)) ((ring m M L U).getD ((i + 1) % (ring m M L U).length) (0, 0)) ((ring m M L U).getD ((i + 2) % (ring m M L U).length) (0, 0)) := by
  have hn2 : 2 < L.length + U.length := by rw [← ring_len]; exact hn
  obtain ⟨C, hC, hP, hT⟩ := h.closed
  obtain ⟨X, Y, e, hX, hY, hXn, hYn⟩ := h.split
  have h0 : (ring m M L U).getD 0 (0, 0) = m := by
    cases X with
    | nil => exact absurd rfl hXn
    | cons x X => rw [e]; simp at hX; simp [hX.1]
  have hlen : C.length = (ring m M L U).length + 1 := by rw [hC]; simp
  have at_ : ∀ j, j < (ring m M L U).length → C.getD j (0, 0) = (ring m M L U).getD j (0, 0) := fun j hj => by rw [hC, getD_left hj]
  have atn : C.getD (ring m M L U).length (0, 0) = m := by rw [hC, getD_right (Nat.le_refl _)]; simp
  rcases Nat.lt_or_ge (i + 2) C.length with k | k
  · have t := Trs.at_ C i (hT hn2) k
    rw [at_ i hi, at_ (i + 1) (by omega)] at t
    rw [Nat.mod_eq_of_lt (by omega)]
    rcases Nat.lt_or_ge (i + 2) (ring m M L U).length with k2 | k2
    · rw [at_ _ k2] at t
      rw [Nat.mod_eq_of_lt k2]; exact t
    · have e2 : i + 2 = (ring m M L U).length := by omega
      rw [e2, atn] at t
      rw [e2, Nat.mod_self, h0]; exact t
  · have e1 : i + 1 = (ring m M L U).length := by omega
    have e2 : (i + 2) % (ring m M L U).length = 1 := by
      rw [show i + 2 = 1 + (ring m M L U).length by omega, Nat.add_mod_right, Nat.mod_eq_of_lt (by omega)]
    rw [e1, Nat.mod_self, h0, e2]
    -- the last corner, m, the second corner
    obtain ⟨b, L', hL⟩ : ∃ b L', L = b :: L' := by
      cases hl : L with
      | nil =>
        rw [hl] at hX
        have := congrArg List.length hX
        simp at this; exact absurd this hXn
      | cons b L' => exact ⟨b, L', rfl⟩
    have hb : (ring m M L U).getD 1 (0, 0) = b := by
      match hx : X, hXn with
      | [x], _ =>
        rw [hL] at hX
        obtain ⟨y, Y', hy⟩ : ∃ y Y', Y = y :: Y' := by
          cases hy : Y with
          | nil => exact absurd hy hYn
          | cons y Y' => exact ⟨y, Y', rfl⟩
        rw [hy] at hY
        simp at hX hY
        rw [e, hy]; simp [hY.1, hX.2.1]
      | x :: x' :: X', _ =>
        rw [hL] at hX
        simp at hX
        rw [e]; simp [hX.2.1]
    have ha : ∀ q ∈ s, 0 ≤ cr ((ring m M L U).getD i (0, 0)) m q := by
      have := h.edge hi
      rw [e1, Nat.mod_self, h0] at this
      exact this
    have hlow := h.low
    rw [hL] at hlow
    have hbs : b ∈ s := h.ml b (by rw [hL]; simp)
    have hlt : lt2 m ((ring m M L U).getD i (0, 0)) := by
      have hmem : (ring m M L U).getD i (0, 0) ∈ Y := by
        rw [e] at hi e1 ⊢
        have hYl : 0 < Y.length := List.length_pos_iff.2 hYn
        rw [List.length_append] at hi e1
        rw [getD_right (by omega)]
        exact List.mem_of_getElem? (getD_of (0, 0) (by omega))
      have hU : (ring m M L U).getD i (0, 0) ∈ M :: U := by rw [← hY]; exact List.mem_append_left _ hmem
      rcases h.lo _ (h.mu _ hU) with k | k
      · exfalso
        -- m stands once in M :: U, at its end
        have hupp := h.upp
        rw [← hY] at hupp
        have : ∀ Z : List (Int × Int), Prs (fun a b => lt2 b a ∧ ∀ q ∈ s, 0 ≤ cr a b q) (Z ++ [m]) → ∀ x ∈ Z, lt2 m x := by
          intro Z
          induction Z with
          | nil => intro _ x hx; simp at hx
          | cons z Z ih =>
            intro k x hx
            cases Z with
            | nil =>
              obtain rfl : x = z := by simpa using hx
              exact k.1.1
            | cons z' Z' =>
              rcases List.mem_cons.1 hx with rfl | hx
              · exact (ih k.2 z' (by simp)).trans k.1.1
              · exact ih k.2 x hx
        have h5 := this Y hupp _ hmem
        rw [k] at h5
        exact h5.irr
      · exact k
    rw [hb]
    exact h.atm hn2 ⟨hlt, ha⟩ hlow.1 hbs
end

/-- What the law asks of the corners. -/
theorem corners_facts (qs : List (Int × Int)) (h1 : 1 ≤ qs.length) :
    (1 < (cornersL qs).length → ∀ i, i < (cornersL qs).length → ∀ q ∈ qs, 0 ≤ cr ((cornersL qs).getD i (0, 0)) ((cornersL qs).getD ((i + 1) % (cornersL qs).length) (0, 0)) q) ∧
    (2 < (cornersL qs).length → ∀ i, i < (cornersL qs).length → 0 < cr ((cornersL qs).getD i (0, 0)) ((cornersL qs).getD ((i + 1) % (cornersL qs).length) (0, 0)) ((cornersL qs).getD ((i + 2) % (cornersL qs).length) (0, 0))) := by
  have hpos := sdL_pos qs h1
  by_cases h : (sdL qs).length = 1
  · have hc : (cornersL qs).length = 1 := by unfold cornersL; rw [if_pos h]; exact h
    rw [hc]
    exact ⟨fun h => by omega, fun h => by omega⟩
  · obtain ⟨m, M, L, U, hH, e, e'⟩ := hul_of (sdL_rise qs) (by omega)
    rw [corners_ring h e e']
    exact ⟨fun _ i hi q hq => hH.edge hi q ((mem_sdL qs q).2 hq), fun hn i hi => hH.corner hn hi⟩

end Go.Proofs.Ytbdofhoifhpbnaa
