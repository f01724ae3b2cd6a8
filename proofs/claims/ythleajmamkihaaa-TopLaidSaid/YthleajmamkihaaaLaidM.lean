/- The parts of a plan as boxes. Plain mathematics.
Upright rectangles as polygons. Plain mathematics.
The parts of a plan, drawn as rectangles, are separated. Plain mathematics. -/
import Derived.Test.YthleajmamkihaaaCMade
import Derived.Test.YthleajmamkihaaaInside
import Derived.Test.YthleajmamkihaaaArea
import Derived.Test.YthleajmamkihaaaMeetsM
namespace Go.Proofs.Ythleajmamkihaaa

/-- A part: where it lies, its size, and which blank is made of it (-1: waste). -/
structure Bx where
  x : Nat
  y : Nat
  w : Nat
  h : Nat
  k : Int

/-- The steps P cut the piece (x, y, w, h) into these parts. -/
inductive Boxes (bs : List Bl) : Nat → Nat → Nat → Nat → List St → List Bx → Prop
  | waste (x y w h : Nat) : Boxes bs x y w h [(0, 0)] [⟨x, y, w, h, -1⟩]
  | make (x y w h i : Nat) : i < bs.length → fitsB (bl bs i) w h = true → Boxes bs x y w h [(1, (i : Int))] [⟨x, y, w, h, i⟩]
  | across (x y w h c : Nat) (P Q : List St) (l r : List Bx) : 1 ≤ c → c < w → Boxes bs x y c h P l → Boxes bs (x + c) y (w - c) h Q r → Boxes bs x y w h ((2, (c : Int)) :: (P ++ Q)) (l ++ r)
  | along (x y w h c : Nat) (P Q : List St) (l r : List Bx) : 1 ≤ c → c < h → Boxes bs x y w c P l → Boxes bs x (y + c) w (h - c) Q r → Boxes bs x y w h ((3, (c : Int)) :: (P ++ Q)) (l ++ r)

def bxA (b : Bx) : Int := (b.w : Int) * b.h
def sumBx : List Bx → Int
  | [] => 0
  | b :: r => bxA b + sumBx r
/-- The areas of the blanks that are made. -/
def madeBx (bs : List Bl) : List Bx → Int
  | [] => 0
  | b :: r => (if 0 ≤ b.k then (bl bs b.k.toNat).1 * (bl bs b.k.toNat).2.1 else 0) + madeBx bs r
theorem sumBx_app (a b : List Bx) : sumBx (a ++ b) = sumBx a + sumBx b := by
  induction a with
  | nil => simp [sumBx]
  | cons x r ih => simp only [List.cons_append, sumBx, ih]; omega
theorem madeBx_app (bs : List Bl) (a b : List Bx) : madeBx bs (a ++ b) = madeBx bs a + madeBx bs b := by
  induction a with
  | nil => simp [madeBx]
  | cons x r ih => simp only [List.cons_append, madeBx, ih]; omega

theorem Makes.boxes {bs : List Bl} {w h : Nat} {P : List St} {m : List Bl} (k : Makes bs w h P m) : ∀ x y, ∃ l, Boxes bs x y w h P l ∧ madeBx bs l = sumA m := by
  induction k with
  | waste w h => intro x y; exact ⟨_, .waste x y w h, rfl⟩
  | make w h i hi hf =>
    intro x y
    refine ⟨_, .make x y w h i hi hf, ?_⟩
    simp [madeBx, sumA]
  | across w h c P Q m n h1 h2 _ _ ih1 ih2 =>
    intro x y
    obtain ⟨l, a1, a2⟩ := ih1 x y
    obtain ⟨r, b1, b2⟩ := ih2 (x + c) y
    exact ⟨_, .across x y w h c P Q l r h1 h2 a1 b1, by rw [madeBx_app, sumA_app, a2, b2]⟩
  | along w h c P Q m n h1 h2 _ _ ih1 ih2 =>
    intro x y
    obtain ⟨l, a1, a2⟩ := ih1 x y
    obtain ⟨r, b1, b2⟩ := ih2 x (y + c)
    exact ⟨_, .along x y w h c P Q l r h1 h2 a1 b1, by rw [madeBx_app, sumA_app, a2, b2]⟩

/-- A part lies in a piece. -/
def BxIn (x y w h : Nat) (b : Bx) : Prop := (x ≤ b.x ∧ b.x + b.w ≤ x + w) ∧ (y ≤ b.y ∧ b.y + b.h ≤ y + h) ∧ 1 ≤ b.w ∧ 1 ≤ b.h
/-- Two parts lie side by side. -/
def BxApart (a b : Bx) : Prop := a.x + a.w ≤ b.x ∨ b.x + b.w ≤ a.x ∨ a.y + a.h ≤ b.y ∨ b.y + b.h ≤ a.y
/-- A part is waste, or a blank fits it. -/
def BxFits (bs : List Bl) (b : Bx) : Prop := b.k = -1 ∨ ∃ i : Nat, b.k = i ∧ i < bs.length ∧ fitsB (bl bs i) b.w b.h = true

theorem BxIn.mono {x y w h x' y' w' h' : Nat} {b : Bx} (k : BxIn x y w h b) (h1 : x' ≤ x ∧ x + w ≤ x' + w') (h2 : y' ≤ y ∧ y + h ≤ y' + h') : BxIn x' y' w' h' b := by
  unfold BxIn at *
  omega
theorem Boxes.inside {bs : List Bl} {x y w h : Nat} {P : List St} {l : List Bx} (k : Boxes bs x y w h P l) : 1 ≤ w → 1 ≤ h → ∀ b ∈ l, BxIn x y w h b := by
  induction k with
  | waste x y w h => intro a b c hc; obtain rfl := List.mem_singleton.1 hc; unfold BxIn; dsimp only; omega
  | make x y w h i _ _ => intro a b c hc; obtain rfl := List.mem_singleton.1 hc; unfold BxIn; dsimp only; omega
  | across x y w h c P Q l r h1 h2 _ _ ih1 ih2 =>
    intro a b d hd
    rcases List.mem_append.1 hd with hd | hd
    · exact (ih1 h1 b d hd).mono (by omega) (by omega)
    · exact (ih2 (by omega) b d hd).mono (by omega) (by omega)
  | along x y w h c P Q l r h1 h2 _ _ ih1 ih2 =>
    intro a b d hd
    rcases List.mem_append.1 hd with hd | hd
    · exact (ih1 a h1 d hd).mono (by omega) (by omega)
    · exact (ih2 a (by omega) d hd).mono (by omega) (by omega)
theorem Boxes.apart {bs : List Bl} {x y w h : Nat} {P : List St} {l : List Bx} (k : Boxes bs x y w h P l) : 1 ≤ w → 1 ≤ h → l.Pairwise BxApart := by
  induction k with
  | waste x y w h => intro _ _; exact List.pairwise_singleton _ _
  | make x y w h i _ _ => intro _ _; exact List.pairwise_singleton _ _
  | across x y w h c P Q l r h1 h2 k1 k2 ih1 ih2 =>
    intro a b
    refine List.pairwise_append.2 ⟨ih1 h1 b, ih2 (by omega) b, fun p hp q hq => ?_⟩
    have i1 := k1.inside h1 b p hp
    have i2 := k2.inside (by omega) b q hq
    unfold BxIn at i1 i2
    unfold BxApart
    omega
  | along x y w h c P Q l r h1 h2 k1 k2 ih1 ih2 =>
    intro a b
    refine List.pairwise_append.2 ⟨ih1 a h1, ih2 a (by omega), fun p hp q hq => ?_⟩
    have i1 := k1.inside a h1 p hp
    have i2 := k2.inside a (by omega) q hq
    unfold BxIn at i1 i2
    unfold BxApart
    omega
theorem Boxes.fits {bs : List Bl} {x y w h : Nat} {P : List St} {l : List Bx} (k : Boxes bs x y w h P l) : ∀ b ∈ l, BxFits bs b := by
  induction k with
  | waste x y w h => intro c hc; obtain rfl := List.mem_singleton.1 hc; exact Or.inl rfl
  | make x y w h i hi hf => intro c hc; obtain rfl := List.mem_singleton.1 hc; exact Or.inr ⟨i, rfl, hi, hf⟩
  | across x y w h c P Q l r _ _ _ _ ih1 ih2 => intro d hd; exact (List.mem_append.1 hd).elim (ih1 d) (ih2 d)
  | along x y w h c P Q l r _ _ _ _ ih1 ih2 => intro d hd; exact (List.mem_append.1 hd).elim (ih1 d) (ih2 d)
theorem Boxes.area {bs : List Bl} {x y w h : Nat} {P : List St} {l : List Bx} (k : Boxes bs x y w h P l) : sumBx l = (w : Int) * h := by
  induction k with
  | waste x y w h => simp [sumBx, bxA]
  | make x y w h i _ _ => simp [sumBx, bxA]
  | across x y w h c P Q l r h1 h2 _ _ ih1 ih2 =>
    rw [sumBx_app, ih1, ih2]
    have e : (w : Int) * h = (c : Int) * h + ((w - c : Nat) : Int) * h := by rw [← Int.add_mul]; congr 1; omega
    omega
  | along x y w h c P Q l r h1 h2 _ _ ih1 ih2 =>
    rw [sumBx_app, ih1, ih2]
    have e : (w : Int) * h = (w : Int) * c + (w : Int) * ((h - c : Nat) : Int) := by rw [← Int.mul_add]; congr 1; omega
    omega
theorem Boxes.count {bs : List Bl} {x y w h : Nat} {P : List St} {l : List Bx} (k : Boxes bs x y w h P l) : 1 ≤ l.length ∧ l.length ≤ P.length ∧ 1 ≤ P.length := by
  induction k with
  | waste x y w h => simp
  | make x y w h i _ _ => simp
  | across x y w h c P Q l r _ _ _ _ ih1 ih2 => simp only [List.length_append, List.length_cons]; omega
  | along x y w h c P Q l r _ _ _ _ ih1 ih2 => simp only [List.length_append, List.length_cons]; omega

/-- The corners of a part, three times as great, shrunk by one on each side. -/
def cornB (b : Bx) : List (Int × Int) := [(3 * b.x + 1, 3 * b.y + 1), (3 * (b.x + b.w) - 1, 3 * b.y + 1), (3 * (b.x + b.w) - 1, 3 * (b.y + b.h) - 1), (3 * b.x + 1, 3 * (b.y + b.h) - 1)]

end Go.Proofs.Ythleajmamkihaaa

namespace Go.Proofs.Ythleajmamkihaaa
open Go.RowKit

/-- Four corners of an upright rectangle. -/
def rect (a b c d : Int) : List (Int × Int) := [(a, b), (c, b), (c, d), (a, d)]
theorem rect_ed (a b c d : Int) : ed (rect a b c d) 0 = ((a, b), (c, b)) ∧ ed (rect a b c d) 1 = ((c, b), (c, d)) ∧ ed (rect a b c d) 2 = ((c, d), (a, d)) ∧ ed (rect a b c d) 3 = ((a, d), (a, b)) := by
  refine ⟨?_, ?_, ?_, ?_⟩ <;> simp [ed, rect]
theorem rect_area (a b c d : Int) : areaL (rect a b c d) = 2 * ((c - a) * (d - b)) := by
  obtain ⟨e0, e1, e2, e3⟩ := rect_ed a b c d
  unfold areaL
  rw [show (rect a b c d).length = 4 from rfl]
  simp only [arT, e0, e1, e2, e3]
  grind
theorem sgn_posR {x : Int} (h : 0 < x) : sgn x = 1 := by unfold sgn; rw [if_neg (by omega), if_pos h]
theorem sgn_negR {x : Int} (h : x < 0) : sgn x = -1 := by unfold sgn; rw [if_pos h]
theorem sgn_zeroR : sgn 0 = 0 := rfl
theorem folds_no {ax ay bx by_ cx cy : Int} (h : 0 < crs ax ay bx by_ cx cy) : foldsL ax ay bx by_ cx cy = false := by
  unfold foldsL
  rw [sgn_posR h]
  simp
theorem rect_simple {a b c d : Int} (h1 : a < c) (h2 : b < d) (v1 : vld a b = true) (v2 : vld c d = true) : SimpleP (rect a b c d) := by
  obtain ⟨ca, cb⟩ := (vld_iff _ _).1 v1
  obtain ⟨cc, cd⟩ := (vld_iff _ _).1 v2
  have hp : 0 < (c - a) * (d - b) := Int.mul_pos (by omega) (by omega)
  obtain ⟨e0, e1, e2, e3⟩ := rect_ed a b c d
  have n1 : ¬ c = a := by omega
  have n2 : ¬ d = b := by omega
  have n3 : ¬ a = c := by omega
  have n4 : ¬ b = d := by omega
  refine ⟨by simp [rect], by simp [rect], ?_, ?_, ?_⟩
  · simp only [rect, List.all_cons, List.all_nil, Bool.and_true, Bool.and_eq_true]
    exact ⟨v1, (vld_iff _ _).2 ⟨cc, cb⟩, v2, (vld_iff _ _).2 ⟨ca, cd⟩⟩
  · intro i hi
    have hi' : i < 4 := hi
    have f0 : 0 < crs a b c b c d := by unfold crs; have : (c - a) * (d - b) - (b - b) * (c - a) = (c - a) * (d - b) := by grind
                                        omega
    have f1 : 0 < crs c b c d a d := by unfold crs; have : (c - c) * (d - b) - (d - b) * (a - c) = (c - a) * (d - b) := by grind
                                        omega
    have f2 : 0 < crs c d a d a b := by unfold crs; have : (a - c) * (b - d) - (d - d) * (a - c) = (c - a) * (d - b) := by grind
                                        omega
    have f3 : 0 < crs a d a b c b := by unfold crs; have : (a - a) * (b - d) - (b - d) * (c - a) = (c - a) * (d - b) := by grind
                                        omega
    have hl : (rect a b c d).length = 4 := rfl
    unfold badE
    rw [hl]
    rcases (by omega : i = 0 ∨ i = 1 ∨ i = 2 ∨ i = 3) with rfl | rfl | rfl | rfl
    · rw [show (0 + 1) % 4 = 1 from rfl, e0, e1]
      dsimp only
      rw [folds_no f0]
      simp [n3]
    · rw [show (1 + 1) % 4 = 2 from rfl, e1, e2]
      dsimp only
      rw [folds_no f1]
      simp [n4]
    · rw [show (2 + 1) % 4 = 3 from rfl, e2, e3]
      dsimp only
      rw [folds_no f2]
      simp [n1]
    · rw [show (3 + 1) % 4 = 0 from rfl, e3, e0]
      dsimp only
      rw [folds_no f3]
      simp [n2]
  · rintro ⟨i, j, h3, h4, h5, h6⟩
    have h4' : j < 4 := h4
    have hl : (rect a b c d).length = 4 := rfl
    rw [hl] at h5
    rcases (by omega : (i = 0 ∧ j = 2) ∨ (i = 1 ∧ j = 3)) with ⟨rfl, rfl⟩ | ⟨rfl, rfl⟩
    · rw [e0, e2] at h6
      unfold touchE touchL spansT at h6
      simp only [Bool.and_eq_true, decide_eq_true_eq] at h6
      omega
    · rw [e1, e3] at h6
      unfold touchE touchL spansT at h6
      simp only [Bool.and_eq_true, decide_eq_true_eq] at h6
      omega
theorem rect_inside {a b c d x y : Int} (h1 : a < x ∧ x < c) (h2 : b < y ∧ y < d) : insideL (rect a b c d) x y = 1 := by
  obtain ⟨e0, e1, e2, e3⟩ := rect_ed a b c d
  have hl : (rect a b c d).length = 4 := rfl
  unfold insideL
  rw [hl]
  have o0 : onE (rect a b c d) x y 0 = false := by
    unfold onE touchE touchL spansT
    rw [e0]
    simp only [Bool.and_eq_false_iff, decide_eq_false_iff_not]
    exact Or.inl (Or.inr (by omega))
  have o1 : onE (rect a b c d) x y 1 = false := by
    unfold onE touchE touchL spansT
    rw [e1]
    simp only [Bool.and_eq_false_iff, decide_eq_false_iff_not]
    exact Or.inl (Or.inl (by omega))
  have o2 : onE (rect a b c d) x y 2 = false := by
    unfold onE touchE touchL spansT
    rw [e2]
    simp only [Bool.and_eq_false_iff, decide_eq_false_iff_not]
    exact Or.inl (Or.inr (by omega))
  have o3 : onE (rect a b c d) x y 3 = false := by
    unfold onE touchE touchL spansT
    rw [e3]
    simp only [Bool.and_eq_false_iff, decide_eq_false_iff_not]
    exact Or.inl (Or.inl (by omega))
  have r0 : rayE (rect a b c d) x y 0 = false := by
    unfold rayE rayL
    rw [e0]
    simp
  have r2 : rayE (rect a b c d) x y 2 = false := by
    unfold rayE rayL
    rw [e2]
    simp
  have r1 : rayE (rect a b c d) x y 1 = true := by
    unfold rayE rayL
    rw [e1]
    have hp : 0 < (d - b) * (c - x) := Int.mul_pos (by omega) (by omega)
    have hc : 0 < crs c b c d x y := by
      unfold crs
      have : (c - c) * (y - b) - (d - b) * (x - c) = (d - b) * (c - x) := by grind
      omega
    have g1 : decide (y < b) = false := by simp; omega
    have g2 : decide (y < d) = true := by simp; omega
    have g3 : decide (b < d) = true := by simp; omega
    simp [g1, g2, g3, hc]
  have r3 : rayE (rect a b c d) x y 3 = false := by
    unfold rayE rayL
    rw [e3]
    have hp : 0 < (d - b) * (x - a) := Int.mul_pos (by omega) (by omega)
    have hc : 0 < crs a d a b x y := by
      unfold crs
      have : (a - a) * (y - d) - (b - d) * (x - a) = (d - b) * (x - a) := by grind
      omega
    have g1 : decide (y < b) = false := by simp; omega
    have g2 : decide (y < d) = true := by simp; omega
    have g3 : decide (d < b) = false := by simp; omega
    simp [g1, g2, g3, hc]
  have hr : List.range 4 = [0, 1, 2, 3] := rfl
  rw [hr]
  simp only [List.any_cons, List.any_nil, o0, o1, o2, o3, Bool.or_false]
  simp only [Bool.false_eq_true, if_false]
  simp [plT, r0, r1, r2, r3]

end Go.Proofs.Ythleajmamkihaaa

namespace Go.Proofs.Ythleajmamkihaaa
open Go.RowKit

theorem cornB_rect (b : Bx) : cornB b = rect (3 * b.x + 1) (3 * b.y + 1) (3 * (b.x + b.w) - 1) (3 * (b.y + b.h) - 1) := rfl
theorem mem_rect {a b c d : Int} {p : Int × Int} (h : p ∈ rect a b c d) : (p.1 = a ∨ p.1 = c) ∧ (p.2 = b ∨ p.2 = d) := by
  simp only [rect, List.mem_cons, List.not_mem_nil, or_false] at h
  rcases h with rfl | rfl | rfl | rfl <;> simp
theorem boxes_sep {a b : Bx} (ha : 1 ≤ a.w ∧ 1 ≤ a.h) (hb : 1 ≤ b.w ∧ 1 ≤ b.h) (h : BxApart a b) : (sepT (cornersL (cornB a)) (cornersL (cornB b))).m = false := by
  rw [cornB_rect, cornB_rect]
  unfold BxApart at h
  rcases h with h | h | h | h
  · refine sep_apart (by simp [rect]) (by simp [rect]) (1, 0) (3 * (a.x + a.w)) (fun p hp => ?_) (fun p hp => ?_) <;>
    · have := mem_rect hp
      unfold pr
      dsimp only
      omega
  · refine sep_apart (by simp [rect]) (by simp [rect]) (-1, 0) (-(3 * (b.x + b.w))) (fun p hp => ?_) (fun p hp => ?_) <;>
    · have := mem_rect hp
      unfold pr
      dsimp only
      omega
  · refine sep_apart (by simp [rect]) (by simp [rect]) (0, 1) (3 * (a.y + a.h)) (fun p hp => ?_) (fun p hp => ?_) <;>
    · have := mem_rect hp
      unfold pr
      dsimp only
      omega
  · refine sep_apart (by simp [rect]) (by simp [rect]) (0, -1) (-(3 * (b.y + b.h))) (fun p hp => ?_) (fun p hp => ?_) <;>
    · have := mem_rect hp
      unfold pr
      dsimp only
      omega
theorem cornB_vld {b : Bx} (h : b.x + b.w ≤ 48 ∧ b.y + b.h ≤ 48) (hw : 1 ≤ b.w ∧ 1 ≤ b.h) : ((cornB b).all fun p => vld p.1 p.2) = true := by
  rw [List.all_eq_true]
  intro p hp
  have := mem_rect (cornB_rect b ▸ hp)
  refine (vld_iff _ _).2 ?_
  omega
theorem cornB_simple {b : Bx} (h : b.x + b.w ≤ 48 ∧ b.y + b.h ≤ 48) (hw : 1 ≤ b.w ∧ 1 ≤ b.h) : SimpleP (cornB b) := by
  rw [cornB_rect]
  refine rect_simple (by omega) (by omega) ?_ ?_ <;>
  · refine (vld_iff _ _).2 ?_
    omega
/-- The piece, six times as great, holds the middle of each part, six times as far. -/
theorem piece_simple {W H : Nat} (hW : 1 ≤ W ∧ W ≤ 48) (hH : 1 ≤ H ∧ H ≤ 48) : SimpleP (rect 0 0 (6 * W) (6 * H)) := by
  refine rect_simple (by omega) (by omega) ?_ ?_ <;>
  · refine (vld_iff _ _).2 ?_
    omega
theorem piece_inside {W H : Nat} {b : Bx} (h : BxIn 0 0 W H b) : insideL (rect 0 0 (6 * W) (6 * H)) (6 * b.x + 3 * b.w) (6 * b.y + 3 * b.h) = 1 := by
  unfold BxIn at h
  exact rect_inside (by omega) (by omega)

end Go.Proofs.Ythleajmamkihaaa
