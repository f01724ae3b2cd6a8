/- A place in a hull is below every line that the corners are below. Plain mathematics.
Two hulls whose differences do not hold 0: one of the directions tells them apart. Plain mathematics.
The line that Separate finds is right; where it finds none, the differences hold 0. Plain mathematics.
A place that is a mean of points of a set: the hull holds it. Plain mathematics.
Where the differences hold 0, the hulls have a place in common. Plain mathematics.
A place that two hulls share: a corner of one is in the other, or two edges touch, and where they do is shared. Plain mathematics.
The verdict that Separate gives is right, its kind is the reference's, and no other kind is right. Plain mathematics. -/
import Derived.Test.YtpnkpejnahhajaaGreatBu51
import Derived.Test.YtpnkpejnahhajaaGreatBu49
import Derived.Test.YtpnkpejnahhajaaGreatBu50
namespace Go.Proofs.YtpnkpejnahhajaaGreat
open Go.RowKit

theorem cone_le {ax ay bx by_ wx wy vx vy : Int} (h1 : 0 ≤ ax * wy - ay * wx) (h2 : 0 ≤ bx * wy - by_ * wx) (hc : 0 < ax * by_ - ay * bx) (ha : 0 ≤ vx * ax + vy * ay) (hb : vx * bx + vy * by_ ≤ 0) : vx * wx + vy * wy ≤ 0 := by
  have e : (ax * by_ - ay * bx) * (vx * wx + vy * wy) = (ax * wy - ay * wx) * (vx * bx + vy * by_) - (bx * wy - by_ * wx) * (vx * ax + vy * ay) := by grind
  have k1 := Int.mul_nonpos_of_nonneg_of_nonpos h1 hb
  have k2 := Int.mul_nonneg h2 ha
  rcases Int.lt_or_le 0 (vx * wx + vy * wy) with h | h
  · have := Int.mul_pos hc h; omega
  · exact h
/-- The side of an edge, seen from its other end. -/
theorem side_end {ax ay bx by_ px py d : Int} (h : ¬ (bx - ax) * (py - ay * d) < (by_ - ay) * (px - ax * d)) : 0 ≤ (bx - ax) * (py - by_ * d) - (by_ - ay) * (px - bx * d) := by
  have e : (bx - ax) * (py - by_ * d) - (by_ - ay) * (px - bx * d) = (bx - ax) * (py - ay * d) - (by_ - ay) * (px - ax * d) := by grind
  omega
theorem okE_side {ps : List (Int × Int)} {px py d : Int} {i : Nat} (h : okE ps px py d i = true) : ¬ ((ed ps i).2.1 - (ed ps i).1.1) * (py - (ed ps i).1.2 * d) < ((ed ps i).2.2 - (ed ps i).1.2) * (px - (ed ps i).1.1 * d) := by
  unfold okE at h
  rw [Bool.and_eq_true] at h
  have h1 := h.1
  unfold sideE at h1
  simpa using h1
theorem holds_at {ps : List (Int × Int)} {px py d : Int} (h : holdsL ps px py d = true) {i : Nat} (hi : i < ps.length) : okE ps px py d i = true := by
  unfold holdsL at h
  rw [List.all_eq_true] at h
  exact h i (List.mem_range.2 hi)
theorem holds_btw {ps : List (Int × Int)} {px py d : Int} (h : holdsL ps px py d = true) (h2 : ps.length < 3) {i : Nat} (hi : i < ps.length) : btwT (ed ps i).1.1 (ed ps i).1.2 (ed ps i).2.1 (ed ps i).2.2 px py d = true := by
  have k := holds_at h hi
  unfold okE at k
  rw [Bool.and_eq_true, Bool.or_eq_true, decide_eq_true_eq] at k
  rcases k.2 with k | k
  · omega
  · exact k
/-- Three corners or more. -/
theorem place_top3 {l : List (Int × Int)} (h1 : 1 ≤ l.length) {px py d : Int} (hh : holdsL (cornersL l) px py d = true) (h3 : 2 < (cornersL l).length) (v : Int × Int) :
    v.1 * px + v.2 * py ≤ d * hiL v (cornersL l) := by
  have hc := (cornersL_len l h1).1
  obtain ⟨k1, x, hx, e⟩ := hiL_spec v hc
  obtain ⟨j, hj, rfl⟩ := mem_at hx
  have F := (corners_facts l h1).2 h3
  generalize cornersL l = C at *
  obtain ⟨i, hi, hij⟩ : ∃ i, i < C.length ∧ (i + 1) % C.length = j := by
    by_cases h0 : j = 0
    · exact ⟨C.length - 1, by omega, by rw [show C.length - 1 + 1 = C.length by omega, Nat.mod_self, h0]⟩
    · exact ⟨j - 1, by omega, by rw [show j - 1 + 1 = j by omega]; exact Nat.mod_eq_of_lt hj⟩
  have hij2 : (i + 2) % C.length = (j + 1) % C.length := by rw [← hij, Nat.mod_add_mod]
  have t := F i hi
  rw [hij, hij2] at t
  have s1 := okE_side (holds_at hh hi)
  have s2 := okE_side (holds_at hh hj)
  have d1 : ed C i = (C.getD i (0, 0), C.getD j (0, 0)) := by unfold ed; rw [hij]
  have d2 : ed C j = (C.getD j (0, 0), C.getD ((j + 1) % C.length) (0, 0)) := rfl
  rw [d1] at s1
  rw [d2] at s2
  have a1 := k1 _ (at_mem hi)
  have a2 := k1 _ (at_mem (Nat.mod_lt (j + 1) (by omega : 0 < C.length)))
  rw [e] at a1 a2 ⊢
  dsimp only at s1 s2
  generalize C.getD i (0, 0) = a at *
  generalize C.getD j (0, 0) = b at *
  generalize C.getD ((j + 1) % C.length) (0, 0) = c at *
  obtain ⟨ax, ay⟩ := a
  obtain ⟨bx, by_⟩ := b
  obtain ⟨cx, cy⟩ := c
  obtain ⟨vx, vy⟩ := v
  dsimp only at s1 s2
  unfold pr at a1 a2 ⊢
  unfold cr crs at t
  dsimp only at a1 a2 t ⊢
  have z1 := side_end s1
  have z := cone_le (ax := bx - ax) (ay := by_ - ay) (bx := cx - bx) (by_ := cy - by_) (wx := px - bx * d) (wy := py - by_ * d) (vx := vx) (vy := vy) z1 (by omega)
    (by have e : (bx - ax) * (cy - by_) - (by_ - ay) * (cx - bx) = (bx - ax) * (cy - ay) - (by_ - ay) * (cx - ax) := by grind
        omega)
    (by have e : vx * (bx - ax) + vy * (by_ - ay) = (vx * bx + vy * by_) - (vx * ax + vy * ay) := by grind
        omega)
    (by have e : vx * (cx - bx) + vy * (cy - by_) = (vx * cx + vy * cy) - (vx * bx + vy * by_) := by grind
        omega)
  have e2 : vx * (px - bx * d) + vy * (py - by_ * d) = (vx * px + vy * py) - d * (vx * bx + vy * by_) := by grind
  omega

theorem seg_one {u w k X d : Int} (h : u * X = w * k) (hu : 0 < u) (h0 : 0 ≤ w) (h1 : w ≤ d * u) : X ≤ 0 ∨ X ≤ d * k := by
  rcases Int.le_total k 0 with hk | hk
  · left
    have := Int.mul_nonpos_of_nonneg_of_nonpos h0 hk
    rcases Int.lt_or_le 0 X with j | j
    · have := Int.mul_pos hu j; omega
    · exact j
  · right
    have k1 := Int.mul_le_mul_of_nonneg_right h1 hk
    have e : d * u * k = u * (d * k) := by grind
    exact Int.le_of_mul_le_mul_left (by omega : u * X ≤ u * (d * k)) hu
/-- A place on a segment: no farther than one of its ends. -/
theorem seg_le {ux uy wx wy vx vy d : Int} (hc : ux * wy = uy * wx) (hx : (0 ≤ wx ∧ wx ≤ d * ux) ∨ (d * ux ≤ wx ∧ wx ≤ 0)) (hy : (0 ≤ wy ∧ wy ≤ d * uy) ∨ (d * uy ≤ wy ∧ wy ≤ 0)) (hd : 0 ≤ d) :
    vx * wx + vy * wy ≤ 0 ∨ vx * wx + vy * wy ≤ d * (vx * ux + vy * uy) := by
  have ex : ux * (vx * wx + vy * wy) = wx * (vx * ux + vy * uy) := by grind
  have ey : uy * (vx * wx + vy * wy) = wy * (vx * ux + vy * uy) := by grind
  rcases Int.lt_trichotomy 0 ux with h | h | h
  · have := Int.mul_nonneg hd (Int.le_of_lt h)
    exact seg_one ex h (by omega) (by omega)
  · rcases Int.lt_trichotomy 0 uy with g | g | g
    · have := Int.mul_nonneg hd (Int.le_of_lt g)
      exact seg_one ey g (by omega) (by omega)
    · left
      subst h; subst g
      simp only [Int.mul_zero] at hx hy
      obtain rfl : wx = 0 := by omega
      obtain rfl : wy = 0 := by omega
      simp
    · have := Int.mul_nonneg hd (show 0 ≤ -uy by omega)
      rw [Int.mul_neg] at this
      exact seg_one (u := -uy) (w := -wy) (by rw [Int.neg_mul, Int.neg_mul, ey]) (by omega) (by omega) (by rw [Int.mul_neg]; omega)
  · have := Int.mul_nonneg hd (show 0 ≤ -ux by omega)
    rw [Int.mul_neg] at this
    exact seg_one (u := -ux) (w := -wx) (by rw [Int.neg_mul, Int.neg_mul, ex]) (by omega) (by omega) (by rw [Int.mul_neg]; omega)
theorem box_ways {a b p d : Int} (h1 : min a b * d ≤ p) (h2 : p ≤ max a b * d) : (0 ≤ p - a * d ∧ p - a * d ≤ d * (b - a)) ∨ (d * (b - a) ≤ p - a * d ∧ p - a * d ≤ 0) := by
  have e : d * (b - a) = b * d - a * d := by grind
  rcases Int.le_total a b with h | h
  · rw [Int.min_eq_left h] at h1
    rw [Int.max_eq_right h] at h2
    left; omega
  · rw [Int.min_eq_right h] at h1
    rw [Int.max_eq_left h] at h2
    right; omega
theorem btw_box {ax ay bx by_ px py d : Int} (h : btwT ax ay bx by_ px py d = true) : (min ax bx * d ≤ px ∧ px ≤ max ax bx * d) ∧ min ay by_ * d ≤ py ∧ py ≤ max ay by_ * d := by
  unfold btwT at h
  simp only [Bool.and_eq_true, decide_eq_true_eq] at h
  exact ⟨⟨h.1, h.2.1⟩, h.2.2.1, h.2.2.2⟩
/-- A place in a hull is nowhere farther than its corners. -/
theorem place_top {l : List (Int × Int)} (h1 : 1 ≤ l.length) {px py d : Int} (hd : 0 ≤ d) (hh : holdsL (cornersL l) px py d = true) (v : Int × Int) :
    v.1 * px + v.2 * py ≤ d * hiL v (cornersL l) := by
  have hc := (cornersL_len l h1).1
  by_cases h3 : 2 < (cornersL l).length
  · exact place_top3 h1 hh h3 v
  · obtain ⟨k1, -⟩ := hiL_spec v hc
    generalize cornersL l = C at *
    match C, hc, h3 with
    | [a], _, _ =>
      have hb := holds_btw hh (by simp) (i := 0) (by simp)
      have e0 : ed [a] 0 = (a, a) := by simp [ed]
      rw [e0] at hb
      obtain ⟨⟨b1, b2⟩, b3, b4⟩ := btw_box hb
      dsimp only at b1 b2 b3 b4
      rw [Int.min_self] at b1 b3
      rw [Int.max_self] at b2 b4
      have k := k1 a (by simp)
      obtain rfl : px = a.1 * d := by omega
      obtain rfl : py = a.2 * d := by omega
      have m := Int.mul_le_mul_of_nonneg_left k hd
      have e : v.1 * (a.1 * d) + v.2 * (a.2 * d) = d * pr v a := by unfold pr; grind
      omega
    | [a, b], _, _ =>
      have hb := holds_btw hh (by simp) (i := 0) (by simp)
      have s1 := okE_side (holds_at hh (i := 0) (by simp))
      have s2 := okE_side (holds_at hh (i := 1) (by simp))
      have e0 : ed [a, b] 0 = (a, b) := by simp [ed]
      have e1 : ed [a, b] 1 = (b, a) := by simp [ed]
      rw [e0] at hb s1
      rw [e1] at s2
      obtain ⟨⟨b1, b2⟩, b3, b4⟩ := btw_box hb
      dsimp only at b1 b2 b3 b4 s1 s2
      have z2 := side_end s2
      have ka := Int.mul_le_mul_of_nonneg_left (k1 a (by simp)) hd
      have kb := Int.mul_le_mul_of_nonneg_left (k1 b (by simp)) hd
      have w := seg_le (ux := b.1 - a.1) (uy := b.2 - a.2) (wx := px - a.1 * d) (wy := py - a.2 * d) (vx := v.1) (vy := v.2) (d := d)
        (by have e : (a.1 - b.1) * (py - a.2 * d) - (a.2 - b.2) * (px - a.1 * d) = -((b.1 - a.1) * (py - a.2 * d)) + (b.2 - a.2) * (px - a.1 * d) := by grind
            omega) (box_ways b1 b2) (box_ways b3 b4) hd
      have f1 : v.1 * (px - a.1 * d) + v.2 * (py - a.2 * d) = (v.1 * px + v.2 * py) - d * pr v a := by unfold pr; grind
      have f2 : d * (v.1 * (b.1 - a.1) + v.2 * (b.2 - a.2)) = d * pr v b - d * pr v a := by unfold pr; grind
      omega
    | _ :: _ :: _ :: _, _, h3 => exact absurd (by simp) h3
/-- No two sets have right verdicts of both kinds. -/
theorem no_both {l m : List (Int × Int)} (hl : 1 ≤ l.length) (hm : 1 ≤ m.length) {px py d : Int} (hd : 1 ≤ d) (h1 : holdsL (cornersL l) px py d = true) (h2 : holdsL (cornersL m) px py d = true) (v : Int × Int) (W : Int)
    (k1 : hiL v (cornersL l) < W) (k2 : W < loL v (cornersL m)) : False := by
  have a := place_top hl (by omega) h1 v
  have b := place_top hm (by omega) h2 (-v.1, -v.2)
  have hlo : hiL (-v.1, -v.2) (cornersL m) = -loL v (cornersL m) := by
    have hc := (cornersL_len m hm).1
    obtain ⟨p1, x, hx, e⟩ := hiL_spec (-v.1, -v.2) hc
    obtain ⟨p2, y, hy, f⟩ := loL_spec v hc
    have q1 := p1 y hy
    have q2 := p2 x hx
    have n : ∀ z : Int × Int, pr (-v.1, -v.2) z = -pr v z := fun z => by unfold pr; grind
    rw [n] at q1 e
    omega
  rw [hlo] at b
  dsimp only at b
  have c1 := Int.mul_lt_mul_of_pos_left k1 (by omega : 0 < d)
  have c2 := Int.mul_lt_mul_of_pos_left k2 (by omega : 0 < d)
  simp only [Int.neg_mul, Int.mul_neg] at b
  omega

end Go.Proofs.YtpnkpejnahhajaaGreat

namespace Go.Proofs.YtpnkpejnahhajaaGreat
open Go.RowKit

theorem sep_of {v : Int × Int} {P Q : List (Int × Int)} (hP : 1 ≤ P.length) (hQ : 1 ≤ Q.length) (h : ∀ p ∈ P, ∀ q ∈ Q, pr v p < pr v q) : hiL v P < loL v Q := by
  obtain ⟨-, p, hp, e⟩ := hiL_spec v hP
  obtain ⟨-, q, hq, f⟩ := loL_spec v hQ
  rw [e, f]; exact h p hp q hq
/-- All differences. -/
def diffs (P Q : List (Int × Int)) : List (Int × Int) := P.flatMap fun p => Q.map fun q => (q.1 - p.1, q.2 - p.2)
theorem mem_diffs {P Q : List (Int × Int)} {z : Int × Int} : z ∈ diffs P Q ↔ ∃ p ∈ P, ∃ q ∈ Q, z = (q.1 - p.1, q.2 - p.2) := by
  unfold diffs
  simp only [List.mem_flatMap, List.mem_map]
  constructor
  · rintro ⟨p, hp, q, hq, e⟩; exact ⟨p, hp, q, hq, e.symm⟩
  · rintro ⟨p, hp, q, hq, e⟩; exact ⟨p, hp, q, hq, e.symm⟩
/-- A direction that is least at two corners is at right angles to an edge. -/
theorem face {l : List (Int × Int)} (h1 : 1 ≤ l.length) (v : Int × Int) {x y : Int × Int} (hx : x ∈ cornersL l) (hy : y ∈ cornersL l) (hne : x ≠ y) (he : pr v x = pr v y) (hm : ∀ z ∈ cornersL l, pr v x ≤ pr v z) :
    ∃ i, i < (cornersL l).length ∧ (ed (cornersL l) i).1 ≠ (ed (cornersL l) i).2 ∧ pr v (ed (cornersL l) i).1 = pr v (ed (cornersL l) i).2 := by
  have F1 := (corners_facts l h1).1
  have F2 := (corners_facts l h1).2
  have hl := cornersL_mem l
  generalize cornersL l = C at *
  obtain ⟨j, hj, rfl⟩ := mem_at hx
  by_cases h2 : C.length < 3
  · match C, h2 with
    | [], _ => simp at hx
    | [a], _ =>
      have e1 := List.mem_singleton.1 hx
      have e2 := List.mem_singleton.1 hy
      exact absurd (e1.trans e2.symm) hne
    | [a, b], _ =>
      refine ⟨0, by simp, ?_⟩
      have e0 : ed [a, b] 0 = (a, b) := by simp [ed]
      rw [e0]
      simp only [List.mem_cons, List.not_mem_nil, or_false] at hx hy
      rcases hx with e | e <;> rcases hy with f | f <;> rw [e] at he hne <;> rw [f] at he hne
      · exact absurd rfl hne
      · exact ⟨hne, he⟩
      · exact ⟨fun h => hne h.symm, he.symm⟩
      · exact absurd rfl hne
  · obtain ⟨i, hi, hij⟩ : ∃ i, i < C.length ∧ (i + 1) % C.length = j := by
      by_cases h0 : j = 0
      · exact ⟨C.length - 1, by omega, by rw [show C.length - 1 + 1 = C.length by omega, Nat.mod_self, h0]⟩
      · exact ⟨j - 1, by omega, by rw [show j - 1 + 1 = j by omega]; exact Nat.mod_eq_of_lt hj⟩
    have hij2 : (i + 2) % C.length = (j + 1) % C.length := by rw [← hij, Nat.mod_add_mod]
    have t := F2 (by omega) i hi
    rw [hij, hij2] at t
    have s1 := F1 (by omega) i hi y (hl y hy)
    rw [hij] at s1
    have s2 := F1 (by omega) j hj y (hl y hy)
    have d1 : ed C i = (C.getD i (0, 0), C.getD j (0, 0)) := by unfold ed; rw [hij]
    have d2 : ed C j = (C.getD j (0, 0), C.getD ((j + 1) % C.length) (0, 0)) := rfl
    have m1 := hm _ (at_mem hi)
    have m2 := hm _ (at_mem (Nat.mod_lt (j + 1) (by omega : 0 < C.length)))
    by_cases g1 : pr v (C.getD j (0, 0)) = pr v (C.getD i (0, 0))
    · refine ⟨i, hi, ?_, ?_⟩
      · rw [d1]; intro h
        dsimp only at h
        rw [h] at t
        rw [show cr (C.getD j (0, 0)) (C.getD j (0, 0)) (C.getD ((j + 1) % C.length) (0, 0)) = 0 by unfold cr crs; grind] at t
        omega
      · rw [d1]; exact g1.symm
    · by_cases g2 : pr v (C.getD j (0, 0)) = pr v (C.getD ((j + 1) % C.length) (0, 0))
      · refine ⟨j, hj, ?_, ?_⟩
        · rw [d2]; intro h
          dsimp only at h
          rw [← h, cr_self2] at t
          omega
        · rw [d2]; exact g2
      · exfalso
        generalize C.getD i (0, 0) = a at *
        generalize C.getD j (0, 0) = b at *
        generalize C.getD ((j + 1) % C.length) (0, 0) = c at *
        obtain ⟨ax, ay⟩ := a
        obtain ⟨bx, by_⟩ := b
        obtain ⟨cx, cy⟩ := c
        obtain ⟨vx, vy⟩ := v
        obtain ⟨yx, yy⟩ := y
        unfold pr at he m1 m2 g1 g2
        unfold cr crs at t s1 s2
        dsimp only at he m1 m2 g1 g2 t s1 s2
        have e : ((bx - ax) * (cy - ay) - (by_ - ay) * (cx - ax)) * ((vx * yx + vy * yy) - (vx * bx + vy * by_)) = ((bx - ax) * (yy - ay) - (by_ - ay) * (yx - ax)) * ((vx * cx + vy * cy) - (vx * bx + vy * by_)) + ((cx - bx) * (yy - by_) - (cy - by_) * (yx - bx)) * ((vx * ax + vy * ay) - (vx * bx + vy * by_)) := by grind
        rw [← he, Int.sub_self, Int.mul_zero] at e
        have p1 := Int.mul_nonneg s1 (show 0 ≤ (vx * cx + vy * cy) - (vx * bx + vy * by_) by omega)
        have p2 := Int.mul_nonneg s2 (show 0 ≤ (vx * ax + vy * ay) - (vx * bx + vy * by_) by omega)
        have z1 : ((bx - ax) * (yy - ay) - (by_ - ay) * (yx - ax)) = 0 := by
          rcases Int.mul_eq_zero.1 (show ((bx - ax) * (yy - ay) - (by_ - ay) * (yx - ax)) * ((vx * cx + vy * cy) - (vx * bx + vy * by_)) = 0 by omega) with h | h
          · exact h
          · omega
        have z2 : ((cx - bx) * (yy - by_) - (cy - by_) * (yx - bx)) = 0 := by
          rcases Int.mul_eq_zero.1 (show ((cx - bx) * (yy - by_) - (cy - by_) * (yx - bx)) * ((vx * ax + vy * ay) - (vx * bx + vy * by_)) = 0 by omega) with h | h
          · exact h
          · omega
        have w1 : ((bx - ax) * (cy - ay) - (by_ - ay) * (cx - ax)) * (yx - bx) = 0 := by grind
        have w2 : ((bx - ax) * (cy - ay) - (by_ - ay) * (cx - ax)) * (yy - by_) = 0 := by grind
        apply hne
        have y1 : yx - bx = 0 := by
          rcases Int.mul_eq_zero.1 w1 with h | h
          · omega
          · exact h
        have y2 : yy - by_ = 0 := by
          rcases Int.mul_eq_zero.1 w2 with h | h
          · omega
          · exact h
        rw [show bx = yx by omega, show by_ = yy by omega]

/-- A direction at one line with one that separates does so, too, maybe the other way round. -/
theorem par_sep {v u : Int × Int} (hp : v.1 * u.2 = v.2 * u.1) (hu : u.1 ≠ 0 ∨ u.2 ≠ 0) {P Q : List (Int × Int)} (hP : 1 ≤ P.length) (hQ : 1 ≤ Q.length) (h : ∀ p ∈ P, ∀ q ∈ Q, pr v p < pr v q) :
    hiL u P < loL u Q ∨ hiL u Q < loL u P := by
  have hn : 0 < u.1 * u.1 + u.2 * u.2 := by
    have a : ∀ t : Int, 0 ≤ t * t := fun t => by
      rcases Int.le_total 0 t with k | k
      · exact Int.mul_nonneg k k
      · rw [← Int.neg_mul_neg]; exact Int.mul_nonneg (by omega) (by omega)
    have b : ∀ t : Int, t ≠ 0 → 0 < t * t := fun t ht => by
      have := a t
      have : t * t ≠ 0 := fun k => by rcases Int.mul_eq_zero.1 k with k | k <;> exact ht k
      omega
    have a1 := a u.1
    have a2 := a u.2
    rcases hu with k | k
    · have := b _ k; omega
    · have := b _ k; omega
  have key : ∀ p ∈ P, ∀ q ∈ Q, 0 < (u.1 * v.1 + u.2 * v.2) * (pr u q - pr u p) := fun p hpp q hq => by
    have k := Int.mul_pos hn (show 0 < pr v q - pr v p by have := h p hpp q hq; omega)
    have e : (u.1 * u.1 + u.2 * u.2) * (pr v q - pr v p) = (u.1 * v.1 + u.2 * v.2) * (pr u q - pr u p) := by unfold pr; grind
    omega
  rcases Int.lt_or_le 0 (u.1 * v.1 + u.2 * v.2) with hs | hs
  · left
    refine sep_of hP hQ fun p hpp q hq => ?_
    have k := key p hpp q hq
    rcases Int.lt_or_le 0 (pr u q - pr u p) with j | j
    · omega
    · have := Int.mul_nonpos_of_nonneg_of_nonpos (Int.le_of_lt hs) j; omega
  · right
    refine sep_of hQ hP fun q hq p hpp => ?_
    have k := key p hpp q hq
    rcases Int.lt_or_le (pr u q - pr u p) 0 with j | j
    · omega
    · have := Int.mul_nonpos_of_nonpos_of_nonneg hs j; omega
theorem nrm_first {P Q : List (Int × Int)} {i : Nat} (h : i < P.length) : nrm (ed P i) ∈ dirsL (two P Q) := by
  have e : dirsL (two P Q) = ([((Q.getD 0 (0, 0)).1 - (P.getD 0 (0, 0)).1, (Q.getD 0 (0, 0)).2 - (P.getD 0 (0, 0)).2)] ++ (edgesL P).map nrm) ++ (edgesL Q).map nrm := rfl
  rw [e, List.mem_append, List.mem_append]
  exact Or.inl (Or.inr (List.mem_map_of_mem (by unfold edgesL; exact List.mem_map_of_mem (List.mem_range.2 h))))
theorem nrm_second {P Q : List (Int × Int)} {i : Nat} (h : i < Q.length) : nrm (ed Q i) ∈ dirsL (two P Q) := by
  have e : dirsL (two P Q) = ([((Q.getD 0 (0, 0)).1 - (P.getD 0 (0, 0)).1, (Q.getD 0 (0, 0)).2 - (P.getD 0 (0, 0)).2)] ++ (edgesL P).map nrm) ++ (edgesL Q).map nrm := rfl
  rw [e, List.mem_append, List.mem_append]
  exact Or.inr (List.mem_map_of_mem (by unfold edgesL; exact List.mem_map_of_mem (List.mem_range.2 h)))
theorem diff_first {P Q : List (Int × Int)} : ((Q.getD 0 (0, 0)).1 - (P.getD 0 (0, 0)).1, (Q.getD 0 (0, 0)).2 - (P.getD 0 (0, 0)).2) ∈ dirsL (two P Q) := by
  have e : dirsL (two P Q) = ([((Q.getD 0 (0, 0)).1 - (P.getD 0 (0, 0)).1, (Q.getD 0 (0, 0)).2 - (P.getD 0 (0, 0)).2)] ++ (edgesL P).map nrm) ++ (edgesL Q).map nrm := rfl
  rw [e]; simp
theorem nrm_par {v : Int × Int} {e : (Int × Int) × (Int × Int)} (hne : e.1 ≠ e.2) (h : pr v e.1 = pr v e.2) : v.1 * (nrm e).2 = v.2 * (nrm e).1 ∧ ((nrm e).1 ≠ 0 ∨ (nrm e).2 ≠ 0) := by
  obtain ⟨⟨a, b⟩, c, d⟩ := e
  unfold pr at h
  unfold nrm
  dsimp only at *
  constructor
  · grind
  · by_cases k : b - d = 0
    · right; intro j; apply hne; rw [show a = c by omega, show b = d by omega]
    · exact Or.inl k
/-- An edge of the differences that has 0 strictly to its right. -/
theorem dir_edge {A B : List (Int × Int)} (hA : 1 ≤ A.length) (hB : 1 ≤ B.length) {a b : Int × Int} (ha : a ∈ diffs (cornersL A) (cornersL B)) (hb : b ∈ diffs (cornersL A) (cornersL B)) (hz : ∀ z ∈ diffs (cornersL A) (cornersL B), 0 ≤ cr a b z) (h0 : cr a b (0, 0) < 0) :
    ∃ v ∈ dirsL (two (cornersL A) (cornersL B)), hiL v (cornersL A) < loL v (cornersL B) ∨ hiL v (cornersL B) < loL v (cornersL A) := by
  have hP := (cornersL_len A hA).1
  have hQ := (cornersL_len B hB).1
  have fP := fun v x y => face hA v (x := x) (y := y)
  have fQ := fun v x y => face hB v (x := x) (y := y)
  generalize cornersL A = P at *
  generalize cornersL B = Q at *
  obtain ⟨p, hp, q, hq, rfl⟩ := mem_diffs.1 ha
  obtain ⟨p', hp', q', hq', rfl⟩ := mem_diffs.1 hb
  obtain ⟨v, hv⟩ : ∃ v : Int × Int, v = (-((q'.2 - p'.2) - (q.2 - p.2)), (q'.1 - p'.1) - (q.1 - p.1)) := ⟨_, rfl⟩
  obtain ⟨g, hg⟩ : ∃ g, pr v q - pr v p = g := ⟨_, rfl⟩
  have e0 : cr (q.1 - p.1, q.2 - p.2) (q'.1 - p'.1, q'.2 - p'.2) (0, 0) = -(pr v q - pr v p) := by rw [hv]; unfold cr crs pr; grind
  have ez : ∀ p2 q2 : Int × Int, cr (q.1 - p.1, q.2 - p.2) (q'.1 - p'.1, q'.2 - p'.2) (q2.1 - p2.1, q2.2 - p2.2) = (pr v q2 - pr v p2) - (pr v q - pr v p) := fun p2 q2 => by rw [hv]; unfold cr crs pr; grind
  have e1 : pr v q' - pr v p' = pr v q - pr v p := by rw [hv]; unfold pr; grind
  have hall : ∀ p2 ∈ P, ∀ q2 ∈ Q, g ≤ pr v q2 - pr v p2 := fun p2 hp2 q2 hq2 => by
    have := hz _ (mem_diffs.2 ⟨p2, hp2, q2, hq2, rfl⟩)
    rw [ez] at this
    omega
  have hsep : ∀ p2 ∈ P, ∀ q2 ∈ Q, pr v p2 < pr v q2 := fun p2 hp2 q2 hq2 => by
    have := hall p2 hp2 q2 hq2
    omega
  have x1 := hall p hp q' hq'
  have x2 := hall p' hp' q hq
  by_cases hqq : q = q'
  · have hpp : p ≠ p' := fun h => by
      rw [hqq, h] at h0
      rw [show cr (q'.1 - p'.1, q'.2 - p'.2) (q'.1 - p'.1, q'.2 - p'.2) (0, 0) = 0 by unfold cr crs; grind] at h0
      omega
    have n : ∀ z : Int × Int, pr (-v.1, -v.2) z = -pr v z := fun z => by unfold pr; grind
    obtain ⟨i, hi, hne, he⟩ := fP (-v.1, -v.2) p p' hp hp' hpp (by rw [n, n]; omega) (fun z hzz => by
      rw [n, n]
      have := hall z hzz q hq
      omega)
    rw [n, n] at he
    obtain ⟨k1, k2⟩ := nrm_par (v := v) hne (by omega)
    exact ⟨_, nrm_first hi, par_sep k1 k2 hP hQ hsep⟩
  · obtain ⟨i, hi, hne, he⟩ := fQ v q q' hq hq' hqq (by omega) (fun z hzz => by
      have := hall p hp z hzz
      omega)
    obtain ⟨k1, k2⟩ := nrm_par (v := v) hne he
    exact ⟨_, nrm_second hi, par_sep k1 k2 hP hQ hsep⟩

theorem col_pos {a1 a2 b1 b2 : Int} (hc : a1 * b2 = a2 * b1) (h : 0 < a1 * b1) : 0 ≤ a2 * b2 := by
  rcases Int.lt_or_le (a2 * b2) 0 with k | k
  · exfalso
    have e : (a1 * b1) * (a2 * b2) = (a2 * b1) * (a2 * b1) := by grind
    have n := Int.mul_neg_of_pos_of_neg h k
    have sq : 0 ≤ (a2 * b1) * (a2 * b1) := by
      rcases Int.le_total 0 (a2 * b1) with j | j
      · exact Int.mul_nonneg j j
      · rw [← Int.neg_mul_neg]; exact Int.mul_nonneg (by omega) (by omega)
    omega
  · exact k
theorem same_pos {a1 b1 : Int} (h : (0 < a1 ∧ 0 < b1) ∨ (a1 < 0 ∧ b1 < 0)) : 0 < a1 * b1 := by
  rcases h with ⟨h, k⟩ | ⟨h, k⟩
  · exact Int.mul_pos h k
  · exact Int.mul_pos_of_neg_of_neg h k
theorem box_off {a b : Int × Int} (hc : a.1 * b.2 = a.2 * b.1) (h : btwT a.1 a.2 b.1 b.2 0 0 1 = false) : 0 < pr a a ∧ 0 < pr a b ∧ 0 < pr b a ∧ 0 < pr b b := by
  have hw : ((0 < a.1 ∧ 0 < b.1) ∨ (a.1 < 0 ∧ b.1 < 0)) ∨ ((0 < a.2 ∧ 0 < b.2) ∨ (a.2 < 0 ∧ b.2 < 0)) := by
    unfold btwT at h
    simp only [Int.mul_one, Bool.and_eq_false_iff, decide_eq_false_iff_not] at h
    omega
  have a0 : ∀ t : Int, 0 ≤ t * t := fun t => by
    rcases Int.le_total 0 t with k | k
    · exact Int.mul_nonneg k k
    · rw [← Int.neg_mul_neg]; exact Int.mul_nonneg (by omega) (by omega)
  unfold pr
  have c1 : b.1 * a.1 = a.1 * b.1 := Int.mul_comm _ _
  have c2 : b.2 * a.2 = a.2 * b.2 := Int.mul_comm _ _
  rcases hw with hw | hw
  · have p1 := same_pos hw
    have p2 := col_pos hc p1
    have p3 := same_pos (a1 := a.1) (b1 := a.1) (by omega)
    have p4 := same_pos (a1 := b.1) (b1 := b.1) (by omega)
    have := a0 a.2
    have := a0 b.2
    omega
  · have p1 := same_pos hw
    have p2 := col_pos (a1 := a.2) (a2 := a.1) (b1 := b.2) (b2 := b.1) hc.symm p1
    have p3 := same_pos (a1 := a.2) (b1 := a.2) (by omega)
    have p4 := same_pos (a1 := b.2) (b1 := b.2) (by omega)
    have := a0 a.1
    have := a0 b.1
    omega
/-- All differences on a line with 0, and 0 beyond them. -/
theorem dir_flat {P Q : List (Int × Int)} (hP : 1 ≤ P.length) (hQ : 1 ≤ Q.length) {a b : Int × Int} (hD : ∀ x ∈ cornersL (diffs P Q), x = a ∨ x = b) (hc : a.1 * b.2 = a.2 * b.1) (h : btwT a.1 a.2 b.1 b.2 0 0 1 = false) :
    hiL ((Q.getD 0 (0, 0)).1 - (P.getD 0 (0, 0)).1, (Q.getD 0 (0, 0)).2 - (P.getD 0 (0, 0)).2) P < loL ((Q.getD 0 (0, 0)).1 - (P.getD 0 (0, 0)).1, (Q.getD 0 (0, 0)).2 - (P.getD 0 (0, 0)).2) Q := by
  obtain ⟨k1, k2, k3, k4⟩ := box_off hc h
  have hz0 := mem_diffs.2 ⟨_, at_mem (ps := P) (i := 0) (by omega), _, at_mem (ps := Q) (i := 0) (by omega), rfl⟩
  generalize ((Q.getD 0 (0, 0)).1 - (P.getD 0 (0, 0)).1, (Q.getD 0 (0, 0)).2 - (P.getD 0 (0, 0)).2) = z0 at hz0 ⊢
  have hlen : 1 ≤ (diffs P Q).length := List.length_pos_of_mem hz0
  have low : ∀ (u z : Int × Int), z ∈ diffs P Q → 0 < pr u a → 0 < pr u b → 0 < pr u z := fun u z hz h1 h2 => by
    obtain ⟨x, hx, k⟩ := corners_top (diffs P Q) hlen (-u.1) (-u.2) hz
    simp only [Int.neg_mul] at k
    unfold pr at *
    rcases hD x hx with rfl | rfl <;> omega
  have comm : ∀ x y : Int × Int, pr x y = pr y x := fun x y => by unfold pr; grind
  have z1 := low a z0 hz0 k1 k2
  have z2 := low b z0 hz0 k3 k4
  refine sep_of hP hQ fun p hp q hq => ?_
  have := low z0 _ (mem_diffs.2 ⟨p, hp, q, hq, rfl⟩) (by rw [comm]; exact z1) (by rw [comm]; exact z2)
  have e : pr z0 (q.1 - p.1, q.2 - p.2) = pr z0 q - pr z0 p := by unfold pr; grind
  omega
/-- Where the differences do not hold 0, one of the directions tells the hulls apart. -/
theorem dir_works {A B : List (Int × Int)} (hA : 1 ≤ A.length) (hB : 1 ≤ B.length) (h : holdsL (cornersL (diffs (cornersL A) (cornersL B))) 0 0 1 = false) :
    ∃ v ∈ dirsL (two (cornersL A) (cornersL B)), hiL v (cornersL A) < loL v (cornersL B) ∨ hiL v (cornersL B) < loL v (cornersL A) := by
  have hP := (cornersL_len A hA).1
  have hQ := (cornersL_len B hB).1
  have hlen : 1 ≤ (diffs (cornersL A) (cornersL B)).length := List.length_pos_of_mem (mem_diffs.2 ⟨_, at_mem (i := 0) (by omega), _, at_mem (i := 0) (by omega), rfl⟩)
  have F := (corners_facts _ hlen).1
  have hsub := cornersL_mem (diffs (cornersL A) (cornersL B))
  have hDl := (cornersL_len _ hlen).1
  obtain ⟨D, hD⟩ : ∃ D, cornersL (diffs (cornersL A) (cornersL B)) = D := ⟨_, rfl⟩
  rw [hD] at h F hsub hDl
  by_cases hs : ∃ i, i < D.length ∧ sideE (ed D i) 0 0 1 = true
  · obtain ⟨i, hi, hsd⟩ := hs
    have e : ed D i = (D.getD i (0, 0), D.getD ((i + 1) % D.length) (0, 0)) := rfl
    rw [e] at hsd
    unfold sideE at hsd
    rw [decide_eq_true_eq] at hsd
    have h0 : cr (D.getD i (0, 0)) (D.getD ((i + 1) % D.length) (0, 0)) (0, 0) < 0 := by
      unfold cr crs
      dsimp only at hsd ⊢
      simp only [Int.mul_one] at hsd
      omega
    have hn : 1 < D.length := by
      rcases Nat.lt_or_ge 1 D.length with k | k
      · exact k
      · exfalso
        have h1 : D.length = 1 := by omega
        rw [h1, Nat.mod_one, show i = 0 by omega] at h0
        rw [show cr (D.getD 0 (0, 0)) (D.getD 0 (0, 0)) (0, 0) = 0 by unfold cr crs; grind] at h0
        omega
    exact dir_edge hA hB (hsub _ (at_mem hi)) (hsub _ (at_mem (Nat.mod_lt _ (by omega)))) (F hn i hi) h0
  · have hns : ∀ i, i < D.length → sideE (ed D i) 0 0 1 = false := fun i hi => by
      cases k : sideE (ed D i) 0 0 1 with
      | false => rfl
      | true => exact absurd ⟨i, hi, k⟩ hs
    unfold holdsL at h
    rw [List.all_eq_false] at h
    obtain ⟨i, hi, hok⟩ := h
    have hi := List.mem_range.1 hi
    have hok : okE D 0 0 1 i = false := by simpa using hok
    unfold okE at hok
    rw [hns i hi, Bool.not_false, Bool.true_and, Bool.or_eq_false_iff, decide_eq_false_iff_not] at hok
    obtain ⟨h3, hb⟩ := hok
    refine ⟨_, diff_first, Or.inl ?_⟩
    match D, hDl, h3 with
    | [a], _, _ =>
      have e0 : ed [a] i = (a, a) := by
        have : i = 0 := by simpa using hi
        rw [this]; simp [ed]
      rw [e0] at hb
      exact dir_flat hP hQ (a := a) (b := a) (fun x hx => by rw [hD] at hx; exact Or.inl (List.mem_singleton.1 hx)) (Int.mul_comm _ _) hb
    | [a, b], _, _ =>
      have d0 : ed [a, b] 0 = (a, b) := by simp [ed]
      have d1 : ed [a, b] 1 = (b, a) := by simp [ed]
      have s0 := hns 0 (by simp)
      have s1 := hns 1 (by simp)
      rw [d0] at s0
      rw [d1] at s1
      unfold sideE at s0 s1
      rw [decide_eq_false_iff_not] at s0 s1
      dsimp only at s0 s1
      simp only [Int.mul_one, Int.zero_sub] at s0 s1
      have f0 : (b.1 - a.1) * -a.2 = -(b.1 * a.2) + a.1 * a.2 := by grind
      have f1 : (b.2 - a.2) * -a.1 = -(a.1 * b.2) + a.1 * a.2 := by grind
      have f2 : (a.1 - b.1) * -b.2 = -(a.1 * b.2) + b.1 * b.2 := by grind
      have f3 : (a.2 - b.2) * -b.1 = -(b.1 * a.2) + b.1 * b.2 := by grind
      rw [f0, f1] at s0
      rw [f2, f3] at s1
      have hc : a.1 * b.2 = a.2 * b.1 := by rw [Int.mul_comm a.2 b.1]; omega
      have hb' : btwT a.1 a.2 b.1 b.2 0 0 1 = false := by
        have hi2 : i = 0 ∨ i = 1 := by simp at hi; omega
        rcases hi2 with rfl | rfl
        · rw [d0] at hb; exact hb
        · rw [d1] at hb; rw [btw_symm]; exact hb
      exact dir_flat hP hQ (fun x hx => by rw [hD] at hx; simpa using hx) hc hb'
    | _ :: _ :: _ :: _, _, h3 => exact absurd (by simp) h3

end Go.Proofs.YtpnkpejnahhajaaGreat

namespace Go.Proofs.YtpnkpejnahhajaaGreat
open Go.RowKit

theorem firstN_some {α : Type} {f : Nat → Option α} {a : α} : ∀ n, firstN f n = some a → ∃ k, k < n ∧ f k = some a
  | 0, h => by simp [firstN] at h
  | n + 1, h => by
    unfold firstN at h
    rcases k : firstN f n with _ | b
    · rw [k] at h; exact ⟨n, by omega, h⟩
    · rw [k] at h
      obtain ⟨j, hj, e⟩ := firstN_some n k
      exact ⟨j, by omega, e.trans h⟩
theorem firstN_none {α : Type} {f : Nat → Option α} : ∀ n, firstN f n = none → ∀ k, k < n → f k = none
  | 0, _, k, hk => by omega
  | n + 1, h, k, hk => by
    unfold firstN at h
    rcases g : firstN f n with _ | b
    · rw [g] at h
      rcases Nat.lt_succ_iff_lt_or_eq.1 hk with j | rfl
      · exact firstN_none n g k j
      · exact h
    · rw [g] at h; cases h
/-- No line: the differences hold 0. -/
theorem line_none {A B : List (Int × Int)} (hA : 1 ≤ A.length) (hB : 1 ≤ B.length) (h : lineL (cornersL A) (cornersL B) = none) : holdsL (cornersL (diffs (cornersL A) (cornersL B))) 0 0 1 = true := by
  cases k : holdsL (cornersL (diffs (cornersL A) (cornersL B))) 0 0 1 with
  | true => rfl
  | false =>
    exfalso
    obtain ⟨v, hv, hs⟩ := dir_works hA hB k
    obtain ⟨i, hi, rfl⟩ := mem_at hv
    have := firstN_none _ h i hi
    unfold lineE at this
    rcases hs with hs | hs
    · rw [if_pos hs] at this; cases this
    · by_cases g : hiL ((dirsL (two (cornersL A) (cornersL B))).getD i (0, 0)) (cornersL A) < loL ((dirsL (two (cornersL A) (cornersL B))).getD i (0, 0)) (cornersL B)
      · rw [if_pos g] at this; cases this
      · rw [if_neg g, if_pos hs] at this; cases this
theorem hi_scale (c : Int) (hc : 0 ≤ c) (v : Int × Int) {ps : List (Int × Int)} (h : 1 ≤ ps.length) : hiL (c * v.1, c * v.2) ps = c * hiL v ps := by
  obtain ⟨p1, x, hx, e⟩ := hiL_spec (c * v.1, c * v.2) h
  obtain ⟨p2, y, hy, f⟩ := hiL_spec v h
  have n : ∀ z : Int × Int, pr (c * v.1, c * v.2) z = c * pr v z := fun z => by unfold pr; grind
  have q1 := p1 y hy
  have q2 := Int.mul_le_mul_of_nonneg_left (p2 x hx) hc
  rw [n] at e q1
  rw [f] at q2 ⊢
  omega
theorem lo_scale (c : Int) (hc : 0 ≤ c) (v : Int × Int) {ps : List (Int × Int)} (h : 1 ≤ ps.length) : loL (c * v.1, c * v.2) ps = c * loL v ps := by
  obtain ⟨p1, x, hx, e⟩ := loL_spec (c * v.1, c * v.2) h
  obtain ⟨p2, y, hy, f⟩ := loL_spec v h
  have n : ∀ z : Int × Int, pr (c * v.1, c * v.2) z = c * pr v z := fun z => by unfold pr; grind
  have q1 := p1 y hy
  have q2 := Int.mul_le_mul_of_nonneg_left (p2 x hx) hc
  rw [n] at e q1
  rw [f] at q2 ⊢
  omega
theorem hi_neg (v : Int × Int) {ps : List (Int × Int)} (h : 1 ≤ ps.length) : hiL (-v.1, -v.2) ps = -loL v ps ∧ loL (-v.1, -v.2) ps = -hiL v ps := by
  obtain ⟨p1, x, hx, e⟩ := hiL_spec (-v.1, -v.2) h
  obtain ⟨p2, y, hy, f⟩ := loL_spec v h
  obtain ⟨p3, x', hx', e'⟩ := loL_spec (-v.1, -v.2) h
  obtain ⟨p4, y', hy', f'⟩ := hiL_spec v h
  have n : ∀ z : Int × Int, pr (-v.1, -v.2) z = -pr v z := fun z => by unfold pr; grind
  have q1 := p1 y hy
  have q2 := p2 x hx
  have q3 := p3 y' hy'
  have q4 := p4 x' hx'
  rw [n] at e q1 e' q3
  omega
/-- A line that is found is a right verdict. -/
theorem line_right {P Q : List (Int × Int)} (hP : 1 ≤ P.length) (hQ : 1 ≤ Q.length) (cP : Cos P) (cQ : Cos Q) {t : Int × Int × Int} (h : lineL P Q = some t) : rlineL P Q ⟨false, 0, 0, 0, t.1, t.2.1, t.2.2⟩ = true := by
  obtain ⟨k, hk, e⟩ := firstN_some _ h
  have hv := dirs_at cP cQ k
  have b1 := hiT_bd hv.vc cP (P.length - 1)
  have b2 := hiT_bd hv.vc cQ (Q.length - 1)
  have b3 := loT_bd hv.vc cP (P.length - 1)
  have b4 := loT_bd hv.vc cQ (Q.length - 1)
  generalize (dirsL (two P Q)).getD k (0, 0) = v at *
  change -8796093022208 ≤ hiL v P ∧ hiL v P ≤ 8796093022208 at b1
  change -8796093022208 ≤ hiL v Q ∧ hiL v Q ≤ 8796093022208 at b2
  change -8796093022208 ≤ loL v P ∧ loL v P ≤ 8796093022208 at b3
  change -8796093022208 ≤ loL v Q ∧ loL v Q ≤ 8796093022208 at b4
  obtain ⟨⟨u1, u2⟩, v1, v2⟩ := hv
  unfold lineE at e
  unfold rlineL lnOk
  simp only [Bool.and_eq_true, decide_eq_true_eq]
  by_cases g : hiL v P < loL v Q
  · rw [if_pos g] at e
    obtain rfl := Option.some.inj e
    dsimp only
    rw [hi_scale 2 (by omega) v hP, lo_scale 2 (by omega) v hQ]
    refine ⟨⟨trivial, trivial, trivial, ⟨?_, ?_⟩, ⟨?_, ?_⟩, ?_, ?_⟩, ?_, ?_⟩ <;> omega
  · rw [if_neg g] at e
    by_cases g2 : hiL v Q < loL v P
    · rw [if_pos g2] at e
      obtain rfl := Option.some.inj e
      dsimp only
      have s1 := hi_scale 2 (by omega) (-v.1, -v.2) hP
      have s2 := lo_scale 2 (by omega) (-v.1, -v.2) hQ
      rw [(hi_neg v hP).1] at s1
      rw [(hi_neg v hQ).2] at s2
      dsimp only at s1 s2
      have m1 : ∀ z : Int, 2 * -z = -2 * z := fun z => by omega
      rw [m1 v.1, m1 v.2] at s1 s2
      rw [s1, s2]
      refine ⟨⟨trivial, trivial, trivial, ⟨?_, ?_⟩, ⟨?_, ?_⟩, ?_, ?_⟩, ?_, ?_⟩ <;> omega
    · rw [if_neg g2] at e; cases e

end Go.Proofs.YtpnkpejnahhajaaGreat

namespace Go.Proofs.YtpnkpejnahhajaaGreat
open Go.RowKit

theorem mean_le {a b c p q r m : Int} (ha : 0 ≤ a) (hb : 0 ≤ b) (hc : 0 ≤ c) (hp : p ≤ m) (hq : q ≤ m) (hr : r ≤ m) : a * p + b * q + c * r ≤ m * (a + b + c) := by
  have k1 := Int.mul_le_mul_of_nonneg_left hp ha
  have k2 := Int.mul_le_mul_of_nonneg_left hq hb
  have k3 := Int.mul_le_mul_of_nonneg_left hr hc
  have e : m * (a + b + c) = a * m + b * m + c * m := by grind
  omega
theorem le_mean {a b c p q r m : Int} (ha : 0 ≤ a) (hb : 0 ≤ b) (hc : 0 ≤ c) (hp : m ≤ p) (hq : m ≤ q) (hr : m ≤ r) : m * (a + b + c) ≤ a * p + b * q + c * r := by
  have k1 := Int.mul_le_mul_of_nonneg_left hp ha
  have k2 := Int.mul_le_mul_of_nonneg_left hq hb
  have k3 := Int.mul_le_mul_of_nonneg_left hr hc
  have e : m * (a + b + c) = a * m + b * m + c * m := by grind
  omega
/-- Of a hull of one or two corners each edge has all corners for its ends. -/
theorem ends_all {C : List (Int × Int)} (h3 : C.length < 3) {i : Nat} (hi : i < C.length) : ∀ x ∈ C, x = (ed C i).1 ∨ x = (ed C i).2 := by
  intro x hx
  match C, h3 with
  | [], _ => simp at hx
  | [a], _ =>
    have : i = 0 := by simpa using hi
    subst this
    left; simpa [ed] using hx
  | [a, b], _ =>
    have h2 : i = 0 ∨ i = 1 := by simp at hi; omega
    rcases h2 with rfl | rfl
    · simpa [ed] using hx
    · have := (show x = a ∨ x = b by simpa using hx)
      simp [ed]; exact this.symm
theorem held_comb {l : List (Int × Int)} (h1 : 1 ≤ l.length) {p q r : Int × Int} (hp : p ∈ l) (hq : q ∈ l) (hr : r ∈ l) {a b c : Int} (ha : 0 ≤ a) (hb : 0 ≤ b) (hc : 0 ≤ c) :
    holdsL (cornersL l) (a * p.1 + b * q.1 + c * r.1) (a * p.2 + b * q.2 + c * r.2) (a + b + c) = true := by
  have F := (corners_facts l h1).1
  have T := fun α β (z : Int × Int) (hz : z ∈ l) => corners_top l h1 α β hz
  generalize cornersL l = C at *
  unfold holdsL
  refine range_all fun i hi => ?_
  unfold okE
  rw [Bool.and_eq_true]
  constructor
  · have e : ed C i = (C.getD i (0, 0), C.getD ((i + 1) % C.length) (0, 0)) := rfl
    have hs : 0 ≤ cr (ed C i).1 (ed C i).2 p ∧ 0 ≤ cr (ed C i).1 (ed C i).2 q ∧ 0 ≤ cr (ed C i).1 (ed C i).2 r := by
      rw [e]
      rcases Nat.lt_or_ge 1 C.length with k | k
      · exact ⟨F k i hi p hp, F k i hi q hq, F k i hi r hr⟩
      · have hl : C.length = 1 := by omega
        have h0 : i = 0 := by omega
        have z : ∀ t : Int × Int, 0 ≤ cr (C.getD i (0, 0)) (C.getD ((i + 1) % C.length) (0, 0)) t := fun t => by
          rw [hl, Nat.mod_one, h0]
          have : cr (C.getD 0 (0, 0)) (C.getD 0 (0, 0)) t = 0 := by unfold cr crs; grind
          omega
        exact ⟨z p, z q, z r⟩
    obtain ⟨s1, s2, s3⟩ := hs
    generalize ed C i = f at *
    obtain ⟨⟨x, y⟩, x', y'⟩ := f
    unfold sideE
    rw [Bool.not_eq_true', decide_eq_false_iff_not]
    unfold cr crs at s1 s2 s3
    dsimp only at *
    have k1 := Int.mul_nonneg ha s1
    have k2 := Int.mul_nonneg hb s2
    have k3 := Int.mul_nonneg hc s3
    have e : (x' - x) * ((a * p.2 + b * q.2 + c * r.2) - y * (a + b + c)) - (y' - y) * ((a * p.1 + b * q.1 + c * r.1) - x * (a + b + c)) = a * ((x' - x) * (p.2 - y) - (y' - y) * (p.1 - x)) + b * ((x' - x) * (q.2 - y) - (y' - y) * (q.1 - x)) + c * ((x' - x) * (r.2 - y) - (y' - y) * (r.1 - x)) := by grind
    omega
  · rw [Bool.or_eq_true, decide_eq_true_eq]
    by_cases h3 : 3 ≤ C.length
    · exact Or.inl h3
    · right
      have E := ends_all (by omega : C.length < 3) hi
      have box : ∀ z ∈ l, (min (ed C i).1.1 (ed C i).2.1 ≤ z.1 ∧ z.1 ≤ max (ed C i).1.1 (ed C i).2.1) ∧ min (ed C i).1.2 (ed C i).2.2 ≤ z.2 ∧ z.2 ≤ max (ed C i).1.2 (ed C i).2.2 := fun z hz => by
        obtain ⟨x1, hx1, k1⟩ := T 1 0 z hz
        obtain ⟨x2, hx2, k2⟩ := T (-1) 0 z hz
        obtain ⟨x3, hx3, k3⟩ := T 0 1 z hz
        obtain ⟨x4, hx4, k4⟩ := T 0 (-1) z hz
        have e1 := E x1 hx1
        have e2 := E x2 hx2
        have e3 := E x3 hx3
        have e4 := E x4 hx4
        refine ⟨⟨?_, ?_⟩, ?_, ?_⟩
        · rcases e2 with h | h <;> rw [h] at k2 <;> omega
        · rcases e1 with h | h <;> rw [h] at k1 <;> omega
        · rcases e4 with h | h <;> rw [h] at k4 <;> omega
        · rcases e3 with h | h <;> rw [h] at k3 <;> omega
      obtain ⟨⟨a1, a2⟩, a3, a4⟩ := box p hp
      obtain ⟨⟨b1, b2⟩, b3, b4⟩ := box q hq
      obtain ⟨⟨c1, c2⟩, c3, c4⟩ := box r hr
      unfold btwT
      simp only [Bool.and_eq_true, decide_eq_true_eq]
      exact ⟨le_mean ha hb hc a1 b1 c1, mean_le ha hb hc a2 b2 c2, le_mean ha hb hc a3 b3 c3, mean_le ha hb hc a4 b4 c4⟩

end Go.Proofs.YtpnkpejnahhajaaGreat

namespace Go.Proofs.YtpnkpejnahhajaaGreat
open Go.RowKit

/-- The first corner comes before all others. -/
theorem corners_first (l : List (Int × Int)) (h1 : 1 ≤ l.length) {j : Nat} (h0 : 0 < j) (hj : j < (cornersL l).length) : lt2 ((cornersL l).getD 0 (0, 0)) ((cornersL l).getD j (0, 0)) := by
  have hpos := sdL_pos l h1
  by_cases h : (sdL l).length = 1
  · have hc : (cornersL l).length = 1 := by unfold cornersL; rw [if_pos h]; exact h
    omega
  · obtain ⟨m, M, L, U, hH, e, e'⟩ := hul_of (sdL_rise l) (by omega)
    rw [corners_ring h e e'] at hj ⊢
    rw [hH.first]
    have hs : (ring m M L U).getD j (0, 0) ∈ sdL l := by
      rcases (hH.mem _).1 (at_mem hj) with k | k
      · exact hH.ml _ k
      · exact hH.mu _ k
    rcases hH.lo _ hs with k | k
    · exact absurd k (hH.once h0 hj)
    · exact k
theorem sign_change {f : Nat → Int} : ∀ n, 0 ≤ f 0 → f (n + 1) ≤ 0 → ∃ k, k ≤ n ∧ 0 ≤ f k ∧ f (k + 1) ≤ 0
  | 0, h0, h1 => ⟨0, by omega, h0, h1⟩
  | n + 1, h0, h1 => by
    rcases Int.le_total (f (n + 1)) 0 with h | h
    · obtain ⟨k, hk, a, b⟩ := sign_change n h0 h
      exact ⟨k, by omega, a, b⟩
    · exact ⟨n + 1, by omega, h, h1⟩
theorem behind2 {a b c q : Int × Int} (h1 : lt2 b a) (h2 : lt2 q b) (h0 : cr a b q = 0) (h3 : 0 < cr a b c) (h4 : 0 ≤ cr b c q) : False := by
  have k : 0 < -cr b c q := by
    refine comb_pos (a := 0) (b := cr a b c) (vx := a.1 - b.1) (vy := a.2 - b.2) (wx := 0) (wy := 0) (ux := b.1 - q.1) (uy := b.2 - q.2) ?_ ?_ h1.lp h2.lp (Or.inr ⟨rfl, by omega⟩) (by omega) h3
    · unfold cr crs at *; clear h1 h2 h3 h4; grind
    · unfold cr crs at *; clear h1 h2 h3 h4; grind
  omega
/-- The fan at the first corner. -/
theorem fan_pos {l : List (Int × Int)} (h1 : 1 ≤ l.length) {k : Nat} (h0 : 0 < k) (hk : k + 1 < (cornersL l).length) : 0 < cr ((cornersL l).getD 0 (0, 0)) ((cornersL l).getD k (0, 0)) ((cornersL l).getD (k + 1) (0, 0)) := by
  have F := corners_facts l h1
  have z : (cornersL l).getD 0 (0, 0) ∈ l := cornersL_mem l _ (at_mem (by omega))
  have m1 := corners_first l h1 h0 (by omega : k < (cornersL l).length)
  have m2 := corners_first l h1 (by omega : 0 < k + 1) hk
  have a1 := F.1 (by omega) k (by omega) _ z
  have a0 := F.1 (by omega) (k - 1) (by omega) _ z
  have a2 := F.1 (by omega) (k + 1) (by omega) _ z
  have t0 := F.2 (by omega) (k - 1) (by omega)
  have t1 := F.2 (by omega) k (by omega)
  rw [Nat.mod_eq_of_lt hk] at a1 t1
  rw [show k - 1 + 1 = k by omega, Nat.mod_eq_of_lt (by omega : k < (cornersL l).length)] at a0 t0
  rw [show k - 1 + 2 = k + 1 by omega, Nat.mod_eq_of_lt hk] at t0
  rw [show k + 1 + 1 = k + 2 by omega] at a2
  generalize (cornersL l).getD 0 (0, 0) = A at *
  generalize (cornersL l).getD k (0, 0) = B at *
  generalize (cornersL l).getD (k + 1) (0, 0) = C at *
  generalize (cornersL l).getD (k - 1) (0, 0) = Z at *
  generalize (cornersL l).getD ((k + 2) % (cornersL l).length) (0, 0) = D at *
  rcases Int.lt_or_le 0 (cr A B C) with h | h
  · exact h
  · exfalso
    have e : cr B C A = 0 := by have := cr_cyc A B C; omega
    rcases lt2.tri B C with k1 | k1 | k1
    · exact behind k1 m1 e t0 a0
    · rw [k1, cr_self2] at t0; omega
    · exact behind2 k1 m2 e t1 a2
theorem ones (x y : Int) : 1 * x + 0 * y + 0 * y = x := by omega
/-- Where a hull holds 0, it is a mean of three points of the set. -/
theorem zero_weights {l : List (Int × Int)} (h1 : 1 ≤ l.length) (h : holdsL (cornersL l) 0 0 1 = true) :
    ∃ x ∈ l, ∃ y ∈ l, ∃ z ∈ l, ∃ a b c : Int, 0 ≤ a ∧ 0 ≤ b ∧ 0 ≤ c ∧ 1 ≤ a + b + c ∧ a * x.1 + b * y.1 + c * z.1 = 0 ∧ a * x.2 + b * y.2 + c * z.2 = 0 := by
  have hn := (cornersL_len l h1).1
  have hmem := cornersL_mem l
  by_cases h3 : (cornersL l).length < 3
  · have hb := holds_btw h h3 (i := 0) (by omega)
    have s0 := okE_side (holds_at h (i := 0) (by omega))
    have s1 := fun (k : 1 < (cornersL l).length) => okE_side (holds_at h (i := 1) k)
    generalize cornersL l = C at *
    match C, h3, hn with
    | [p], _, _ =>
      have e0 : ed [p] 0 = (p, p) := by simp [ed]
      rw [e0] at hb
      obtain ⟨⟨b1, b2⟩, b3, b4⟩ := btw_box hb
      dsimp only at b1 b2 b3 b4
      rw [Int.min_self] at b1 b3
      rw [Int.max_self] at b2 b4
      have hp := hmem p (by simp)
      exact ⟨p, hp, p, hp, p, hp, 1, 0, 0, by omega, by omega, by omega, by omega, by omega, by omega⟩
    | [p, q], _, _ =>
      have e0 : ed [p, q] 0 = (p, q) := by simp [ed]
      have e1 : ed [p, q] 1 = (q, p) := by simp [ed]
      have s1 := s1 (by simp)
      rw [e0] at hb s0
      rw [e1] at s1
      obtain ⟨⟨b1, b2⟩, b3, b4⟩ := btw_box hb
      dsimp only at b1 b2 b3 b4 s0 s1
      simp only [Int.mul_one, Int.zero_sub] at b1 b2 b3 b4 s0 s1
      have f0 : (q.1 - p.1) * -p.2 = -(q.1 * p.2) + p.1 * p.2 := by grind
      have f1 : (q.2 - p.2) * -p.1 = -(p.1 * q.2) + p.1 * p.2 := by grind
      have f2 : (p.1 - q.1) * -q.2 = -(p.1 * q.2) + q.1 * q.2 := by grind
      have f3 : (p.2 - q.2) * -q.1 = -(q.1 * p.2) + q.1 * q.2 := by grind
      rw [f0, f1] at s0
      rw [f2, f3] at s1
      have hc : p.1 * q.2 = q.1 * p.2 := by omega
      have hp := hmem p (by simp)
      have hq := hmem q (by simp)
      have g1 : q.1 * p.1 = p.1 * q.1 := Int.mul_comm _ _
      have g2 : q.2 * p.2 = p.2 * q.2 := Int.mul_comm _ _
      have g3 : q.2 * p.1 = p.1 * q.2 := Int.mul_comm _ _
      have g4 : p.2 * q.1 = q.1 * p.2 := Int.mul_comm _ _
      by_cases c1 : p.1 = 0 ∧ q.1 = 0
      · by_cases c2 : p.2 = 0 ∧ q.2 = 0
        · exact ⟨p, hp, p, hp, p, hp, 1, 0, 0, by omega, by omega, by omega, by omega, by omega, by omega⟩
        · rcases (show (p.2 ≤ 0 ∧ 0 ≤ q.2) ∨ (q.2 ≤ 0 ∧ 0 ≤ p.2) by omega) with k | k
          · exact ⟨p, hp, q, hq, q, hq, q.2, -p.2, 0, by omega, by omega, by omega, by omega, by rw [c1.1, c1.2]; simp, by rw [Int.neg_mul]; omega⟩
          · exact ⟨p, hp, q, hq, q, hq, -q.2, p.2, 0, by omega, by omega, by omega, by omega, by rw [c1.1, c1.2]; simp, by rw [Int.neg_mul]; omega⟩
      · rcases (show (p.1 ≤ 0 ∧ 0 ≤ q.1) ∨ (q.1 ≤ 0 ∧ 0 ≤ p.1) by omega) with k | k
        · exact ⟨p, hp, q, hq, q, hq, q.1, -p.1, 0, by omega, by omega, by omega, by omega, by rw [Int.neg_mul]; omega, by rw [Int.neg_mul]; omega⟩
        · exact ⟨p, hp, q, hq, q, hq, -q.1, p.1, 0, by omega, by omega, by omega, by omega, by rw [Int.neg_mul]; omega, by rw [Int.neg_mul]; omega⟩
    | _ :: _ :: _ :: _, h3, _ => exact absurd h3 (by simp)
  · have side : ∀ i, i < (cornersL l).length → 0 ≤ cr ((cornersL l).getD i (0, 0)) ((cornersL l).getD ((i + 1) % (cornersL l).length) (0, 0)) (0, 0) := fun i hi => by
      have s := okE_side (holds_at h hi)
      unfold ed at s
      dsimp only at s
      simp only [Int.mul_one] at s
      unfold cr crs
      dsimp only
      omega
    obtain ⟨k, hk, f1, f2⟩ := sign_change (f := fun k => cr ((cornersL l).getD 0 (0, 0)) ((cornersL l).getD (k + 1) (0, 0)) (0, 0)) ((cornersL l).length - 3)
      (by have := side 0 (by omega)
          rwa [Nat.mod_eq_of_lt (by omega : 0 + 1 < (cornersL l).length)] at this)
      (by have := side ((cornersL l).length - 1) (by omega)
          rw [show (cornersL l).length - 1 + 1 = (cornersL l).length by omega, Nat.mod_self] at this
          have e := cr_cyc ((cornersL l).getD 0 (0, 0)) (0, 0) ((cornersL l).getD ((cornersL l).length - 1) (0, 0))
          have e2 := cr_swap ((cornersL l).getD 0 (0, 0)) ((cornersL l).getD ((cornersL l).length - 1) (0, 0)) (0, 0)
          have e3 := cr_cyc ((cornersL l).getD ((cornersL l).length - 1) (0, 0)) ((cornersL l).getD 0 (0, 0)) (0, 0)
          show cr ((cornersL l).getD 0 (0, 0)) ((cornersL l).getD ((cornersL l).length - 3 + 1 + 1) (0, 0)) (0, 0) ≤ 0
          rw [show (cornersL l).length - 3 + 1 + 1 = (cornersL l).length - 1 by omega]
          omega)
    have p := fan_pos h1 (by omega : 0 < k + 1) (by omega : k + 1 + 1 < (cornersL l).length)
    have s := side (k + 1) (by omega)
    rw [Nat.mod_eq_of_lt (by omega : k + 1 + 1 < (cornersL l).length)] at s
    have i0 := hmem _ (at_mem (ps := cornersL l) (i := 0) (by omega))
    have i1 := hmem _ (at_mem (ps := cornersL l) (i := k + 1) (by omega))
    have i2 := hmem _ (at_mem (ps := cornersL l) (i := k + 1 + 1) (by omega))

    generalize (cornersL l).getD 0 (0, 0) = A at *
    generalize (cornersL l).getD (k + 1) (0, 0) = B at *
    generalize (cornersL l).getD (k + 1 + 1) (0, 0) = C at *
    refine ⟨A, i0, B, i1, C, i2, cr B C (0, 0), -cr A C (0, 0), cr A B (0, 0), s, by omega, f1, ?_, ?_, ?_⟩
    · have e : cr B C (0, 0) + -cr A C (0, 0) + cr A B (0, 0) = cr A B C := by unfold cr crs; dsimp only; clear p s i0 i1 i2 f1 f2; grind
      omega
    · unfold cr crs; dsimp only; clear p s i0 i1 i2 f1 f2; grind
    · unfold cr crs; dsimp only; clear p s i0 i1 i2 f1 f2; grind
/-- Where the differences hold 0, the hulls have a place in common. -/
theorem common_place {A B : List (Int × Int)} (hA : 1 ≤ A.length) (hB : 1 ≤ B.length) (h : holdsL (cornersL (diffs (cornersL A) (cornersL B))) 0 0 1 = true) :
    ∃ X Y d : Int, 1 ≤ d ∧ holdsL (cornersL A) X Y d = true ∧ holdsL (cornersL B) X Y d = true := by
  have hlen : 1 ≤ (diffs (cornersL A) (cornersL B)).length := List.length_pos_of_mem (mem_diffs.2 ⟨_, at_mem (i := 0) (by have := (cornersL_len A hA).1; omega), _, at_mem (i := 0) (by have := (cornersL_len B hB).1; omega), rfl⟩)
  obtain ⟨x, hx, y, hy, z, hz, a, b, c, ha, hb, hc, hs, e1, e2⟩ := zero_weights hlen h
  obtain ⟨p1, hp1, q1, hq1, rfl⟩ := mem_diffs.1 hx
  obtain ⟨p2, hp2, q2, hq2, rfl⟩ := mem_diffs.1 hy
  obtain ⟨p3, hp3, q3, hq3, rfl⟩ := mem_diffs.1 hz
  dsimp only at e1 e2
  have m := cornersL_mem A
  have n := cornersL_mem B
  refine ⟨a * p1.1 + b * p2.1 + c * p3.1, a * p1.2 + b * p2.2 + c * p3.2, a + b + c, hs, held_comb hA (m _ hp1) (m _ hp2) (m _ hp3) ha hb hc, ?_⟩
  have k := held_comb hB (n _ hq1) (n _ hq2) (n _ hq3) ha hb hc
  have f1 : a * q1.1 + b * q2.1 + c * q3.1 = a * p1.1 + b * p2.1 + c * p3.1 := by
    have : a * (q1.1 - p1.1) + b * (q2.1 - p2.1) + c * (q3.1 - p3.1) = (a * q1.1 + b * q2.1 + c * q3.1) - (a * p1.1 + b * p2.1 + c * p3.1) := by grind
    omega
  have f2 : a * q1.2 + b * q2.2 + c * q3.2 = a * p1.2 + b * p2.2 + c * p3.2 := by
    have : a * (q1.2 - p1.2) + b * (q2.2 - p2.2) + c * (q3.2 - p3.2) = (a * q1.2 + b * q2.2 + c * q3.2) - (a * p1.2 + b * p2.2 + c * p3.2) := by grind
    omega
  rw [f1, f2] at k
  exact k

end Go.Proofs.YtpnkpejnahhajaaGreat

namespace Go.Proofs.YtpnkpejnahhajaaGreat
open Go.RowKit

/-- The side of a place to an edge, and: it is on the edge. -/
def gE (e : (Int × Int) × (Int × Int)) (X Y d : Int) : Int := (e.2.1 - e.1.1) * (Y - e.1.2 * d) - (e.2.2 - e.1.2) * (X - e.1.1 * d)
def OnE (e : (Int × Int) × (Int × Int)) (X Y d : Int) : Prop := gE e X Y d = 0 ∧ btwT e.1.1 e.1.2 e.2.1 e.2.2 X Y d = true
theorem side_g {e : (Int × Int) × (Int × Int)} {X Y d : Int} : sideE e X Y d = false ↔ 0 ≤ gE e X Y d := by
  unfold sideE gE
  rw [decide_eq_false_iff_not]; omega
theorem g_mix (e : (Int × Int) × (Int × Int)) (X Y d X' Y' d' s t : Int) : gE e (s * X + t * X') (s * Y + t * Y') (s * d + t * d') = s * gE e X Y d + t * gE e X' Y' d' := by unfold gE; grind
theorem box_btw {ax ay bx by_ px py d : Int} (h : (min ax bx * d ≤ px ∧ px ≤ max ax bx * d) ∧ min ay by_ * d ≤ py ∧ py ≤ max ay by_ * d) : btwT ax ay bx by_ px py d = true := by
  unfold btwT
  simp only [Bool.and_eq_true, decide_eq_true_eq]
  exact ⟨h.1.1, h.1.2, h.2.1, h.2.2⟩
theorem mix_le {m X d X' d' s t : Int} (h : m * d ≤ X) (h' : m * d' ≤ X') (hs : 0 ≤ s) (ht : 0 ≤ t) : m * (s * d + t * d') ≤ s * X + t * X' := by
  have k1 := Int.mul_le_mul_of_nonneg_left h hs
  have k2 := Int.mul_le_mul_of_nonneg_left h' ht
  have e : m * (s * d + t * d') = s * (m * d) + t * (m * d') := by grind
  omega
theorem le_mix {m X d X' d' s t : Int} (h : X ≤ m * d) (h' : X' ≤ m * d') (hs : 0 ≤ s) (ht : 0 ≤ t) : s * X + t * X' ≤ m * (s * d + t * d') := by
  have k1 := Int.mul_le_mul_of_nonneg_left h hs
  have k2 := Int.mul_le_mul_of_nonneg_left h' ht
  have e : m * (s * d + t * d') = s * (m * d) + t * (m * d') := by grind
  omega
theorem btw_mix {a b c e X Y d X' Y' d' s t : Int} (h : btwT a b c e X Y d = true) (h' : btwT a b c e X' Y' d' = true) (hs : 0 ≤ s) (ht : 0 ≤ t) : btwT a b c e (s * X + t * X') (s * Y + t * Y') (s * d + t * d') = true := by
  obtain ⟨⟨a1, a2⟩, a3, a4⟩ := btw_box h
  obtain ⟨⟨b1, b2⟩, b3, b4⟩ := btw_box h'
  exact box_btw ⟨⟨mix_le a1 b1 hs ht, le_mix a2 b2 hs ht⟩, mix_le a3 b3 hs ht, le_mix a4 b4 hs ht⟩
theorem on_mix {e : (Int × Int) × (Int × Int)} {X Y d X' Y' d' s t : Int} (h : OnE e X Y d) (h' : OnE e X' Y' d') (hs : 0 ≤ s) (ht : 0 ≤ t) : OnE e (s * X + t * X') (s * Y + t * Y') (s * d + t * d') :=
  ⟨by rw [g_mix, h.1, h'.1]; omega, btw_mix h.2 h'.2 hs ht⟩
theorem ok_iff {ps : List (Int × Int)} {X Y d : Int} {i : Nat} : okE ps X Y d i = true ↔ 0 ≤ gE (ed ps i) X Y d ∧ (3 ≤ ps.length ∨ btwT (ed ps i).1.1 (ed ps i).1.2 (ed ps i).2.1 (ed ps i).2.2 X Y d = true) := by
  unfold okE
  rw [Bool.and_eq_true, Bool.or_eq_true, decide_eq_true_eq, Bool.not_eq_true', side_g]
theorem holds_iff {ps : List (Int × Int)} {X Y d : Int} : holdsL ps X Y d = true ↔ ∀ i, i < ps.length → 0 ≤ gE (ed ps i) X Y d ∧ (3 ≤ ps.length ∨ btwT (ed ps i).1.1 (ed ps i).1.2 (ed ps i).2.1 (ed ps i).2.2 X Y d = true) :=
  ⟨fun h i hi => ok_iff.1 (holds_at h hi), fun h => by unfold holdsL; exact range_all fun i hi => ok_iff.2 (h i hi)⟩
theorem holds_mix {ps : List (Int × Int)} {X Y d X' Y' d' s t : Int} (h : holdsL ps X Y d = true) (h' : holdsL ps X' Y' d' = true) (hs : 0 ≤ s) (ht : 0 ≤ t) : holdsL ps (s * X + t * X') (s * Y + t * Y') (s * d + t * d') = true := by
  rw [holds_iff] at *
  intro i hi
  obtain ⟨a1, a2⟩ := h i hi
  obtain ⟨b1, b2⟩ := h' i hi
  refine ⟨?_, ?_⟩
  · rw [g_mix]
    have := Int.mul_nonneg hs a1
    have := Int.mul_nonneg ht b1
    omega
  · rcases a2 with k | k
    · exact Or.inl k
    · rcases b2 with k2 | k2
      · exact Or.inl k2
      · exact Or.inr (btw_mix k k2 hs ht)
theorem g_scale (e : (Int × Int) × (Int × Int)) (X Y d k : Int) : gE e (k * X) (k * Y) (k * d) = k * gE e X Y d := by unfold gE; grind
theorem holds_down {ps : List (Int × Int)} {X Y d k : Int} (hk : 0 < k) (h : holdsL ps (k * X) (k * Y) (k * d) = true) : holdsL ps X Y d = true := by
  rw [holds_iff] at *
  intro i hi
  obtain ⟨a1, a2⟩ := h i hi
  refine ⟨?_, ?_⟩
  · rw [g_scale] at a1
    rcases Int.lt_or_le (gE (ed ps i) X Y d) 0 with j | j
    · have := Int.mul_neg_of_pos_of_neg hk j; omega
    · exact j
  · rcases a2 with j | j
    · exact Or.inl j
    · right
      obtain ⟨⟨b1, b2⟩, b3, b4⟩ := btw_box j
      have m : ∀ a x : Int, a * (k * x) = k * (a * x) := fun a x => by grind
      rw [m] at b1 b2 b3 b4
      exact box_btw ⟨⟨Int.le_of_mul_le_mul_left b1 hk, Int.le_of_mul_le_mul_left b2 hk⟩, Int.le_of_mul_le_mul_left b3 hk, Int.le_of_mul_le_mul_left b4 hk⟩
/-- A point of a set is in its hull. -/
theorem point_held {l : List (Int × Int)} {p : Int × Int} (hp : p ∈ l) : holdsL (cornersL l) p.1 p.2 1 = true := by
  have k := held_comb (List.length_pos_of_mem hp) hp hp hp (a := 1) (b := 0) (c := 0) (by omega) (by omega) (by omega)
  rw [ones, ones] at k
  exact k

theorem least_ratio {g h : Nat → Int} : ∀ n, (∃ i, i < n ∧ 0 < h i) → ∃ i, i < n ∧ 0 < h i ∧ ∀ k, k < n → 0 < h k → g i * h k ≤ g k * h i
  | 0, ⟨i, hi, _⟩ => by omega
  | n + 1, ⟨i, hi, hp⟩ => by
    by_cases hx : ∃ i, i < n ∧ 0 < h i
    · obtain ⟨j, hj, p, m⟩ := least_ratio (g := g) n hx
      by_cases c : 0 < h n ∧ g n * h j < g j * h n
      · refine ⟨n, by omega, c.1, fun k hk q => ?_⟩
        rcases Nat.lt_succ_iff_lt_or_eq.1 hk with r | r
        · have a := Int.mul_le_mul_of_nonneg_right (m k r q) (Int.le_of_lt c.1)
          have b := Int.mul_le_mul_of_nonneg_right (Int.le_of_lt c.2) (Int.le_of_lt q)
          have e1 : g n * h j * h k = h j * (g n * h k) := by grind
          have e2 : g j * h n * h k = g j * h k * h n := by grind
          have e3 : g k * h j * h n = h j * (g k * h n) := by grind
          exact Int.le_of_mul_le_mul_left (by omega : h j * (g n * h k) ≤ h j * (g k * h n)) p
        · rw [r]; exact Int.le_refl _
      · refine ⟨j, by omega, p, fun k hk q => ?_⟩
        rcases Nat.lt_succ_iff_lt_or_eq.1 hk with r | r
        · exact m k r q
        · subst r
          rcases Int.lt_or_le (g k * h j) (g j * h k) with u | u
          · exact absurd ⟨q, u⟩ c
          · exact u
    · have : i = n := by
        rcases Nat.lt_succ_iff_lt_or_eq.1 hi with r | r
        · exact absurd ⟨i, r, hp⟩ hx
        · exact r
      subst this
      refine ⟨i, by omega, hp, fun k hk q => ?_⟩
      rcases Nat.lt_succ_iff_lt_or_eq.1 hk with r | r
      · exact absurd ⟨k, r, q⟩ hx
      · rw [r]; exact Int.le_refl _

theorem part_of {K K' M M' u w d : Int} (hK : 0 < K) (hK' : 0 < K') (hM : 0 ≤ M) (hM' : 0 ≤ M') (e : K * w = M * u) (e' : K' * (d * u - w) = M' * u) : (0 ≤ w ∧ w ≤ d * u) ∨ (d * u ≤ w ∧ w ≤ 0) := by
  rcases Int.le_total 0 u with h | h
  · left
    have a := Int.mul_nonneg hM h
    have b := Int.mul_nonneg hM' h
    refine ⟨?_, ?_⟩
    · rcases Int.lt_or_le w 0 with k | k
      · have := Int.mul_neg_of_pos_of_neg hK k; omega
      · exact k
    · rcases Int.lt_or_le (d * u - w) 0 with k | k
      · have := Int.mul_neg_of_pos_of_neg hK' k; omega
      · omega
  · right
    have a := Int.mul_nonpos_of_nonneg_of_nonpos hM h
    have b := Int.mul_nonpos_of_nonneg_of_nonpos hM' h
    refine ⟨?_, ?_⟩
    · rcases Int.lt_or_le 0 (d * u - w) with k | k
      · have := Int.mul_pos hK' k; omega
      · omega
    · rcases Int.lt_or_le 0 w with k | k
      · have := Int.mul_pos hK k; omega
      · exact k
theorem ways_box {a b p d : Int} (hd : 0 ≤ d) (h : (0 ≤ p - a * d ∧ p - a * d ≤ d * (b - a)) ∨ (d * (b - a) ≤ p - a * d ∧ p - a * d ≤ 0)) : min a b * d ≤ p ∧ p ≤ max a b * d := by
  have e : d * (b - a) = b * d - a * d := by grind
  rcases Int.le_total a b with k | k
  · have := Int.mul_le_mul_of_nonneg_right k hd
    rw [Int.min_eq_left k, Int.max_eq_right k]; omega
  · have := Int.mul_le_mul_of_nonneg_right k hd
    rw [Int.min_eq_right k, Int.max_eq_left k]; omega
/-- On the line of an edge between strict turns: between its ends. -/
theorem on_box {p a b c : Int × Int} {X Y d : Int} (hd : 0 ≤ d) (t1 : 0 < cr p a b) (t2 : 0 < cr a b c) (g0 : gE (a, b) X Y d = 0) (g1 : 0 ≤ gE (p, a) X Y d) (g2 : 0 ≤ gE (b, c) X Y d) : OnE (a, b) X Y d := by
  refine ⟨g0, box_btw ⟨ways_box hd (part_of (K := cr p a b) (K' := cr a b c) (M := gE (p, a) X Y d) (M' := gE (b, c) X Y d) t1 t2 g1 g2 ?_ ?_), ways_box hd (part_of (K := cr p a b) (K' := cr a b c) (M := gE (p, a) X Y d) (M' := gE (b, c) X Y d) t1 t2 g1 g2 ?_ ?_)⟩⟩
  all_goals
    clear t1 t2 g1 g2
    unfold gE at *
    unfold cr crs
    dsimp only at *
    grind
theorem edge_ends {C : List (Int × Int)} {i : Nat} (hi : i < C.length) : (ed C i).1 ∈ C ∧ (ed C i).2 ∈ C :=
  ⟨at_mem hi, at_mem (Nat.mod_lt _ (by omega))⟩
/-- From a place in a hull towards a point outside: the last place in the hull, on an edge. -/
theorem leave {l : List (Int × Int)} (h1 : 1 ≤ l.length) {X Y d : Int} (hd : 1 ≤ d) (hz : holdsL (cornersL l) X Y d = true) {q : Int × Int} (hq : holdsL (cornersL l) q.1 q.2 1 = false) :
    ∃ s t i, 0 ≤ s ∧ 0 ≤ t ∧ 1 ≤ s * d + t * 1 ∧ i < (cornersL l).length ∧ holdsL (cornersL l) (s * X + t * q.1) (s * Y + t * q.2) (s * d + t * 1) = true ∧ OnE (ed (cornersL l) i) (s * X + t * q.1) (s * Y + t * q.2) (s * d + t * 1) := by
  have hn := (cornersL_len l h1).1
  have F := (corners_facts l h1).2
  generalize cornersL l = C at *
  by_cases h3 : C.length < 3
  · refine ⟨1, 0, 0, by omega, by omega, by omega, by omega, ?_⟩
    have e : ∀ x y : Int, 1 * x + 0 * y = x := fun x y => by omega
    rw [e, e, e]
    refine ⟨hz, ?_, holds_btw hz h3 (by omega)⟩
    match C, h3, hn with
    | [a], _, _ => simp [ed, gE]
    | [a, b], _, _ =>
      have k0 := (holds_iff.1 hz 0 (by simp)).1
      have k1 := (holds_iff.1 hz 1 (by simp)).1
      have e0 : ed [a, b] 0 = (a, b) := by simp [ed]
      have e1 : ed [a, b] 1 = (b, a) := by simp [ed]
      rw [e0] at k0 ⊢
      rw [e1] at k1
      have : gE (b, a) X Y d = -gE (a, b) X Y d := by unfold gE; grind
      omega
    | _ :: _ :: _ :: _, h3, _ => exact absurd h3 (by simp)
  · have hG := fun i hi => (holds_iff.1 hz i hi).1
    have hV : ∃ i, i < C.length ∧ 0 < -gE (ed C i) q.1 q.2 1 := by
      by_cases hx : ∃ i, i < C.length ∧ 0 < -gE (ed C i) q.1 q.2 1
      · exact hx
      · exfalso
        have : holdsL C q.1 q.2 1 = true := holds_iff.2 fun i hi => ⟨by
          rcases Int.lt_or_le 0 (-gE (ed C i) q.1 q.2 1) with k | k
          · exact absurd ⟨i, hi, k⟩ hx
          · omega, Or.inl (by omega)⟩
        rw [hq] at this; cases this
    obtain ⟨i, hi, hp, hm⟩ := least_ratio (g := fun i => gE (ed C i) X Y d) (h := fun i => -gE (ed C i) q.1 q.2 1) _ hV
    have hgi := hG i hi
    have hh : holdsL C (-gE (ed C i) q.1 q.2 1 * X + gE (ed C i) X Y d * q.1) (-gE (ed C i) q.1 q.2 1 * Y + gE (ed C i) X Y d * q.2) (-gE (ed C i) q.1 q.2 1 * d + gE (ed C i) X Y d * 1) = true := holds_iff.2 fun k hk => ⟨by
      rw [g_mix]
      have hgk := hG k hk
      rcases Int.lt_or_le 0 (-gE (ed C k) q.1 q.2 1) with c | c
      · have := hm k hk c
        have e1 : gE (ed C i) X Y d * -gE (ed C k) q.1 q.2 1 = -(gE (ed C i) X Y d * gE (ed C k) q.1 q.2 1) := Int.mul_neg _ _
        have e2 : gE (ed C k) X Y d * -gE (ed C i) q.1 q.2 1 = -gE (ed C i) q.1 q.2 1 * gE (ed C k) X Y d := Int.mul_comm _ _
        omega
      · have a := Int.mul_nonneg (Int.le_of_lt hp) hgk
        have b := Int.mul_nonneg hgi (show 0 ≤ gE (ed C k) q.1 q.2 1 by omega)
        omega, Or.inl (by omega)⟩
    have hdd : 1 ≤ -gE (ed C i) q.1 q.2 1 * d + gE (ed C i) X Y d * 1 := by
      have := Int.mul_pos hp (by omega : 0 < d)
      omega
    refine ⟨-gE (ed C i) q.1 q.2 1, gE (ed C i) X Y d, i, by omega, hgi, hdd, hi, hh, ?_⟩
    have g0 : gE (ed C i) (-gE (ed C i) q.1 q.2 1 * X + gE (ed C i) X Y d * q.1) (-gE (ed C i) q.1 q.2 1 * Y + gE (ed C i) X Y d * q.2) (-gE (ed C i) q.1 q.2 1 * d + gE (ed C i) X Y d * 1) = 0 := by
      rw [g_mix, Int.neg_mul, Int.mul_comm]; omega
    have hG2 := fun i hi => (holds_iff.1 hh i hi).1
    generalize -gE (ed C i) q.1 q.2 1 * X + gE (ed C i) X Y d * q.1 = X' at *
    generalize -gE (ed C i) q.1 q.2 1 * Y + gE (ed C i) X Y d * q.2 = Y' at *
    generalize -gE (ed C i) q.1 q.2 1 * d + gE (ed C i) X Y d * 1 = d' at *
    obtain ⟨j, hj, hji⟩ : ∃ j, j < C.length ∧ (j + 1) % C.length = i := by
      by_cases h0 : i = 0
      · exact ⟨C.length - 1, by omega, by rw [show C.length - 1 + 1 = C.length by omega, Nat.mod_self, h0]⟩
      · exact ⟨i - 1, by omega, by rw [show i - 1 + 1 = i by omega]; exact Nat.mod_eq_of_lt hi⟩
    have hji2 : (j + 2) % C.length = (i + 1) % C.length := by rw [← hji, Nat.mod_add_mod]
    have hi2 : (i + 2) % C.length = ((i + 1) % C.length + 1) % C.length := by rw [Nat.mod_add_mod]
    have t1 := F (by omega) j hj
    have t2 := F (by omega) i hi
    rw [hji, hji2] at t1
    have a1 := hG2 j hj
    have a2 := hG2 ((i + 1) % C.length) (Nat.mod_lt _ (by omega))
    have d1 : ed C j = (C.getD j (0, 0), C.getD i (0, 0)) := by unfold ed; rw [hji]
    have d2 : ed C ((i + 1) % C.length) = (C.getD ((i + 1) % C.length) (0, 0), C.getD ((i + 2) % C.length) (0, 0)) := by unfold ed; rw [hi2]
    rw [d1] at a1
    rw [d2] at a2
    exact on_box (by omega) t1 t2 g0 a1 a2

theorem mean_x {a b X d : Int} (h : min a b * d ≤ X ∧ X ≤ max a b * d) (hl : a < b) : a * d ≤ X ∧ X ≤ b * d := by
  rwa [Int.min_eq_left (Int.le_of_lt hl), Int.max_eq_right (Int.le_of_lt hl)] at h
/-- A place on an edge is a mean of its ends. -/
theorem on_mean {e : (Int × Int) × (Int × Int)} {X Y d : Int} (hd : 1 ≤ d) (h : OnE e X Y d) :
    ∃ a b : Int, 0 ≤ a ∧ 0 ≤ b ∧ 1 ≤ a + b ∧ (a + b) * X = d * (a * e.1.1 + b * e.2.1) ∧ (a + b) * Y = d * (a * e.1.2 + b * e.2.2) := by
  obtain ⟨⟨x, y⟩, x', y'⟩ := e
  obtain ⟨g, hb⟩ := h
  obtain ⟨bx, by_⟩ := btw_box hb
  unfold gE at g
  dsimp only at *
  rcases Int.lt_trichotomy x x' with k | k | k
  · have b1 := mean_x bx k
    have p := Int.mul_pos (show 0 < x' - x by omega) (show 0 < d by omega)
    have e : (x' - x) * d = x' * d - x * d := Int.sub_mul _ _ _
    exact ⟨x' * d - X, X - x * d, by omega, by omega, by omega, by grind, by grind⟩
  · rcases Int.lt_trichotomy y y' with j | j | j
    · have b1 := mean_x by_ j
      have p := Int.mul_pos (show 0 < y' - y by omega) (show 0 < d by omega)
      have e : (y' - y) * d = y' * d - y * d := Int.sub_mul _ _ _
      exact ⟨y' * d - Y, Y - y * d, by omega, by omega, by omega, by grind, by grind⟩
    · subst k; subst j
      rw [Int.min_self, Int.max_self] at bx by_
      exact ⟨1, 0, by omega, by omega, by omega, by grind, by grind⟩
    · rw [Int.min_comm, Int.max_comm] at by_
      have b1 := mean_x by_ j
      have p := Int.mul_pos (show 0 < y - y' by omega) (show 0 < d by omega)
      have e : (y - y') * d = y * d - y' * d := Int.sub_mul _ _ _
      exact ⟨Y - y' * d, y * d - Y, by omega, by omega, by omega, by grind, by grind⟩
  · rw [Int.min_comm, Int.max_comm] at bx
    have b1 := mean_x bx k
    have p := Int.mul_pos (show 0 < x - x' by omega) (show 0 < d by omega)
    have e : (x - x') * d = x * d - x' * d := Int.sub_mul _ _ _
    exact ⟨X - x' * d, x * d - X, by omega, by omega, by omega, by grind, by grind⟩
/-- A place on an edge is in the hull. -/
theorem edge_held {l : List (Int × Int)} (h1 : 1 ≤ l.length) {i : Nat} (hi : i < (cornersL l).length) {X Y d : Int} (hd : 1 ≤ d) (h : OnE (ed (cornersL l) i) X Y d) : holdsL (cornersL l) X Y d = true := by
  obtain ⟨a, b, ha, hb, hs, e1, e2⟩ := on_mean hd h
  have m := edge_ends hi
  have k := held_comb h1 (cornersL_mem l _ m.1) (cornersL_mem l _ m.2) (cornersL_mem l _ m.2) (a := d * a) (b := d * b) (c := 0) (Int.mul_nonneg (by omega) ha) (Int.mul_nonneg (by omega) hb) (by omega)
  refine holds_down (k := a + b) (by omega) ?_
  have f : ∀ x y : Int, d * a * x + d * b * y + 0 * y = d * (a * x + b * y) := fun x y => by grind
  rw [f, f, ← e1, ← e2] at k
  have g : d * a + d * b + 0 = (a + b) * d := by grind
  rw [g] at k
  exact k
theorem g_ends (e f : (Int × Int) × (Int × Int)) {X Y d a b : Int} (e1 : (a + b) * X = d * (a * f.1.1 + b * f.2.1)) (e2 : (a + b) * Y = d * (a * f.1.2 + b * f.2.2)) : (a + b) * gE e X Y d = d * (a * gE e f.1.1 f.1.2 1 + b * gE e f.2.1 f.2.2 1) := by
  unfold gE; grind
theorem g_crs (e : (Int × Int) × (Int × Int)) (p : Int × Int) : gE e p.1 p.2 1 = crs e.1.1 e.1.2 e.2.1 e.2.2 p.1 p.2 := by unfold gE crs; grind
theorem opp_ends {e f : (Int × Int) × (Int × Int)} {X Y d : Int} (hd : 1 ≤ d) (he : gE e X Y d = 0) (hf : OnE f X Y d) : crs e.1.1 e.1.2 e.2.1 e.2.2 f.1.1 f.1.2 * crs e.1.1 e.1.2 e.2.1 e.2.2 f.2.1 f.2.2 ≤ 0 := by
  obtain ⟨a, b, ha, hb, hs, e1, e2⟩ := on_mean hd hf
  have k := g_ends e f e1 e2
  rw [he, Int.mul_zero] at k
  have z : a * gE e f.1.1 f.1.2 1 + b * gE e f.2.1 f.2.2 1 = 0 := by
    rcases Int.mul_eq_zero.1 k.symm with j | j
    · omega
    · exact j
  rw [g_crs, g_crs] at z
  generalize crs e.1.1 e.1.2 e.2.1 e.2.2 f.1.1 f.1.2 = u at *
  generalize crs e.1.1 e.1.2 e.2.1 e.2.2 f.2.1 f.2.2 = v at *
  apply mul_np
  rcases Int.lt_trichotomy u 0 with p | p | p
  · left
    refine ⟨by omega, ?_⟩
    rcases Int.lt_or_le v 0 with q | q
    · exfalso
      have x1 := Int.mul_nonpos_of_nonneg_of_nonpos ha (Int.le_of_lt p)
      have x2 := Int.mul_nonpos_of_nonneg_of_nonpos hb (Int.le_of_lt q)
      rcases Int.mul_eq_zero.1 (show a * u = 0 by omega) with y | y
      · rcases Int.mul_eq_zero.1 (show b * v = 0 by omega) with y | y <;> omega
      · omega
    · exact q
  · omega
  · right
    refine ⟨by omega, ?_⟩
    rcases Int.lt_or_le 0 v with q | q
    · exfalso
      have x1 := Int.mul_nonneg ha (Int.le_of_lt p)
      have x2 := Int.mul_nonneg hb (Int.le_of_lt q)
      rcases Int.mul_eq_zero.1 (show a * u = 0 by omega) with y | y
      · rcases Int.mul_eq_zero.1 (show b * v = 0 by omega) with y | y <;> omega
      · omega
    · exact q
theorem boxes_meet {a b c e X d : Int} (hd : 1 ≤ d) (h : min a b * d ≤ X ∧ X ≤ max a b * d) (h' : min c e * d ≤ X ∧ X ≤ max c e * d) : min a b ≤ max c e ∧ min c e ≤ max a b :=
  ⟨Int.le_of_mul_le_mul_right (by omega : min a b * d ≤ max c e * d) (by omega), Int.le_of_mul_le_mul_right (by omega : min c e * d ≤ max a b * d) (by omega)⟩
/-- Edges with a place in common touch. -/
theorem touch_of_place {e f : (Int × Int) × (Int × Int)} {X Y d : Int} (hd : 1 ≤ d) (he : OnE e X Y d) (hf : OnE f X Y d) : touchE e f = true := by
  unfold touchE
  rw [touch_iff]
  obtain ⟨x1, y1⟩ := btw_box he.2
  obtain ⟨x2, y2⟩ := btw_box hf.2
  exact ⟨boxes_meet hd x1 x2, boxes_meet hd y1 y2, opp_ends hd he.1 hf, opp_ends hd hf.1 he⟩
theorem end_on (e : (Int × Int) × (Int × Int)) : OnE e e.2.1 e.2.2 1 := by
  refine ⟨by unfold gE; grind, box_btw ⟨⟨?_, ?_⟩, ?_, ?_⟩⟩ <;> omega
/-- A place in common, and no corner of one in the other: two edges touch. -/
theorem edges_touch {A B : List (Int × Int)} (hA : 1 ≤ A.length) (hB : 1 ≤ B.length) {X Y d : Int} (hd : 1 ≤ d) (h : holdsL (cornersL A) X Y d = true) (h' : holdsL (cornersL B) X Y d = true)
    (hP : ∀ p ∈ cornersL A, holdsL (cornersL B) p.1 p.2 1 = false) (hQ : ∀ q ∈ cornersL B, holdsL (cornersL A) q.1 q.2 1 = false) :
    ∃ i j, i < (cornersL A).length ∧ j < (cornersL B).length ∧ touchE (ed (cornersL A) i) (ed (cornersL B) j) = true := by
  have hq0 := at_mem (ps := cornersL B) (i := 0) (by have := (cornersL_len B hB).1; omega)
  obtain ⟨s, t, i, hs, ht, hd1, hi, k1, k2⟩ := leave hA hd h (hQ _ hq0)
  have k3 := holds_mix h' (point_held (cornersL_mem B _ hq0)) hs ht
  generalize s * X + t * ((cornersL B).getD 0 (0, 0)).1 = X1 at *
  generalize s * Y + t * ((cornersL B).getD 0 (0, 0)).2 = Y1 at *
  generalize s * d + t * 1 = d1 at *
  obtain ⟨s2, t2, j, hs2, ht2, hd2, hj, k4, k5⟩ := leave hB hd1 k3 (hP _ (edge_ends hi).2)
  exact ⟨i, j, hi, hj, touch_of_place hd2 (on_mix k2 (end_on _) hs2 ht2) k5⟩
theorem on_of_onL {e : (Int × Int) × (Int × Int)} {p : Int × Int} (h : onL e.1.1 e.1.2 e.2.1 e.2.2 p.1 p.2 = true) : OnE e p.1 p.2 1 := by
  unfold onL at h
  rw [decide_eq_true_eq, sgn_eq_zero] at h
  refine ⟨by rw [g_crs]; exact h.1, box_btw ⟨⟨?_, ?_⟩, ?_, ?_⟩⟩ <;> omega
/-- Edges that touch: one holds an end of the other, or they cross. -/
theorem touch_ways {e f : (Int × Int) × (Int × Int)} (h : touchE e f = true) :
    (((crs e.1.1 e.1.2 e.2.1 e.2.2 f.1.1 f.1.2 < 0 ∧ 0 < crs e.1.1 e.1.2 e.2.1 e.2.2 f.2.1 f.2.2) ∨ (0 < crs e.1.1 e.1.2 e.2.1 e.2.2 f.1.1 f.1.2 ∧ crs e.1.1 e.1.2 e.2.1 e.2.2 f.2.1 f.2.2 < 0)) ∧
      ((crs f.1.1 f.1.2 f.2.1 f.2.2 e.1.1 e.1.2 < 0 ∧ 0 < crs f.1.1 f.1.2 f.2.1 f.2.2 e.2.1 e.2.2) ∨ (0 < crs f.1.1 f.1.2 f.2.1 f.2.2 e.1.1 e.1.2 ∧ crs f.1.1 f.1.2 f.2.1 f.2.2 e.2.1 e.2.2 < 0))) ∨
    (OnE e f.1.1 f.1.2 1 ∨ OnE e f.2.1 f.2.2 1) ∨ OnE f e.1.1 e.1.2 1 ∨ OnE f e.2.1 e.2.2 1 := by
  unfold touchE at h
  rw [← meet_touch, meet_iff] at h
  rcases h with h | h | h | h | h
  · exact Or.inl h
  · exact Or.inr (Or.inl (Or.inl (on_of_onL h)))
  · exact Or.inr (Or.inl (Or.inr (on_of_onL h)))
  · exact Or.inr (Or.inr (Or.inl (on_of_onL h)))
  · exact Or.inr (Or.inr (Or.inr (on_of_onL h)))
theorem two_sum (a b x y : Int) : a * x + b * y + 0 * y = a * x + b * y := by omega
/-- Where edges that cross meet: a place of both hulls. -/
theorem cross_held {A B : List (Int × Int)} (hA : 1 ≤ A.length) (hB : 1 ≤ B.length) {i j : Nat} (hi : i < (cornersL A).length) (hj : j < (cornersL B).length) {e f : (Int × Int) × (Int × Int)} (he : ed (cornersL A) i = e) (hf : ed (cornersL B) j = f)
    (h1 : (crs e.1.1 e.1.2 e.2.1 e.2.2 f.1.1 f.1.2 < 0 ∧ 0 < crs e.1.1 e.1.2 e.2.1 e.2.2 f.2.1 f.2.2) ∨ (0 < crs e.1.1 e.1.2 e.2.1 e.2.2 f.1.1 f.1.2 ∧ crs e.1.1 e.1.2 e.2.1 e.2.2 f.2.1 f.2.2 < 0))
    (h2 : (crs f.1.1 f.1.2 f.2.1 f.2.2 e.1.1 e.1.2 < 0 ∧ 0 < crs f.1.1 f.1.2 f.2.1 f.2.2 e.2.1 e.2.2) ∨ (0 < crs f.1.1 f.1.2 f.2.1 f.2.2 e.1.1 e.1.2 ∧ crs f.1.1 f.1.2 f.2.1 f.2.2 e.2.1 e.2.2 < 0)) :
    1 ≤ (meetP e f).2.2 ∧ holdsL (cornersL A) (meetP e f).1 (meetP e f).2.1 (meetP e f).2.2 = true ∧ holdsL (cornersL B) (meetP e f).1 (meetP e f).2.1 (meetP e f).2.2 = true := by
  have m := edge_ends hi
  have n := edge_ends hj
  rw [he] at m
  rw [hf] at n
  have x := seg_id e.1.1 e.1.2 e.2.1 e.2.2 f.1.1 f.1.2 f.2.1 f.2.2
  have y := seg_idy e.1.1 e.1.2 e.2.1 e.2.2 f.1.1 f.1.2 f.2.1 f.2.2
  have z := seg_sum e.1.1 e.1.2 e.2.1 e.2.2 f.1.1 f.1.2 f.2.1 f.2.2
  have hp := fun a b ha hb => held_comb hA (cornersL_mem A _ m.2) (cornersL_mem A _ m.1) (cornersL_mem A _ m.1) (a := a) (b := b) (c := 0) ha hb (by omega)
  have hq := fun a b ha hb => held_comb hB (cornersL_mem B _ n.2) (cornersL_mem B _ n.1) (cornersL_mem B _ n.1) (a := a) (b := b) (c := 0) ha hb (by omega)
  simp only [two_sum, Int.add_zero] at hp hq
  unfold meetP meetV
  generalize crs e.1.1 e.1.2 e.2.1 e.2.2 f.1.1 f.1.2 = u at *
  generalize crs e.1.1 e.1.2 e.2.1 e.2.2 f.2.1 f.2.2 = v at *
  generalize crs f.1.1 f.1.2 f.2.1 f.2.2 e.1.1 e.1.2 = s at *
  generalize crs f.1.1 f.1.2 f.2.1 f.2.2 e.2.1 e.2.2 = t at *
  obtain ⟨⟨a, b⟩, a', b'⟩ := e
  obtain ⟨⟨c, d⟩, c', d'⟩ := f
  dsimp only at *
  have n1 : ∀ p q : Int, -p * q = -(p * q) := fun p q => Int.neg_mul p q
  by_cases k : s < t
  · rw [if_pos k]
    have p := hp (-s) t (by omega) (by omega)
    have q := hq u (-v) (by omega) (by omega)
    dsimp only
    simp only [n1] at *
    refine ⟨by omega, ?_, ?_⟩
    · rw [show -(s * a') - -(t * a) = -(s * a') + t * a by omega, show -(s * b') - -(t * b) = -(s * b') + t * b by omega, show -s - -t = -s + t by omega]
      exact p
    · rw [show -(s * a') - -(t * a) = u * c' + -(v * c) by omega, show -(s * b') - -(t * b) = u * d' + -(v * d) by omega, show -s - -t = u + -v by omega]
      exact q
  · rw [if_neg k]
    have p := hp s (-t) (by omega) (by omega)
    have q := hq (-u) v (by omega) (by omega)
    dsimp only
    simp only [n1] at *
    refine ⟨by omega, ?_, ?_⟩
    · rw [show s * a' - t * a = s * a' + -(t * a) by omega, show s * b' - t * b = s * b' + -(t * b) by omega, show s - t = s + -t by omega]
      exact p
    · rw [show s * a' - t * a = -(u * c') + v * c by omega, show s * b' - t * b = -(u * d') + v * d by omega, show s - t = -u + v by omega]
      exact q

end Go.Proofs.YtpnkpejnahhajaaGreat

namespace Go.Proofs.YtpnkpejnahhajaaGreat
open Go.RowKit

/-- The verdict. -/
def sepT (P Q : List (Int × Int)) : Vrd :=
  match lineL P Q with
  | some t => ⟨false, 0, 0, 0, t.1, t.2.1, t.2.2⟩
  | none => ⟨true, (sharedL P Q).1, (sharedL P Q).2.1, (sharedL P Q).2.2, 0, 0, 0⟩
theorem sep_val (P Q : List (Int × Int)) : sepV P Q = (sepT P Q).val := by
  unfold sepV sepT
  cases lineL P Q <;> rfl
theorem sep_m (P Q : List (Int × Int)) : (sepT P Q).m = (lineL P Q).isNone := by
  unfold sepT
  cases lineL P Q <;> rfl
theorem meet_bd {e f : (Int × Int) × (Int × Int)} (e1 : Co e.1.1) (e2 : Co e.1.2) (e3 : Co e.2.1) (e4 : Co e.2.2) (f1 : Co f.1.1) (f2 : Co f.1.2) (f3 : Co f.2.1) (f4 : Co f.2.2) :
    (meetP e f).2.2 ≤ 1073741824 ∧ (-4398046511104 ≤ (meetP e f).1 ∧ (meetP e f).1 ≤ 4398046511104) ∧ (-4398046511104 ≤ (meetP e f).2.1 ∧ (meetP e f).2.1 ≤ 4398046511104) := by
  have b1 := crs_bd f1 f2 f3 f4 e1 e2
  have b2 := crs_bd f1 f2 f3 f4 e3 e4
  unfold meetP meetV
  generalize crs f.1.1 f.1.2 f.2.1 f.2.2 e.1.1 e.1.2 = s at *
  generalize crs f.1.1 f.1.2 f.2.1 f.2.2 e.2.1 e.2.2 = t at *
  unfold Co at *
  have m1 := mul_bd b1 e3
  have m2 := mul_bd b1 e4
  have m3 := mul_bd b2 e1
  have m4 := mul_bd b2 e2
  split
  · dsimp only
    simp only [Int.neg_mul]
    omega
  · dsimp only
    omega
theorem touch_held {A B : List (Int × Int)} (hA : 1 ≤ A.length) (hB : 1 ≤ B.length) {i j : Nat} (hi : i < (cornersL A).length) (hj : j < (cornersL B).length) (h : touchE (ed (cornersL A) i) (ed (cornersL B) j) = true) :
    (∃ p ∈ cornersL A, holdsL (cornersL B) p.1 p.2 1 = true) ∨ (∃ q ∈ cornersL B, holdsL (cornersL A) q.1 q.2 1 = true) ∨
    (1 ≤ (meetP (ed (cornersL A) i) (ed (cornersL B) j)).2.2 ∧ holdsL (cornersL A) (meetP (ed (cornersL A) i) (ed (cornersL B) j)).1 (meetP (ed (cornersL A) i) (ed (cornersL B) j)).2.1 (meetP (ed (cornersL A) i) (ed (cornersL B) j)).2.2 = true ∧ holdsL (cornersL B) (meetP (ed (cornersL A) i) (ed (cornersL B) j)).1 (meetP (ed (cornersL A) i) (ed (cornersL B) j)).2.1 (meetP (ed (cornersL A) i) (ed (cornersL B) j)).2.2 = true) := by
  rcases touch_ways h with ⟨h1, h2⟩ | (h | h) | h | h
  · exact Or.inr (Or.inr (cross_held hA hB hi hj rfl rfl h1 h2))
  · exact Or.inr (Or.inl ⟨_, (edge_ends hj).1, edge_held hA hi (by omega) h⟩)
  · exact Or.inr (Or.inl ⟨_, (edge_ends hj).2, edge_held hA hi (by omega) h⟩)
  · exact Or.inl ⟨_, (edge_ends hi).1, edge_held hB hj (by omega) h⟩
  · exact Or.inl ⟨_, (edge_ends hi).2, edge_held hB hj (by omega) h⟩
theorem plc_of {P Q : List (Int × Int)} {m : Int × Int × Int} (hd : 1 ≤ m.2.2) (b : m.2.2 ≤ 1073741824 ∧ (-4398046511104 ≤ m.1 ∧ m.1 ≤ 4398046511104) ∧ (-4398046511104 ≤ m.2.1 ∧ m.2.1 ≤ 4398046511104)) (h : holdsL P m.1 m.2.1 m.2.2 = true) (h' : holdsL Q m.1 m.2.1 m.2.2 = true) : rplcL P Q ⟨true, m.1, m.2.1, m.2.2, 0, 0, 0⟩ = true := by
  unfold rplcL plcOk
  dsimp only
  rw [h, h']
  simp only [Bool.and_true, decide_eq_true_eq]
  exact ⟨trivial, trivial, trivial, ⟨hd, b.1⟩, b.2⟩
theorem in_q {P Q : List (Int × Int)} {m : Int × Int × Int} (h : firstN (inQ P Q) P.length = some m) : ∃ k, k < P.length ∧ holdsL Q (P.getD k (0, 0)).1 (P.getD k (0, 0)).2 1 = true ∧ m = ((P.getD k (0, 0)).1, (P.getD k (0, 0)).2, 1) := by
  obtain ⟨k, hk, e⟩ := firstN_some _ h
  unfold inQ at e
  split at e
  · next c => exact ⟨k, hk, c, (Option.some.inj e).symm⟩
  · cases e
theorem in_q_not {P Q : List (Int × Int)} (h : firstN (inQ P Q) P.length = none) : ∀ p ∈ P, holdsL Q p.1 p.2 1 = false := fun p hp => by
  obtain ⟨k, hk, rfl⟩ := mem_at hp
  have e := firstN_none _ h k hk
  unfold inQ at e
  split at e
  · cases e
  · next c => simpa using c
/-- The place that is found where no line is, is right. -/
theorem shared_right {A B : List (Int × Int)} (hA : 1 ≤ A.length) (hB : 1 ≤ B.length) (cA : Cos (cornersL A)) (cB : Cos (cornersL B)) (h : lineL (cornersL A) (cornersL B) = none) :
    rplcL (cornersL A) (cornersL B) ⟨true, (sharedL (cornersL A) (cornersL B)).1, (sharedL (cornersL A) (cornersL B)).2.1, (sharedL (cornersL A) (cornersL B)).2.2, 0, 0, 0⟩ = true := by
  obtain ⟨X, Y, d, hd, k1, k2⟩ := common_place hA hB (line_none hA hB h)
  have T := fun hP hQ => edges_touch hA hB hd k1 k2 hP hQ
  have W := fun i j hi hj => touch_held hA hB (i := i) (j := j) hi hj
  have pA := fun p (hp : p ∈ cornersL A) => point_held (cornersL_mem A p hp)
  have pB := fun p (hp : p ∈ cornersL B) => point_held (cornersL_mem B p hp)
  clear hd k1 k2 h
  generalize cornersL A = P at *
  generalize cornersL B = Q at *
  unfold sharedL
  rcases e1 : firstN (inQ P Q) P.length with _ | m
  · have n1 := in_q_not e1
    rcases e2 : firstN (inQ Q P) Q.length with _ | m
    · have n2 := in_q_not e2
      dsimp only
      unfold crossL
      rcases e3 : firstN (crossR P Q) P.length with _ | m
      · exfalso
        obtain ⟨i, j, hi, hj, t⟩ := T n1 n2
        have a := firstN_none _ e3 i hi
        have b := firstN_none _ a j hj
        rw [if_pos t] at b
        cases b
      · obtain ⟨i, hi, a⟩ := firstN_some _ e3
        obtain ⟨j, hj, b⟩ := firstN_some _ a
        split at b
        · next t =>
          have e := Option.some.inj b
          subst e
          have ei := edge_ends hi
          have ej := edge_ends hj
          have cP := all_Cos cA
          have cQ := all_Cos cB
          have bd := meet_bd (cP _ ei.1).1 (cP _ ei.1).2 (cP _ ei.2).1 (cP _ ei.2).2 (cQ _ ej.1).1 (cQ _ ej.1).2 (cQ _ ej.2).1 (cQ _ ej.2).2
          rcases W i j hi hj t with ⟨p, hp, c⟩ | ⟨q, hq, c⟩ | ⟨c1, c2, c3⟩
          · rw [n1 p hp] at c; cases c
          · rw [n2 q hq] at c; cases c
          · exact plc_of c1 bd c2 c3
        · cases b
    · obtain ⟨k, hk, c, rfl⟩ := in_q e2
      have b := cB k
      unfold Co at b
      exact plc_of (m := ((Q.getD k (0, 0)).1, (Q.getD k (0, 0)).2, 1)) (by dsimp only; omega) (by dsimp only; omega) c (pB _ (at_mem hk))
  · obtain ⟨k, hk, c, rfl⟩ := in_q e1
    have b := cA k
    unfold Co at b
    exact plc_of (m := ((P.getD k (0, 0)).1, (P.getD k (0, 0)).2, 1)) (by dsimp only; omega) (by dsimp only; omega) (pA _ (at_mem hk)) c
/-- What Separate answers is right. -/
theorem sep_right {A B : List (Int × Int)} (hA : 1 ≤ A.length) (hB : 1 ≤ B.length) (cA : Cos (cornersL A)) (cB : Cos (cornersL B)) : checkL (cornersL A) (cornersL B) (sepT (cornersL A) (cornersL B)) = true := by
  unfold sepT checkL
  rcases e : lineL (cornersL A) (cornersL B) with _ | t
  · exact shared_right hA hB cA cB e
  · exact line_right (cornersL_len A hA).1 (cornersL_len B hB).1 cA cB e
/-- Sets on both sides of a line do not meet. -/
theorem sep_apart {A B : List (Int × Int)} (nA : 1 ≤ A.length) (nB : 1 ≤ B.length) (v : Int × Int) (W : Int) (h1 : ∀ p ∈ A, pr v p < W) (h2 : ∀ p ∈ B, W < pr v p) : (sepT (cornersL A) (cornersL B)).m = false := by
  rw [sep_m]
  rcases e : lineL (cornersL A) (cornersL B) with _ | t
  · exfalso
    obtain ⟨X, Y, d, hd, k1, k2⟩ := common_place nA nB (line_none nA nB e)
    exact no_both nA nB hd k1 k2 v W ((hi_lt v W nA).2 h1) ((lo_gt v W nB).2 h2)
  · rfl

/-- That two hulls meet, as the reference says it. -/
def meetE (e f : (Int × Int) × (Int × Int)) : Bool := meetL e.1.1 e.1.2 e.2.1 e.2.2 f.1.1 f.1.2 f.2.1 f.2.2
def meetsL (P Q : List (Int × Int)) : Bool :=
  (List.range P.length).any (fun i => inL Q (P.getD i (0, 0)).1 (P.getD i (0, 0)).2 1) || ((List.range Q.length).any (fun i => inL P (Q.getD i (0, 0)).1 (Q.getD i (0, 0)).2 1) || (List.range P.length).any fun i => (List.range Q.length).any fun j => meetE (ed P i) (ed Q j))
end Go.Proofs.YtpnkpejnahhajaaGreat
