/- Plain geometry: two segments meet exactly if they touch; edges that fold back; the ray. Nothing of the program. -/
import Derived.Test.YthleajmamkihaaaMath
namespace Go.Proofs.Ythleajmamkihaaa

theorem sq_nn (x : Int) : 0 ≤ x * x := by
  rcases Int.le_total 0 x with h | h
  · exact Int.mul_nonneg h h
  · exact Int.mul_nonneg_of_nonpos_of_nonpos h h
theorem sq_zero {x : Int} (h : x * x = 0) : x = 0 := by
  rcases Int.mul_eq_zero.1 h with h | h <;> exact h
/-- A form that is nowhere positive. -/
theorem form_np {p q t e f : Int} (h : p ≤ 0) (hq : q ≤ 0) (h2 : t * t = p * q) : e * e * q - 2 * (e * f * t) + f * f * p ≤ 0 := by
  rcases Int.lt_or_eq_of_le h with h | h
  · have k := sq_nn (f * p - e * t)
    have h3 : p * (e * e * q - 2 * (e * f * t) + f * f * p) = (f * p - e * t) * (f * p - e * t) := by grind
    by_cases hh : e * e * q - 2 * (e * f * t) + f * f * p ≤ 0
    · exact hh
    · exfalso
      have := Int.mul_neg_of_neg_of_pos h (show 0 < e * e * q - 2 * (e * f * t) + f * f * p by omega)
      omega
  · subst h
    have ht : t = 0 := sq_zero (by rw [h2]; omega)
    subst ht
    have := Int.mul_nonpos_of_nonneg_of_nonpos (sq_nn e) hq
    simpa using this

theorem sgn_mul_neg (a b : Int) : sgn a * sgn b < 0 ↔ (a < 0 ∧ 0 < b) ∨ (0 < a ∧ b < 0) := by
  unfold sgn; split <;> split <;> (try split) <;> (try split) <;> omega
theorem sgn_mul_np (a b : Int) : sgn a * sgn b ≤ 0 ↔ (a ≤ 0 ∧ 0 ≤ b) ∨ (0 ≤ a ∧ b ≤ 0) := by
  unfold sgn; split <;> split <;> (try split) <;> (try split) <;> omega
theorem sgn_eq_zero (a : Int) : sgn a = 0 ↔ a = 0 := by
  unfold sgn; split <;> (try split) <;> omega
theorem np_of_mul {a b : Int} (h : a * b ≤ 0) : (a ≤ 0 ∧ 0 ≤ b) ∨ (0 ≤ a ∧ b ≤ 0) := by
  rcases Int.lt_trichotomy a 0 with h1 | h1 | h1
  · rcases Int.lt_or_le b 0 with h2 | h2
    · have := Int.mul_pos_of_neg_of_neg h1 h2; omega
    · left; omega
  · omega
  · rcases Int.lt_or_le 0 b with h2 | h2
    · have := Int.mul_pos h1 h2; omega
    · right; omega
theorem mul_np {a b : Int} (h : (a ≤ 0 ∧ 0 ≤ b) ∨ (0 ≤ a ∧ b ≤ 0)) : a * b ≤ 0 := by
  rcases h with ⟨h1, h2⟩ | ⟨h1, h2⟩
  · exact Int.mul_nonpos_of_nonpos_of_nonneg h1 h2
  · exact Int.mul_nonpos_of_nonneg_of_nonpos h1 h2
/-- Between the ends: the ways to the ends are opposed. -/
theorem btw_iff (a b p : Int) : (min a b ≤ p ∧ p ≤ max a b) ↔ (a - p) * (b - p) ≤ 0 := by
  constructor
  · intro h; apply mul_np; omega
  · intro h; have := np_of_mul h; omega

theorem seg_id (ax ay bx by_ cx cy dx dy : Int) :
    crs ax ay bx by_ cx cy * dx - crs ax ay bx by_ dx dy * cx = crs cx cy dx dy bx by_ * ax - crs cx cy dx dy ax ay * bx := by
  unfold crs; grind
theorem seg_idy (ax ay bx by_ cx cy dx dy : Int) :
    crs ax ay bx by_ cx cy * dy - crs ax ay bx by_ dx dy * cy = crs cx cy dx dy bx by_ * ay - crs cx cy dx dy ax ay * by_ := by
  unfold crs; grind
theorem seg_sum (ax ay bx by_ cx cy dx dy : Int) :
    crs ax ay bx by_ cx cy - crs ax ay bx by_ dx dy = crs cx cy dx dy bx by_ - crs cx cy dx dy ax ay := by
  unfold crs; grind

/-- A weighted mean with weights of one sum. -/
theorem mean_lt {s t u v a b c d M : Int} (h : s * d - t * c = v * a - u * b) (hs : s - t = v - u) (h1 : 0 ≤ s) (h2 : t ≤ 0) (h3 : 0 ≤ v) (h4 : u ≤ 0) (hp : 0 < s - t)
    (hc : c ≤ M) (hd : d ≤ M) (ha : M < a) (hb : M < b) : False := by
  have e1 := Int.mul_le_mul_of_nonneg_left hd h1
  have e2 := Int.mul_le_mul_of_nonneg_left hc (show 0 ≤ -t by omega)
  have e3 := Int.mul_le_mul_of_nonneg_left (show M + 1 ≤ a by omega) h3
  have e4 := Int.mul_le_mul_of_nonneg_left (show M + 1 ≤ b by omega) (show 0 ≤ -u by omega)
  have e5 : s * M - t * M = v * M - u * M := by grind
  simp only [Int.neg_mul, Int.mul_add, Int.mul_one] at e1 e2 e3 e4
  omega
theorem cross_span {s t u v a b c d : Int} (h : s * d - t * c = v * a - u * b) (hs : s - t = v - u) (h1 : (s < 0 ∧ 0 < t) ∨ (0 < s ∧ t < 0)) (h2 : (u < 0 ∧ 0 < v) ∨ (0 < u ∧ v < 0)) : min a b ≤ max c d ∧ min c d ≤ max a b := by
  have key : ∀ s t u v : Int, s * d - t * c = v * a - u * b → s - t = v - u → 0 < s → t < 0 → 0 < v → u < 0 → min a b ≤ max c d ∧ min c d ≤ max a b := by
    intro s t u v h hs p1 p2 p3 p4
    constructor
    · by_cases hh : min a b ≤ max c d
      · exact hh
      · exact (mean_lt (M := max c d) h hs (by omega) (by omega) (by omega) (by omega) (by omega) (by omega) (by omega) (by omega) (by omega)).elim
    · by_cases hh : min c d ≤ max a b
      · exact hh
      · exact (mean_lt (s := v) (t := u) (u := t) (v := s) (a := d) (b := c) (c := b) (d := a) (M := max a b) (by omega) (by omega) (by omega) (by omega) (by omega) (by omega) (by omega) (by omega) (by omega) (by omega) (by omega)).elim
  rcases h1 with ⟨p1, p2⟩ | ⟨p1, p2⟩
  · exact key (-s) (-t) (-u) (-v) (by simp only [Int.neg_mul]; omega) (by omega) (by omega) (by omega) (by omega) (by omega)
  · exact key s t u v h hs p1 p2 (by omega) (by omega)

theorem on_prop {ax ay bx by_ px py : Int} : onL ax ay bx by_ px py = true ↔ crs ax ay bx by_ px py = 0 ∧ (ax - px) * (bx - px) ≤ 0 ∧ (ay - py) * (by_ - py) ≤ 0 := by
  unfold onL
  rw [decide_eq_true_eq, sgn_eq_zero, ← btw_iff, ← btw_iff]
  constructor
  · rintro ⟨a, b, c, d, e⟩; exact ⟨a, ⟨b, c⟩, d, e⟩
  · rintro ⟨a, ⟨b, c⟩, d, e⟩; exact ⟨a, b, c, d, e⟩

/-- A point of one segment is on the other: they touch. -/
theorem touch_of_on {ax ay bx by_ cx cy dx dy : Int} (h : crs ax ay bx by_ cx cy = 0) (hx : (ax - cx) * (bx - cx) ≤ 0) (hy : (ay - cy) * (by_ - cy) ≤ 0) :
    crs cx cy dx dy ax ay * crs cx cy dx dy bx by_ ≤ 0 := by
  have e : crs cx cy dx dy ax ay * crs cx cy dx dy bx by_ =
      (dx - cx) * (dx - cx) * ((ay - cy) * (by_ - cy)) - 2 * ((dx - cx) * (dy - cy) * ((ay - cy) * (bx - cx))) + (dy - cy) * (dy - cy) * ((ax - cx) * (bx - cx)) := by
    unfold crs at h ⊢; grind
  rw [e]
  have hh : (ay - cy) * (bx - cx) = (by_ - cy) * (ax - cx) := by clear e hx hy; unfold crs at h; grind
  exact form_np hx hy ((congrArg (fun z => (ay - cy) * (bx - cx) * z) hh).trans (by grind))

theorem touch_iff {ax ay bx by_ cx cy dx dy : Int} : touchL ax ay bx by_ cx cy dx dy = true ↔
    (min ax bx ≤ max cx dx ∧ min cx dx ≤ max ax bx) ∧ (min ay by_ ≤ max cy dy ∧ min cy dy ≤ max ay by_) ∧
    crs ax ay bx by_ cx cy * crs ax ay bx by_ dx dy ≤ 0 ∧ crs cx cy dx dy ax ay * crs cx cy dx dy bx by_ ≤ 0 := by
  unfold touchL spansT
  simp only [Bool.and_eq_true, decide_eq_true_eq, sgn_mul_np]
  constructor
  · rintro ⟨⟨a, b⟩, c, d⟩; exact ⟨a, b, mul_np c, mul_np d⟩
  · rintro ⟨a, b, c, d⟩; exact ⟨⟨a, b⟩, np_of_mul c, np_of_mul d⟩

theorem meet_iff {ax ay bx by_ cx cy dx dy : Int} : meetL ax ay bx by_ cx cy dx dy = true ↔
    ((((crs ax ay bx by_ cx cy < 0 ∧ 0 < crs ax ay bx by_ dx dy) ∨ (0 < crs ax ay bx by_ cx cy ∧ crs ax ay bx by_ dx dy < 0)) ∧
      ((crs cx cy dx dy ax ay < 0 ∧ 0 < crs cx cy dx dy bx by_) ∨ (0 < crs cx cy dx dy ax ay ∧ crs cx cy dx dy bx by_ < 0))) ∨
    onL ax ay bx by_ cx cy = true ∨ onL ax ay bx by_ dx dy = true ∨ onL cx cy dx dy ax ay = true ∨ onL cx cy dx dy bx by_ = true) := by
  unfold meetL
  simp only [Bool.or_eq_true, Bool.and_eq_true, decide_eq_true_eq, sgn_mul_neg]

theorem box_of_on {a b c d : Int} (h : (a - c) * (b - c) ≤ 0) : min a b ≤ max c d ∧ min c d ≤ max a b := by
  have := np_of_mul h; omega

theorem touch_of_meet {ax ay bx by_ cx cy dx dy : Int} (h : meetL ax ay bx by_ cx cy dx dy = true) : touchL ax ay bx by_ cx cy dx dy = true := by
  rw [touch_iff]
  rw [meet_iff] at h
  rcases h with ⟨h1, h2⟩ | h | h | h | h
  · exact ⟨cross_span (seg_id ..) (seg_sum ..) h1 h2, cross_span (seg_idy ..) (seg_sum ..) h1 h2, mul_np (by omega), mul_np (by omega)⟩
  · obtain ⟨h0, h1, h2⟩ := on_prop.1 h
    exact ⟨box_of_on h1, box_of_on h2, by rw [h0]; omega, touch_of_on h0 h1 h2⟩
  · obtain ⟨h0, h1, h2⟩ := on_prop.1 h
    have k1 := box_of_on (d := cx) h1
    have k2 := box_of_on (d := cy) h2
    have k3 := touch_of_on (dx := cx) (dy := cy) h0 h1 h2
    refine ⟨by omega, by omega, by rw [h0]; omega, ?_⟩
    have e1 : crs dx dy cx cy ax ay = -crs cx cy dx dy ax ay := by unfold crs; grind
    have e2 : crs dx dy cx cy bx by_ = -crs cx cy dx dy bx by_ := by unfold crs; grind
    rw [e1, e2, Int.neg_mul_neg] at k3
    exact k3
  · obtain ⟨h0, h1, h2⟩ := on_prop.1 h
    have k1 := box_of_on (d := bx) h1
    have k2 := box_of_on (d := by_) h2
    exact ⟨by omega, by omega, touch_of_on h0 h1 h2, by rw [h0]; omega⟩
  · obtain ⟨h0, h1, h2⟩ := on_prop.1 h
    have k1 := box_of_on (d := ax) h1
    have k2 := box_of_on (d := ay) h2
    have k3 := touch_of_on (dx := ax) (dy := ay) h0 h1 h2
    refine ⟨by omega, by omega, ?_, by rw [h0]; omega⟩
    have e1 : crs bx by_ ax ay cx cy = -crs ax ay bx by_ cx cy := by unfold crs; grind
    have e2 : crs bx by_ ax ay dx dy = -crs ax ay bx by_ dx dy := by unfold crs; grind
    rw [e1, e2, Int.neg_mul_neg] at k3
    exact k3

/-- In line with two points that are apart in one coordinate, and between them there: between them in the other, too. -/
theorem col_btw {ax ay bx by_ px py : Int} (h : crs ax ay bx by_ px py = 0) (hne : ax ≠ bx) (hx : (ax - px) * (bx - px) ≤ 0) : (ay - py) * (by_ - py) ≤ 0 := by
  have e1 : (bx - ax) * (py - ay) = (by_ - ay) * (px - ax) := by unfold crs at h; omega
  have e2 : (bx - ax) * (by_ - py) = (by_ - ay) * (bx - px) := by unfold crs at h; grind
  have e3 : (bx - ax) * (bx - ax) * ((ay - py) * (by_ - py)) = (by_ - ay) * (by_ - ay) * ((ax - px) * (bx - px)) := by grind
  have p1 : 0 < (bx - ax) * (bx - ax) := by
    rcases Int.lt_or_gt_of_ne hne with h | h
    · exact Int.mul_pos (by omega) (by omega)
    · exact Int.mul_pos_of_neg_of_neg (by omega) (by omega)
  have p2 := Int.mul_nonpos_of_nonneg_of_nonpos (sq_nn (by_ - ay)) hx
  by_cases hh : (ay - py) * (by_ - py) ≤ 0
  · exact hh
  · have := Int.mul_pos p1 (show 0 < (ay - py) * (by_ - py) by omega)
    omega
theorem on_of_x {ax ay bx by_ px py : Int} (h : crs ax ay bx by_ px py = 0) (hne : ax ≠ bx) (hx : (ax - px) * (bx - px) ≤ 0) : onL ax ay bx by_ px py = true :=
  on_prop.2 ⟨h, hx, col_btw h hne hx⟩

/-- A point on the line of a segment whose ends lie on two sides of a line through it that is not the segment's. -/
theorem on_of_cross {ax ay bx by_ cx cy dx dy : Int} (h : crs ax ay bx by_ cx cy = 0) (ht : crs ax ay bx by_ dx dy ≠ 0) (hp : crs cx cy dx dy ax ay * crs cx cy dx dy bx by_ ≤ 0) : onL ax ay bx by_ cx cy = true := by
  have i1 := seg_id ax ay bx by_ cx cy dx dy
  have i2 := seg_idy ax ay bx by_ cx cy dx dy
  have i3 := seg_sum ax ay bx by_ cx cy dx dy
  rw [h] at i1 i2 i3
  generalize crs ax ay bx by_ dx dy = t at *
  generalize crs cx cy dx dy ax ay = u at *
  generalize crs cx cy dx dy bx by_ = v at *
  have key : ∀ a b c : Int, 0 * dx - t * c = v * a - u * b → (a - c) * (b - c) ≤ 0 := by
    intro a b c i
    have j1 : t * (c - a) = u * (b - a) := by grind
    have j2 : t * (b - c) = -(v * (b - a)) := by grind
    have j3 : t * t * ((a - c) * (b - c)) = u * v * ((b - a) * (b - a)) := by grind
    have p1 : 0 < t * t := by
      rcases Int.lt_or_gt_of_ne ht with h | h
      · exact Int.mul_pos_of_neg_of_neg (by omega) (by omega)
      · exact Int.mul_pos (by omega) (by omega)
    have p2 := Int.mul_nonpos_of_nonpos_of_nonneg hp (sq_nn (b - a))
    by_cases hh : (a - c) * (b - c) ≤ 0
    · exact hh
    · have := Int.mul_pos p1 (show 0 < (a - c) * (b - c) by omega)
      omega
  exact on_prop.2 ⟨h, key _ _ _ (by omega), key _ _ _ (by omega)⟩

theorem span_end {a b c d : Int} (h : min a b ≤ max c d ∧ min c d ≤ max a b) : (a - c) * (b - c) ≤ 0 ∨ (a - d) * (b - d) ≤ 0 ∨ (c - a) * (d - a) ≤ 0 ∨ (c - b) * (d - b) ≤ 0 := by
  rw [← btw_iff, ← btw_iff, ← btw_iff, ← btw_iff]; omega

/-- All four on one line. -/
theorem meet_of_col {ax ay bx by_ cx cy dx dy : Int} (h1 : crs ax ay bx by_ cx cy = 0) (h2 : crs ax ay bx by_ dx dy = 0) (h3 : crs cx cy dx dy ax ay = 0) (h4 : crs cx cy dx dy bx by_ = 0)
    (hx : min ax bx ≤ max cx dx ∧ min cx dx ≤ max ax bx) (hy : min ay by_ ≤ max cy dy ∧ min cy dy ≤ max ay by_) :
    onL ax ay bx by_ cx cy = true ∨ onL ax ay bx by_ dx dy = true ∨ onL cx cy dx dy ax ay = true ∨ onL cx cy dx dy bx by_ = true := by
  by_cases n1 : ax = bx <;> by_cases n2 : cx = dx
  · subst n1 n2
    have ex : ax = cx := by omega
    subst ex
    rcases span_end hy with k | k | k | k
    · exact Or.inl (on_prop.2 ⟨h1, by simp, k⟩)
    · exact Or.inr (Or.inl (on_prop.2 ⟨h2, by simp, k⟩))
    · exact Or.inr (Or.inr (Or.inl (on_prop.2 ⟨h3, by simp, k⟩)))
    · exact Or.inr (Or.inr (Or.inr (on_prop.2 ⟨h4, by simp, k⟩)))
  · exact Or.inr (Or.inr (Or.inl (on_of_x h3 n2 ((btw_iff _ _ _).1 (by omega)))))
  · exact Or.inl (on_of_x h1 n1 ((btw_iff _ _ _).1 (by omega)))
  · rcases span_end hx with k | k | k | k
    · exact Or.inl (on_of_x h1 n1 k)
    · exact Or.inr (Or.inl (on_of_x h2 n1 k))
    · exact Or.inr (Or.inr (Or.inl (on_of_x h3 n2 k)))
    · exact Or.inr (Or.inr (Or.inr (on_of_x h4 n2 k)))

theorem meet_of_touch {ax ay bx by_ cx cy dx dy : Int} (h : touchL ax ay bx by_ cx cy dx dy = true) : meetL ax ay bx by_ cx cy dx dy = true := by
  obtain ⟨hx, hy, h1, h2⟩ := touch_iff.1 h
  rw [meet_iff]
  have hs := seg_sum ax ay bx by_ cx cy dx dy
  by_cases z1 : crs ax ay bx by_ cx cy = 0
  · by_cases z2 : crs ax ay bx by_ dx dy = 0
    · have huv : crs cx cy dx dy ax ay = 0 ∧ crs cx cy dx dy bx by_ = 0 := by
        rcases np_of_mul h2 with k | k <;> omega
      exact Or.inr (meet_of_col z1 z2 huv.1 huv.2 hx hy)
    · exact Or.inr (Or.inl (on_of_cross z1 z2 h2))
  · by_cases z2 : crs ax ay bx by_ dx dy = 0
    · refine Or.inr (Or.inr (Or.inl (on_of_cross (dx := cx) (dy := cy) z2 z1 ?_)))
      have e1 : crs dx dy cx cy ax ay = -crs cx cy dx dy ax ay := by unfold crs; grind
      have e2 : crs dx dy cx cy bx by_ = -crs cx cy dx dy bx by_ := by unfold crs; grind
      rw [e1, e2, Int.neg_mul_neg]; exact h2
    · by_cases z3 : crs cx cy dx dy ax ay = 0
      · by_cases z4 : crs cx cy dx dy bx by_ = 0
        · rcases np_of_mul h1 with k | k <;> omega
        · exact Or.inr (Or.inr (Or.inr (Or.inl (on_of_cross z3 z4 h1))))
      · by_cases z4 : crs cx cy dx dy bx by_ = 0
        · refine Or.inr (Or.inr (Or.inr (Or.inr (on_of_cross (dx := ax) (dy := ay) z4 z3 ?_))))
          have e1 : crs bx by_ ax ay cx cy = -crs ax ay bx by_ cx cy := by unfold crs; grind
          have e2 : crs bx by_ ax ay dx dy = -crs ax ay bx by_ dx dy := by unfold crs; grind
          rw [e1, e2, Int.neg_mul_neg]; exact h1
        · left
          have k1 := np_of_mul h1
          have k2 := np_of_mul h2
          omega

/-- The reference's meeting of two segments is the program's touching, for all ints. -/
theorem meet_touch (ax ay bx by_ cx cy dx dy : Int) : meetL ax ay bx by_ cx cy dx dy = touchL ax ay bx by_ cx cy dx dy := by
  rw [Bool.eq_iff_iff]; exact ⟨touch_of_meet, meet_of_touch⟩

/-- Two ways along one line: which of them leads farther. -/
theorem dot_way {ux uy vx vy : Int} (hc : ux * vy = uy * vx) (hd : 0 < ux * vx + uy * vy) :
    (vx * vx ≤ ux * vx ∧ vy * vy ≤ uy * vy) ∨ (ux * ux ≤ ux * vx ∧ uy * uy ≤ uy * vy) := by
  have sx := sq_nn vx
  have sy := sq_nn vy
  have tx := sq_nn ux
  have ty := sq_nn uy
  have hV : 0 < vx * vx + vy * vy := by
    rcases Int.lt_or_eq_of_le (show 0 ≤ vx * vx + vy * vy by omega) with h | h
    · exact h
    · have h1 : vx = 0 := sq_zero (by omega)
      have h2 : vy = 0 := sq_zero (by omega)
      rw [h1, h2] at hd; simp at hd
  have hU : 0 < ux * ux + uy * uy := by
    rcases Int.lt_or_eq_of_le (show 0 ≤ ux * ux + uy * uy by omega) with h | h
    · exact h
    · have h1 : ux = 0 := sq_zero (by omega)
      have h2 : uy = 0 := sq_zero (by omega)
      rw [h1, h2] at hd; simp at hd
  have e1 : (vx * vx + vy * vy) * (ux * vx) = (ux * vx + uy * vy) * (vx * vx) := by grind
  have e2 : (vx * vx + vy * vy) * (uy * vy) = (ux * vx + uy * vy) * (vy * vy) := by grind
  have e3 : (ux * ux + uy * uy) * (ux * vx) = (ux * vx + uy * vy) * (ux * ux) := by grind
  have e4 : (ux * ux + uy * uy) * (uy * vy) = (ux * vx + uy * vy) * (uy * uy) := by grind
  have e5 : (ux * vx + uy * vy) * (ux * vx + uy * vy) = (ux * ux + uy * uy) * (vx * vx + vy * vy) := by grind
  generalize ux * vx + uy * vy = D at *
  generalize vx * vx + vy * vy = V at *
  generalize ux * ux + uy * uy = U at *
  have le_of : ∀ {W a b : Int}, 0 < W → W ≤ D → 0 ≤ b → W * a = D * b → b ≤ a := by
    intro W a b h1 h2 h3 h4
    have h5 := Int.mul_le_mul_of_nonneg_right h2 h3
    rw [← h4] at h5
    exact Int.le_of_mul_le_mul_left h5 h1
  rcases Int.lt_or_le D V with h | h
  · right
    have hUD : U ≤ D := by
      rcases Int.lt_or_le D U with k | k
      · have h6 : D * D < U * V := by
          have a1 := Int.mul_lt_mul_of_pos_left h hd
          have a2 := Int.mul_lt_mul_of_pos_right k hV
          omega
        omega
      · exact k
    exact ⟨le_of hU hUD tx e3, le_of hU hUD ty e4⟩
  · left
    exact ⟨le_of hV h sx e1, le_of hV h sy e2⟩

theorem way1 (a b c : Int) : (a - c) * (b - c) = (c - b) * (c - b) - (a - b) * (c - b) := by grind
theorem way2 (a b c : Int) : (b - a) * (c - a) = (a - b) * (a - b) - (a - b) * (c - b) := by grind
/-- Two edges that follow one another fold back: the program's test and the reference's. -/
theorem folds_on {ax ay bx by_ cx cy : Int} (hab : ¬(ax = bx ∧ ay = by_)) (hbc : ¬(bx = cx ∧ by_ = cy)) :
    foldsL ax ay bx by_ cx cy = (decide (sgn (crs ax ay bx by_ cx cy) = 0) && (onL ax ay bx by_ cx cy || onL bx by_ cx cy ax ay)) := by
  rw [Bool.eq_iff_iff]
  unfold foldsL
  simp only [Bool.and_eq_true, Bool.or_eq_true, decide_eq_true_eq, on_prop, sgn_eq_zero]
  have ecyc : crs bx by_ cx cy ax ay = crs ax ay bx by_ cx cy := by unfold crs; grind
  rw [ecyc]
  constructor
  · rintro ⟨h0, hd⟩
    refine ⟨h0, ?_⟩
    have hc : (ax - bx) * (cy - by_) = (ay - by_) * (cx - bx) := by unfold crs at h0; clear hd hab hbc ecyc; grind
    rcases dot_way hc hd with ⟨h1, h2⟩ | ⟨h1, h2⟩
    · left
      refine ⟨h0, ?_, ?_⟩
      · have := way1 ax bx cx
        omega
      · have := way1 ay by_ cy
        omega
    · right
      refine ⟨h0, ?_, ?_⟩
      · have := way2 ax bx cx
        omega
      · have := way2 ay by_ cy
        omega
  · rintro ⟨h0, h⟩
    refine ⟨h0, ?_⟩
    rcases h with ⟨-, h1, h2⟩ | ⟨-, h1, h2⟩
    · have e1 := way1 ax bx cx
      have e2 := way1 ay by_ cy
      have s1 := sq_nn (cx - bx)
      have s2 := sq_nn (cy - by_)
      rcases Int.lt_or_eq_of_le (show 0 ≤ (cx - bx) * (cx - bx) + (cy - by_) * (cy - by_) by omega) with h | h
      · omega
      · have z1 : cx - bx = 0 := sq_zero (by omega)
        have z2 : cy - by_ = 0 := sq_zero (by omega)
        exact absurd ⟨by omega, by omega⟩ hbc
    · have e1 := way2 ax bx cx
      have e2 := way2 ay by_ cy
      have s1 := sq_nn (ax - bx)
      have s2 := sq_nn (ay - by_)
      rcases Int.lt_or_eq_of_le (show 0 ≤ (ax - bx) * (ax - bx) + (ay - by_) * (ay - by_) by omega) with h | h
      · omega
      · have z1 : ax - bx = 0 := sq_zero (by omega)
        have z2 : ay - by_ = 0 := sq_zero (by omega)
        exact absurd ⟨by omega, by omega⟩ hab

/-- A point touched as an edge of one point: it is on the edge. -/
theorem touch_point (ax ay bx by_ px py : Int) : touchL ax ay bx by_ px py px py = onL ax ay bx by_ px py := by
  rw [← meet_touch, Bool.eq_iff_iff, meet_iff]
  have z1 : crs px py px py ax ay = 0 := by unfold crs; grind
  have z2 : crs px py px py bx by_ = 0 := by unfold crs; grind
  constructor
  · rintro (⟨-, h2⟩ | h | h | h | h)
    · omega
    · exact h
    · exact h
    · obtain ⟨-, h1, h2⟩ := on_prop.1 h
      have k1 : px - ax = 0 := sq_zero (by have := sq_nn (px - ax); omega)
      have k2 : py - ay = 0 := sq_zero (by have := sq_nn (py - ay); omega)
      obtain rfl : px = ax := by omega
      obtain rfl : py = ay := by omega
      exact on_prop.2 ⟨by unfold crs; grind, by simp, by simp⟩
    · obtain ⟨-, h1, h2⟩ := on_prop.1 h
      have k1 : px - bx = 0 := sq_zero (by have := sq_nn (px - bx); omega)
      have k2 : py - by_ = 0 := sq_zero (by have := sq_nn (py - by_); omega)
      obtain rfl : px = bx := by omega
      obtain rfl : py = by_ := by omega
      exact on_prop.2 ⟨by unfold crs; grind, by simp, by simp⟩
  · intro h; exact Or.inr (Or.inl h)

/-- The reference's crossing of the ray to the right. -/
def rayR (ax ay bx by_ px py : Int) : Bool :=
  (decide (ay ≤ py ∧ py < by_) && decide (0 < sgn (crs ax ay bx by_ px py))) || (decide (by_ ≤ py ∧ py < ay) && decide (0 < sgn (crs bx by_ ax ay px py)))
theorem sgn_pos (a : Int) : 0 < sgn a ↔ 0 < a := by unfold sgn; split <;> (try split) <;> omega
theorem ray_eq {ax ay bx by_ px py : Int} (h : onL ax ay bx by_ px py = false) : rayL ax ay bx by_ px py = rayR ax ay bx by_ px py := by
  have hn : ¬ onL ax ay bx by_ px py = true := by rw [h]; decide
  rw [on_prop] at hn
  have eneg : crs bx by_ ax ay px py = -crs ax ay bx by_ px py := by unfold crs; grind
  have eyx : crs ay ax by_ bx py px = -crs ax ay bx by_ px py := by unfold crs; grind
  have hz : crs ax ay bx by_ px py = 0 → ay ≠ by_ → ¬ (ay - py) * (by_ - py) ≤ 0 := fun h0 hne hy =>
    hn ⟨h0, col_btw (ax := ay) (ay := ax) (bx := by_) (by_ := bx) (px := py) (py := px) (by rw [eyx, h0]; rfl) hne hy, hy⟩
  unfold rayL rayR
  rw [eneg]
  generalize crs ax ay bx by_ px py = s at *
  by_cases h1 : py < ay <;> by_cases h2 : py < by_
  · simp [h1, h2]; omega
  · have h3 : s ≠ 0 := fun h0 => hz h0 (by omega) (mul_np (by omega))
    have e1 : decide (py < ay) = true := by simp [h1]
    have e2 : decide (py < by_) = false := by simp [h2]
    have e3 : decide (ay < by_) = false := by simp; omega
    have e4 : decide (ay ≤ py ∧ py < by_) = false := by simp; omega
    have e5 : decide (by_ ≤ py ∧ py < ay) = true := by simp; omega
    rw [e1, e2, e3, e4, e5]
    simp [sgn_pos]
    rw [Bool.eq_iff_iff]; simp; omega
  · have h3 : s ≠ 0 := fun h0 => hz h0 (by omega) (mul_np (by omega))
    have e1 : decide (py < ay) = false := by simp; omega
    have e2 : decide (py < by_) = true := by simp [h2]
    have e3 : decide (ay < by_) = true := by simp; omega
    have e4 : decide (ay ≤ py ∧ py < by_) = true := by simp; omega
    have e5 : decide (by_ ≤ py ∧ py < ay) = false := by simp; omega
    rw [e1, e2, e3, e4, e5]
    simp [sgn_pos]
  · simp [h1, h2]

end Go.Proofs.Ythleajmamkihaaa
