/- What makes a verdict about two sets right. Plain mathematics.
Plain geometry: two segments meet exactly if they touch; edges that fold back; the ray. Nothing of the program. -/
import Derived.Test.YtpnkpejnahhajaaGreatBu50
import Derived.Test.YtpnkpejnahhajaaGreatBu48
import Derived.Test.YtpnkpejnahhajaaGreatBu11
namespace Go.Proofs.YtpnkpejnahhajaaGreat
open Go.RowKit

theorem hiT_spec (v : Int × Int) (ps : List (Int × Int)) : ∀ k, (∀ i, i ≤ k → pr v (ps.getD i (0, 0)) ≤ hiT v ps k) ∧ ∃ i, i ≤ k ∧ hiT v ps k = pr v (ps.getD i (0, 0))
  | 0 => ⟨fun i h => by obtain rfl : i = 0 := by omega
                        exact Int.le_refl _, 0, Nat.le_refl _, rfl⟩
  | k + 1 => by
    obtain ⟨h1, i, hi, e⟩ := hiT_spec v ps k
    unfold hiT
    refine ⟨fun j hj => ?_, ?_⟩
    · by_cases hk : j ≤ k
      · have := h1 j hk; omega
      · obtain rfl : j = k + 1 := by omega
        omega
    · rcases Int.le_total (hiT v ps k) (pr v (ps.getD (k + 1) (0, 0))) with h | h
      · exact ⟨k + 1, Nat.le_refl _, Int.max_eq_right h⟩
      · exact ⟨i, by omega, by rw [Int.max_eq_left h]; exact e⟩
theorem loT_spec (v : Int × Int) (ps : List (Int × Int)) : ∀ k, (∀ i, i ≤ k → loT v ps k ≤ pr v (ps.getD i (0, 0))) ∧ ∃ i, i ≤ k ∧ loT v ps k = pr v (ps.getD i (0, 0))
  | 0 => ⟨fun i h => by obtain rfl : i = 0 := by omega
                        exact Int.le_refl _, 0, Nat.le_refl _, rfl⟩
  | k + 1 => by
    obtain ⟨h1, i, hi, e⟩ := loT_spec v ps k
    unfold loT
    refine ⟨fun j hj => ?_, ?_⟩
    · by_cases hk : j ≤ k
      · have := h1 j hk; omega
      · obtain rfl : j = k + 1 := by omega
        omega
    · rcases Int.le_total (loT v ps k) (pr v (ps.getD (k + 1) (0, 0))) with h | h
      · exact ⟨i, by omega, by rw [Int.min_eq_left h]; exact e⟩
      · exact ⟨k + 1, Nat.le_refl _, Int.min_eq_right h⟩
theorem at_mem {ps : List (Int × Int)} {i : Nat} (h : i < ps.length) : ps.getD i (0, 0) ∈ ps := by
  rw [List.getD_eq_getElem?_getD, List.getElem?_eq_getElem h]; exact List.getElem_mem h
theorem mem_at {ps : List (Int × Int)} {p : Int × Int} (h : p ∈ ps) : ∃ i, i < ps.length ∧ p = ps.getD i (0, 0) := by
  obtain ⟨i, hi, e⟩ := List.mem_iff_getElem.1 h
  exact ⟨i, hi, by rw [List.getD_eq_getElem?_getD, List.getElem?_eq_getElem hi]; exact e.symm⟩
theorem hiL_spec (v : Int × Int) {ps : List (Int × Int)} (h : 1 ≤ ps.length) : (∀ p ∈ ps, pr v p ≤ hiL v ps) ∧ ∃ p ∈ ps, hiL v ps = pr v p := by
  obtain ⟨h1, i, hi, e⟩ := hiT_spec v ps (ps.length - 1)
  refine ⟨fun p hp => ?_, _, at_mem (by omega : i < ps.length), e⟩
  obtain ⟨j, hj, rfl⟩ := mem_at hp
  exact h1 j (by omega)
theorem loL_spec (v : Int × Int) {ps : List (Int × Int)} (h : 1 ≤ ps.length) : (∀ p ∈ ps, loL v ps ≤ pr v p) ∧ ∃ p ∈ ps, loL v ps = pr v p := by
  obtain ⟨h1, i, hi, e⟩ := loT_spec v ps (ps.length - 1)
  refine ⟨fun p hp => ?_, _, at_mem (by omega : i < ps.length), e⟩
  obtain ⟨j, hj, rfl⟩ := mem_at hp
  exact h1 j (by omega)
/-- All points are below a line exactly if all corners are. -/
theorem hi_lt (v : Int × Int) (W : Int) {l : List (Int × Int)} (h : 1 ≤ l.length) : hiL v (cornersL l) < W ↔ ∀ p ∈ l, pr v p < W := by
  have hc := (cornersL_len l h).1
  obtain ⟨h1, x, hx, e⟩ := hiL_spec v hc
  constructor
  · intro hw p hp
    obtain ⟨y, hy, k⟩ := corners_top l h v.1 v.2 hp
    have := h1 y hy
    unfold pr at *
    omega
  · intro hw
    have := hw x (cornersL_mem l x hx)
    omega
theorem lo_gt (v : Int × Int) (W : Int) {l : List (Int × Int)} (h : 1 ≤ l.length) : W < loL v (cornersL l) ↔ ∀ p ∈ l, W < pr v p := by
  have hc := (cornersL_len l h).1
  obtain ⟨h1, x, hx, e⟩ := loL_spec v hc
  constructor
  · intro hw p hp
    obtain ⟨y, hy, k⟩ := corners_top l h (-v.1) (-v.2) hp
    have := h1 y hy
    simp only [Int.neg_mul] at k
    unfold pr at *
    omega
  · intro hw
    have := hw x (cornersL_mem l x hx)
    omega

/-- A place in a hull, as the reference says it. -/
def sideN (q : (Int × Int) × (Int × Int)) (px py d : Int) : Bool := decide ((q.2.1 - q.1.1) * (py - q.1.2 * d) - (q.2.2 - q.1.2) * (px - q.1.1 * d) < 0)
def inL (h : List (Int × Int)) (px py d : Int) : Bool :=
  if h.length = 1 then decide (px = (h.getD 0 (0, 0)).1 * d) && decide (py = (h.getD 0 (0, 0)).2 * d)
  else (List.range h.length).all (fun i => !sideN (ed h i) px py d) && (decide (2 < h.length) || btwT (h.getD 0 (0, 0)).1 (h.getD 0 (0, 0)).2 (h.getD 1 (0, 0)).1 (h.getD 1 (0, 0)).2 px py d)
theorem btw_symm (a b c e px py d : Int) : btwT a b c e px py d = btwT c e a b px py d := by
  unfold btwT
  rw [Int.min_comm a c, Int.max_comm a c, Int.min_comm b e, Int.max_comm b e]
/-- A verdict: does it say that they meet, and its numbers. -/
structure Vrd where
  m : Bool
  x : Int
  y : Int
  d : Int
  u : Int
  v : Int
  w : Int
def Vrd.val (t : Vrd) : Value := .agg #[.bool t.m, .int .i64 t.x, .int .i64 t.y, .int .i64 t.d, .int .i64 t.u, .int .i64 t.v, .int .i64 t.w]
def Vrd.Ok (t : Vrd) : Prop := IntKind.i64.wrap t.x = t.x ∧ IntKind.i64.wrap t.y = t.y ∧ IntKind.i64.wrap t.d = t.d ∧ IntKind.i64.wrap t.u = t.u ∧ IntKind.i64.wrap t.v = t.v ∧ IntKind.i64.wrap t.w = t.w
/-- Its numbers are in range: of one that says that they meet, and of one that says that they don't. -/
def plcOk (t : Vrd) : Bool := decide (t.u = 0 ∧ t.v = 0 ∧ t.w = 0 ∧ (1 ≤ t.d ∧ t.d ≤ 1073741824) ∧ (-4398046511104 ≤ t.x ∧ t.x ≤ 4398046511104) ∧ (-4398046511104 ≤ t.y ∧ t.y ≤ 4398046511104))
def lnOk (t : Vrd) : Bool := decide (t.x = 0 ∧ t.y = 0 ∧ t.d = 0 ∧ (-1152921504606846976 ≤ t.w ∧ t.w ≤ 1152921504606846976) ∧ (-1073741824 ≤ t.u ∧ t.u ≤ 1073741824) ∧ (-1073741824 ≤ t.v ∧ t.v ≤ 1073741824))
/-- The program's test, of two hulls. -/
def rplcL (h k : List (Int × Int)) (t : Vrd) : Bool := plcOk t && (holdsL h t.x t.y t.d && holdsL k t.x t.y t.d)
def rlineL (h k : List (Int × Int)) (t : Vrd) : Bool := lnOk t && (decide (hiL (t.u, t.v) h < t.w) && decide (t.w < loL (t.u, t.v) k))
def checkL (h k : List (Int × Int)) (t : Vrd) : Bool := if t.m then rplcL h k t else rlineL h k t
/-- The reference's, of two sets. -/
def rightL (l m : List (Int × Int)) (t : Vrd) : Bool :=
  if t.m then plcOk t && (inL (cornersL l) t.x t.y t.d && inL (cornersL m) t.x t.y t.d)
  else lnOk t && ((l.all fun p => decide (pr (t.u, t.v) p < t.w)) && (m.all fun p => decide (t.w < pr (t.u, t.v) p)))
end Go.Proofs.YtpnkpejnahhajaaGreat

namespace Go.Proofs.YtpnkpejnahhajaaGreat

theorem sq_nn (x : Int) : 0 ≤ x * x := by
  rcases Int.le_total 0 x with h | h
  · exact Int.mul_nonneg h h
  · exact Int.mul_nonneg_of_nonpos_of_nonpos h h
theorem sq_zero {x : Int} (h : x * x = 0) : x = 0 := by
  rcases Int.mul_eq_zero.1 h with h | h <;> exact h
/-- A form that is nowhere positive. -/
theorem form_np {p q t e f : Int} (h : p ≤ 0) (hq : q ≤ 0) (h2 : t * t = p * q) : e * e * q - 2 * (e * f * t) + f * f * p ≤ 0 := by
  rcases Int.lt_or_eq_of_le h with h | h
  · have k := sq_nn (f * p - e * t)
    have h3 : p * (e * e * q - 2 * (e * f * t) + f * f * p) = (f * p - e * t) * (f * p - e * t) := by grind
    by_cases hh : e * e * q - 2 * (e * f * t) + f * f * p ≤ 0
    · exact hh
    · exfalso
      have := Int.mul_neg_of_neg_of_pos h (show 0 < e * e * q - 2 * (e * f * t) + f * f * p by omega)
      omega
  · subst h
    have ht : t = 0 := sq_zero (by rw [h2]; omega)
    subst ht
    have := Int.mul_nonpos_of_nonneg_of_nonpos (sq_nn e) hq
    simpa using this

theorem sgn_mul_neg (a b : Int) : sgn a * sgn b < 0 ↔ (a < 0 ∧ 0 < b) ∨ (0 < a ∧ b < 0) := by
  unfold sgn; split <;> split <;> (try split) <;> (try split) <;> omega
theorem sgn_mul_np (a b : Int) : sgn a * sgn b ≤ 0 ↔ (a ≤ 0 ∧ 0 ≤ b) ∨ (0 ≤ a ∧ b ≤ 0) := by
  unfold sgn; split <;> split <;> (try split) <;> (try split) <;> omega
theorem sgn_eq_zero (a : Int) : sgn a = 0 ↔ a = 0 := by
  unfold sgn; split <;> (try split) <;> omega
theorem np_of_mul {a b : Int} (h : a * b ≤ 0) : (a ≤ 0 ∧ 0 ≤ b) ∨ (0 ≤ a ∧ b ≤ 0) := by
  rcases Int.lt_trichotomy a 0 with h1 | h1 | h1
  · rcases Int.lt_or_le b 0 with h2 | h2
    · have := Int.mul_pos_of_neg_of_neg h1 h2; omega
    · left; omega
  · omega
  · rcases Int.lt_or_le 0 b with h2 | h2
    · have := Int.mul_pos h1 h2; omega
    · right; omega
theorem mul_np {a b : Int} (h : (a ≤ 0 ∧ 0 ≤ b) ∨ (0 ≤ a ∧ b ≤ 0)) : a * b ≤ 0 := by
  rcases h with ⟨h1, h2⟩ | ⟨h1, h2⟩
  · exact Int.mul_nonpos_of_nonpos_of_nonneg h1 h2
  · exact Int.mul_nonpos_of_nonneg_of_nonpos h1 h2
/-- Between the ends: the ways to the ends are opposed. -/
theorem btw_iff (a b p : Int) : (min a b ≤ p ∧ p ≤ max a b) ↔ (a - p) * (b - p) ≤ 0 := by
  constructor
  · intro h; apply mul_np; omega
  · intro h; have := np_of_mul h; omega

theorem seg_id (ax ay bx by_ cx cy dx dy : Int) :
    crs ax ay bx by_ cx cy * dx - crs ax ay bx by_ dx dy * cx = crs cx cy dx dy bx by_ * ax - crs cx cy dx dy ax ay * bx := by
  unfold crs; grind
theorem seg_idy (ax ay bx by_ cx cy dx dy : Int) :
    crs ax ay bx by_ cx cy * dy - crs ax ay bx by_ dx dy * cy = crs cx cy dx dy bx by_ * ay - crs cx cy dx dy ax ay * by_ := by
  unfold crs; grind
theorem seg_sum (ax ay bx by_ cx cy dx dy : Int) :
    crs ax ay bx by_ cx cy - crs ax ay bx by_ dx dy = crs cx cy dx dy bx by_ - crs cx cy dx dy ax ay := by
  unfold crs; grind

/-- A weighted mean with weights of one sum. -/
theorem mean_lt {s t u v a b c d M : Int} (h : s * d - t * c = v * a - u * b) (hs : s - t = v - u) (h1 : 0 ≤ s) (h2 : t ≤ 0) (h3 : 0 ≤ v) (h4 : u ≤ 0) (hp : 0 < s - t)
    (hc : c ≤ M) (hd : d ≤ M) (ha : M < a) (hb : M < b) : False := by
  have e1 := Int.mul_le_mul_of_nonneg_left hd h1
  have e2 := Int.mul_le_mul_of_nonneg_left hc (show 0 ≤ -t by omega)
  have e3 := Int.mul_le_mul_of_nonneg_left (show M + 1 ≤ a by omega) h3
  have e4 := Int.mul_le_mul_of_nonneg_left (show M + 1 ≤ b by omega) (show 0 ≤ -u by omega)
  have e5 : s * M - t * M = v * M - u * M := by grind
  simp only [Int.neg_mul, Int.mul_add, Int.mul_one] at e1 e2 e3 e4
  omega
theorem cross_span {s t u v a b c d : Int} (h : s * d - t * c = v * a - u * b) (hs : s - t = v - u) (h1 : (s < 0 ∧ 0 < t) ∨ (0 < s ∧ t < 0)) (h2 : (u < 0 ∧ 0 < v) ∨ (0 < u ∧ v < 0)) : min a b ≤ max c d ∧ min c d ≤ max a b := by
  have key : ∀ s t u v : Int, s * d - t * c = v * a - u * b → s - t = v - u → 0 < s → t < 0 → 0 < v → u < 0 → min a b ≤ max c d ∧ min c d ≤ max a b := by
    intro s t u v h hs p1 p2 p3 p4
    constructor
    · by_cases hh : min a b ≤ max c d
      · exact hh
      · exact (mean_lt (M := max c d) h hs (by omega) (by omega) (by omega) (by omega) (by omega) (by omega) (by omega) (by omega) (by omega)).elim
    · by_cases hh : min c d ≤ max a b
      · exact hh
      · exact (mean_lt (s := v) (t := u) (u := t) (v := s) (a := d) (b := c) (c := b) (d := a) (M := max a b) (by omega) (by omega) (by omega) (by omega) (by omega) (by omega) (by omega) (by omega) (by omega) (by omega) (by omega)).elim
  rcases h1 with ⟨p1, p2⟩ | ⟨p1, p2⟩
  · exact key (-s) (-t) (-u) (-v) (by simp only [Int.neg_mul]; omega) (by omega) (by omega) (by omega) (by omega) (by omega)
  · exact key s t u v h hs p1 p2 (by omega) (by omega)

theorem on_prop {ax ay bx by_ px py : Int} : onL ax ay bx by_ px py = true ↔ crs ax ay bx by_ px py = 0 ∧ (ax - px) * (bx - px) ≤ 0 ∧ (ay - py) * (by_ - py) ≤ 0 := by
  unfold onL
  rw [decide_eq_true_eq, sgn_eq_zero, ← btw_iff, ← btw_iff]
  constructor
  · rintro ⟨a, b, c, d, e⟩; exact ⟨a, ⟨b, c⟩, d, e⟩
  · rintro ⟨a, ⟨b, c⟩, d, e⟩; exact ⟨a, b, c, d, e⟩

/-- A point of one segment is on the other: they touch. -/
theorem touch_of_on {ax ay bx by_ cx cy dx dy : Int} (h : crs ax ay bx by_ cx cy = 0) (hx : (ax - cx) * (bx - cx) ≤ 0) (hy : (ay - cy) * (by_ - cy) ≤ 0) :
    crs cx cy dx dy ax ay * crs cx cy dx dy bx by_ ≤ 0 := by
  have e : crs cx cy dx dy ax ay * crs cx cy dx dy bx by_ =
      (dx - cx) * (dx - cx) * ((ay - cy) * (by_ - cy)) - 2 * ((dx - cx) * (dy - cy) * ((ay - cy) * (bx - cx))) + (dy - cy) * (dy - cy) * ((ax - cx) * (bx - cx)) := by
    unfold crs at h ⊢; grind
  rw [e]
  have hh : (ay - cy) * (bx - cx) = (by_ - cy) * (ax - cx) := by clear e hx hy; unfold crs at h; grind
  exact form_np hx hy ((congrArg (fun z => (ay - cy) * (bx - cx) * z) hh).trans (by grind))

theorem touch_iff {ax ay bx by_ cx cy dx dy : Int} : touchL ax ay bx by_ cx cy dx dy = true ↔
    (min ax bx ≤ max cx dx ∧ min cx dx ≤ max ax bx) ∧ (min ay by_ ≤ max cy dy ∧ min cy dy ≤ max ay by_) ∧
    crs ax ay bx by_ cx cy * crs ax ay bx by_ dx dy ≤ 0 ∧ crs cx cy dx dy ax ay * crs cx cy dx dy bx by_ ≤ 0 := by
  unfold touchL spansT
  simp only [Bool.and_eq_true, decide_eq_true_eq, sgn_mul_np]
  constructor
  · rintro ⟨⟨a, b⟩, c, d⟩; exact ⟨a, b, mul_np c, mul_np d⟩
  · rintro ⟨a, b, c, d⟩; exact ⟨⟨a, b⟩, np_of_mul c, np_of_mul d⟩

theorem meet_iff {ax ay bx by_ cx cy dx dy : Int} : meetL ax ay bx by_ cx cy dx dy = true ↔
    ((((crs ax ay bx by_ cx cy < 0 ∧ 0 < crs ax ay bx by_ dx dy) ∨ (0 < crs ax ay bx by_ cx cy ∧ crs ax ay bx by_ dx dy < 0)) ∧
      ((crs cx cy dx dy ax ay < 0 ∧ 0 < crs cx cy dx dy bx by_) ∨ (0 < crs cx cy dx dy ax ay ∧ crs cx cy dx dy bx by_ < 0))) ∨
    onL ax ay bx by_ cx cy = true ∨ onL ax ay bx by_ dx dy = true ∨ onL cx cy dx dy ax ay = true ∨ onL cx cy dx dy bx by_ = true) := by
  unfold meetL
  simp only [Bool.or_eq_true, Bool.and_eq_true, decide_eq_true_eq, sgn_mul_neg]

theorem box_of_on {a b c d : Int} (h : (a - c) * (b - c) ≤ 0) : min a b ≤ max c d ∧ min c d ≤ max a b := by
  have := np_of_mul h; omega

theorem touch_of_meet {ax ay bx by_ cx cy dx dy : Int} (h : meetL ax ay bx by_ cx cy dx dy = true) : touchL ax ay bx by_ cx cy dx dy = true := by
  rw [touch_iff]
  rw [meet_iff] at h
  rcases h with ⟨h1, h2⟩ | h | h | h | h
  · exact ⟨cross_span (seg_id ..) (seg_sum ..) h1 h2, cross_span (seg_idy ..) (seg_sum ..) h1 h2, mul_np (by omega), mul_np (by omega)⟩
  · obtain ⟨h0, h1, h2⟩ := on_prop.1 h
    exact ⟨box_of_on h1, box_of_on h2, by rw [h0]; omega, touch_of_on h0 h1 h2⟩
  · obtain ⟨h0, h1, h2⟩ := on_prop.1 h
    have k1 := box_of_on (d := cx) h1
    have k2 := box_of_on (d := cy) h2
    have k3 := touch_of_on (dx := cx) (dy := cy) h0 h1 h2
    refine ⟨by omega, by omega, by rw [h0]; omega, ?_⟩
    have e1 : crs dx dy cx cy ax ay = -crs cx cy dx dy ax ay := by unfold crs; grind
    have e2 : crs dx dy cx cy bx by_ = -crs cx cy dx dy bx by_ := by unfold crs; grind
    rw [e1, e2, Int.neg_mul_neg] at k3
    exact k3
  · obtain ⟨h0, h1, h2⟩ := on_prop.1 h
    have k1 := box_of_on (d := bx) h1
    have k2 := box_of_on (d := by_) h2
    exact ⟨by omega, by omega, touch_of_on h0 h1 h2, by rw [h0]; omega⟩
  · obtain ⟨h0, h1, h2⟩ := on_prop.1 h
    have k1 := box_of_on (d := ax) h1
    have k2 := box_of_on (d := ay) h2
    have k3 := touch_of_on (dx := ax) (dy := ay) h0 h1 h2
    refine ⟨by omega, by omega, ?_, by rw [h0]; omega⟩
    have e1 : crs bx by_ ax ay cx cy = -crs ax ay bx by_ cx cy := by unfold crs; grind
    have e2 : crs bx by_ ax ay dx dy = -crs ax ay bx by_ dx dy := by unfold crs; grind
    rw [e1, e2, Int.neg_mul_neg] at k3
    exact k3

/-- In line with two points that are apart in one coordinate, and between them there: between them in the other, too. -/
theorem col_btw {ax ay bx by_ px py : Int} (h : crs ax ay bx by_ px py = 0) (hne : ax ≠ bx) (hx : (ax - px) * (bx - px) ≤ 0) : (ay - py) * (by_ - py) ≤ 0 := by
  have e1 : (bx - ax) * (py - ay) = (by_ - ay) * (px - ax) := by unfold crs at h; omega
  have e2 : (bx - ax) * (by_ - py) = (by_ - ay) * (bx - px) := by unfold crs at h; grind
  have e3 : (bx - ax) * (bx - ax) * ((ay - py) * (by_ - py)) = (by_ - ay) * (by_ - ay) * ((ax - px) * (bx - px)) := by grind
  have p1 : 0 < (bx - ax) * (bx - ax) := by
    rcases Int.lt_or_gt_of_ne hne with h | h
    · exact Int.mul_pos (by omega) (by omega)
    · exact Int.mul_pos_of_neg_of_neg (by omega) (by omega)
  have p2 := Int.mul_nonpos_of_nonneg_of_nonpos (sq_nn (by_ - ay)) hx
  by_cases hh : (ay - py) * (by_ - py) ≤ 0
  · exact hh
  · have := Int.mul_pos p1 (show 0 < (ay - py) * (by_ - py) by omega)
    omega
theorem on_of_x {ax ay bx by_ px py : Int} (h : crs ax ay bx by_ px py = 0) (hne : ax ≠ bx) (hx : (ax - px) * (bx - px) ≤ 0) : onL ax ay bx by_ px py = true :=
  on_prop.2 ⟨h, hx, col_btw h hne hx⟩

/-- A point on the line of a segment whose ends lie on two sides of a line through it that is not the segment's. -/
theorem on_of_cross {ax ay bx by_ cx cy dx dy : Int} (h : crs ax ay bx by_ cx cy = 0) (ht : crs ax ay bx by_ dx dy ≠ 0) (hp : crs cx cy dx dy ax ay * crs cx cy dx dy bx by_ ≤ 0) : onL ax ay bx by_ cx cy = true := by
  have i1 := seg_id ax ay bx by_ cx cy dx dy
  have i2 := seg_idy ax ay bx by_ cx cy dx dy
  have i3 := seg_sum ax ay bx by_ cx cy dx dy
  rw [h] at i1 i2 i3
  generalize crs ax ay bx by_ dx dy = t at *
  generalize crs cx cy dx dy ax ay = u at *
  generalize crs cx cy dx dy bx by_ = v at *
  have key : ∀ a b c : Int, 0 * dx - t * c = v * a - u * b → (a - c) * (b - c) ≤ 0 := by
    intro a b c i
    have j1 : t * (c - a) = u * (b - a) := by grind
    have j2 : t * (b - c) = -(v * (b - a)) := by grind
    have j3 : t * t * ((a - c) * (b - c)) = u * v * ((b - a) * (b - a)) := by grind
    have p1 : 0 < t * t := by
      rcases Int.lt_or_gt_of_ne ht with h | h
      · exact Int.mul_pos_of_neg_of_neg (by omega) (by omega)
      · exact Int.mul_pos (by omega) (by omega)
    have p2 := Int.mul_nonpos_of_nonpos_of_nonneg hp (sq_nn (b - a))
    by_cases hh : (a - c) * (b - c) ≤ 0
    · exact hh
    · have := Int.mul_pos p1 (show 0 < (a - c) * (b - c) by omega)
      omega
  exact on_prop.2 ⟨h, key _ _ _ (by omega), key _ _ _ (by omega)⟩

theorem span_end {a b c d : Int} (h : min a b ≤ max c d ∧ min c d ≤ max a b) : (a - c) * (b - c) ≤ 0 ∨ (a - d) * (b - d) ≤ 0 ∨ (c - a) * (d - a) ≤ 0 ∨ (c - b) * (d - b) ≤ 0 := by
  rw [← btw_iff, ← btw_iff, ← btw_iff, ← btw_iff]; omega

/-- All four on one line. -/
theorem meet_of_col {ax ay bx by_ cx cy dx dy : Int} (h1 : crs ax ay bx by_ cx cy = 0) (h2 : crs ax ay bx by_ dx dy = 0) (h3 : crs cx cy dx dy ax ay = 0) (h4 : crs cx cy dx dy bx by_ = 0)
    (hx : min ax bx ≤ max cx dx ∧ min cx dx ≤ max ax bx) (hy : min ay by_ ≤ max cy dy ∧ min cy dy ≤ max ay by_) :
    onL ax ay bx by_ cx cy = true ∨ onL ax ay bx by_ dx dy = true ∨ onL cx cy dx dy ax ay = true ∨ onL cx cy dx dy bx by_ = true := by
  by_cases n1 : ax = bx <;> by_cases n2 : cx = dx
  · subst n1 n2
    have ex : ax = cx := by omega
    subst ex
    rcases span_end hy with k | k | k | k
    · exact Or.inl (on_prop.2 ⟨h1, by simp, k⟩)
    · exact Or.inr (Or.inl (on_prop.2 ⟨h2, by simp, k⟩))
    · exact Or.inr (Or.inr (Or.inl (on_prop.2 ⟨h3, by simp, k⟩)))
    · exact Or.inr (Or.inr (Or.inr (on_prop.2 ⟨h4, by simp, k⟩)))
  · exact Or.inr (Or.inr (Or.inl (on_of_x h3 n2 ((btw_iff _ _ _).1 (by omega)))))
  · exact Or.inl (on_of_x h1 n1 ((btw_iff _ _ _).1 (by omega)))
  · rcases span_end hx with k | k | k | k
    · exact Or.inl (on_of_x h1 n1 k)
    · exact Or.inr (Or.inl (on_of_x h2 n1 k))
    · exact Or.inr (Or.inr (Or.inl (on_of_x h3 n2 k)))
    · exact Or.inr (Or.inr (Or.inr (on_of_x h4 n2 k)))

theorem meet_of_touch {ax ay bx by_ cx cy dx dy : Int} (h : touchL ax ay bx by_ cx cy dx dy = true) : meetL ax ay bx by_ cx cy dx dy = true := by
  obtain ⟨hx, hy, h1, h2⟩ := touch_iff.1 h
  rw [meet_iff]
  have hs := seg_sum ax ay bx by_ cx cy dx dy
  by_cases z1 : crs ax ay bx by_ cx cy = 0
  · by_cases z2 : crs ax ay bx by_ dx dy = 0
    · have huv : crs cx cy dx dy ax ay = 0 ∧ crs cx cy dx dy bx by_ = 0 := by
        rcases np_of_mul h2 with k | k <;> omega
      exact Or.inr (meet_of_col z1 z2 huv.1 huv.2 hx hy)
    · exact Or.inr (Or.inl (on_of_cross z1 z2 h2))
  · by_cases z2 : crs ax ay bx by_ dx dy = 0
    · refine Or.inr (Or.inr (Or.inl (on_of_cross (dx := cx) (dy := cy) z2 z1 ?_)))
      have e1 : crs dx dy cx cy ax ay = -crs cx cy dx dy ax ay := by unfold crs; grind
      have e2 : crs dx dy cx cy bx by_ = -crs cx cy dx dy bx by_ := by unfold crs; grind
      rw [e1, e2, Int.neg_mul_neg]; exact h2
    · by_cases z3 : crs cx cy dx dy ax ay = 0
      · by_cases z4 : crs cx cy dx dy bx by_ = 0
        · rcases np_of_mul h1 with k | k <;> omega
        · exact Or.inr (Or.inr (Or.inr (Or.inl (on_of_cross z3 z4 h1))))
      · by_cases z4 : crs cx cy dx dy bx by_ = 0
        · refine Or.inr (Or.inr (Or.inr (Or.inr (on_of_cross (dx := ax) (dy := ay) z4 z3 ?_))))
          have e1 : crs bx by_ ax ay cx cy = -crs ax ay bx by_ cx cy := by unfold crs; grind
          have e2 : crs bx by_ ax ay dx dy = -crs ax ay bx by_ dx dy := by unfold crs; grind
          rw [e1, e2, Int.neg_mul_neg]; exact h1
        · left
          have k1 := np_of_mul h1
          have k2 := np_of_mul h2
          omega

/-- The reference's meeting of two segments is the program's touching, for all ints. -/
theorem meet_touch (ax ay bx by_ cx cy dx dy : Int) : meetL ax ay bx by_ cx cy dx dy = touchL ax ay bx by_ cx cy dx dy := by
  rw [Bool.eq_iff_iff]; exact ⟨touch_of_meet, meet_of_touch⟩

/-- The reference's crossing of the ray to the right. -/
def rayR (ax ay bx by_ px py : Int) : Bool :=
  (decide (ay ≤ py ∧ py < by_) && decide (0 < sgn (crs ax ay bx by_ px py))) || (decide (by_ ≤ py ∧ py < ay) && decide (0 < sgn (crs bx by_ ax ay px py)))
end Go.Proofs.YtpnkpejnahhajaaGreat
