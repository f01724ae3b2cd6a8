/- Plain mathematics of layer 1: orientations, bounds. Nothing of the program. -/
namespace Go.Proofs.Ytfmojiaaoebodaa

theorem mul_bd {a b A B : Int} (ha : -A ≤ a ∧ a ≤ A) (hb : -B ≤ b ∧ b ≤ B) : -(A * B) ≤ a * b ∧ a * b ≤ A * B := by
  obtain ⟨a1, a2⟩ := ha
  obtain ⟨b1, b2⟩ := hb
  have hA : 0 ≤ A := by omega
  have hB : 0 ≤ B := by omega
  rcases Int.le_total 0 b with h | h
  · have u1 : a * b ≤ A * b := Int.mul_le_mul_of_nonneg_right a2 h
    have u2 : -A * b ≤ a * b := Int.mul_le_mul_of_nonneg_right a1 h
    have u3 : A * b ≤ A * B := Int.mul_le_mul_of_nonneg_left b2 hA
    rw [Int.neg_mul] at u2
    omega
  · have u1 : a * b ≤ -A * b := Int.mul_le_mul_of_nonpos_right a1 h
    have u2 : A * b ≤ a * b := Int.mul_le_mul_of_nonpos_right a2 h
    have u3 : A * -B ≤ A * b := Int.mul_le_mul_of_nonneg_left b1 hA
    rw [Int.neg_mul] at u1
    rw [Int.mul_neg] at u3
    omega

/-- The double area of three points. -/
def crs (ax ay bx by_ cx cy : Int) : Int := (bx - ax) * (cy - ay) - (by_ - ay) * (cx - ax)
/-- The sign. -/
def sgn (n : Int) : Int := if n < 0 then -1 else if 0 < n then 1 else 0
/-- A valid point. -/
def vld (x y : Int) : Bool := decide (-4096 ≤ x) && decide (x ≤ 4096) && decide (-4096 ≤ y) && decide (y ≤ 4096)
theorem vld_iff (x y : Int) : vld x y = true ↔ (-4096 ≤ x ∧ x ≤ 4096) ∧ (-4096 ≤ y ∧ y ≤ 4096) := by
  simp [vld]; omega
/-- A number within the bounds of a coordinate. -/
def Co (x : Int) : Prop := -4096 ≤ x ∧ x ≤ 4096
theorem crs_bd {ax ay bx by_ cx cy : Int} (h1 : Co ax) (h2 : Co ay) (h3 : Co bx) (h4 : Co by_) (h5 : Co cx) (h6 : Co cy) :
    -134217728 ≤ crs ax ay bx by_ cx cy ∧ crs ax ay bx by_ cx cy ≤ 134217728 := by
  unfold Co at *
  have b1 := mul_bd (a := bx - ax) (b := cy - ay) (A := 8192) (B := 8192) (by omega) (by omega)
  have b2 := mul_bd (a := by_ - ay) (b := cx - ax) (A := 8192) (B := 8192) (by omega) (by omega)
  unfold crs; omega
theorem sgn_bd (n : Int) : -1 ≤ sgn n ∧ sgn n ≤ 1 := by unfold sgn; split <;> (try split) <;> omega

/-- The square of the distance. -/
def sqd (ax ay bx by_ : Int) : Int := (bx - ax) * (bx - ax) + (by_ - ay) * (by_ - ay)
theorem sqd_symm (ax ay bx by_ : Int) : sqd ax ay bx by_ = sqd bx by_ ax ay := by
  unfold sqd
  have h1 : (bx - ax) * (bx - ax) = (ax - bx) * (ax - bx) := by rw [← Int.neg_sub ax bx, Int.neg_mul_neg]
  have h2 : (by_ - ay) * (by_ - ay) = (ay - by_) * (ay - by_) := by rw [← Int.neg_sub ay by_, Int.neg_mul_neg]
  omega

/-- Two spans touch. -/
def spansT (a b c d : Int) : Bool := decide (min a b ≤ max c d ∧ min c d ≤ max a b)

/-- A point between the ends of a segment's box, and in line with it. -/
def onL (ax ay bx by_ px py : Int) : Bool :=
  decide (sgn (crs ax ay bx by_ px py) = 0 ∧ min ax bx ≤ px ∧ px ≤ max ax bx ∧ min ay by_ ≤ py ∧ py ≤ max ay by_)

/-- Two segments meet, as the reference says it. -/
def meetL (ax ay bx by_ cx cy dx dy : Int) : Bool :=
  (decide (sgn (crs ax ay bx by_ cx cy) * sgn (crs ax ay bx by_ dx dy) < 0) && decide (sgn (crs cx cy dx dy ax ay) * sgn (crs cx cy dx dy bx by_) < 0)) ||
  (onL ax ay bx by_ cx cy || (onL ax ay bx by_ dx dy || (onL cx cy dx dy ax ay || onL cx cy dx dy bx by_)))

/-- Two segments touch, as the program says it. -/
def touchL (ax ay bx by_ cx cy dx dy : Int) : Bool :=
  (spansT ax bx cx dx && spansT ay by_ cy dy) && (decide (sgn (crs ax ay bx by_ cx cy) * sgn (crs ax ay bx by_ dx dy) ≤ 0) && decide (sgn (crs cx cy dx dy ax ay) * sgn (crs cx cy dx dy bx by_) ≤ 0))

/-- An edge a b and the next one, b c, fold back: more than b is in common. -/
def foldsL (ax ay bx by_ cx cy : Int) : Bool :=
  decide (sgn (crs ax ay bx by_ cx cy) = 0) && decide (0 < (ax - bx) * (cx - bx) + (ay - by_) * (cy - by_))

/-- An edge crosses the ray to the right of p. -/
def rayL (ax ay bx by_ px py : Int) : Bool :=
  if decide (py < ay) == decide (py < by_) then false else decide (ay < by_) == decide (0 < crs ax ay bx by_ px py)

end Go.Proofs.Ytfmojiaaoebodaa
