/- What makes a verdict about two sets right. Plain mathematics. -/
import Derived.Test.YthleajmamkihaaaHullD
import Derived.Test.YthleajmamkihaaaPlace
namespace Go.Proofs.Ythleajmamkihaaa
open Go.RowKit

theorem hiT_spec (v : Int × Int) (ps : List (Int × Int)) : ∀ k, (∀ i, i ≤ k → pr v (ps.getD i (0, 0)) ≤ hiT v ps k) ∧ ∃ i, i ≤ k ∧ hiT v ps k = pr v (ps.getD i (0, 0))
  | 0 => ⟨fun i h => by obtain rfl : i = 0 := by omega
                        exact Int.le_refl _, 0, Nat.le_refl _, rfl⟩
  | k + 1 => by
    obtain ⟨h1, i, hi, e⟩ := hiT_spec v ps k
    unfold hiT
    refine ⟨fun j hj => ?_, ?_⟩
    · by_cases hk : j ≤ k
      · have := h1 j hk; omega
      · obtain rfl : j = k + 1 := by omega
        omega
    · rcases Int.le_total (hiT v ps k) (pr v (ps.getD (k + 1) (0, 0))) with h | h
      · exact ⟨k + 1, Nat.le_refl _, Int.max_eq_right h⟩
      · exact ⟨i, by omega, by rw [Int.max_eq_left h]; exact e⟩
theorem loT_spec (v : Int × Int) (ps : List (Int × Int)) : ∀ k, (∀ i, i ≤ k → loT v ps k ≤ pr v (ps.getD i (0, 0))) ∧ ∃ i, i ≤ k ∧ loT v ps k = pr v (ps.getD i (0, 0))
  | 0 => ⟨fun i h => by obtain rfl : i = 0 := by omega
                        exact Int.le_refl _, 0, Nat.le_refl _, rfl⟩
  | k + 1 => by
    obtain ⟨h1, i, hi, e⟩ := loT_spec v ps k
    unfold loT
    refine ⟨fun j hj => ?_, ?_⟩
    · by_cases hk : j ≤ k
      · have := h1 j hk; omega
      · obtain rfl : j = k + 1 := by omega
        omega
    · rcases Int.le_total (loT v ps k) (pr v (ps.getD (k + 1) (0, 0))) with h | h
      · exact ⟨i, by omega, by rw [Int.min_eq_left h]; exact e⟩
      · exact ⟨k + 1, Nat.le_refl _, Int.min_eq_right h⟩
theorem at_mem {ps : List (Int × Int)} {i : Nat} (h : i < ps.length) : ps.getD i (0, 0) ∈ ps := by
  rw [List.getD_eq_getElem?_getD, List.getElem?_eq_getElem h]; exact List.getElem_mem h
theorem mem_at {ps : List (Int × Int)} {p : Int × Int} (h : p ∈ ps) : ∃ i, i < ps.length ∧ p = ps.getD i (0, 0) := by
  obtain ⟨i, hi, e⟩ := List.mem_iff_getElem.1 h
  exact ⟨i, hi, by rw [List.getD_eq_getElem?_getD, List.getElem?_eq_getElem hi]; exact e.symm⟩
theorem hiL_spec (v : Int × Int) {ps : List (Int × Int)} (h : 1 ≤ ps.length) : (∀ p ∈ ps, pr v p ≤ hiL v ps) ∧ ∃ p ∈ ps, hiL v ps = pr v p := by
  obtain ⟨h1, i, hi, e⟩ := hiT_spec v ps (ps.length - 1)
  refine ⟨fun p hp => ?_, _, at_mem (by omega : i < ps.length), e⟩
  obtain ⟨j, hj, rfl⟩ := mem_at hp
  exact h1 j (by omega)
theorem loL_spec (v : Int × Int) {ps : List (Int × Int)} (h : 1 ≤ ps.length) : (∀ p ∈ ps, loL v ps ≤ pr v p) ∧ ∃ p ∈ ps, loL v ps = pr v p := by
  obtain ⟨h1, i, hi, e⟩ := loT_spec v ps (ps.length - 1)
  refine ⟨fun p hp => ?_, _, at_mem (by omega : i < ps.length), e⟩
  obtain ⟨j, hj, rfl⟩ := mem_at hp
  exact h1 j (by omega)
/-- All points are below a line exactly if all corners are. -/
theorem hi_lt (v : Int × Int) (W : Int) {l : List (Int × Int)} (h : 1 ≤ l.length) : hiL v (cornersL l) < W ↔ ∀ p ∈ l, pr v p < W := by
  have hc := (cornersL_len l h).1
  obtain ⟨h1, x, hx, e⟩ := hiL_spec v hc
  constructor
  · intro hw p hp
    obtain ⟨y, hy, k⟩ := corners_top l h v.1 v.2 hp
    have := h1 y hy
    unfold pr at *
    omega
  · intro hw
    have := hw x (cornersL_mem l x hx)
    omega
theorem lo_gt (v : Int × Int) (W : Int) {l : List (Int × Int)} (h : 1 ≤ l.length) : W < loL v (cornersL l) ↔ ∀ p ∈ l, W < pr v p := by
  have hc := (cornersL_len l h).1
  obtain ⟨h1, x, hx, e⟩ := loL_spec v hc
  constructor
  · intro hw p hp
    obtain ⟨y, hy, k⟩ := corners_top l h (-v.1) (-v.2) hp
    have := h1 y hy
    simp only [Int.neg_mul] at k
    unfold pr at *
    omega
  · intro hw
    have := hw x (cornersL_mem l x hx)
    omega

/-- A place in a hull, as the reference says it. -/
def sideN (q : (Int × Int) × (Int × Int)) (px py d : Int) : Bool := decide ((q.2.1 - q.1.1) * (py - q.1.2 * d) - (q.2.2 - q.1.2) * (px - q.1.1 * d) < 0)
def inL (h : List (Int × Int)) (px py d : Int) : Bool :=
  if h.length = 1 then decide (px = (h.getD 0 (0, 0)).1 * d) && decide (py = (h.getD 0 (0, 0)).2 * d)
  else (List.range h.length).all (fun i => !sideN (ed h i) px py d) && (decide (2 < h.length) || btwT (h.getD 0 (0, 0)).1 (h.getD 0 (0, 0)).2 (h.getD 1 (0, 0)).1 (h.getD 1 (0, 0)).2 px py d)
theorem side_eq (q : (Int × Int) × (Int × Int)) (px py d : Int) : sideN q px py d = sideE q px py d := by
  unfold sideN sideE
  rw [decide_eq_decide]; omega
theorem btw_symm (a b c e px py d : Int) : btwT a b c e px py d = btwT c e a b px py d := by
  unfold btwT
  rw [Int.min_comm a c, Int.max_comm a c, Int.min_comm b e, Int.max_comm b e]
theorem in_holds {h : List (Int × Int)} (h1 : 1 ≤ h.length) (px py d : Int) : inL h px py d = holdsL h px py d := by
  unfold inL holdsL
  match h, h1 with
  | [(a, b)], _ =>
    show (decide (px = a * d) && decide (py = b * d)) = ([0] : List Nat).all (okE [(a, b)] px py d)
    rw [List.all_cons, List.all_nil, Bool.and_true]
    have e0 : ed [(a, b)] 0 = ((a, b), (a, b)) := by simp [ed]
    unfold okE
    rw [e0]
    unfold sideE btwT
    dsimp only
    rw [Int.sub_self, Int.sub_self, Int.zero_mul, Int.zero_mul]
    show (decide (px = a * d) && decide (py = b * d)) = (true && (false || (decide (min a a * d ≤ px) && (decide (px ≤ max a a * d) && (decide (min b b * d ≤ py) && decide (py ≤ max b b * d))))))
    rw [Bool.true_and, Bool.false_or]
    rw [Int.min_self, Int.max_self, Int.min_self, Int.max_self]
    rw [Bool.eq_iff_iff]
    simp only [Bool.and_eq_true, decide_eq_true_eq]
    omega
  | [(a, b), (c, e)], _ =>
    rw [if_neg (by simp)]
    show (([0, 1] : List Nat).all (fun i => !sideN (ed [(a, b), (c, e)] i) px py d) && (false || btwT a b c e px py d)) = ([0, 1] : List Nat).all (okE [(a, b), (c, e)] px py d)
    simp only [List.all_cons, List.all_nil, Bool.and_true, Bool.false_or, side_eq]
    have d0 : ed [(a, b), (c, e)] 0 = ((a, b), (c, e)) := by simp [ed]
    have d1 : ed [(a, b), (c, e)] 1 = ((c, e), (a, b)) := by simp [ed]
    unfold okE
    rw [d0, d1]
    dsimp only
    rw [btw_symm c e a b]
    have h3 : decide (3 ≤ [(a, b), (c, e)].length) = false := rfl
    rw [h3, Bool.false_or]
    cases sideE ((a, b), (c, e)) px py d <;> cases sideE ((c, e), (a, b)) px py d <;> cases btwT a b c e px py d <;> rfl
  | p :: q :: r :: t, _ =>
    rw [if_neg (by simp)]
    have e : decide (2 < (p :: q :: r :: t).length) = true := by simp
    rw [e, Bool.true_or, Bool.and_true]
    congr 1
    funext i
    rw [side_eq]
    unfold okE
    rw [decide_eq_true (by simp : 3 ≤ (p :: q :: r :: t).length), Bool.true_or, Bool.and_true]

/-- A verdict: does it say that they meet, and its numbers. -/
structure Vrd where
  m : Bool
  x : Int
  y : Int
  d : Int
  u : Int
  v : Int
  w : Int
def Vrd.val (t : Vrd) : Value := .agg #[.bool t.m, .int .i64 t.x, .int .i64 t.y, .int .i64 t.d, .int .i64 t.u, .int .i64 t.v, .int .i64 t.w]
def Vrd.Ok (t : Vrd) : Prop := IntKind.i64.wrap t.x = t.x ∧ IntKind.i64.wrap t.y = t.y ∧ IntKind.i64.wrap t.d = t.d ∧ IntKind.i64.wrap t.u = t.u ∧ IntKind.i64.wrap t.v = t.v ∧ IntKind.i64.wrap t.w = t.w
/-- Its numbers are in range: of one that says that they meet, and of one that says that they don't. -/
def plcOk (t : Vrd) : Bool := decide (t.u = 0 ∧ t.v = 0 ∧ t.w = 0 ∧ (1 ≤ t.d ∧ t.d ≤ 1073741824) ∧ (-4398046511104 ≤ t.x ∧ t.x ≤ 4398046511104) ∧ (-4398046511104 ≤ t.y ∧ t.y ≤ 4398046511104))
def lnOk (t : Vrd) : Bool := decide (t.x = 0 ∧ t.y = 0 ∧ t.d = 0 ∧ (-1152921504606846976 ≤ t.w ∧ t.w ≤ 1152921504606846976) ∧ (-1073741824 ≤ t.u ∧ t.u ≤ 1073741824) ∧ (-1073741824 ≤ t.v ∧ t.v ≤ 1073741824))
/-- The program's test, of two hulls. -/
def rplcL (h k : List (Int × Int)) (t : Vrd) : Bool := plcOk t && (holdsL h t.x t.y t.d && holdsL k t.x t.y t.d)
def rlineL (h k : List (Int × Int)) (t : Vrd) : Bool := lnOk t && (decide (hiL (t.u, t.v) h < t.w) && decide (t.w < loL (t.u, t.v) k))
def checkL (h k : List (Int × Int)) (t : Vrd) : Bool := if t.m then rplcL h k t else rlineL h k t
/-- The reference's, of two sets. -/
def rightL (l m : List (Int × Int)) (t : Vrd) : Bool :=
  if t.m then plcOk t && (inL (cornersL l) t.x t.y t.d && inL (cornersL m) t.x t.y t.d)
  else lnOk t && ((l.all fun p => decide (pr (t.u, t.v) p < t.w)) && (m.all fun p => decide (t.w < pr (t.u, t.v) p)))
theorem right_check {l m : List (Int × Int)} (hl : 1 ≤ l.length) (hm : 1 ≤ m.length) (t : Vrd) : rightL l m t = checkL (cornersL l) (cornersL m) t := by
  unfold rightL checkL rplcL rlineL
  split
  · rw [in_holds (cornersL_len l hl).1, in_holds (cornersL_len m hm).1]
  · congr 1
    congr 1
    · rw [Bool.eq_iff_iff, List.all_eq_true, decide_eq_true_eq, hi_lt _ _ hl]
      simp only [decide_eq_true_eq]
    · rw [Bool.eq_iff_iff, List.all_eq_true, decide_eq_true_eq, lo_gt _ _ hm]
      simp only [decide_eq_true_eq]

end Go.Proofs.Ythleajmamkihaaa
