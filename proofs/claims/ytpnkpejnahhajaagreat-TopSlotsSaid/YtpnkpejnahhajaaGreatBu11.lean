/- Plain mathematics of layer 1: orientations, bounds. Nothing of the program.
Contracts of the functions on single points and numbers.
Contracts of the functions on segments.
Layer 4: the times of a task, sorted, each once. -/
import Derived.Test.YtpnkpejnahhajaaGreatBu0
import Derived.WalkKit
import Derived.WalkSpells
import Derived.WalkLawsBesides
import Derived.BigQuiet
import Derived.Deep.QuietTactic
import Derived.Lib.Hide
import Derived.Deep.RegionHeld3
import Derived.Test.YtpnkpejnahhajaaGreatShelf
import Derived.Test.YtpnkpejnahhajaaGreatBu7
import Derived.Lib.OwnBridge
namespace Go.Proofs.YtpnkpejnahhajaaGreat

theorem mul_bd {a b A B : Int} (ha : -A ≤ a ∧ a ≤ A) (hb : -B ≤ b ∧ b ≤ B) : -(A * B) ≤ a * b ∧ a * b ≤ A * B := by
  obtain ⟨a1, a2⟩ := ha
  obtain ⟨b1, b2⟩ := hb
  have hA : 0 ≤ A := by omega
  have hB : 0 ≤ B := by omega
  rcases Int.le_total 0 b with h | h
  · have u1 : a * b ≤ A * b := Int.mul_le_mul_of_nonneg_right a2 h
    have u2 : -A * b ≤ a * b := Int.mul_le_mul_of_nonneg_right a1 h
    have u3 : A * b ≤ A * B := Int.mul_le_mul_of_nonneg_left b2 hA
    rw [Int.neg_mul] at u2
    omega
  · have u1 : a * b ≤ -A * b := Int.mul_le_mul_of_nonpos_right a1 h
    have u2 : A * b ≤ a * b := Int.mul_le_mul_of_nonpos_right a2 h
    have u3 : A * -B ≤ A * b := Int.mul_le_mul_of_nonneg_left b1 hA
    rw [Int.neg_mul] at u1
    rw [Int.mul_neg] at u3
    omega

/-- The double area of three points. -/
def crs (ax ay bx by_ cx cy : Int) : Int := (bx - ax) * (cy - ay) - (by_ - ay) * (cx - ax)
/-- The sign. -/
def sgn (n : Int) : Int := if n < 0 then -1 else if 0 < n then 1 else 0
/-- A valid point. -/
def vld (x y : Int) : Bool := decide (-4096 ≤ x) && decide (x ≤ 4096) && decide (-4096 ≤ y) && decide (y ≤ 4096)
theorem vld_iff (x y : Int) : vld x y = true ↔ (-4096 ≤ x ∧ x ≤ 4096) ∧ (-4096 ≤ y ∧ y ≤ 4096) := by
  simp [vld]; omega
/-- A number within the bounds of a coordinate. -/
def Co (x : Int) : Prop := -4096 ≤ x ∧ x ≤ 4096
theorem crs_bd {ax ay bx by_ cx cy : Int} (h1 : Co ax) (h2 : Co ay) (h3 : Co bx) (h4 : Co by_) (h5 : Co cx) (h6 : Co cy) :
    -134217728 ≤ crs ax ay bx by_ cx cy ∧ crs ax ay bx by_ cx cy ≤ 134217728 := by
  unfold Co at *
  have b1 := mul_bd (a := bx - ax) (b := cy - ay) (A := 8192) (B := 8192) (by omega) (by omega)
  have b2 := mul_bd (a := by_ - ay) (b := cx - ax) (A := 8192) (B := 8192) (by omega) (by omega)
  unfold crs; omega
theorem sgn_bd (n : Int) : -1 ≤ sgn n ∧ sgn n ≤ 1 := by unfold sgn; split <;> (try split) <;> omega

/-- The square of the distance. -/
def sqd (ax ay bx by_ : Int) : Int := (bx - ax) * (bx - ax) + (by_ - ay) * (by_ - ay)
/-- Two spans touch. -/
def spansT (a b c d : Int) : Bool := decide (min a b ≤ max c d ∧ min c d ≤ max a b)

/-- A point between the ends of a segment's box, and in line with it. -/
def onL (ax ay bx by_ px py : Int) : Bool :=
  decide (sgn (crs ax ay bx by_ px py) = 0 ∧ min ax bx ≤ px ∧ px ≤ max ax bx ∧ min ay by_ ≤ py ∧ py ≤ max ay by_)

/-- Two segments meet, as the reference says it. -/
def meetL (ax ay bx by_ cx cy dx dy : Int) : Bool :=
  (decide (sgn (crs ax ay bx by_ cx cy) * sgn (crs ax ay bx by_ dx dy) < 0) && decide (sgn (crs cx cy dx dy ax ay) * sgn (crs cx cy dx dy bx by_) < 0)) ||
  (onL ax ay bx by_ cx cy || (onL ax ay bx by_ dx dy || (onL cx cy dx dy ax ay || onL cx cy dx dy bx by_)))

/-- Two segments touch, as the program says it. -/
def touchL (ax ay bx by_ cx cy dx dy : Int) : Bool :=
  (spansT ax bx cx dx && spansT ay by_ cy dy) && (decide (sgn (crs ax ay bx by_ cx cy) * sgn (crs ax ay bx by_ dx dy) ≤ 0) && decide (sgn (crs cx cy dx dy ax ay) * sgn (crs cx cy dx dy bx by_) ≤ 0))

/-- An edge a b and the next one, b c, fold back: more than b is in common. -/
def foldsL (ax ay bx by_ cx cy : Int) : Bool :=
  decide (sgn (crs ax ay bx by_ cx cy) = 0) && decide (0 < (ax - bx) * (cx - bx) + (ay - by_) * (cy - by_))

/-- An edge crosses the ray to the right of p. -/
def rayL (ax ay bx by_ px py : Int) : Bool :=
  if decide (py < ay) == decide (py < by_) then false else decide (ay < by_) == decide (0 < crs ax ay bx by_ px py)

end Go.Proofs.YtpnkpejnahhajaaGreat

namespace Go.Proofs.YtpnkpejnahhajaaGreat
open Go.RowKit

set_option maxHeartbeats 400000 in
theorem inRange_any (n m : Int) (w : World) (hm : 0 ≤ m ∧ m ≤ 4611686018427387904) (r : Bool) (hr : (decide (-m ≤ n) && decide (n ≤ m)) = r) :
    Calls Tryz.prog 92 #[.int .i64 n, .int .i64 m] w fun e w' => e = .returned (.bool r) ∧ w = w' := by
  subst hr
  go_enter Tryz.func92, Tryz.ntmps92
  go_wp2
  · have h : -m ≤ n := by assumption
    go_ret
    exact ⟨ret_bool (by simp [h]), rfl⟩
  · have h : n < -m := by assumption
    go_ret
    exact ⟨ret_bool (by simp; omega), rfl⟩

set_option maxHeartbeats 400000 in
theorem valid_any (x y : Int) (w : World) (r : Bool) (hr : vld x y = r) :
    Calls Tryz.prog 120 #[.agg #[.int .i64 x, .int .i64 y]] w fun e w' => e = .returned (.bool r) ∧ Gr w w' := by
  subst hr
  cases hx : (decide (-4096 ≤ x) && decide (x ≤ 4096))
  · have e : vld x y = false := by
      cases h : vld x y
      · rfl
      · have := (vld_iff x y).1 h
        simp at hx; omega
    rw [e]
    have H := Lib.hid hx
    clear hx e
    go_enter Tryz.func120, Tryz.ntmps120
    go_wp2_with fail
    refine (inRange_any x _ _ (by omega) _ H.out).mono ?_
    rintro e w' ⟨rfl, rfl⟩
    go_wp2_with fail
    go_ret
    exact ⟨rfl, (Gr.refl _).alloc _⟩
  · cases hy : (decide (-4096 ≤ y) && decide (y ≤ 4096))
    all_goals
      have e : vld x y = (decide (-4096 ≤ y) && decide (y ≤ 4096)) := by
        simp at hx
        simp [vld, hx]
      rw [hy] at e
      rw [e]
      have H := Lib.hid hx
      have H2 := Lib.hid hy
      clear hx hy e
      go_enter Tryz.func120, Tryz.ntmps120
      go_wp2_with fail
      refine (inRange_any x _ _ (by omega) _ H.out).mono ?_
      rintro e w' ⟨rfl, rfl⟩
      go_wp2_with fail
      refine (inRange_any y _ _ (by omega) _ H2.out).mono ?_
      rintro e w' ⟨rfl, rfl⟩
      go_wp2_with fail
      go_ret
      exact ⟨rfl, (Gr.refl _).alloc _⟩

set_option maxHeartbeats 400000 in
theorem cross_any (ax ay bx by_ cx cy : Int) (w : World) (h1 : Co ax) (h2 : Co ay) (h3 : Co bx) (h4 : Co by_) (h5 : Co cx) (h6 : Co cy) :
    Calls Tryz.prog 121 #[.agg #[.int .i64 ax, .int .i64 ay], .agg #[.int .i64 bx, .int .i64 by_], .agg #[.int .i64 cx, .int .i64 cy]] w fun e w' => e = .returned (.int .i64 (crs ax ay bx by_ cx cy)) ∧ Gr w w' := by
  unfold Co at *
  have b1 := mul_bd (a := bx - ax) (b := cy - ay) (A := 8192) (B := 8192) (by omega) (by omega)
  have b2 := mul_bd (a := by_ - ay) (b := cx - ax) (A := 8192) (B := 8192) (by omega) (by omega)
  go_enter Tryz.func121, Tryz.ntmps121
  go_wp2
  go_ret
  exact ⟨rfl, by (repeat (first | exact Gr.refl _ | assumption | (refine Gr.drew ?_) | (refine Gr.drewN ?_ _) | (refine Gr.alloc ?_ _) | (refine Gr.trans ?_ (by assumption))))⟩

set_option maxHeartbeats 400000 in
theorem isNaN_any (x : Int) (w : World) : Calls Tryz.prog 114 #[.int .i64 x] w fun e w' => e = .returned (.bool false) ∧ w = w' := by
  go_enter Tryz.func114, Tryz.ntmps114
  go_wp2
  go_ret
  exact ⟨ret_bool (by simp), rfl⟩

set_option maxHeartbeats 400000 in
theorem cmp_any (x y : Int) (w : World) : Calls Tryz.prog 71 #[.int .i64 x, .int .i64 y] w fun e w' => e = .returned (.int .i64 (sgn (x - y))) ∧ w = w' := by
  rcases Int.lt_trichotomy x y with h | h | h
  all_goals
    go_enter Tryz.func71, Tryz.ntmps71
    go_wp2_with fail
    refine (isNaN_any _ _).mono ?_
    rintro e w' ⟨rfl, rfl⟩
    go_wp2_with fail
    refine (isNaN_any _ _).mono ?_
    rintro e w' ⟨rfl, rfl⟩
    go_wp2_with fail
    go_ret
    exact ⟨ret_int (by unfold sgn; simp; omega), rfl⟩

theorem cmp_zero (x : Int) (w : World) : Calls Tryz.prog 71 #[.int .i64 x, .int .i64 0] w fun e w' => e = .returned (.int .i64 (sgn x)) ∧ w = w' := by
  have h := cmp_any x 0 w
  rw [Int.sub_zero] at h
  exact h

set_option maxHeartbeats 400000 in
theorem turn_any (ax ay bx by_ cx cy : Int) (w : World) (h1 : Co ax) (h2 : Co ay) (h3 : Co bx) (h4 : Co by_) (h5 : Co cx) (h6 : Co cy) :
    Calls Tryz.prog 79 #[.agg #[.int .i64 ax, .int .i64 ay], .agg #[.int .i64 bx, .int .i64 by_], .agg #[.int .i64 cx, .int .i64 cy]] w fun e w' => e = .returned (.int .i64 (sgn (crs ax ay bx by_ cx cy))) ∧ Gr w w' := by
  go_enter Tryz.func79, Tryz.ntmps79
  go_wp2_with fail
  refine (cross_any _ _ _ _ _ _ _ h1 h2 h3 h4 h5 h6).mono ?_
  rintro e w1 ⟨rfl, hb⟩
  go_wp2_with fail
  refine (cmp_zero _ _).mono ?_
  rintro e w' ⟨rfl, rfl⟩
  go_wp2_with fail
  go_ret
  exact ⟨rfl, by (repeat (first | exact Gr.refl _ | assumption | (refine Gr.drew ?_) | (refine Gr.drewN ?_ _) | (refine Gr.alloc ?_ _) | (refine Gr.trans ?_ (by assumption))))⟩

end Go.Proofs.YtpnkpejnahhajaaGreat

namespace Go.Proofs.YtpnkpejnahhajaaGreat
open Go.RowKit

/-- Two edges in boxes. -/
theorem boxesE {w W : World} {t u : TypeId} {a0 a1 a2 a3 b0 b1 b2 b3 : Value} (hW : (w.alloc (.cells #[a0, a1, a2, a3] t)).alloc (.cells #[b0, b1, b2, b3] u) = W) :
    Gr w W ∧ (W.cell? ⟨w.heap.size, 0, none⟩ = some a0 ∧ W.cell? ⟨w.heap.size, 1, none⟩ = some a1 ∧ W.cell? ⟨w.heap.size, 2, none⟩ = some a2 ∧ W.cell? ⟨w.heap.size, 3, none⟩ = some a3 ∧
      W.cell? ⟨w.heap.size + 1, 0, none⟩ = some b0 ∧ W.cell? ⟨w.heap.size + 1, 1, none⟩ = some b1 ∧ W.cell? ⟨w.heap.size + 1, 2, none⟩ = some b2 ∧ W.cell? ⟨w.heap.size + 1, 3, none⟩ = some b3) := by
  subst hW
  exact ⟨by (repeat (first | exact Gr.refl _ | assumption | (refine Gr.drew ?_) | (refine Gr.drewN ?_ _) | (refine Gr.alloc ?_ _) | (refine Gr.trans ?_ (by assumption)))), alloc_old (alloc_new rfl rfl), alloc_old (alloc_new rfl rfl), alloc_old (alloc_new rfl rfl), alloc_old (alloc_new rfl rfl), alloc_new (by simp) rfl, alloc_new (by simp) rfl, alloc_new (by simp) rfl, alloc_new (by simp) rfl⟩
theorem turn_is (ax ay bx by_ cx cy : Int) (w : World) (s : Int) (hs : sgn (crs ax ay bx by_ cx cy) = s) (h1 : Co ax) (h2 : Co ay) (h3 : Co bx) (h4 : Co by_) (h5 : Co cx) (h6 : Co cy) :
    Calls Tryz.prog 79 #[.agg #[.int .i64 ax, .int .i64 ay], .agg #[.int .i64 bx, .int .i64 by_], .agg #[.int .i64 cx, .int .i64 cy]] w fun e w' => e = .returned (.int .i64 s) ∧ Gr w w' := by
  subst hs; exact turn_any _ _ _ _ _ _ _ h1 h2 h3 h4 h5 h6
set_option maxHeartbeats 400000 in
theorem spans_any (a b c d : Int) (w : World) (r : Bool) (hr : spansT a b c d = r) :
    Calls Tryz.prog 139 #[.int .i64 a, .int .i64 b, .int .i64 c, .int .i64 d] w fun e w' => e = .returned (.bool r) ∧ w = w' := by
  subst hr
  go_enter Tryz.func139, Tryz.ntmps139
  go_wp2
  all_goals
    go_ret
    refine ⟨ret_bool ?_, rfl⟩
    first | exact decide_eq_decide.2 (by omega) | exact (decide_eq_true (by omega)).symm | exact (decide_eq_false (by omega)).symm

end Go.Proofs.YtpnkpejnahhajaaGreat

namespace Go.Proofs.YtpnkpejnahhajaaGreat
open Go.RowKit Go.Shelf Go.Lib Go.Sort
set_option linter.unusedSimpArgs false

/-! ### Lists -/
def cfI (x y : Int) : Int := sgn (x - y)
theorem ltI (x y : Int) : ltOf cfI x y = decide (x < y) := by
  unfold ltOf cfI
  congr 1
  apply propext
  unfold sgn
  constructor
  · intro h; split at h <;> (repeat' split at h) <;> omega
  · intro h; split <;> (repeat' split) <;> omega
theorem swoI : SWO (ltOf cfI) where
  irrefl x := by rw [ltI]; simp
  trans x y z h1 h2 := by rw [ltI] at *; simp only [decide_eq_true_eq] at *; omega
  ntrans x y z h1 h2 := by rw [ltI] at *; simp only [decide_eq_false_iff_not] at *; omega
def srtI (zs : List Int) : List Int := zs.mergeSort fun x y => !(ltOf cfI y x)
theorem srtI_len (zs : List Int) : (srtI zs).length = zs.length := List.length_mergeSort _
theorem srtI_mem (zs : List Int) (x : Int) : x ∈ srtI zs ↔ x ∈ zs := (List.mergeSort_perm zs _).mem_iff
theorem srtI_asc (zs : List Int) : (srtI zs).Pairwise (· ≤ ·) := by
  have h := List.pairwise_mergeSort (le := fun x y => !(ltOf cfI y x)) (fun a b c h1 h2 => by simp only [ltI] at *; simp at *; omega) (fun a b => by simp only [ltI]; simp; omega) zs
  exact h.imp fun {a b} h => by simp only [ltI] at h; simpa using h

theorem keeps_iff (d : Array Int) (j : Nat) : keeps d j = true ↔ j = 0 ∨ d[j]! ≠ d[j - 1]! := by
  rcases Nat.eq_zero_or_pos j with e | e
  · subst e; simp [keeps_lt_one d 0 (by omega)]
  · constructor
    · intro h; exact Or.inr (fun e' => by rw [keeps_neg e e'] at h; cases h)
    · rintro (h | h)
      · omega
      · exact keeps_pos h
theorem comp_mem {d : Array Int} : ∀ (m j : Nat), j < m → d[j]! ∈ compactUpTo d m
  | 0, _, h => by omega
  | m + 1, j, h => by
    rw [compactUpTo_succ]
    rcases Nat.lt_or_ge j m with c | c
    · exact List.mem_append.2 (Or.inl (comp_mem m j c))
    · obtain rfl : j = m := by omega
      by_cases k : keeps d j = true
      · rw [if_pos k]; simp
      · have e : ¬ (j = 0 ∨ d[j]! ≠ d[j - 1]!) := fun h => k ((keeps_iff d j).2 h)
        have hj : j ≠ 0 := fun h => e (Or.inl h)
        have he : d[j]! = d[j - 1]! := Classical.byContradiction fun h => e (Or.inr h)
        rw [he]
        exact List.mem_append.2 (Or.inl (comp_mem j (j - 1) (by omega)))
theorem comp_sub {d : Array Int} (m : Nat) (x : Int) (h : x ∈ compactUpTo d m) : ∃ j, j < m ∧ x = d[j]! := by
  unfold compactUpTo at h
  obtain ⟨j, hj, rfl⟩ := List.mem_map.1 h
  exact ⟨j, by simpa using (List.mem_filter.1 hj).1, rfl⟩
theorem comp_asc {d : Array Int} (hd : ∀ i j, i ≤ j → j < d.size → d[i]! ≤ d[j]!) : ∀ m, m ≤ d.size → (compactUpTo d m).Pairwise (· < ·)
  | 0, _ => by simp [compactUpTo]
  | m + 1, hm => by
    rw [compactUpTo_succ]
    by_cases k : keeps d m = true
    · rw [if_pos k]
      refine List.pairwise_append.2 ⟨comp_asc hd m (by omega), List.pairwise_singleton _ _, fun x hx y hy => ?_⟩
      obtain rfl := List.mem_singleton.1 hy
      obtain ⟨j, hj, rfl⟩ := comp_sub m x hx
      rcases (keeps_iff d m).1 k with e | e
      · omega
      · have h1 := hd j (m - 1) (by omega) (by omega)
        have h2 := hd (m - 1) m (by omega) (by omega)
        omega
    · rw [if_neg k, List.append_nil]; exact comp_asc hd m (by omega)

/-- The numbers of a list, ascending, each once. -/
def timesL (zs : List Int) : List Int := compact (srtI zs)
theorem timesL_mem (zs : List Int) (x : Int) : x ∈ timesL zs ↔ x ∈ zs := by
  refine Iff.trans ?_ (srtI_mem zs x)
  unfold timesL compact
  constructor
  · intro h
    obtain ⟨j, hj, rfl⟩ := comp_sub _ x h
    rw [getElem!_pos (srtI zs).toArray j (by simpa using hj)]
    simp
  · intro h
    obtain ⟨j, hj, rfl⟩ := List.mem_iff_getElem.1 h
    have := comp_mem (d := (srtI zs).toArray) (srtI zs).length j hj
    rw [getElem!_pos (srtI zs).toArray j (by simpa using hj)] at this
    simpa using this
theorem timesL_asc (zs : List Int) : (timesL zs).Pairwise (· < ·) := by
  unfold timesL compact
  refine comp_asc (fun i j hij hj => ?_) _ (by simp)
  have hs := srtI_asc zs
  have hj' : j < (srtI zs).length := by simpa using hj
  rw [getElem!_pos (srtI zs).toArray i (by simp; omega), getElem!_pos (srtI zs).toArray j hj]
  rcases Nat.lt_or_ge i j with c | c
  · simpa using List.pairwise_iff_getElem.1 hs i j (by omega) hj' c
  · obtain rfl : i = j := by omega
    exact Int.le_refl _
theorem timesL_len (zs : List Int) : (timesL zs).length ≤ zs.length := by
  rw [← srtI_len zs]
  unfold timesL compact compactUpTo
  rw [List.length_map]
  have := List.length_filter_le (keeps (srtI zs).toArray) (List.range (srtI zs).length)
  simpa using this
/-! ### In memory -/
theorem flat1_map (zs : List Int) : flatE enc1 zs = zs.map (Value.int .i64) := by
  induction zs with
  | nil => rfl
  | cons x r ih => simp only [flatE, List.flatMap_cons, List.map_cons] at *; rw [ih]; rfl
theorem gb_putRow {w : World} {g q : Nat} {d : Array Int} : Gb g w (putRow (Value.int .i64) (Sort.ahead w q) g 0 d) :=
  ⟨rfl, rfl, rfl, by simp [putRow, mapBlock, Sort.ahead], fun i _ hn => by
    simp [putRow, mapBlock, Sort.ahead, Array.getElem?_modify, show g ≠ i from fun e => hn (by rw [e])]⟩
theorem gr_grow (w : World) (os : Array Obj) : Gr w (Sort.grow w os) :=
  ⟨rfl, rfl, rfl, by simp [Sort.grow], fun i hi => by simp [Sort.grow, Array.getElem?_append_left hi]⟩

set_option maxHeartbeats 1000000 in
theorem sortI_any (g c base : Nat) (zs : List Int) (w : World) (hl : zs.length ≤ 4096) (ho : w.ownsRow base 3 1 (.slice (some ⟨g, 0, none⟩) zs.length c) zs.length (flatE enc1 zs)) :
    Calls Tryz.prog 113 #[.slice (some ⟨g, 0, none⟩) zs.length c, .func (.func 71) #[] #[]] w fun e w' => e = .returned (.tuple #[]) ∧ w'.ownsRow base 3 1 (.slice (some ⟨g, 0, none⟩) zs.length c) zs.length (flatE enc1 (srtI zs)) ∧ Gb g w w' := by
  have eg : ∀ args w, (callFunc 71 args).run Tryz.prog w = .ok (.enter 71 args) w := enters_of Tryz.func71 (by kernel_rfl) rfl
  rw [flat1_map] at ho
  obtain ⟨g', cap, e, hb, hlt, hn, hm, hz, hH⟩ := holds_of_ownsRow ho (by simp)
  injection e with e1 _ e3
  injection e1 with e1
  injection e1 with e1
  subst e1; subst e3
  have hcmp : CmpReads Tryz.prog 71 #[] (Value.int .i64) cfI g 0 zs.toArray.size w := fun m os dk _ x y => (cmp_any x y _).mono fun e w' ⟨he, hw⟩ => ⟨he, 0, by rw [← hw]; rfl⟩
  have h := Any.slices_SortFunc_total Try.sortInts (Value.int .i64) (fun _ => rfl) cfI swoI 71 #[] g 0 c zs.toArray w eg hcmp.lays hH hlt (by simp; omega) (fun x y h1 h2 => by
    rw [ltI] at h1 h2
    simp only [decide_eq_false_iff_not] at h1 h2
    omega)
  change Calls Tryz.prog 113 _ _ _ at h
  have e : zs.toArray.size = zs.length := by simp
  rw [e] at h
  refine h.mono ?_
  rintro e w' ⟨rfl, n, os, rfl⟩
  refine ⟨rfl, ?_, ?_⟩
  · have := ownsRow_putRow (q := n) (k := zs.length) ho (ys := srtI zs) (srtI_len zs) (Nat.le_refl _)
    rw [List.take_of_length_le (by rw [srtI_len]; exact Nat.le_refl _), ← flat1_map] at this
    exact owns_gr this (gr_grow _ os)
  · exact (gb_putRow (q := n) (d := (srtI zs).toArray)).trans (Gb.of (gr_grow _ os) g)

theorem compI_any (g c base : Nat) (zs : List Int) (w : World) (hl : zs.length ≤ 4096) (hc : zs.length ≤ c) (ho : w.ownsRow base 3 1 (.slice (some ⟨g, 0, none⟩) zs.length c) zs.length (flatE enc1 zs)) :
    Calls Tryz.prog 69 #[.slice (some ⟨g, 0, none⟩) zs.length c] w fun e w' => e = .returned (.slice (some ⟨g, 0, none⟩) (compact zs).length c) ∧ w'.ownsRow base 3 1 (.slice (some ⟨g, 0, none⟩) (compact zs).length c) (compact zs).length (flatE enc1 (compact zs)) ∧ Gb g w w' := by
  rw [flat1_map] at ho
  obtain ⟨g', cap, e, hb, hlt, hn, hm, hz, hH⟩ := holds_of_ownsRow ho (by simp)
  injection e with e1 _ e3
  injection e1 with e1
  injection e1 with e1
  subst e1; subst e3
  have h := AnyG.slices_Compact_int Try.compInts g 0 c zs w hH (by omega) hc
  change Calls Tryz.prog 69 _ _ _ at h
  refine h.mono ?_
  rintro e w' ⟨rfl, q, rfl⟩
  have hcl : (compact zs).length ≤ zs.length := by
    unfold compact compactUpTo
    rw [List.length_map]
    have := List.length_filter_le (keeps zs.toArray) (List.range zs.length)
    simpa using this
  refine ⟨rfl, ?_, gb_putRow⟩
  have := ownsRow_putRow (q := q) (k := (compact zs).length) ho (ys := compact zs ++ List.replicate (zs.length - (compact zs).length) 0) (by simp; omega) hcl
  rw [List.take_append_of_le_length (Nat.le_refl _), List.take_of_length_le (Nat.le_refl _), ← flat1_map] at this
  exact this

end Go.Proofs.YtpnkpejnahhajaaGreat
