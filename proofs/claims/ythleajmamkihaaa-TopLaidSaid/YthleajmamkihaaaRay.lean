/- The ray, and edges that fold back. -/
import Derived.Test.YthleajmamkihaaaNum
import Derived.Test.YthleajmamkihaaaHeld
import Derived.RegionTactic
import Derived.BigRegion
import Derived.ChangeAlike
namespace Go.Proofs.Ythleajmamkihaaa
open Go.RowKit
set_option linter.unusedSimpArgs false

/-- An edge and a point in boxes. -/
theorem boxesR {w W : World} {t u : TypeId} {a0 a1 a2 a3 b0 b1 : Value} (hW : (w.alloc (.cells #[a0, a1, a2, a3] t)).alloc (.cells #[b0, b1] u) = W) :
    Gr w W ∧ (W.cell? ⟨w.heap.size, 0, none⟩ = some a0 ∧ W.cell? ⟨w.heap.size, 1, none⟩ = some a1 ∧ W.cell? ⟨w.heap.size, 2, none⟩ = some a2 ∧ W.cell? ⟨w.heap.size, 3, none⟩ = some a3 ∧
      W.cell? ⟨w.heap.size + 1, 0, none⟩ = some b0 ∧ W.cell? ⟨w.heap.size + 1, 1, none⟩ = some b1) := by
  subst hW
  exact ⟨by (repeat (first | exact Gr.refl _ | assumption | (refine Gr.drew ?_) | (refine Gr.drewN ?_ _) | (refine Gr.alloc ?_ _) | (refine Gr.trans ?_ (by assumption)))), alloc_old (alloc_new rfl rfl), alloc_old (alloc_new rfl rfl), alloc_old (alloc_new rfl rfl), alloc_old (alloc_new rfl rfl), alloc_new (by simp) rfl, alloc_new (by simp) rfl⟩

set_option maxHeartbeats 1000000 in
theorem ray_any (ax ay bx by_ px py : Int) (w : World) (h1 : Co ax) (h2 : Co ay) (h3 : Co bx) (h4 : Co by_) (h5 : Co px) (h6 : Co py) (r : Bool) (hr : rayL ax ay bx by_ px py = r) :
    Calls Try.prog 21 #[.agg #[.int .i64 ax, .int .i64 ay, .int .i64 bx, .int .i64 by_], .agg #[.int .i64 px, .int .i64 py]] w fun e w' => e = .returned (.bool r) ∧ Gr w w' := by
  unfold rayL at hr
  rcases ht : (decide (py < ay) == decide (py < by_)) with _ | _
  · have hr' : (decide (ay < by_) == decide (0 < crs ax ay bx by_ px py)) = r := by rw [← hr, ht]; rfl
    clear hr
    have HR := Lib.hid hr'
    clear hr'
    go_enter Try.func21, Try.ntmps21
    go_wp2_with fail
    generalize hW : World.alloc (World.alloc w _) _ = W
    obtain ⟨hwW, k1, k2, k3, k4, k5, k6⟩ := boxesR hW
    clear hW
    refine (cross_any _ _ _ _ _ _ _ h1 h2 h3 h4 h5 h6).mono ?_
    rintro e w1 ⟨rfl, hb⟩
    go_wp2_with fail
    go_ret
    exact ⟨ret_bool HR.out, by (repeat (first | exact Gr.refl _ | assumption | (refine Gr.drew ?_) | (refine Gr.drewN ?_ _) | (refine Gr.alloc ?_ _) | (refine Gr.trans ?_ (by assumption))))⟩
  · obtain rfl : r = false := by rw [← hr, ht]; rfl
    clear hr
    go_enter Try.func21, Try.ntmps21
    go_wp2_with fail
    go_ret
    exact ⟨rfl, by (repeat (first | exact Gr.refl _ | assumption | (refine Gr.drew ?_) | (refine Gr.drewN ?_ _) | (refine Gr.alloc ?_ _) | (refine Gr.trans ?_ (by assumption))))⟩

set_option maxHeartbeats 2000000 in
theorem folds_any (ax ay bx by_ zx zy cx cy : Int) (w : World) (h1 : Co ax) (h2 : Co ay) (h3 : Co bx) (h4 : Co by_) (h5 : Co cx) (h6 : Co cy) (r : Bool) (hr : foldsL ax ay bx by_ cx cy = r) :
    Calls Try.prog 31 #[.agg #[.int .i64 ax, .int .i64 ay, .int .i64 bx, .int .i64 by_], .agg #[.int .i64 zx, .int .i64 zy, .int .i64 cx, .int .i64 cy]] w fun e w' => e = .returned (.bool r) ∧ Gr w w' := by
  have b1 := mul_bd (a := ax - bx) (b := cx - bx) (A := 8192) (B := 8192) (by unfold Co at *; omega) (by unfold Co at *; omega)
  have b2 := mul_bd (a := ay - by_) (b := cy - by_) (A := 8192) (B := 8192) (by unfold Co at *; omega) (by unfold Co at *; omega)
  have ⟨u1, v1⟩ : -4096 ≤ ax ∧ ax ≤ 4096 := h1
  have ⟨u2, v2⟩ : -4096 ≤ ay ∧ ay ≤ 4096 := h2
  have ⟨u3, v3⟩ : -4096 ≤ bx ∧ bx ≤ 4096 := h3
  have ⟨u4, v4⟩ : -4096 ≤ by_ ∧ by_ ≤ 4096 := h4
  have ⟨u5, v5⟩ : -4096 ≤ cx ∧ cx ≤ 4096 := h5
  have ⟨u6, v6⟩ : -4096 ≤ cy ∧ cy ≤ 4096 := h6
  obtain ⟨s, hs⟩ : ∃ s, sgn (crs ax ay bx by_ cx cy) = s := ⟨_, rfl⟩
  unfold foldsL at hr
  rw [hs] at hr
  have HS := Lib.hid hs
  clear hs
  by_cases h0 : s = 0
  · subst h0
    have hr' : decide (0 < (ax - bx) * (cx - bx) + (ay - by_) * (cy - by_)) = r := by rw [← hr]; rfl
    clear hr
    have HR := Lib.hid hr'
    clear hr'
    go_enter Try.func31, Try.ntmps31
    go_wp2_with fail
    go_region
    all_goals
      go_wp2_with fail
      refine (turn_is _ _ _ _ _ _ _ _ HS.out h1 h2 h3 h4 h5 h6).mono ?_
      rintro e w1 ⟨rfl, hb⟩
      have hc := hb.cells
      go_wp2_with fail
      go_ret
      exact ⟨ret_bool HR.out, by (repeat (first | exact Gr.refl _ | assumption | (refine Gr.drew ?_) | (refine Gr.drewN ?_ _) | (refine Gr.alloc ?_ _) | (refine Gr.trans ?_ (by assumption))))⟩
  · have h0' : (s == 0) = false := by simpa using h0
    obtain rfl : r = false := by rw [← hr, decide_eq_false h0]; rfl
    clear hr
    go_enter Try.func31, Try.ntmps31
    go_wp2_with fail
    go_region
    all_goals
      go_wp2_with fail
      refine (turn_is _ _ _ _ _ _ _ _ HS.out h1 h2 h3 h4 h5 h6).mono ?_
      rintro e w1 ⟨rfl, hb⟩
      go_wp2_with fail
      go_ret
      exact ⟨rfl, by (repeat (first | exact Gr.refl _ | assumption | (refine Gr.drew ?_) | (refine Gr.drewN ?_ _) | (refine Gr.alloc ?_ _) | (refine Gr.trans ?_ (by assumption))))⟩

end Go.Proofs.Ythleajmamkihaaa
