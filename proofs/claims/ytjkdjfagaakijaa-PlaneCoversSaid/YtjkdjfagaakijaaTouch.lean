/- Contracts of the functions on edges. -/
import Derived.Test.YtjkdjfagaakijaaNum
import Derived.Test.YtjkdjfagaakijaaHeld
import Derived.RegionTactic
import Derived.BigRegion
import Derived.ChangeAlike
namespace Go.Proofs.Ytjkdjfagaakijaa
open Go.RowKit
set_option linter.unusedSimpArgs false

set_option maxHeartbeats 1000000 in
theorem boxes_any (ax ay bx by_ cx cy dx dy : Int) (w : World) (r : Bool) (hr : (spansT ax bx cx dx && spansT ay by_ cy dy) = r) :
    Calls Try.prog 77 #[.agg #[.int .i64 ax, .int .i64 ay, .int .i64 bx, .int .i64 by_], .agg #[.int .i64 cx, .int .i64 cy, .int .i64 dx, .int .i64 dy]] w fun e w' => e = .returned (.bool r) ∧ Gr w w' := by
  rcases hx : spansT ax bx cx dx with _ | _
  · obtain rfl : r = false := by rw [← hr, hx]; rfl
    clear hr
    have HX := Lib.hid hx
    clear hx
    go_enter Try.func77, Try.ntmps77
    go_wp2_with fail
    refine (spans_any _ _ _ _ _ _ HX.out).mono ?_
    rintro e w' ⟨rfl, rfl⟩
    go_wp2_with fail
    go_ret
    exact ⟨rfl, by (repeat (first | exact Gr.refl _ | assumption | (refine Gr.drew ?_) | (refine Gr.drewN ?_ _) | (refine Gr.alloc ?_ _) | (refine Gr.trans ?_ (by assumption))))⟩
  · obtain hy : spansT ay by_ cy dy = r := by rw [← hr, hx]; rfl
    clear hr
    have HX := Lib.hid hx
    have HY := Lib.hid hy
    clear hx hy
    go_enter Try.func77, Try.ntmps77
    go_wp2_with fail
    refine (spans_any _ _ _ _ _ _ HX.out).mono ?_
    rintro e w' ⟨rfl, rfl⟩
    go_wp2_with fail
    refine (spans_any _ _ _ _ _ _ HY.out).mono ?_
    rintro e w' ⟨rfl, rfl⟩
    go_wp2_with fail
    go_ret
    exact ⟨rfl, by (repeat (first | exact Gr.refl _ | assumption | (refine Gr.drew ?_) | (refine Gr.drewN ?_ _) | (refine Gr.alloc ?_ _) | (refine Gr.trans ?_ (by assumption))))⟩

set_option maxHeartbeats 1000000 in
theorem touch_no (ax ay bx by_ cx cy dx dy : Int) (w : World) (hb : (spansT ax bx cx dx && spansT ay by_ cy dy) = false) :
    Calls Try.prog 56 #[.agg #[.int .i64 ax, .int .i64 ay, .int .i64 bx, .int .i64 by_], .agg #[.int .i64 cx, .int .i64 cy, .int .i64 dx, .int .i64 dy]] w fun e w' => e = .returned (.bool false) ∧ Gr w w' := by
  have HX := Lib.hid hb
  clear hb
  go_enter Try.func56, Try.ntmps56
  go_wp2_with fail
  refine (boxes_any _ _ _ _ _ _ _ _ _ _ HX.out).mono ?_
  rintro e w1 ⟨rfl, hb⟩
  go_wp2_with fail
  go_ret
  exact ⟨rfl, by (repeat (first | exact Gr.refl _ | assumption | (refine Gr.drew ?_) | (refine Gr.drewN ?_ _) | (refine Gr.alloc ?_ _) | (refine Gr.trans ?_ (by assumption))))⟩

set_option maxRecDepth 100000 in
set_option maxHeartbeats 2000000 in
theorem touch_yes (ax ay bx by_ cx cy dx dy : Int) (w : World) (h1 : Co ax) (h2 : Co ay) (h3 : Co bx) (h4 : Co by_) (h5 : Co cx) (h6 : Co cy) (h7 : Co dx) (h8 : Co dy) (hbx : (spansT ax bx cx dx && spansT ay by_ cy dy) = true)
    (b1 : -1 ≤ sgn (crs ax ay bx by_ cx cy) * sgn (crs ax ay bx by_ dx dy) ∧ sgn (crs ax ay bx by_ cx cy) * sgn (crs ax ay bx by_ dx dy) ≤ 1) (b2 : -1 ≤ sgn (crs cx cy dx dy ax ay) * sgn (crs cx cy dx dy bx by_) ∧ sgn (crs cx cy dx dy ax ay) * sgn (crs cx cy dx dy bx by_) ≤ 1) (r : Bool) (hr : (decide (sgn (crs ax ay bx by_ cx cy) * sgn (crs ax ay bx by_ dx dy) ≤ 0) && decide (sgn (crs cx cy dx dy ax ay) * sgn (crs cx cy dx dy bx by_) ≤ 0)) = r) :
    Calls Try.prog 56 #[.agg #[.int .i64 ax, .int .i64 ay, .int .i64 bx, .int .i64 by_], .agg #[.int .i64 cx, .int .i64 cy, .int .i64 dx, .int .i64 dy]] w fun e w' => e = .returned (.bool r) ∧ Gr w w' := by
  have HX := Lib.hid hbx
  clear hbx
  have e1 : IntKind.i64.wrap (sgn (crs ax ay bx by_ cx cy) * sgn (crs ax ay bx by_ dx dy)) = sgn (crs ax ay bx by_ cx cy) * sgn (crs ax ay bx by_ dx dy) := IntWalk.i64_in _ (by omega)
  have e2 : IntKind.i64.wrap (sgn (crs cx cy dx dy ax ay) * sgn (crs cx cy dx dy bx by_)) = sgn (crs cx cy dx dy ax ay) * sgn (crs cx cy dx dy bx by_) := IntWalk.i64_in _ (by omega)
  by_cases hp : 0 < sgn (crs ax ay bx by_ cx cy) * sgn (crs ax ay bx by_ dx dy)
  · obtain rfl : r = false := by rw [← hr, decide_eq_false (by omega)]; rfl
    clear hr
    go_enter Try.func56, Try.ntmps56
    go_wp2_with fail
    generalize hW : World.alloc (World.alloc w _) _ = W
    obtain ⟨hwW, k1, k2, k3, k4, k5, k6, k7, k8⟩ := boxesE hW
    clear hW
    refine (boxes_any _ _ _ _ _ _ _ _ _ _ HX.out).mono ?_
    rintro e w1 ⟨rfl, hb⟩
    replace hwW := hwW.trans hb
    replace k1 := hb.keep k1
    replace k2 := hb.keep k2
    replace k3 := hb.keep k3
    replace k4 := hb.keep k4
    replace k5 := hb.keep k5
    replace k6 := hb.keep k6
    replace k7 := hb.keep k7
    replace k8 := hb.keep k8
    clear hb
    go_wp2_with fail
    go_region_held3 (fun w' => Gr w w' ∧ w'.cell? ⟨w.heap.size, 0, none⟩ = some (.int .i64 ax) ∧ w'.cell? ⟨w.heap.size, 1, none⟩ = some (.int .i64 ay) ∧ w'.cell? ⟨w.heap.size, 2, none⟩ = some (.int .i64 bx) ∧ w'.cell? ⟨w.heap.size, 3, none⟩ = some (.int .i64 by_) ∧ w'.cell? ⟨w.heap.size + 1, 0, none⟩ = some (.int .i64 cx) ∧ w'.cell? ⟨w.heap.size + 1, 1, none⟩ = some (.int .i64 cy) ∧ w'.cell? ⟨w.heap.size + 1, 2, none⟩ = some (.int .i64 dx) ∧ w'.cell? ⟨w.heap.size + 1, 3, none⟩ = some (.int .i64 dy))  (first | (refine ⟨Gr.drew ?_, ?_⟩; (assumption); go_keep) | (go_split_ands; refine ⟨Gr.trans ?_ (by assumption), ?_⟩; (assumption); (repeat' apply And.intro) <;> (refine Gr.keep (by assumption) ?_; assumption)))  (first | (go_at_call 64; refine (turn_any _ _ _ _ _ _ _ (by assumption) (by assumption) (by assumption) (by assumption) (by assumption) (by assumption)).mono ?_; rintro e w1 ⟨rfl, hb⟩))
    rename_i hHeld
    clear k1 k2 k3 k4 k5 k6 k7 k8
    obtain ⟨hwW, k1, k2, k3, k4, k5, k6, k7, k8⟩ := hHeld
    go_wp2_with fail
    go_ret
    exact ⟨rfl, hwW⟩
  · have hp' : sgn (crs ax ay bx by_ cx cy) * sgn (crs ax ay bx by_ dx dy) ≤ 0 := by omega
    obtain hr' : decide (sgn (crs cx cy dx dy ax ay) * sgn (crs cx cy dx dy bx by_) ≤ 0) = r := by rw [← hr, decide_eq_true hp']; rfl
    clear hr
    have HR := Lib.hid hr'
    clear hr'
    go_enter Try.func56, Try.ntmps56
    go_wp2_with fail
    generalize hW : World.alloc (World.alloc w _) _ = W
    obtain ⟨hwW, k1, k2, k3, k4, k5, k6, k7, k8⟩ := boxesE hW
    clear hW
    refine (boxes_any _ _ _ _ _ _ _ _ _ _ HX.out).mono ?_
    rintro e w1 ⟨rfl, hb⟩
    replace hwW := hwW.trans hb
    replace k1 := hb.keep k1
    replace k2 := hb.keep k2
    replace k3 := hb.keep k3
    replace k4 := hb.keep k4
    replace k5 := hb.keep k5
    replace k6 := hb.keep k6
    replace k7 := hb.keep k7
    replace k8 := hb.keep k8
    clear hb
    go_wp2_with fail
    go_region_held3 (fun w' => Gr w w' ∧ w'.cell? ⟨w.heap.size, 0, none⟩ = some (.int .i64 ax) ∧ w'.cell? ⟨w.heap.size, 1, none⟩ = some (.int .i64 ay) ∧ w'.cell? ⟨w.heap.size, 2, none⟩ = some (.int .i64 bx) ∧ w'.cell? ⟨w.heap.size, 3, none⟩ = some (.int .i64 by_) ∧ w'.cell? ⟨w.heap.size + 1, 0, none⟩ = some (.int .i64 cx) ∧ w'.cell? ⟨w.heap.size + 1, 1, none⟩ = some (.int .i64 cy) ∧ w'.cell? ⟨w.heap.size + 1, 2, none⟩ = some (.int .i64 dx) ∧ w'.cell? ⟨w.heap.size + 1, 3, none⟩ = some (.int .i64 dy))  (first | (refine ⟨Gr.drew ?_, ?_⟩; (assumption); go_keep) | (go_split_ands; refine ⟨Gr.trans ?_ (by assumption), ?_⟩; (assumption); (repeat' apply And.intro) <;> (refine Gr.keep (by assumption) ?_; assumption)))  (first | (go_at_call 64; refine (turn_any _ _ _ _ _ _ _ (by assumption) (by assumption) (by assumption) (by assumption) (by assumption) (by assumption)).mono ?_; rintro e w1 ⟨rfl, hb⟩))
    rename_i hHeld
    clear k1 k2 k3 k4 k5 k6 k7 k8
    obtain ⟨hwW, k1, k2, k3, k4, k5, k6, k7, k8⟩ := hHeld
    go_wp2_with fail
    go_region_held3 (fun w' => Gr w w' ∧ w'.cell? ⟨w.heap.size, 0, none⟩ = some (.int .i64 ax) ∧ w'.cell? ⟨w.heap.size, 1, none⟩ = some (.int .i64 ay) ∧ w'.cell? ⟨w.heap.size, 2, none⟩ = some (.int .i64 bx) ∧ w'.cell? ⟨w.heap.size, 3, none⟩ = some (.int .i64 by_) ∧ w'.cell? ⟨w.heap.size + 1, 0, none⟩ = some (.int .i64 cx) ∧ w'.cell? ⟨w.heap.size + 1, 1, none⟩ = some (.int .i64 cy) ∧ w'.cell? ⟨w.heap.size + 1, 2, none⟩ = some (.int .i64 dx) ∧ w'.cell? ⟨w.heap.size + 1, 3, none⟩ = some (.int .i64 dy))  (first | (refine ⟨Gr.drew ?_, ?_⟩; (assumption); go_keep) | (go_split_ands; refine ⟨Gr.trans ?_ (by assumption), ?_⟩; (assumption); (repeat' apply And.intro) <;> (refine Gr.keep (by assumption) ?_; assumption)))  (first | (go_at_call 64; refine (turn_any _ _ _ _ _ _ _ (by assumption) (by assumption) (by assumption) (by assumption) (by assumption) (by assumption)).mono ?_; rintro e w1 ⟨rfl, hb⟩))
    rename_i hHeld
    clear k1 k2 k3 k4 k5 k6 k7 k8
    obtain ⟨hwW, k1, k2, k3, k4, k5, k6, k7, k8⟩ := hHeld
    go_wp2_with fail
    go_ret
    exact ⟨ret_bool HR.out, hwW⟩

theorem touch_any (ax ay bx by_ cx cy dx dy : Int) (w : World) (h1 : Co ax) (h2 : Co ay) (h3 : Co bx) (h4 : Co by_) (h5 : Co cx) (h6 : Co cy) (h7 : Co dx) (h8 : Co dy) (r : Bool) (hr : touchL ax ay bx by_ cx cy dx dy = r) :
    Calls Try.prog 56 #[.agg #[.int .i64 ax, .int .i64 ay, .int .i64 bx, .int .i64 by_], .agg #[.int .i64 cx, .int .i64 cy, .int .i64 dx, .int .i64 dy]] w fun e w' => e = .returned (.bool r) ∧ Gr w w' := by
  have b1 := mul_bd (sgn_bd (crs ax ay bx by_ cx cy)) (sgn_bd (crs ax ay bx by_ dx dy))
  have b2 := mul_bd (sgn_bd (crs cx cy dx dy ax ay)) (sgn_bd (crs cx cy dx dy bx by_))
  simp only [Int.mul_one] at b1 b2
  unfold touchL at hr
  rcases hb : (spansT ax bx cx dx && spansT ay by_ cy dy) with _ | _
  · rw [hb] at hr
    obtain rfl : r = false := by rw [← hr]; rfl
    exact touch_no _ _ _ _ _ _ _ _ _ hb
  · rw [hb, Bool.true_and] at hr
    exact touch_yes _ _ _ _ _ _ _ _ _ h1 h2 h3 h4 h5 h6 h7 h8 hb b1 b2 _ hr

end Go.Proofs.Ytjkdjfagaakijaa
