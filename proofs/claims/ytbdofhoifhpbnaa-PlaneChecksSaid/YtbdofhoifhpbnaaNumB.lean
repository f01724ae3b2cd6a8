/- Contracts of the functions on segments. -/
import Derived.Test.YtbdofhoifhpbnaaNum
import Derived.Deep.RegionHeld3
namespace Go.Proofs.Ytbdofhoifhpbnaa
open Go.RowKit

theorem boxes2 {w W : World} {t u : TypeId} {ax ay bx by_ : Value} (hW : (w.alloc (.cells #[ax, ay] t)).alloc (.cells #[bx, by_] u) = W) :
    Gr w W ∧ (W.cell? ⟨w.heap.size, 0, none⟩ = some ax ∧ W.cell? ⟨w.heap.size, 1, none⟩ = some ay ∧ W.cell? ⟨w.heap.size + 1, 0, none⟩ = some bx ∧ W.cell? ⟨w.heap.size + 1, 1, none⟩ = some by_) := by
  subst hW
  exact ⟨by (repeat (first | exact Gr.refl _ | assumption | (refine Gr.drew ?_) | (refine Gr.drewN ?_ _) | (refine Gr.alloc ?_ _) | (refine Gr.trans ?_ (by assumption)))), alloc_old (alloc_new rfl rfl), alloc_old (alloc_new rfl rfl), alloc_new (by simp) rfl, alloc_new (by simp) rfl⟩
theorem boxes3 {w W : World} {t : TypeId} {ax ay bx by_ cx cy : Value} (hW : ((w.alloc (.cells #[ax, ay] t)).alloc (.cells #[bx, by_] t)).alloc (.cells #[cx, cy] t) = W) :
    Gr w W ∧ (W.cell? ⟨w.heap.size, 0, none⟩ = some ax ∧ W.cell? ⟨w.heap.size, 1, none⟩ = some ay ∧ W.cell? ⟨w.heap.size + 1, 0, none⟩ = some bx ∧ W.cell? ⟨w.heap.size + 1, 1, none⟩ = some by_ ∧
      W.cell? ⟨w.heap.size + 1 + 1, 0, none⟩ = some cx ∧ W.cell? ⟨w.heap.size + 1 + 1, 1, none⟩ = some cy) := by
  subst hW
  exact ⟨by (repeat (first | exact Gr.refl _ | assumption | (refine Gr.drew ?_) | (refine Gr.drewN ?_ _) | (refine Gr.alloc ?_ _) | (refine Gr.trans ?_ (by assumption)))), alloc_old (alloc_old (alloc_new rfl rfl)), alloc_old (alloc_old (alloc_new rfl rfl)), alloc_old (alloc_new (by simp) rfl), alloc_old (alloc_new (by simp) rfl), alloc_new (by simp) rfl, alloc_new (by simp) rfl⟩
/-- Two edges in boxes. -/
theorem boxesE {w W : World} {t u : TypeId} {a0 a1 a2 a3 b0 b1 b2 b3 : Value} (hW : (w.alloc (.cells #[a0, a1, a2, a3] t)).alloc (.cells #[b0, b1, b2, b3] u) = W) :
    Gr w W ∧ (W.cell? ⟨w.heap.size, 0, none⟩ = some a0 ∧ W.cell? ⟨w.heap.size, 1, none⟩ = some a1 ∧ W.cell? ⟨w.heap.size, 2, none⟩ = some a2 ∧ W.cell? ⟨w.heap.size, 3, none⟩ = some a3 ∧
      W.cell? ⟨w.heap.size + 1, 0, none⟩ = some b0 ∧ W.cell? ⟨w.heap.size + 1, 1, none⟩ = some b1 ∧ W.cell? ⟨w.heap.size + 1, 2, none⟩ = some b2 ∧ W.cell? ⟨w.heap.size + 1, 3, none⟩ = some b3) := by
  subst hW
  exact ⟨by (repeat (first | exact Gr.refl _ | assumption | (refine Gr.drew ?_) | (refine Gr.drewN ?_ _) | (refine Gr.alloc ?_ _) | (refine Gr.trans ?_ (by assumption)))), alloc_old (alloc_new rfl rfl), alloc_old (alloc_new rfl rfl), alloc_old (alloc_new rfl rfl), alloc_old (alloc_new rfl rfl), alloc_new (by simp) rfl, alloc_new (by simp) rfl, alloc_new (by simp) rfl, alloc_new (by simp) rfl⟩
theorem boxes4 {w W : World} {t : TypeId} {ax ay bx by_ cx cy dx dy : Value} (hW : (((w.alloc (.cells #[ax, ay] t)).alloc (.cells #[bx, by_] t)).alloc (.cells #[cx, cy] t)).alloc (.cells #[dx, dy] t) = W) :
    Gr w W ∧ (W.cell? ⟨w.heap.size, 0, none⟩ = some ax ∧ W.cell? ⟨w.heap.size, 1, none⟩ = some ay ∧ W.cell? ⟨w.heap.size + 1, 0, none⟩ = some bx ∧ W.cell? ⟨w.heap.size + 1, 1, none⟩ = some by_ ∧
      W.cell? ⟨w.heap.size + 1 + 1, 0, none⟩ = some cx ∧ W.cell? ⟨w.heap.size + 1 + 1, 1, none⟩ = some cy ∧ W.cell? ⟨w.heap.size + 1 + 1 + 1, 0, none⟩ = some dx ∧ W.cell? ⟨w.heap.size + 1 + 1 + 1, 1, none⟩ = some dy) := by
  subst hW
  exact ⟨by (repeat (first | exact Gr.refl _ | assumption | (refine Gr.drew ?_) | (refine Gr.drewN ?_ _) | (refine Gr.alloc ?_ _) | (refine Gr.trans ?_ (by assumption)))), alloc_old (alloc_old (alloc_old (alloc_new rfl rfl))), alloc_old (alloc_old (alloc_old (alloc_new rfl rfl))), alloc_old (alloc_old (alloc_new (by simp) rfl)), alloc_old (alloc_old (alloc_new (by simp) rfl)),
    alloc_old (alloc_new (by simp) rfl), alloc_old (alloc_new (by simp) rfl), alloc_new (by simp) rfl, alloc_new (by simp) rfl⟩

theorem turn_is (ax ay bx by_ cx cy : Int) (w : World) (s : Int) (hs : sgn (crs ax ay bx by_ cx cy) = s) (h1 : Co ax) (h2 : Co ay) (h3 : Co bx) (h4 : Co by_) (h5 : Co cx) (h6 : Co cy) :
    Calls Try.prog 65 #[.agg #[.int .i64 ax, .int .i64 ay], .agg #[.int .i64 bx, .int .i64 by_], .agg #[.int .i64 cx, .int .i64 cy]] w fun e w' => e = .returned (.int .i64 s) ∧ Gr w w' := by
  subst hs; exact turn_any _ _ _ _ _ _ _ h1 h2 h3 h4 h5 h6
theorem rTurn_is (ax ay bx by_ cx cy : Int) (w : World) (s : Int) (hs : sgn (crs ax ay bx by_ cx cy) = s) (h1 : Co ax) (h2 : Co ay) (h3 : Co bx) (h4 : Co by_) (h5 : Co cx) (h6 : Co cy) :
    Calls Try.prog 35 #[.agg #[.int .i64 ax, .int .i64 ay], .agg #[.int .i64 bx, .int .i64 by_], .agg #[.int .i64 cx, .int .i64 cy]] w fun e w' => e = .returned (.int .i64 s) ∧ Gr w w' := by
  subst hs; exact rTurn_any _ _ _ _ _ _ _ h1 h2 h3 h4 h5 h6

set_option maxHeartbeats 400000 in
theorem spans_any (a b c d : Int) (w : World) (r : Bool) (hr : spansT a b c d = r) :
    Calls Try.prog 87 #[.int .i64 a, .int .i64 b, .int .i64 c, .int .i64 d] w fun e w' => e = .returned (.bool r) ∧ w = w' := by
  subst hr
  go_enter Try.func87, Try.ntmps87
  go_wp2
  all_goals
    go_ret
    refine ⟨ret_bool ?_, rfl⟩
    first | exact decide_eq_decide.2 (by omega) | exact (decide_eq_true (by omega)).symm | exact (decide_eq_false (by omega)).symm

set_option maxHeartbeats 400000 in
theorem on_any (ax ay bx by_ px py : Int) (w : World) (h1 : Co ax) (h2 : Co ay) (h3 : Co bx) (h4 : Co by_) (h5 : Co px) (h6 : Co py) (r : Bool) (hr : onL ax ay bx by_ px py = r) :
    Calls Try.prog 36 #[.agg #[.int .i64 ax, .int .i64 ay], .agg #[.int .i64 bx, .int .i64 by_], .agg #[.int .i64 px, .int .i64 py]] w fun e w' => e = .returned (.bool r) ∧ Gr w w' := by
  subst hr
  obtain ⟨s, hs⟩ : ∃ s, sgn (crs ax ay bx by_ px py) = s := ⟨_, rfl⟩
  have HS := Lib.hid hs
  clear hs
  by_cases h0 : s = 0
  · subst h0
    go_enter Try.func36, Try.ntmps36
    go_wp2_with fail
    generalize hW : World.alloc (World.alloc (World.alloc w _) _) _ = W
    obtain ⟨hwW, k1, k2, k3, k4, k5, k6⟩ := boxes3 hW
    clear hW
    refine (rTurn_is _ _ _ _ _ _ _ _ HS.out h1 h2 h3 h4 h5 h6).mono ?_
    rintro e w1 ⟨rfl, hb⟩
    have l1 := hb.keep k1
    have l2 := hb.keep k2
    have l3 := hb.keep k3
    have l4 := hb.keep k4
    have l5 := hb.keep k5
    have l6 := hb.keep k6
    go_wp2_with fail
    all_goals
      go_ret
      refine ⟨ret_bool ?_, by (repeat (first | exact Gr.refl _ | assumption | (refine Gr.drew ?_) | (refine Gr.drewN ?_ _) | (refine Gr.alloc ?_ _) | (refine Gr.trans ?_ (by assumption))))⟩
      have hs := HS.out
      first | exact decide_eq_decide.2 (by omega) | exact (decide_eq_true (by omega)).symm | exact (decide_eq_false (by omega)).symm
  · have h0' : (s == 0) = false := by simpa using h0
    go_enter Try.func36, Try.ntmps36
    go_wp2_with fail
    refine (rTurn_is _ _ _ _ _ _ _ _ HS.out h1 h2 h3 h4 h5 h6).mono ?_
    rintro e w1 ⟨rfl, hb⟩
    go_wp2_with fail
    all_goals
      go_ret
      refine ⟨ret_bool ?_, by (repeat (first | exact Gr.refl _ | assumption | (refine Gr.drew ?_) | (refine Gr.drewN ?_ _) | (refine Gr.alloc ?_ _) | (refine Gr.trans ?_ (by assumption))))⟩
      have hs := HS.out
      exact (decide_eq_false (by omega)).symm

set_option maxRecDepth 100000 in
set_option maxHeartbeats 1000000 in
theorem meet_one (ax ay bx by_ cx cy dx dy : Int) (w : World) (h1 : Co ax) (h2 : Co ay) (h3 : Co bx) (h4 : Co by_) (h5 : Co cx) (h6 : Co cy) (h7 : Co dx) (h8 : Co dy)
    (b1 : -1 ≤ sgn (crs ax ay bx by_ cx cy) * sgn (crs ax ay bx by_ dx dy) ∧ sgn (crs ax ay bx by_ cx cy) * sgn (crs ax ay bx by_ dx dy) ≤ 1)
    (b2 : -1 ≤ sgn (crs cx cy dx dy ax ay) * sgn (crs cx cy dx dy bx by_) ∧ sgn (crs cx cy dx dy ax ay) * sgn (crs cx cy dx dy bx by_) ≤ 1) (h12 : sgn (crs ax ay bx by_ cx cy) * sgn (crs ax ay bx by_ dx dy) < 0) (h34 : sgn (crs cx cy dx dy ax ay) * sgn (crs cx cy dx dy bx by_) < 0) :
    Calls Try.prog 37 #[.agg #[.int .i64 ax, .int .i64 ay], .agg #[.int .i64 bx, .int .i64 by_], .agg #[.int .i64 cx, .int .i64 cy], .agg #[.int .i64 dx, .int .i64 dy]] w fun e w' => e = .returned (.bool true) ∧ Gr w w' := by
  go_enter Try.func37, Try.ntmps37
  go_wp2_with fail
  generalize hW : World.alloc (World.alloc (World.alloc (World.alloc w _) _) _) _ = W
  obtain ⟨hwW, k1, k2, k3, k4, k5, k6, k7, k8⟩ := boxes4 hW
  clear hW
  have e1 : IntKind.i64.wrap (sgn (crs ax ay bx by_ cx cy) * sgn (crs ax ay bx by_ dx dy)) = sgn (crs ax ay bx by_ cx cy) * sgn (crs ax ay bx by_ dx dy) := IntWalk.i64_in _ (by omega)
  have e2 : IntKind.i64.wrap (sgn (crs cx cy dx dy ax ay) * sgn (crs cx cy dx dy bx by_)) = sgn (crs cx cy dx dy ax ay) * sgn (crs cx cy dx dy bx by_) := IntWalk.i64_in _ (by omega)
  go_region_held3 (fun w' => Gr w w' ∧ w'.cell? ⟨w.heap.size, 0, none⟩ = some (.int .i64 ax) ∧ w'.cell? ⟨w.heap.size, 1, none⟩ = some (.int .i64 ay) ∧ w'.cell? ⟨w.heap.size + 1, 0, none⟩ = some (.int .i64 bx) ∧ w'.cell? ⟨w.heap.size + 1, 1, none⟩ = some (.int .i64 by_) ∧ w'.cell? ⟨w.heap.size + 1 + 1, 0, none⟩ = some (.int .i64 cx) ∧ w'.cell? ⟨w.heap.size + 1 + 1, 1, none⟩ = some (.int .i64 cy) ∧ w'.cell? ⟨w.heap.size + 1 + 1 + 1, 0, none⟩ = some (.int .i64 dx) ∧ w'.cell? ⟨w.heap.size + 1 + 1 + 1, 1, none⟩ = some (.int .i64 dy))  (first | (refine ⟨Gr.drew ?_, ?_⟩; (assumption); go_keep) | (go_split_ands; refine ⟨Gr.trans ?_ (by assumption), ?_⟩; (assumption); (repeat' apply And.intro) <;> (refine Gr.keep (by assumption) ?_; assumption)))  (first | (go_at_call 35; refine (rTurn_any _ _ _ _ _ _ _ (by assumption) (by assumption) (by assumption) (by assumption) (by assumption) (by assumption)).mono ?_; rintro e w1 ⟨rfl, hb⟩))
  rename_i hHeld
  obtain ⟨hB, l1, l2, l3, l4, l5, l6, l7, l8⟩ := hHeld
  clear k1 k2 k3 k4 k5 k6 k7 k8 e1 e2
  go_wp2_with fail
  go_ret
  exact ⟨rfl, hB⟩

set_option maxRecDepth 100000 in
set_option maxHeartbeats 2000000 in
theorem meet_two (ax ay bx by_ cx cy dx dy : Int) (w : World) (h1 : Co ax) (h2 : Co ay) (h3 : Co bx) (h4 : Co by_) (h5 : Co cx) (h6 : Co cy) (h7 : Co dx) (h8 : Co dy)
    (b1 : -1 ≤ sgn (crs ax ay bx by_ cx cy) * sgn (crs ax ay bx by_ dx dy) ∧ sgn (crs ax ay bx by_ cx cy) * sgn (crs ax ay bx by_ dx dy) ≤ 1)
    (b2 : -1 ≤ sgn (crs cx cy dx dy ax ay) * sgn (crs cx cy dx dy bx by_) ∧ sgn (crs cx cy dx dy ax ay) * sgn (crs cx cy dx dy bx by_) ≤ 1) (h12 : sgn (crs ax ay bx by_ cx cy) * sgn (crs ax ay bx by_ dx dy) < 0) (h34 : 0 ≤ sgn (crs cx cy dx dy ax ay) * sgn (crs cx cy dx dy bx by_))
    (o1 o2 o3 o4 : Bool) (q1 : Hid (onL ax ay bx by_ cx cy = o1)) (q2 : Hid (onL ax ay bx by_ dx dy = o2)) (q3 : Hid (onL cx cy dx dy ax ay = o3)) (q4 : Hid (onL cx cy dx dy bx by_ = o4)) :
    Calls Try.prog 37 #[.agg #[.int .i64 ax, .int .i64 ay], .agg #[.int .i64 bx, .int .i64 by_], .agg #[.int .i64 cx, .int .i64 cy], .agg #[.int .i64 dx, .int .i64 dy]] w fun e w' => e = .returned (.bool (o1 || (o2 || (o3 || o4)))) ∧ Gr w w' := by
  have hd : decide (sgn (crs cx cy dx dy ax ay) * sgn (crs cx cy dx dy bx by_) < 0) = false := decide_eq_false (by omega)
  go_enter Try.func37, Try.ntmps37
  go_wp2_with fail
  generalize hW : World.alloc (World.alloc (World.alloc (World.alloc w _) _) _) _ = W
  obtain ⟨hwW, k1, k2, k3, k4, k5, k6, k7, k8⟩ := boxes4 hW
  clear hW
  have e1 : IntKind.i64.wrap (sgn (crs ax ay bx by_ cx cy) * sgn (crs ax ay bx by_ dx dy)) = sgn (crs ax ay bx by_ cx cy) * sgn (crs ax ay bx by_ dx dy) := IntWalk.i64_in _ (by omega)
  have e2 : IntKind.i64.wrap (sgn (crs cx cy dx dy ax ay) * sgn (crs cx cy dx dy bx by_)) = sgn (crs cx cy dx dy ax ay) * sgn (crs cx cy dx dy bx by_) := IntWalk.i64_in _ (by omega)
  go_region_held3 (fun w' => Gr w w' ∧ w'.cell? ⟨w.heap.size, 0, none⟩ = some (.int .i64 ax) ∧ w'.cell? ⟨w.heap.size, 1, none⟩ = some (.int .i64 ay) ∧ w'.cell? ⟨w.heap.size + 1, 0, none⟩ = some (.int .i64 bx) ∧ w'.cell? ⟨w.heap.size + 1, 1, none⟩ = some (.int .i64 by_) ∧ w'.cell? ⟨w.heap.size + 1 + 1, 0, none⟩ = some (.int .i64 cx) ∧ w'.cell? ⟨w.heap.size + 1 + 1, 1, none⟩ = some (.int .i64 cy) ∧ w'.cell? ⟨w.heap.size + 1 + 1 + 1, 0, none⟩ = some (.int .i64 dx) ∧ w'.cell? ⟨w.heap.size + 1 + 1 + 1, 1, none⟩ = some (.int .i64 dy))  (first | (refine ⟨Gr.drew ?_, ?_⟩; (assumption); go_keep) | (go_split_ands; refine ⟨Gr.trans ?_ (by assumption), ?_⟩; (assumption); (repeat' apply And.intro) <;> (refine Gr.keep (by assumption) ?_; assumption)))  (first | (go_at_call 35; refine (rTurn_any _ _ _ _ _ _ _ (by assumption) (by assumption) (by assumption) (by assumption) (by assumption) (by assumption)).mono ?_; rintro e w1 ⟨rfl, hb⟩))
  rename_i hHeld
  obtain ⟨hB, l1, l2, l3, l4, l5, l6, l7, l8⟩ := hHeld
  clear k1 k2 k3 k4 k5 k6 k7 k8 e1 e2
  rcases o1 with _ | _
  case true =>
    go_wp2_with fail
    refine (on_any _ _ _ _ _ _ _ h1 h2 h3 h4 h5 h6 _ q1.out).mono ?_
    rintro e w2 ⟨rfl, hc⟩
    replace hB := hB.trans hc
    replace l1 := hc.keep l1
    replace l2 := hc.keep l2
    replace l3 := hc.keep l3
    replace l4 := hc.keep l4
    replace l5 := hc.keep l5
    replace l6 := hc.keep l6
    replace l7 := hc.keep l7
    replace l8 := hc.keep l8
    clear hc

    go_wp2_with fail
    go_ret
    exact ⟨rfl, hB⟩
  rcases o2 with _ | _
  case true =>
    go_wp2_with fail
    refine (on_any _ _ _ _ _ _ _ h1 h2 h3 h4 h5 h6 _ q1.out).mono ?_
    rintro e w2 ⟨rfl, hc⟩
    replace hB := hB.trans hc
    replace l1 := hc.keep l1
    replace l2 := hc.keep l2
    replace l3 := hc.keep l3
    replace l4 := hc.keep l4
    replace l5 := hc.keep l5
    replace l6 := hc.keep l6
    replace l7 := hc.keep l7
    replace l8 := hc.keep l8
    clear hc

    go_wp2_with fail
    refine (on_any _ _ _ _ _ _ _ h1 h2 h3 h4 h7 h8 _ q2.out).mono ?_
    rintro e w2 ⟨rfl, hc⟩
    replace hB := hB.trans hc
    replace l1 := hc.keep l1
    replace l2 := hc.keep l2
    replace l3 := hc.keep l3
    replace l4 := hc.keep l4
    replace l5 := hc.keep l5
    replace l6 := hc.keep l6
    replace l7 := hc.keep l7
    replace l8 := hc.keep l8
    clear hc

    go_wp2_with fail
    go_ret
    exact ⟨rfl, hB⟩
  rcases o3 with _ | _
  case true =>
    go_wp2_with fail
    refine (on_any _ _ _ _ _ _ _ h1 h2 h3 h4 h5 h6 _ q1.out).mono ?_
    rintro e w2 ⟨rfl, hc⟩
    replace hB := hB.trans hc
    replace l1 := hc.keep l1
    replace l2 := hc.keep l2
    replace l3 := hc.keep l3
    replace l4 := hc.keep l4
    replace l5 := hc.keep l5
    replace l6 := hc.keep l6
    replace l7 := hc.keep l7
    replace l8 := hc.keep l8
    clear hc

    go_wp2_with fail
    refine (on_any _ _ _ _ _ _ _ h1 h2 h3 h4 h7 h8 _ q2.out).mono ?_
    rintro e w2 ⟨rfl, hc⟩
    replace hB := hB.trans hc
    replace l1 := hc.keep l1
    replace l2 := hc.keep l2
    replace l3 := hc.keep l3
    replace l4 := hc.keep l4
    replace l5 := hc.keep l5
    replace l6 := hc.keep l6
    replace l7 := hc.keep l7
    replace l8 := hc.keep l8
    clear hc

    go_wp2_with fail
    refine (on_any _ _ _ _ _ _ _ h5 h6 h7 h8 h1 h2 _ q3.out).mono ?_
    rintro e w2 ⟨rfl, hc⟩
    replace hB := hB.trans hc
    replace l1 := hc.keep l1
    replace l2 := hc.keep l2
    replace l3 := hc.keep l3
    replace l4 := hc.keep l4
    replace l5 := hc.keep l5
    replace l6 := hc.keep l6
    replace l7 := hc.keep l7
    replace l8 := hc.keep l8
    clear hc

    go_wp2_with fail
    go_ret
    exact ⟨rfl, hB⟩
  case false =>
    go_wp2_with fail
    refine (on_any _ _ _ _ _ _ _ h1 h2 h3 h4 h5 h6 _ q1.out).mono ?_
    rintro e w2 ⟨rfl, hc⟩
    replace hB := hB.trans hc
    replace l1 := hc.keep l1
    replace l2 := hc.keep l2
    replace l3 := hc.keep l3
    replace l4 := hc.keep l4
    replace l5 := hc.keep l5
    replace l6 := hc.keep l6
    replace l7 := hc.keep l7
    replace l8 := hc.keep l8
    clear hc

    go_wp2_with fail
    refine (on_any _ _ _ _ _ _ _ h1 h2 h3 h4 h7 h8 _ q2.out).mono ?_
    rintro e w2 ⟨rfl, hc⟩
    replace hB := hB.trans hc
    replace l1 := hc.keep l1
    replace l2 := hc.keep l2
    replace l3 := hc.keep l3
    replace l4 := hc.keep l4
    replace l5 := hc.keep l5
    replace l6 := hc.keep l6
    replace l7 := hc.keep l7
    replace l8 := hc.keep l8
    clear hc

    go_wp2_with fail
    refine (on_any _ _ _ _ _ _ _ h5 h6 h7 h8 h1 h2 _ q3.out).mono ?_
    rintro e w2 ⟨rfl, hc⟩
    replace hB := hB.trans hc
    replace l1 := hc.keep l1
    replace l2 := hc.keep l2
    replace l3 := hc.keep l3
    replace l4 := hc.keep l4
    replace l5 := hc.keep l5
    replace l6 := hc.keep l6
    replace l7 := hc.keep l7
    replace l8 := hc.keep l8
    clear hc

    go_wp2_with fail
    refine (on_any _ _ _ _ _ _ _ h5 h6 h7 h8 h3 h4 _ q4.out).mono ?_
    rintro e w2 ⟨rfl, hc⟩
    replace hB := hB.trans hc
    replace l1 := hc.keep l1
    replace l2 := hc.keep l2
    replace l3 := hc.keep l3
    replace l4 := hc.keep l4
    replace l5 := hc.keep l5
    replace l6 := hc.keep l6
    replace l7 := hc.keep l7
    replace l8 := hc.keep l8
    clear hc

    go_wp2_with fail
    go_ret
    exact ⟨rfl, hB⟩

end Go.Proofs.Ytbdofhoifhpbnaa
