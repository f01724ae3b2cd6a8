import Derived.Test.YtjkdjfagaakijaaNum
import Derived.Test.YtjkdjfagaakijaaHeld
namespace Go.Proofs.Ytjkdjfagaakijaa
open Go.RowKit
set_option linter.unusedSimpArgs false

set_option maxRecDepth 100000 in
set_option maxHeartbeats 2000000 in
theorem meet_three (ax ay bx by_ cx cy dx dy : Int) (w : World) (h1 : Co ax) (h2 : Co ay) (h3 : Co bx) (h4 : Co by_) (h5 : Co cx) (h6 : Co cy) (h7 : Co dx) (h8 : Co dy)
    (b1 : -1 ≤ sgn (crs ax ay bx by_ cx cy) * sgn (crs ax ay bx by_ dx dy) ∧ sgn (crs ax ay bx by_ cx cy) * sgn (crs ax ay bx by_ dx dy) ≤ 1)
    (b2 : -1 ≤ sgn (crs cx cy dx dy ax ay) * sgn (crs cx cy dx dy bx by_) ∧ sgn (crs cx cy dx dy ax ay) * sgn (crs cx cy dx dy bx by_) ≤ 1) (h12 : 0 ≤ sgn (crs ax ay bx by_ cx cy) * sgn (crs ax ay bx by_ dx dy))
    (o1 o2 o3 o4 : Bool) (q1 : Hid (onL ax ay bx by_ cx cy = o1)) (q2 : Hid (onL ax ay bx by_ dx dy = o2)) (q3 : Hid (onL cx cy dx dy ax ay = o3)) (q4 : Hid (onL cx cy dx dy bx by_ = o4)) :
    Calls Try.prog 36 #[.agg #[.int .i64 ax, .int .i64 ay], .agg #[.int .i64 bx, .int .i64 by_], .agg #[.int .i64 cx, .int .i64 cy], .agg #[.int .i64 dx, .int .i64 dy]] w fun e w' => e = .returned (.bool (o1 || (o2 || (o3 || o4)))) ∧ Gr w w' := by
  have hd : decide (sgn (crs ax ay bx by_ cx cy) * sgn (crs ax ay bx by_ dx dy) < 0) = false := decide_eq_false (by omega)
  go_enter Try.func36, Try.ntmps36
  go_wp2_with fail
  generalize hW : World.alloc (World.alloc (World.alloc (World.alloc w _) _) _) _ = W
  obtain ⟨hwW, k1, k2, k3, k4, k5, k6, k7, k8⟩ := boxes4 hW
  clear hW
  have e1 : IntKind.i64.wrap (sgn (crs ax ay bx by_ cx cy) * sgn (crs ax ay bx by_ dx dy)) = sgn (crs ax ay bx by_ cx cy) * sgn (crs ax ay bx by_ dx dy) := IntWalk.i64_in _ (by omega)
  have e2 : IntKind.i64.wrap (sgn (crs cx cy dx dy ax ay) * sgn (crs cx cy dx dy bx by_)) = sgn (crs cx cy dx dy ax ay) * sgn (crs cx cy dx dy bx by_) := IntWalk.i64_in _ (by omega)
  refine wp_region_held_drew (S := (fun w' => Gr w w' ∧ w'.cell? ⟨w.heap.size, 0, none⟩ = some (.int .i64 ax) ∧ w'.cell? ⟨w.heap.size, 1, none⟩ = some (.int .i64 ay) ∧ w'.cell? ⟨w.heap.size + 1, 0, none⟩ = some (.int .i64 bx) ∧ w'.cell? ⟨w.heap.size + 1, 1, none⟩ = some (.int .i64 by_) ∧ w'.cell? ⟨w.heap.size + 1 + 1, 0, none⟩ = some (.int .i64 cx) ∧ w'.cell? ⟨w.heap.size + 1 + 1, 1, none⟩ = some (.int .i64 cy) ∧ w'.cell? ⟨w.heap.size + 1 + 1 + 1, 0, none⟩ = some (.int .i64 dx) ∧ w'.cell? ⟨w.heap.size + 1 + 1 + 1, 1, none⟩ = some (.int .i64 dy))) ?_ ?_ (fun hHeld => ?_)
  · kernel_rfl
  · ((try dsimp only); (first | (refine ⟨Gr.drew ?_, ?_⟩; (assumption); go_keep) | (go_split_ands; refine ⟨Gr.trans ?_ (by assumption), ?_⟩; (assumption); (repeat' apply And.intro) <;> (refine Gr.keep (by assumption) ?_; assumption))))
  refine take_in (i := 0) (v := ?_) (d := (some 9)) rfl rfl ?_ ?_ ?_ ?_ ?_ ?_ ?_ ?_
  rotate_left
  · kernel_rfl
  · kernel_rfl
  · kernel_rfl
  · (intro _ _ _ hq; exact hq)
  · rfl
  · (intro _w hSw; (try dsimp only at hSw); go_simp; try with_reducible rfl)
  · assumption
  try simp only [Act.put, List.setIfInBounds_toArray, List.set_cons_zero, List.set_cons_succ]
  refine take_in (i := 1) (v := ?_) (d := (some 10)) rfl rfl ?_ ?_ ?_ ?_ ?_ ?_ ?_ ?_
  rotate_left
  · kernel_rfl
  · kernel_rfl
  · kernel_rfl
  · (intro _ _ _ hq; exact hq)
  · rfl
  · (intro _w hSw; (try dsimp only at hSw); go_simp; try with_reducible rfl)
  · assumption
  try simp only [Act.put, List.setIfInBounds_toArray, List.set_cons_zero, List.set_cons_succ]
  refine take_in (i := 2) (v := ?_) (d := (some 11)) rfl rfl ?_ ?_ ?_ ?_ ?_ ?_ ?_ ?_
  rotate_left
  · kernel_rfl
  · kernel_rfl
  · kernel_rfl
  · (intro _ _ _ hq; exact hq)
  · rfl
  · (intro _w hSw; (try dsimp only at hSw); go_simp; try with_reducible rfl)
  · assumption
  try simp only [Act.put, List.setIfInBounds_toArray, List.set_cons_zero, List.set_cons_succ]
  refine take_in (i := 4) (v := ?_) (d := (some 13)) rfl rfl ?_ ?_ ?_ ?_ ?_ ?_ ?_ ?_
  rotate_left
  · kernel_rfl
  · kernel_rfl
  · kernel_rfl
  · (intro _ _ _ hq; exact hq)
  · rfl
  · (intro _w hSw; (try dsimp only at hSw); go_simp; try with_reducible rfl)
  · assumption
  try simp only [Act.put, List.setIfInBounds_toArray, List.set_cons_zero, List.set_cons_succ]
  refine take_in (i := 5) (v := ?_) (d := (some 14)) rfl rfl ?_ ?_ ?_ ?_ ?_ ?_ ?_ ?_
  rotate_left
  · kernel_rfl
  · kernel_rfl
  · kernel_rfl
  · (intro _ _ _ hq; exact hq)
  · rfl
  · (intro _w hSw; (try dsimp only at hSw); go_simp; try with_reducible rfl)
  · assumption
  try simp only [Act.put, List.setIfInBounds_toArray, List.set_cons_zero, List.set_cons_succ]
  refine take_in (i := 6) (v := ?_) (d := (some 15)) rfl rfl ?_ ?_ ?_ ?_ ?_ ?_ ?_ ?_
  rotate_left
  · kernel_rfl
  · kernel_rfl
  · kernel_rfl
  · (intro _ _ _ hq; exact hq)
  · rfl
  · (intro _w hSw; (try dsimp only at hSw); go_simp; try with_reducible rfl)
  · assumption
  try simp only [Act.put, List.setIfInBounds_toArray, List.set_cons_zero, List.set_cons_succ]
  refine wpAnyH_ready (rs := [3]) ?_ ?_ ?_
  · kernel_rfl
  · simp
  refine (AllReadyH.cons rfl (fun K hK => ?_) AllReadyH.nil)
  go_simp
  first | (go_at_call 34; refine (rTurn_any _ _ _ _ _ _ _ (by assumption) (by assumption) (by assumption) (by assumption) (by assumption) (by assumption)).mono ?_; rintro e w1 ⟨rfl, hb⟩; (try go_wp2_with fail))
  refine hK.out _ _ ?_ (fun hHeld => ?_)
  · ((try dsimp only); (first | (refine ⟨Gr.drew ?_, ?_⟩; (assumption); go_keep) | (go_split_ands; refine ⟨Gr.trans ?_ (by assumption), ?_⟩; (assumption); (repeat' apply And.intro) <;> (refine Gr.keep (by assumption) ?_; assumption))))
  clear hK K
  try simp only [Act.put, List.setIfInBounds_toArray, List.set_cons_zero, List.set_cons_succ]
  refine wpAnyH_ready (rs := [7]) ?_ ?_ ?_
  · kernel_rfl
  · simp
  refine (AllReadyH.cons rfl (fun K hK => ?_) AllReadyH.nil)
  go_simp
  first | (go_at_call 34; refine (rTurn_any _ _ _ _ _ _ _ (by assumption) (by assumption) (by assumption) (by assumption) (by assumption) (by assumption)).mono ?_; rintro e w1 ⟨rfl, hb⟩; (try go_wp2_with fail))
  refine hK.out _ _ ?_ (fun hHeld => ?_)
  · ((try dsimp only); (first | (refine ⟨Gr.drew ?_, ?_⟩; (assumption); go_keep) | (go_split_ands; refine ⟨Gr.trans ?_ (by assumption), ?_⟩; (assumption); (repeat' apply And.intro) <;> (refine Gr.keep (by assumption) ?_; assumption))))
  clear hK K
  try simp only [Act.put, List.setIfInBounds_toArray, List.set_cons_zero, List.set_cons_succ]
  refine take_in (i := 8) (v := ?_) (d := (some 17)) rfl rfl ?_ ?_ ?_ ?_ ?_ ?_ ?_ ?_
  rotate_left
  · kernel_rfl
  · kernel_rfl
  · kernel_rfl
  · (intro _ _ _ hq; exact hq)
  · rfl
  · (intro _w hSw; (try dsimp only at hSw); go_simp; try with_reducible rfl)
  · assumption
  try simp only [Act.put, List.setIfInBounds_toArray, List.set_cons_zero, List.set_cons_succ]
  refine take_in (i := 9) (v := ?_) (d := (some 18)) rfl rfl ?_ ?_ ?_ ?_ ?_ ?_ ?_ ?_
  rotate_left
  · kernel_rfl
  · kernel_rfl
  · kernel_rfl
  · (intro _ _ _ hq; exact hq)
  · rfl
  · (intro _w hSw; (try dsimp only at hSw); go_simp; try with_reducible rfl)
  · assumption
  try simp only [Act.put, List.setIfInBounds_toArray, List.set_cons_zero, List.set_cons_succ]
  refine take_in (i := 10) (v := ?_) (d := (some 19)) rfl rfl ?_ ?_ ?_ ?_ ?_ ?_ ?_ ?_
  rotate_left
  · kernel_rfl
  · kernel_rfl
  · kernel_rfl
  · (intro _ _ _ hq; exact hq)
  · rfl
  · (intro _w hSw; (try dsimp only at hSw); go_simp; try with_reducible rfl)
  · assumption
  try simp only [Act.put, List.setIfInBounds_toArray, List.set_cons_zero, List.set_cons_succ]
  refine take_un (i := 11) (d := (some 20)) rfl rfl ?_ ?_ ?_ ?_ ?_ ?_ ?_
  · kernel_rfl
  · kernel_rfl
  · kernel_rfl
  · (intro _ _ _ hq; exact hq)
  · rfl
  · assumption
  try simp only [Act.put, List.setIfInBounds_toArray, List.set_cons_zero, List.set_cons_succ]
  refine take_un (i := 12) (d := (some 21)) rfl rfl ?_ ?_ ?_ ?_ ?_ ?_ ?_
  · kernel_rfl
  · kernel_rfl
  · kernel_rfl
  · (intro _ _ _ hq; exact hq)
  · rfl
  · assumption
  try simp only [Act.put, List.setIfInBounds_toArray, List.set_cons_zero, List.set_cons_succ]
  refine take_un (i := 13) (d := (some 22)) rfl rfl ?_ ?_ ?_ ?_ ?_ ?_ ?_
  · kernel_rfl
  · kernel_rfl
  · kernel_rfl
  · (intro _ _ _ hq; exact hq)
  · rfl
  · assumption
  try simp only [Act.put, List.setIfInBounds_toArray, List.set_cons_zero, List.set_cons_succ]
  refine take_un (i := 14) (d := (some 23)) rfl rfl ?_ ?_ ?_ ?_ ?_ ?_ ?_
  · kernel_rfl
  · kernel_rfl
  · kernel_rfl
  · (intro _ _ _ hq; exact hq)
  · rfl
  · assumption
  try simp only [Act.put, List.setIfInBounds_toArray, List.set_cons_zero, List.set_cons_succ]
  refine take_un (i := 15) (d := (some 24)) rfl rfl ?_ ?_ ?_ ?_ ?_ ?_ ?_
  · kernel_rfl
  · kernel_rfl
  · kernel_rfl
  · (intro _ _ _ hq; exact hq)
  · rfl
  · assumption
  try simp only [Act.put, List.setIfInBounds_toArray, List.set_cons_zero, List.set_cons_succ]
  refine take_un (i := 16) (d := (some 25)) rfl rfl ?_ ?_ ?_ ?_ ?_ ?_ ?_
  · kernel_rfl
  · kernel_rfl
  · kernel_rfl
  · (intro _ _ _ hq; exact hq)
  · rfl
  · assumption
  try simp only [Act.put, List.setIfInBounds_toArray, List.set_cons_zero, List.set_cons_succ]
  refine take_un (i := 17) (d := (some 26)) rfl rfl ?_ ?_ ?_ ?_ ?_ ?_ ?_
  · kernel_rfl
  · kernel_rfl
  · kernel_rfl
  · (intro _ _ _ hq; exact hq)
  · rfl
  · assumption
  try simp only [Act.put, List.setIfInBounds_toArray, List.set_cons_zero, List.set_cons_succ]
  refine take_un (i := 18) (d := (some 27)) rfl rfl ?_ ?_ ?_ ?_ ?_ ?_ ?_
  · kernel_rfl
  · kernel_rfl
  · kernel_rfl
  · (intro _ _ _ hq; exact hq)
  · rfl
  · assumption
  try simp only [Act.put, List.setIfInBounds_toArray, List.set_cons_zero, List.set_cons_succ]
  refine take_un (i := 19) (d := (some 28)) rfl rfl ?_ ?_ ?_ ?_ ?_ ?_ ?_
  · kernel_rfl
  · kernel_rfl
  · kernel_rfl
  · (intro _ _ _ hq; exact hq)
  · rfl
  · assumption
  try simp only [Act.put, List.setIfInBounds_toArray, List.set_cons_zero, List.set_cons_succ]
  refine take_un (i := 20) (d := (some 29)) rfl rfl ?_ ?_ ?_ ?_ ?_ ?_ ?_
  · kernel_rfl
  · kernel_rfl
  · kernel_rfl
  · (intro _ _ _ hq; exact hq)
  · rfl
  · assumption
  try simp only [Act.put, List.setIfInBounds_toArray, List.set_cons_zero, List.set_cons_succ]
  refine take_in (i := 21) (v := ?_) (d := (some 30)) rfl rfl ?_ ?_ ?_ ?_ ?_ ?_ ?_ ?_
  rotate_left
  · kernel_rfl
  · kernel_rfl
  · kernel_rfl
  · (intro _ _ _ hq; exact hq)
  · rfl
  · (intro _w hSw; (try dsimp only at hSw); go_simp; try with_reducible rfl)
  · assumption
  try simp only [Act.put, List.setIfInBounds_toArray, List.set_cons_zero, List.set_cons_succ]
  refine wpAnyH_done ?_ ?_ _
  · kernel_rfl
  rotate_left
  rename_i hHeld
  obtain ⟨hB, l1, l2, l3, l4, l5, l6, l7, l8⟩ := hHeld
  clear k1 k2 k3 k4 k5 k6 k7 k8 e1 e2
  rcases o1 with _ | _
  case true =>
    go_wp2_with fail
    refine (on_any _ _ _ _ _ _ _ h1 h2 h3 h4 h5 h6 _ q1.out).mono ?_
    rintro e w2 ⟨rfl, hc⟩
    replace hB := hB.trans hc
    replace l1 := hc.keep l1
    replace l2 := hc.keep l2
    replace l3 := hc.keep l3
    replace l4 := hc.keep l4
    replace l5 := hc.keep l5
    replace l6 := hc.keep l6
    replace l7 := hc.keep l7
    replace l8 := hc.keep l8
    clear hc

    go_wp2_with fail
    go_ret
    exact ⟨rfl, hB⟩
  rcases o2 with _ | _
  case true =>
    go_wp2_with fail
    refine (on_any _ _ _ _ _ _ _ h1 h2 h3 h4 h5 h6 _ q1.out).mono ?_
    rintro e w2 ⟨rfl, hc⟩
    replace hB := hB.trans hc
    replace l1 := hc.keep l1
    replace l2 := hc.keep l2
    replace l3 := hc.keep l3
    replace l4 := hc.keep l4
    replace l5 := hc.keep l5
    replace l6 := hc.keep l6
    replace l7 := hc.keep l7
    replace l8 := hc.keep l8
    clear hc

    go_wp2_with fail
    refine (on_any _ _ _ _ _ _ _ h1 h2 h3 h4 h7 h8 _ q2.out).mono ?_
    rintro e w2 ⟨rfl, hc⟩
    replace hB := hB.trans hc
    replace l1 := hc.keep l1
    replace l2 := hc.keep l2
    replace l3 := hc.keep l3
    replace l4 := hc.keep l4
    replace l5 := hc.keep l5
    replace l6 := hc.keep l6
    replace l7 := hc.keep l7
    replace l8 := hc.keep l8
    clear hc

    go_wp2_with fail
    go_ret
    exact ⟨rfl, hB⟩
  rcases o3 with _ | _
  case true =>
    go_wp2_with fail
    refine (on_any _ _ _ _ _ _ _ h1 h2 h3 h4 h5 h6 _ q1.out).mono ?_
    rintro e w2 ⟨rfl, hc⟩
    replace hB := hB.trans hc
    replace l1 := hc.keep l1
    replace l2 := hc.keep l2
    replace l3 := hc.keep l3
    replace l4 := hc.keep l4
    replace l5 := hc.keep l5
    replace l6 := hc.keep l6
    replace l7 := hc.keep l7
    replace l8 := hc.keep l8
    clear hc

    go_wp2_with fail
    refine (on_any _ _ _ _ _ _ _ h1 h2 h3 h4 h7 h8 _ q2.out).mono ?_
    rintro e w2 ⟨rfl, hc⟩
    replace hB := hB.trans hc
    replace l1 := hc.keep l1
    replace l2 := hc.keep l2
    replace l3 := hc.keep l3
    replace l4 := hc.keep l4
    replace l5 := hc.keep l5
    replace l6 := hc.keep l6
    replace l7 := hc.keep l7
    replace l8 := hc.keep l8
    clear hc

    go_wp2_with fail
    refine (on_any _ _ _ _ _ _ _ h5 h6 h7 h8 h1 h2 _ q3.out).mono ?_
    rintro e w2 ⟨rfl, hc⟩
    replace hB := hB.trans hc
    replace l1 := hc.keep l1
    replace l2 := hc.keep l2
    replace l3 := hc.keep l3
    replace l4 := hc.keep l4
    replace l5 := hc.keep l5
    replace l6 := hc.keep l6
    replace l7 := hc.keep l7
    replace l8 := hc.keep l8
    clear hc

    go_wp2_with fail
    go_ret
    exact ⟨rfl, hB⟩
  case false =>
    go_wp2_with fail
    refine (on_any _ _ _ _ _ _ _ h1 h2 h3 h4 h5 h6 _ q1.out).mono ?_
    rintro e w2 ⟨rfl, hc⟩
    replace hB := hB.trans hc
    replace l1 := hc.keep l1
    replace l2 := hc.keep l2
    replace l3 := hc.keep l3
    replace l4 := hc.keep l4
    replace l5 := hc.keep l5
    replace l6 := hc.keep l6
    replace l7 := hc.keep l7
    replace l8 := hc.keep l8
    clear hc

    go_wp2_with fail
    refine (on_any _ _ _ _ _ _ _ h1 h2 h3 h4 h7 h8 _ q2.out).mono ?_
    rintro e w2 ⟨rfl, hc⟩
    replace hB := hB.trans hc
    replace l1 := hc.keep l1
    replace l2 := hc.keep l2
    replace l3 := hc.keep l3
    replace l4 := hc.keep l4
    replace l5 := hc.keep l5
    replace l6 := hc.keep l6
    replace l7 := hc.keep l7
    replace l8 := hc.keep l8
    clear hc

    go_wp2_with fail
    refine (on_any _ _ _ _ _ _ _ h5 h6 h7 h8 h1 h2 _ q3.out).mono ?_
    rintro e w2 ⟨rfl, hc⟩
    replace hB := hB.trans hc
    replace l1 := hc.keep l1
    replace l2 := hc.keep l2
    replace l3 := hc.keep l3
    replace l4 := hc.keep l4
    replace l5 := hc.keep l5
    replace l6 := hc.keep l6
    replace l7 := hc.keep l7
    replace l8 := hc.keep l8
    clear hc

    go_wp2_with fail
    refine (on_any _ _ _ _ _ _ _ h5 h6 h7 h8 h3 h4 _ q4.out).mono ?_
    rintro e w2 ⟨rfl, hc⟩
    replace hB := hB.trans hc
    replace l1 := hc.keep l1
    replace l2 := hc.keep l2
    replace l3 := hc.keep l3
    replace l4 := hc.keep l4
    replace l5 := hc.keep l5
    replace l6 := hc.keep l6
    replace l7 := hc.keep l7
    replace l8 := hc.keep l8
    clear hc

    go_wp2_with fail
    go_ret
    exact ⟨rfl, hB⟩

theorem meet_any (ax ay bx by_ cx cy dx dy : Int) (w : World) (h1 : Co ax) (h2 : Co ay) (h3 : Co bx) (h4 : Co by_) (h5 : Co cx) (h6 : Co cy) (h7 : Co dx) (h8 : Co dy) (r : Bool) (hr : meetL ax ay bx by_ cx cy dx dy = r) :
    Calls Try.prog 36 #[.agg #[.int .i64 ax, .int .i64 ay], .agg #[.int .i64 bx, .int .i64 by_], .agg #[.int .i64 cx, .int .i64 cy], .agg #[.int .i64 dx, .int .i64 dy]] w fun e w' => e = .returned (.bool r) ∧ Gr w w' := by
  subst hr
  have b1 := mul_bd (sgn_bd (crs ax ay bx by_ cx cy)) (sgn_bd (crs ax ay bx by_ dx dy))
  have b2 := mul_bd (sgn_bd (crs cx cy dx dy ax ay)) (sgn_bd (crs cx cy dx dy bx by_))
  simp only [Int.mul_one] at b1 b2
  unfold meetL
  by_cases h12 : sgn (crs ax ay bx by_ cx cy) * sgn (crs ax ay bx by_ dx dy) < 0
  · by_cases h34 : sgn (crs cx cy dx dy ax ay) * sgn (crs cx cy dx dy bx by_) < 0
    · simp only [h12, h34, decide_true, Bool.and_self, Bool.true_or]
      exact meet_one _ _ _ _ _ _ _ _ _ h1 h2 h3 h4 h5 h6 h7 h8 b1 b2 h12 h34
    · simp only [h34, decide_false, Bool.and_false, Bool.false_or]
      exact meet_two _ _ _ _ _ _ _ _ _ h1 h2 h3 h4 h5 h6 h7 h8 b1 b2 h12 (by omega) _ _ _ _ rfl rfl rfl rfl
  · simp only [h12, decide_false, Bool.false_and, Bool.false_or]
    exact meet_three _ _ _ _ _ _ _ _ _ h1 h2 h3 h4 h5 h6 h7 h8 b1 b2 (by omega) _ _ _ _ rfl rfl rfl rfl

end Go.Proofs.Ytjkdjfagaakijaa
