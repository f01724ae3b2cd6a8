/- The law PlaneTurns as a walk. -/
import Derived.Test.YtfihmjobnffjfaaTurns
namespace Go.Proofs.Ytfihmjobnffjfaa
open Go.RowKit
set_option linter.unusedSimpArgs false

theorem Pts3 {w : World} {ax ay bx by_ cx cy : Int} {t : TypeId} : Pts (w.alloc (.cells #[.int .i64 ax, .int .i64 ay, .int .i64 bx, .int .i64 by_, .int .i64 cx, .int .i64 cy] t)) (some ⟨w.heap.size, 0, none⟩) [(ax, ay), (bx, by_), (cx, cy)] :=
  Pts_lit (heap_alloc_new w _) (by
    intro i x hx
    match i, hx with
    | 0, hx => obtain rfl := Option.some.inj hx; exact ⟨rfl, rfl⟩
    | 1, hx => obtain rfl := Option.some.inj hx; exact ⟨rfl, rfl⟩
    | 2, hx => obtain rfl := Option.some.inj hx; exact ⟨rfl, rfl⟩
    | k + 3, hx => simp at hx)

set_option maxRecDepth 100000 in
set_option maxHeartbeats 2000000 in
theorem lawTurns_any (ax ay bx by_ cx cy : Int) (w : World) :
    Calls Try.prog 3 #[.agg #[.int .i64 ax, .int .i64 ay], .agg #[.int .i64 bx, .int .i64 by_], .agg #[.int .i64 cx, .int .i64 cy]] w fun e w' => e = .returned (.bool true) ∧ Gr w w' := by
  rcases hv : (vld ax ay && (vld bx by_ && vld cx cy)) with _ | _
  · have HT : Hid (∀ W, Calls Try.prog 20 #[.agg #[.int .i64 ax, .int .i64 ay], .agg #[.int .i64 bx, .int .i64 by_], .agg #[.int .i64 cx, .int .i64 cy]] W fun e w' => e = .returned (.tuple #[.int .i64 0, .int .i64 2]) ∧ Gr W w') := Lib.hid (fun W => Turn_no _ _ _ _ _ _ W hv)
    have HA : Hid (([(ax, ay), (bx, by_), (cx, cy)].all fun p => vld p.1 p.2) = false) := Lib.hid (by simpa using hv)
    clear hv
    go_enter Try.func3, Try.ntmps3
    go_wp2_with fail
    generalize hW : World.alloc (World.alloc (World.alloc w _) _) _ = W
    obtain ⟨hg, k1, k2, k3, k4, k5, k6⟩ := box6 hW
    clear hW
    refine (HT.out W).mono ?_
    rintro e w1 ⟨rfl, hb⟩
    replace k1 := hb.keep k1
    replace k2 := hb.keep k2
    replace k3 := hb.keep k3
    replace k4 := hb.keep k4
    replace k5 := hb.keep k5
    replace k6 := hb.keep k6
    replace hg := hg.trans hb
    clear hb
    go_wp2_with fail
    refine (rValids_any _ 3 3 [(ax, ay), (bx, by_), (cx, cy)] _ rfl (by omega) Pts3 _ HA.out).mono ?_
    rintro e w2 ⟨rfl, hb⟩
    go_wp2_with fail
    refine (awake_any _).mono ?_
    rintro e w3 ⟨rfl, hb3⟩
    go_wp2_with fail
    go_ret
    exact ⟨rfl, ((hg.alloc _).trans hb).trans hb3⟩
  · have hv1 : vld ax ay = true := by simp at hv; exact hv.1
    have hv2 : vld bx by_ = true := by simp at hv; exact hv.2.1
    have hv3 : vld cx cy = true := by simp at hv; exact hv.2.2
    obtain ⟨c1, c2⟩ := (vld_iff ax ay).1 hv1
    obtain ⟨c3, c4⟩ := (vld_iff bx by_).1 hv2
    obtain ⟨c5, c6⟩ := (vld_iff cx cy).1 hv3
    have HT : Hid (∀ W, Calls Try.prog 20 #[.agg #[.int .i64 ax, .int .i64 ay], .agg #[.int .i64 bx, .int .i64 by_], .agg #[.int .i64 cx, .int .i64 cy]] W fun e w' => e = .returned (.tuple #[.int .i64 (sgn (crs ax ay bx by_ cx cy)), .int .i64 0]) ∧ Gr W w') := Lib.hid (fun W => Turn_yes _ _ _ _ _ _ W hv1 hv2 hv3)
    have HR : Hid (∀ W, Calls Try.prog 23 #[.agg #[.int .i64 ax, .int .i64 ay], .agg #[.int .i64 bx, .int .i64 by_], .agg #[.int .i64 cx, .int .i64 cy]] W fun e w' => e = .returned (.int .i64 (sgn (crs ax ay bx by_ cx cy))) ∧ Gr W w') := Lib.hid (fun W => rTurn_any _ _ _ _ _ _ W c1 c2 c3 c4 c5 c6)
    have HA : Hid (([(ax, ay), (bx, by_), (cx, cy)].all fun p => vld p.1 p.2) = true) := Lib.hid (by simpa using hv)
    generalize sgn (crs ax ay bx by_ cx cy) = s at HT HR
    clear hv hv1 hv2 hv3 c1 c2 c3 c4 c5 c6
    go_enter Try.func3, Try.ntmps3
    go_wp2_with fail
    generalize hW : World.alloc (World.alloc (World.alloc w _) _) _ = W
    obtain ⟨hg, k1, k2, k3, k4, k5, k6⟩ := box6 hW
    clear hW
    refine (HT.out W).mono ?_
    rintro e w1 ⟨rfl, hb⟩
    replace k1 := hb.keep k1
    replace k2 := hb.keep k2
    replace k3 := hb.keep k3
    replace k4 := hb.keep k4
    replace k5 := hb.keep k5
    replace k6 := hb.keep k6
    replace hg := hg.trans hb
    clear hb
    go_wp2_with fail
    refine (rValids_any _ 3 3 [(ax, ay), (bx, by_), (cx, cy)] _ rfl (by omega) Pts3 _ HA.out).mono ?_
    rintro e w2 ⟨rfl, hb⟩
    replace hb := ((Gr.refl w1).alloc (.cells #[.int .i64 ax, .int .i64 ay, .int .i64 bx, .int .i64 by_, .int .i64 cx, .int .i64 cy] 23)).trans hb
    replace k1 := hb.keep k1
    replace k2 := hb.keep k2
    replace k3 := hb.keep k3
    replace k4 := hb.keep k4
    replace k5 := hb.keep k5
    replace k6 := hb.keep k6
    replace hg := hg.trans hb
    go_wp2_with fail
    refine (HR.out _).mono ?_
    rintro e w3 ⟨rfl, hb3⟩
    go_wp2_with fail
    refine (awake_any _).mono ?_
    rintro e w4 ⟨rfl, hb4⟩
    go_wp2_with fail
    go_ret
    exact ⟨rfl, (hg.trans hb3).trans hb4⟩

end Go.Proofs.Ytfihmjobnffjfaa
