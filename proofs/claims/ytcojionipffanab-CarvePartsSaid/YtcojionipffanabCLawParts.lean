/- The law CarveParts as a walk. -/
import Derived.Test.YtcojionipffanabCTwo
namespace Go.Proofs.Ytcojionipffanab
open Go.RowKit
set_option linter.unusedSimpArgs false

set_option maxRecDepth 100000 in
set_option maxHeartbeats 4000000 in
theorem lawParts_any (W0 H0 : Int) (A : Option Addr) (n c : Nat) (bs : List Bl) (at_ : Int) (w : World) (hn : bs.length = n) (hl : n ≤ 9223372036854775807) (_hc : n ≤ c) (_h0 : A = none → c = 0) (hp : Tris w A bs) :
    Calls Try.prog 8 #[.agg #[.int .i64 W0, .int .i64 H0, .slice A n c], .int .i64 at_] w fun e w' => e = .returned (.bool true) ∧ Gr w w' := by
  have HTM := Lib.hid (fun W' (g : Gr w W') => tame_any W0 H0 A n c bs 20 W' (by omega) (by omega) hn hl (hp.keep g))
  obtain ⟨W, H, e1, e2, hW, hH, h16, hbl⟩ := tame_task 20 (by omega) (by omega) W0 H0 bs
  rw [show ((20 : Nat) : Int) = 20 from rfl] at e1 e2
  rw [e1, e2] at HTM
  generalize tameL bs = qs at HTM h16 hbl
  obtain ⟨q, hq⟩ : ∃ q, qs.length = q := ⟨_, rfl⟩
  have HQ := Lib.hid hq
  rw [hq] at h16
  have HT := Lib.hid (task_ok (W := W) (H := H) (by omega) (by omega) (by omega) hbl)
  have HBL := Lib.hid hbl
  clear hn hl hp hq e1 e2
  by_cases hW2 : W < 2
  · have d1 : decide ((W : Int) < 2) = true := decide_eq_true (by omega)
    go_enter Try.func8, Try.ntmps8
    go_wp2_with fail
    generalize hW1 : World.alloc w _ = W1
    obtain ⟨hg, k1, k2, k3⟩ := task_box hW1
    clear hW1
    go_wp2_with fail
    refine (HTM.out _ hg).mono ?_
    rintro e w1 ⟨A1, c1, rfl, -, -, -, -, hg1⟩
    have hgr := Lib.hid ((hg.trans hg1).alloc (.cells #[.int .i64 (W : Int), .int .i64 (H : Int), .slice A1 qs.length c1] 24))
    clear k1 k2 k3 hg hg1
    go_wp2_with fail
    refine (cawake_any _).mono ?_
    rintro e w7 ⟨rfl, hg7⟩
    go_wp2_with fail
    go_ret
    exact ⟨rfl, hgr.out.trans hg7⟩
  obtain ⟨x, hx, hx1, hx2⟩ : ∃ x : Nat, 1 + modL at_ ((W : Int) - 1) = (x : Int) ∧ 1 ≤ x ∧ x < W := by
    have := modL_le (x := at_) (n := (W : Int) - 1) (by omega) (by omega)
    exact ⟨(1 + modL at_ ((W : Int) - 1)).toNat, by omega, by omega, by omega⟩
  have HX := Lib.hid hx
  have HI := Lib.hid (IntWalk.wrap64_in (1 + modL at_ ((W : Int) - 1)) (by omega))
  have HTL := Lib.hid (task_ok (W := x) (H := H) (by omega) (by omega) (by have := HQ.out; omega) hbl)
  have HTR := Lib.hid (task_ok (W := W - x) (H := H) (by omega) (by omega) (by have := HQ.out; omega) hbl)
  have hsub : (W : Int) - (x : Int) = ((W - x : Nat) : Int) := by omega
  have HSUB := Lib.hid hsub
  have d1 : decide ((W : Int) < 2) = false := decide_eq_false (by omega)
  clear hx hsub
  go_enter Try.func8, Try.ntmps8
  go_wp2_with fail
  generalize hW1 : World.alloc w _ = W1
  obtain ⟨hg, k1, k2, k3⟩ := task_box hW1
  clear hW1
  go_wp2_with fail
  refine (HTM.out _ hg).mono ?_
  rintro e w1 ⟨A1, c1, rfl, hc1, hT1, h01, -, hg1⟩
  rw [HQ.out]
  rw [HQ.out] at hc1
  replace hg := hg.trans hg1
  clear k1 k2 k3 hg1
  have HT1 := Lib.hid hT1
  clear hT1
  go_wp2_with fail
  refine (mod_any at_ ((W : Int) - 1) _ (by omega) (by omega)).mono ?_
  rintro e w1' ⟨rfl, rfl⟩
  go_upto_region 5 with fail
  rw [HI.out, HX.out]
  generalize hW2 : World.alloc w1 _ = w2
  obtain ⟨hg2, k1, k2, k3⟩ := task_box hW2
  generalize hS : w1.heap.size = S0 at k1 k2 k3 ⊢
  have HT2 := Lib.hid (HT1.out.keep hg2)
  replace hg := hg.trans hg2
  clear hW2 hS hg2 HT1 HTM
  go_cut [7, 8] from 7 to 46 (fun p7 p8 wx => ∃ S T, p7 = .pointer (some ⟨S, 0, none⟩) ∧ p8 = .pointer (some ⟨T, 0, none⟩) ∧ Hid (Blk wx S 24 #[.int .i64 (x : Int), .int .i64 (H : Int), .slice A1 q c1]) ∧ Hid (Blk wx T 24 #[.int .i64 ((W : Int) - x), .int .i64 (H : Int), .slice A1 q c1]) ∧ Hid (Gr w2 wx))
  case first =>
    have KS := Lib.hid (fun W' (h : Gr w2 W') => And.intro h (And.intro (h.keep k1) (And.intro (h.keep k2) (h.keep k3))))
    have i1 : IntKind.i64.wrap ((W : Int) - x) = (W : Int) - x := IntWalk.i64_in _ (by omega)
    refine wp_region_held_drew (S := (fun W' => Gr w2 W' ∧ W'.cell? ⟨S0, 0, none⟩ = some (.int .i64 (W : Int)) ∧ W'.cell? ⟨S0, 1, none⟩ = some (.int .i64 (H : Int)) ∧ W'.cell? ⟨S0, 2, none⟩ = some (.slice A1 q c1))) ?_ ?_ (fun hHeld => ?_)
    · kernel_rfl
    · ((try dsimp only); (refine KS.out _ ?_; (repeat (first | exact Gr.refl _ | exact hHeld.1 | (refine Gr.drew ?_) | (refine Gr.alloc ?_ _) | (refine Gr.setCell ?_ (by simp) _)))))
    refine take_in (i := 0) (v := ?_) (d := (some 32)) rfl rfl ?_ ?_ ?_ ?_ ?_ ?_ ?_ ?_
    rotate_left
    · kernel_rfl
    · kernel_rfl
    · kernel_rfl
    · (intro _ _ _ hq; exact hq)
    · rfl
    · (intro _w hSw; (try dsimp only at hSw); go_simp; try with_reducible rfl)
    · assumption
    try simp only [Act.put, List.setIfInBounds_toArray, List.set_cons_zero, List.set_cons_succ]
    refine take_in (i := 1) (v := ?_) (d := (some 33)) rfl rfl ?_ ?_ ?_ ?_ ?_ ?_ ?_ ?_
    rotate_left
    · kernel_rfl
    · kernel_rfl
    · kernel_rfl
    · (intro _ _ _ hq; exact hq)
    · rfl
    · (intro _w hSw; (try dsimp only at hSw); go_simp; try with_reducible rfl)
    · assumption
    try simp only [Act.put, List.setIfInBounds_toArray, List.set_cons_zero, List.set_cons_succ]
    refine take_in (i := 2) (v := ?_) (d := (some 34)) rfl rfl ?_ ?_ ?_ ?_ ?_ ?_ ?_ ?_
    rotate_left
    · kernel_rfl
    · kernel_rfl
    · kernel_rfl
    · (intro _ _ _ hq; exact hq)
    · rfl
    · (intro _w hSw; (try dsimp only at hSw); go_simp; try with_reducible rfl)
    · assumption
    try simp only [Act.put, List.setIfInBounds_toArray, List.set_cons_zero, List.set_cons_succ]
    refine take_in (i := 3) (v := ?_) (d := (some 35)) rfl rfl ?_ ?_ ?_ ?_ ?_ ?_ ?_ ?_
    rotate_left
    · kernel_rfl
    · kernel_rfl
    · kernel_rfl
    · (intro _ _ _ hq; exact hq)
    · rfl
    · (intro _w hSw; (try dsimp only at hSw); go_simp; try with_reducible rfl)
    · assumption
    try simp only [Act.put, List.setIfInBounds_toArray, List.set_cons_zero, List.set_cons_succ]
    refine take_in (i := 4) (v := ?_) (d := (some 36)) rfl rfl ?_ ?_ ?_ ?_ ?_ ?_ ?_ ?_
    rotate_left
    · kernel_rfl
    · kernel_rfl
    · kernel_rfl
    · (intro _ _ _ hq; exact hq)
    · rfl
    · (intro _w hSw; (try dsimp only at hSw); go_simp; try with_reducible rfl)
    · assumption
    try simp only [Act.put, List.setIfInBounds_toArray, List.set_cons_zero, List.set_cons_succ]
    refine take_in (i := 5) (v := ?_) (d := (some 37)) rfl rfl ?_ ?_ ?_ ?_ ?_ ?_ ?_ ?_
    rotate_left
    · kernel_rfl
    · kernel_rfl
    · kernel_rfl
    · (intro _ _ _ hq; exact hq)
    · rfl
    · (intro _w hSw; (try dsimp only at hSw); go_simp; try with_reducible rfl)
    · assumption
    try simp only [Act.put, List.setIfInBounds_toArray, List.set_cons_zero, List.set_cons_succ]
    refine take_in (i := 6) (v := ?_) (d := (some 38)) rfl rfl ?_ ?_ ?_ ?_ ?_ ?_ ?_ ?_
    rotate_left
    · kernel_rfl
    · kernel_rfl
    · kernel_rfl
    · (intro _ _ _ hq; exact hq)
    · rfl
    · (intro _w hSw; (try dsimp only at hSw); go_simp; try with_reducible rfl)
    · assumption
    try simp only [Act.put, List.setIfInBounds_toArray, List.set_cons_zero, List.set_cons_succ]
    refine take_in (i := 7) (v := ?_) (d := (some 39)) rfl rfl ?_ ?_ ?_ ?_ ?_ ?_ ?_ ?_
    rotate_left
    · kernel_rfl
    · kernel_rfl
    · kernel_rfl
    · (intro _ _ _ hq; exact hq)
    · rfl
    · (intro _w hSw; (try dsimp only at hSw); go_simp; try with_reducible rfl)
    · assumption
    try simp only [Act.put, List.setIfInBounds_toArray, List.set_cons_zero, List.set_cons_succ]
    refine take_in (i := 8) (v := ?_) (d := (some 40)) rfl rfl ?_ ?_ ?_ ?_ ?_ ?_ ?_ ?_
    rotate_left
    · kernel_rfl
    · kernel_rfl
    · kernel_rfl
    · (intro _ _ _ hq; exact hq)
    · rfl
    · (intro _w hSw; (try dsimp only at hSw); go_simp; try with_reducible rfl)
    · assumption
    try simp only [Act.put, List.setIfInBounds_toArray, List.set_cons_zero, List.set_cons_succ]
    refine take_in (i := 9) (v := ?_) (d := (some 41)) rfl rfl ?_ ?_ ?_ ?_ ?_ ?_ ?_ ?_
    rotate_left
    · kernel_rfl
    · kernel_rfl
    · kernel_rfl
    · (intro _ _ _ hq; exact hq)
    · rfl
    · (intro _w hSw; (try dsimp only at hSw); go_simp; try with_reducible rfl)
    · assumption
    try simp only [Act.put, List.setIfInBounds_toArray, List.set_cons_zero, List.set_cons_succ]
    refine take_in (i := 10) (v := ?_) (d := (some 42)) rfl rfl ?_ ?_ ?_ ?_ ?_ ?_ ?_ ?_
    rotate_left
    · kernel_rfl
    · kernel_rfl
    · kernel_rfl
    · (intro _ _ _ hq; exact hq)
    · rfl
    · (intro _w hSw; (try dsimp only at hSw); go_simp; try with_reducible rfl)
    · assumption
    try simp only [Act.put, List.setIfInBounds_toArray, List.set_cons_zero, List.set_cons_succ]
    refine take_in (i := 11) (v := ?_) (d := (some 43)) rfl rfl ?_ ?_ ?_ ?_ ?_ ?_ ?_ ?_
    rotate_left
    · kernel_rfl
    · kernel_rfl
    · kernel_rfl
    · (intro _ _ _ hq; exact hq)
    · rfl
    · (intro _w hSw; (try dsimp only at hSw); go_simp; try with_reducible rfl)
    · assumption
    try simp only [Act.put, List.setIfInBounds_toArray, List.set_cons_zero, List.set_cons_succ]
    refine take_in (i := 12) (v := ?_) (d := (some 44)) rfl rfl ?_ ?_ ?_ ?_ ?_ ?_ ?_ ?_
    rotate_left
    · kernel_rfl
    · kernel_rfl
    · kernel_rfl
    · (intro _ _ _ hq; exact hq)
    · rfl
    · (intro _w hSw; (try dsimp only at hSw); go_simp; try with_reducible rfl)
    · assumption
    try simp only [Act.put, List.setIfInBounds_toArray, List.set_cons_zero, List.set_cons_succ]
    refine take_in (i := 13) (v := ?_) (d := (some 45)) rfl rfl ?_ ?_ ?_ ?_ ?_ ?_ ?_ ?_
    rotate_left
    · kernel_rfl
    · kernel_rfl
    · kernel_rfl
    · (intro _ _ _ hq; exact hq)
    · rfl
    · (intro _w hSw; (try dsimp only at hSw); go_simp; try with_reducible rfl)
    · assumption
    try simp only [Act.put, List.setIfInBounds_toArray, List.set_cons_zero, List.set_cons_succ]
    refine take_in (i := 14) (v := ?_) (d := (some 46)) rfl rfl ?_ ?_ ?_ ?_ ?_ ?_ ?_ ?_
    rotate_left
    · kernel_rfl
    · kernel_rfl
    · kernel_rfl
    · (intro _ _ _ hq; exact hq)
    · rfl
    · (intro _w hSw; (try dsimp only at hSw); go_simp; try with_reducible rfl)
    · assumption
    try simp only [Act.put, List.setIfInBounds_toArray, List.set_cons_zero, List.set_cons_succ]
    refine wpAnyH_ready (rs := [15, 16]) ?_ ?_ ?_
    · kernel_rfl
    · simp
    refine (AllReadyH.cons rfl (fun K hK => ?_) (AllReadyH.cons rfl (fun K hK => ?_) AllReadyH.nil))
    go_simp
    refine hK.out _ _ ?_ (fun hHeld => ?_)
    · ((try dsimp only); (refine KS.out _ ?_; (repeat (first | exact Gr.refl _ | exact hHeld.1 | (refine Gr.drew ?_) | (refine Gr.alloc ?_ _) | (refine Gr.setCell ?_ (by simp) _)))))
    clear hK K
    try simp only [Act.put, List.setIfInBounds_toArray, List.set_cons_zero, List.set_cons_succ]
    refine wpAnyH_ready (rs := [16]) ?_ ?_ ?_
    · kernel_rfl
    · simp
    refine (AllReadyH.cons rfl (fun K hK => ?_) AllReadyH.nil)
    go_simp
    refine hK.out _ _ ?_ (fun hHeld => ?_)
    · ((try dsimp only); (refine KS.out _ ?_; (repeat (first | exact Gr.refl _ | exact hHeld.1 | (refine Gr.drew ?_) | (refine Gr.alloc ?_ _) | (refine Gr.setCell ?_ (by simp) _)))))
    clear hK K
    try simp only [Act.put, List.setIfInBounds_toArray, List.set_cons_zero, List.set_cons_succ]
    refine wpAnyH_ready (rs := [17]) ?_ ?_ ?_
    · kernel_rfl
    · simp
    refine (AllReadyH.cons rfl (fun K hK => ?_) AllReadyH.nil)
    go_simp
    refine hK.out _ _ ?_ (fun hHeld => ?_)
    · ((try dsimp only); (refine KS.out _ ?_; (repeat (first | exact Gr.refl _ | exact hHeld.1 | (refine Gr.drew ?_) | (refine Gr.alloc ?_ _) | (refine Gr.setCell ?_ (by simp) _)))))
    clear hK K
    try simp only [Act.put, List.setIfInBounds_toArray, List.set_cons_zero, List.set_cons_succ]
    refine wpAnyH_ready (rs := [18]) ?_ ?_ ?_
    · kernel_rfl
    · simp
    refine (AllReadyH.cons rfl (fun K hK => ?_) AllReadyH.nil)
    go_simp
    refine hK.out _ _ ?_ (fun hHeld => ?_)
    · ((try dsimp only); (refine KS.out _ ?_; (repeat (first | exact Gr.refl _ | exact hHeld.1 | (refine Gr.drew ?_) | (refine Gr.alloc ?_ _) | (refine Gr.setCell ?_ (by simp) _)))))
    clear hK K
    try simp only [Act.put, List.setIfInBounds_toArray, List.set_cons_zero, List.set_cons_succ]
    refine wpAnyH_done ?_ ?_ _
    · kernel_rfl
    rotate_left
    go_simp
    refine hK.out _ _ ?_ (fun hHeld => ?_)
    · ((try dsimp only); (refine KS.out _ ?_; (repeat (first | exact Gr.refl _ | exact hHeld.1 | (refine Gr.drew ?_) | (refine Gr.alloc ?_ _) | (refine Gr.setCell ?_ (by simp) _)))))
    clear hK K
    try simp only [Act.put, List.setIfInBounds_toArray, List.set_cons_zero, List.set_cons_succ]
    refine wpAnyH_ready (rs := [15]) ?_ ?_ ?_
    · kernel_rfl
    · simp
    refine (AllReadyH.cons rfl (fun K hK => ?_) AllReadyH.nil)
    go_simp
    refine hK.out _ _ ?_ (fun hHeld => ?_)
    · ((try dsimp only); (refine KS.out _ ?_; (repeat (first | exact Gr.refl _ | exact hHeld.1 | (refine Gr.drew ?_) | (refine Gr.alloc ?_ _) | (refine Gr.setCell ?_ (by simp) _)))))
    clear hK K
    try simp only [Act.put, List.setIfInBounds_toArray, List.set_cons_zero, List.set_cons_succ]
    refine wpAnyH_ready (rs := [17]) ?_ ?_ ?_
    · kernel_rfl
    · simp
    refine (AllReadyH.cons rfl (fun K hK => ?_) AllReadyH.nil)
    go_simp
    refine hK.out _ _ ?_ (fun hHeld => ?_)
    · ((try dsimp only); (refine KS.out _ ?_; (repeat (first | exact Gr.refl _ | exact hHeld.1 | (refine Gr.drew ?_) | (refine Gr.alloc ?_ _) | (refine Gr.setCell ?_ (by simp) _)))))
    clear hK K
    try simp only [Act.put, List.setIfInBounds_toArray, List.set_cons_zero, List.set_cons_succ]
    refine wpAnyH_ready (rs := [18]) ?_ ?_ ?_
    · kernel_rfl
    · simp
    refine (AllReadyH.cons rfl (fun K hK => ?_) AllReadyH.nil)
    go_simp
    refine hK.out _ _ ?_ (fun hHeld => ?_)
    · ((try dsimp only); (refine KS.out _ ?_; (repeat (first | exact Gr.refl _ | exact hHeld.1 | (refine Gr.drew ?_) | (refine Gr.alloc ?_ _) | (refine Gr.setCell ?_ (by simp) _)))))
    clear hK K
    try simp only [Act.put, List.setIfInBounds_toArray, List.set_cons_zero, List.set_cons_succ]
    refine wpAnyH_done ?_ ?_ _
    · kernel_rfl
    rotate_left
    all_goals
      go_wp2_with fail
      go_meet
      first
        | exact ⟨_, _, rfl, rfl, Lib.hid (two_blk _ _ _ _).1, Lib.hid (two_blk _ _ _ _).2.1, Lib.hid (two_blk _ _ _ _).2.2⟩
        | exact ⟨_, _, rfl, rfl, Lib.hid (two_blk _ _ _ _).2.1, Lib.hid (two_blk _ _ _ _).1, Lib.hid (two_blk _ _ _ _).2.2⟩
  case rest =>
    obtain ⟨S, T, rfl, rfl, HBS, HBT, HG2⟩ := hcut
    replace hg := hg.trans HG2.out
    replace k1 := HG2.out.keep k1
    replace k2 := HG2.out.keep k2
    replace k3 := HG2.out.keep k3
    rw [HSUB.out] at HBT
    have HT3 := Lib.hid (HT2.out.keep HG2.out)
    clear HT2 HG2
    have s0 := HBS.out.cell 0
    have s1 := HBS.out.cell 1
    have t0 := HBT.out.cell 0
    have t1 := HBT.out.cell 1
    go_wp2_with fail
    refine (Best_yes x H A1 q c1 qs _ HQ.out (by omega) HT3.out HTL.out).mono ?_
    rintro e w3 ⟨P, m, gp, cp, gb, rfl, hM, hs, hPc, -, -, hown, -, hg3⟩
    obtain ⟨pn, hpn⟩ : ∃ pn, P.length = pn := ⟨_, rfl⟩
    have hpl := hM.small (by omega) (by omega) (by omega) (by omega)
    have HPN := Lib.hid hpn
    have HM := Lib.hid hM
    have HS := Lib.hid hs
    have HPP := Lib.hid (PlanPost.pts hown)
    rw [hpn] at hPc hpl ⊢
    have HT4 := Lib.hid (HT3.out.keep hg3)
    replace hg := hg.trans hg3
    replace k1 := hg3.keep k1
    replace k2 := hg3.keep k2
    replace k3 := hg3.keep k3
    replace t0 := hg3.keep t0
    replace t1 := hg3.keep t1
    replace HBS := Lib.hid (HBS.out.keep hg3)
    replace HBT := Lib.hid (HBT.out.keep hg3)
    clear hM hs hown hpn hg3 s0 s1 HT3
    go_wp2_with fail
    refine (Best_yes (W - x) H A1 q c1 qs _ HQ.out (by omega) HT4.out HTR.out).mono ?_
    rintro e w4 ⟨Q, m2, gq, cq, gb2, rfl, hM, hs, hQc, -, -, hown, -, hg4⟩
    obtain ⟨qn, hqn⟩ : ∃ qn, Q.length = qn := ⟨_, rfl⟩
    have hql := hM.small (by omega) (by omega) (by omega) (by omega)
    have HQN := Lib.hid hqn
    have HM2 := Lib.hid hM
    have HS2 := Lib.hid hs
    have HQQ := Lib.hid (PlanPost.pts hown)
    rw [hqn] at hQc hql ⊢
    have HT5 := Lib.hid (HT4.out.keep hg4)
    have HPP5 := Lib.hid (HPP.out.keep hg4)
    replace hg := hg.trans hg4
    replace k1 := hg4.keep k1
    replace k2 := hg4.keep k2
    replace k3 := hg4.keep k3
    replace HBS := Lib.hid (HBS.out.keep hg4)
    replace HBT := Lib.hid (HBT.out.keep hg4)
    clear hM hs hown hqn hg4 t0 t1 HT4 HPP
    go_upto_region 9 with fail
    have hown0 := World.ownsRow_lit (e := 56) (size := 2) w4 #[.int .i64 2, .int .i64 (x : Int)] 1 (Nat.le_refl _) (by unfold maxLen; omega) rfl
    have hga : Gr w4 (w4.alloc (.cells #[.int .i64 2, .int .i64 (x : Int)] 56)) := (Gr.refl _).alloc _
    have HPA := Lib.hid (Rd_news enc2_len (by decide) (HPP5.out.keep hga))
    have HGA := Lib.hid hga
    obtain ⟨j0, hj, hj0, hj1, hj2⟩ := info_parts Try.infoSt
    have hcp : cp ≤ 281474976710656 ∨ True := Or.inr trivial
    clear hga hcp
    go_wp2_with (at_builtin; refine wpList_append_own _ rfl _ _ 25 rfl w4.heap.size 56 j0 _ 2 16 Try.underlying25 hj hj0 hj1 hj2 rfl (by decide) _ _ _ rfl hown0 ⟨gp, 0, none⟩ pn cp (flatE enc2 P) rfl ?q1 ?q2 ?q3 ?q4 ?q5 ?q6 ?_)
    case q1 => rw [flatE_len enc2_len, HPN.out]
    case q2 =>
      intro j u hu
      have := HPA.out j u hu
      rwa [Addr.add_lit, Nat.zero_add] at this
    case q3 => exact oneCell_flat enc2_one _
    case q4 => unfold maxLen; omega
    case q5 => omega
    intro v5 w5 hown5 hgrow5 _
    have hg5 : Gr w4 w5 := Below.grown HGA.out hgrow5 (by simp) (fun t ht => by simp [Value.ownBlock] at ht; omega)
    have hrow5 : w5.ownsRow w4.heap.size 56 2 v5 (1 + pn) (flatE enc2 ((2, (x : Int)) :: P)) := hown5
    obtain ⟨A5, c5, rfl, -, -, -⟩ := own_row enc2_len (xs := ((2, (x : Int)) :: P : List St)) (by rw [List.length_cons, HPN.out]; omega) hrow5
    have HQA := Lib.hid (Rd_news enc2_len (by decide) (HQQ.out.keep hg5))
    have HG5 := Lib.hid hg5
    have hsz5 := hg5.size
    clear hown0 hown5 hgrow5 hg5
    go_upto_region 10 with fail
    go_wp2_with (at_builtin; refine wpList_append_own _ rfl _ _ 25 rfl w4.heap.size 56 j0 _ 2 16 Try.underlying25 hj hj0 hj1 hj2 rfl (by decide) _ _ _ rfl hrow5 ⟨gq, 0, none⟩ qn cq (flatE enc2 Q) rfl ?r1 ?r2 ?r3 ?r4 ?r5 ?r6 ?_)
    case r1 => rw [flatE_len enc2_len, HQN.out]
    case r2 =>
      intro j u hu
      have := HQA.out j u hu
      first | exact this | (rwa [Addr.add_lit, Nat.zero_add] at this)
    case r3 => exact oneCell_flat enc2_one _
    case r4 => unfold maxLen; omega
    case r5 => omega
    case r6 => omega
    intro v6 w6 hown6 hgrow6 _
    have hg6 : Gr w4 w6 := Below.grown HG5.out hgrow6 hsz5 (fun t ht => (hrow5.lt t ht).1)
    have hrow6 : w6.ownsRow w4.heap.size 56 2 v6 (1 + pn + qn) (flatE enc2 ((2, (x : Int)) :: (P ++ Q))) := by
      have e : flatE enc2 ((2, (x : Int)) :: (P ++ Q)) = flatE enc2 ((2, (x : Int)) :: P) ++ flatE enc2 Q := by rw [← flatE_app]; rfl
      rw [e]; exact hown6
    have hlen6 : ((2, (x : Int)) :: (P ++ Q) : List St).length = 1 + pn + qn := by rw [List.length_cons, List.length_append, HPN.out, HQN.out]; omega
    obtain ⟨A6, c6, rfl, -, hrd6, -⟩ := own_row enc2_len hlen6 hrow6
    have HR6 := Lib.hid hrd6
    have HL6 := Lib.hid hlen6
    have HMK := Lib.hid (Makes.across W H x P Q m m2 hx1 hx2 HM.out HM2.out)
    have HWO : Hid (worthL W H qs ((2, (x : Int)) :: (P ++ Q)) = (mst qs x H + mst qs (W - x) H, 0)) := Lib.hid (by rw [worthL_of HMK.out HT.out, sumV_app, HS.out, HS2.out])
    have HT6 := Lib.hid (HT5.out.keep hg6)
    replace hg := hg.trans hg6
    replace k1 := hg6.keep k1
    replace k2 := hg6.keep k2
    replace k3 := hg6.keep k3
    replace HBS := Lib.hid (HBS.out.keep hg6)
    replace HBT := Lib.hid (HBT.out.keep hg6)
    clear hg6 hown6 hgrow6 hrow6 hrow5 hlen6 hrd6 hsz5 hj hj0 hj1 hj2
    generalize hpl6 : 1 + pn + qn = n6 at HL6 ⊢
    have hn6 : n6 ≤ 9300 := by omega
    clear hpl6
    go_wp2_with fail
    refine (Worth_any W H A1 _ q c1 n6 c6 qs _ _ HQ.out (by omega) HL6.out (by omega) HT6.out HR6.out).mono ?_
    rintro e w7 ⟨rfl, hg7⟩
    rw [HWO.out]
    dsimp only
    have HT7 := Lib.hid (HT6.out.keep hg7)
    replace hg := hg.trans hg7
    replace k1 := hg7.keep k1
    replace k2 := hg7.keep k2
    replace k3 := hg7.keep k3
    replace HBS := Lib.hid (HBS.out.keep hg7)
    replace HBT := Lib.hid (HBT.out.keep hg7)
    clear hg7
    go_upto_region 12 with fail
    have KS := Lib.hid (fun W' (h : Gr w7 W') => And.intro h (And.intro (And.intro ((HBS.out.keep h).cell 0) (And.intro ((HBS.out.keep h).cell 1) ((HBS.out.keep h).cell 2))) (And.intro ((HBT.out.keep h).cell 0) (And.intro ((HBT.out.keep h).cell 1) ((HBT.out.keep h).cell 2)))))
    have HC1 := Lib.hid (fun W' (h : Gr w7 W') => best_any x H A1 q c1 qs W' HQ.out (by omega) (HT7.out.keep h) HTL.out)
    have HC2 := Lib.hid (fun W' (h : Gr w7 W') => best_any (W - x) H A1 q c1 qs W' HQ.out (by omega) (HT7.out.keep h) HTR.out)
    have a1 := mst_nonneg qs x H
    have a2 := mst_nonneg qs (W - x) H
    have a3 := mst_bd HBL.out (w := x) (h := H) (by omega) (by omega)
    have a4 := mst_bd HBL.out (w := W - x) (h := H) (by omega) (by omega)
    have a5 := mst_x qs (a := x) (b := W - x) (h := H) (by omega) (by omega) (by omega)
    rw [show x + (W - x) = W by omega] at a5
    generalize mst qs x H = v1 at a1 a3 a5 HC1 ⊢
    generalize mst qs (W - x) H = v2 at a2 a4 a5 HC2 ⊢
    go_cut [18, 19] from 18 to 92 (fun p7 p8 wx => p7 = .int .i64 v1 ∧ p8 = .int .i64 v2 ∧ Hid (Gr w7 wx))
    case first =>
      refine wp_region_held_drew (S := (fun W' => Gr w7 W' ∧ (W'.cell? ⟨S, 0, none⟩ = some (.int .i64 (x : Int)) ∧ W'.cell? ⟨S, 1, none⟩ = some (.int .i64 (H : Int)) ∧ W'.cell? ⟨S, 2, none⟩ = some (.slice A1 q c1)) ∧ (W'.cell? ⟨T, 0, none⟩ = some (.int .i64 ((W - x : Nat) : Int)) ∧ W'.cell? ⟨T, 1, none⟩ = some (.int .i64 (H : Int)) ∧ W'.cell? ⟨T, 2, none⟩ = some (.slice A1 q c1)))) ?_ ?_ (fun hHeld => ?_)
      · kernel_rfl
      · ((try dsimp only); (first | exact KS.out _ (Gr.refl _).drew | exact KS.out _ (hHeld.1.trans HG1.out)))
      refine take_in (i := 0) (v := ?_) (d := (some 89)) rfl rfl ?_ ?_ ?_ ?_ ?_ ?_ ?_ ?_
      rotate_left
      · kernel_rfl
      · kernel_rfl
      · kernel_rfl
      · (intro _ _ _ hq; exact hq)
      · rfl
      · (intro _w hSw; (try dsimp only at hSw); go_simp; try with_reducible rfl)
      · assumption
      try simp only [Act.put, List.setIfInBounds_toArray, List.set_cons_zero, List.set_cons_succ]
      refine take_in (i := 2) (v := ?_) (d := (some 91)) rfl rfl ?_ ?_ ?_ ?_ ?_ ?_ ?_ ?_
      rotate_left
      · kernel_rfl
      · kernel_rfl
      · kernel_rfl
      · (intro _ _ _ hq; exact hq)
      · rfl
      · (intro _w hSw; (try dsimp only at hSw); go_simp; try with_reducible rfl)
      · assumption
      try simp only [Act.put, List.setIfInBounds_toArray, List.set_cons_zero, List.set_cons_succ]
      refine wpAnyH_ready (rs := [1]) ?_ ?_ ?_
      · kernel_rfl
      · simp
      refine (AllReadyH.cons rfl (fun K hK => ?_) AllReadyH.nil)
      go_simp
      first | (go_at_call 26; ((with_reducible refine (HC1.out _ hHeld.1).mono ?_); rintro e w8 ⟨rfl, hgf⟩; have HG1 := Lib.hid hgf; clear hgf)) | (go_at_call 26; ((with_reducible refine (HC2.out _ hHeld.1).mono ?_); rintro e w8 ⟨rfl, hgf⟩; have HG1 := Lib.hid hgf; clear hgf))
      refine hK.out _ _ ?_ (fun hHeld => ?_)
      · ((try dsimp only); (first | exact KS.out _ (Gr.refl _).drew | exact KS.out _ (hHeld.1.trans HG1.out)))
      clear hK K
      try simp only [Act.put, List.setIfInBounds_toArray, List.set_cons_zero, List.set_cons_succ]
      refine wpAnyH_ready (rs := [3]) ?_ ?_ ?_
      · kernel_rfl
      · simp
      refine (AllReadyH.cons rfl (fun K hK => ?_) AllReadyH.nil)
      go_simp
      first | (go_at_call 26; ((with_reducible refine (HC1.out _ hHeld.1).mono ?_); rintro e w8 ⟨rfl, hgf⟩; have HG1 := Lib.hid hgf; clear hgf)) | (go_at_call 26; ((with_reducible refine (HC2.out _ hHeld.1).mono ?_); rintro e w8 ⟨rfl, hgf⟩; have HG1 := Lib.hid hgf; clear hgf))
      refine hK.out _ _ ?_ (fun hHeld => ?_)
      · ((try dsimp only); (first | exact KS.out _ (Gr.refl _).drew | exact KS.out _ (hHeld.1.trans HG1.out)))
      clear hK K
      try simp only [Act.put, List.setIfInBounds_toArray, List.set_cons_zero, List.set_cons_succ]
      refine take_in (i := 4) (v := ?_) (d := (some 18)) rfl rfl ?_ ?_ ?_ ?_ ?_ ?_ ?_ ?_
      rotate_left
      · kernel_rfl
      · kernel_rfl
      · kernel_rfl
      · (intro _ _ _ hq; exact hq)
      · rfl
      · (intro _w hSw; (try dsimp only at hSw); go_simp; try with_reducible rfl)
      · assumption
      try simp only [Act.put, List.setIfInBounds_toArray, List.set_cons_zero, List.set_cons_succ]
      refine take_in (i := 5) (v := ?_) (d := (some 19)) rfl rfl ?_ ?_ ?_ ?_ ?_ ?_ ?_ ?_
      rotate_left
      · kernel_rfl
      · kernel_rfl
      · kernel_rfl
      · (intro _ _ _ hq; exact hq)
      · rfl
      · (intro _w hSw; (try dsimp only at hSw); go_simp; try with_reducible rfl)
      · assumption
      try simp only [Act.put, List.setIfInBounds_toArray, List.set_cons_zero, List.set_cons_succ]
      refine wpAnyH_done ?_ ?_ _
      · kernel_rfl
      rotate_left
      all_goals
        go_wp2_with fail
        go_meet
        exact ⟨rfl, rfl, Lib.hid hHeld.1⟩
    case rest =>
      obtain ⟨rfl, rfl, HG8⟩ := hcut
      have HT8 := Lib.hid (HT7.out.keep HG8.out)
      replace hg := hg.trans HG8.out
      replace k1 := HG8.out.keep k1
      replace k2 := HG8.out.keep k2
      replace k3 := HG8.out.keep k3
      clear HG8 HC1 HC2 KS
      have e1 : decide (0 ≤ v1) = true := decide_eq_true a1
      have e2 : decide (0 ≤ v2) = true := decide_eq_true a2
      have e3 : ((0 : Int) == 0) = true := by simp
      have e4 : (v1 + v2 == v1 + v2) = true := by simp
      go_wp2_with fail
      refine (best_any W H A1 q c1 qs _ HQ.out (by omega) HT8.out HT.out).mono ?_
      rintro e w9 ⟨rfl, hg9⟩
      generalize mst qs W H = v3 at a5 ⊢
      have e5 : decide (v1 + v2 ≤ v3) = true := decide_eq_true a5
      go_wp2_with fail
      refine (cawake_any _).mono ?_
      rintro e w10 ⟨rfl, hg10⟩
      go_wp2_with fail
      go_ret
      exact ⟨rfl, (hg.trans hg9).trans hg10⟩

end Go.Proofs.Ytcojionipffanab
