/- The law CarveBest as a walk. -/
import Derived.Test.YtjmgoebhcijdfabCLawPlans
import Derived.Test.YtjmgoebhcijdfabCMost
namespace Go.Proofs.Ytjmgoebhcijdfab
open Go.RowKit
set_option linter.unusedSimpArgs false

theorem ok_mst {bs : List Bl} {W H : Nat} (ht : taskB W H bs = true) : (formB W H (mstTb bs W H) && boundB bs (mstTb bs W H) W H) = true := by
  obtain ⟨⟨h1, h2⟩, ⟨h3, h4⟩, -, hbs⟩ := (taskB_iff _ _ _).1 ht
  rw [Bool.and_eq_true]
  exact ⟨(formB_iff _ _ _).2 (mstTb_frm hbs (by omega) (by omega)), (boundB_iff _ _ _ _).2 (mstTb_bound hbs W H)⟩

set_option maxRecDepth 100000 in
set_option maxHeartbeats 4000000 in
theorem lawBest_no (W H : Int) (A : Option Addr) (n c : Nat) (bs : List Bl) (w : World) (hn : bs.length = n) (hl : n ≤ 9223372036854775807) (hc : n ≤ c) (h0 : A = none → c = 0) (hp : Tris w A bs) (ht : taskB W H (bs.take 17) = false) :
    Calls Try.prog 3 #[.agg #[.int .i64 W, .int .i64 H, .slice A n c]] w fun e w' => e = .returned (.bool true) ∧ Gr w w' := by
  have HB := Lib.hid (fun W' (g : Gr w W') => blanks_any A n c bs W' hn hl hc h0 (hp.keep g))
  have hbl : (bs.take 17).length ≤ 17 := List.length_take_le ..
  generalize bs.take 17 = qs at HB hbl ht
  obtain ⟨q, hq⟩ : ∃ q, qs.length = q := ⟨_, rfl⟩
  have HQ := Lib.hid hq
  rw [hq] at hbl
  have HT := Lib.hid ht
  have HWL : Hid (worthL W H qs [] = (0, 2)) := Lib.hid (by unfold worthL; rw [ht]; rfl)
  have HRL : Hid (restL W H qs [] = (0, 2)) := Lib.hid (by unfold restL; rw [ht]; rfl)
  have HCK : Hid (checkL W H qs [] = 2) := Lib.hid (by unfold checkL; rw [ht]; rfl)
  clear hn hl hc h0 hp hq ht
  go_enter Try.func3, Try.ntmps3
  go_wp2_with fail
  generalize hW : World.alloc w _ = W0
  obtain ⟨hg, k1, k2, k3⟩ := task_box hW
  clear hW
  have hdr := (Gr.refl W0).drew
  refine wp_region_held_drew (S := (fun W' => Gr w W' ∧ W'.cell? ⟨w.heap.size, 0, none⟩ = some (.int .i64 W) ∧ W'.cell? ⟨w.heap.size, 1, none⟩ = some (.int .i64 H) ∧ W'.cell? ⟨w.heap.size, 2, none⟩ = some (.slice A n c))) ?_ ?_ (fun hHeld => ?_)
  · kernel_rfl
  · ((try dsimp only); (first | exact ⟨hg.drew, hdr.keep k1, hdr.keep k2, hdr.keep k3⟩ | exact ⟨hHeld.1.trans HG1.out, HG1.out.keep hHeld.2.1, HG1.out.keep hHeld.2.2.1, HG1.out.keep hHeld.2.2.2⟩))
  refine take_in (i := 0) (v := ?_) (d := (some 18)) rfl rfl ?_ ?_ ?_ ?_ ?_ ?_ ?_ ?_
  rotate_left
  · kernel_rfl
  · kernel_rfl
  · kernel_rfl
  · (intro _ _ _ hq; exact hq)
  · rfl
  · (intro _w hSw; (try dsimp only at hSw); go_simp; try with_reducible rfl)
  · assumption
  try simp only [Act.put, List.setIfInBounds_toArray, List.set_cons_zero, List.set_cons_succ]
  refine take_in (i := 1) (v := ?_) (d := (some 19)) rfl rfl ?_ ?_ ?_ ?_ ?_ ?_ ?_ ?_
  rotate_left
  · kernel_rfl
  · kernel_rfl
  · kernel_rfl
  · (intro _ _ _ hq; exact hq)
  · rfl
  · (intro _w hSw; (try dsimp only at hSw); go_simp; try with_reducible rfl)
  · assumption
  try simp only [Act.put, List.setIfInBounds_toArray, List.set_cons_zero, List.set_cons_succ]
  refine take_in (i := 2) (v := ?_) (d := (some 20)) rfl rfl ?_ ?_ ?_ ?_ ?_ ?_ ?_ ?_
  rotate_left
  · kernel_rfl
  · kernel_rfl
  · kernel_rfl
  · (intro _ _ _ hq; exact hq)
  · rfl
  · (intro _w hSw; (try dsimp only at hSw); go_simp; try with_reducible rfl)
  · assumption
  try simp only [Act.put, List.setIfInBounds_toArray, List.set_cons_zero, List.set_cons_succ]
  refine take_in (i := 3) (v := ?_) (d := (some 21)) rfl rfl ?_ ?_ ?_ ?_ ?_ ?_ ?_ ?_
  rotate_left
  · kernel_rfl
  · kernel_rfl
  · kernel_rfl
  · (intro _ _ _ hq; exact hq)
  · rfl
  · (intro _w hSw; (try dsimp only at hSw); go_simp; try with_reducible rfl)
  · assumption
  try simp only [Act.put, List.setIfInBounds_toArray, List.set_cons_zero, List.set_cons_succ]
  refine take_in (i := 4) (v := ?_) (d := (some 22)) rfl rfl ?_ ?_ ?_ ?_ ?_ ?_ ?_ ?_
  rotate_left
  · kernel_rfl
  · kernel_rfl
  · kernel_rfl
  · (intro _ _ _ hq; exact hq)
  · rfl
  · (intro _w hSw; (try dsimp only at hSw); go_simp; try with_reducible rfl)
  · assumption
  try simp only [Act.put, List.setIfInBounds_toArray, List.set_cons_zero, List.set_cons_succ]
  refine take_in (i := 5) (v := ?_) (d := (some 23)) rfl rfl ?_ ?_ ?_ ?_ ?_ ?_ ?_ ?_
  rotate_left
  · kernel_rfl
  · kernel_rfl
  · kernel_rfl
  · (intro _ _ _ hq; exact hq)
  · rfl
  · (intro _w hSw; (try dsimp only at hSw); go_simp; try with_reducible rfl)
  · assumption
  try simp only [Act.put, List.setIfInBounds_toArray, List.set_cons_zero, List.set_cons_succ]
  refine wpAnyH_ready (rs := [6]) ?_ ?_ ?_
  · kernel_rfl
  · simp
  refine (AllReadyH.cons rfl (fun K hK => ?_) AllReadyH.nil)
  go_simp
  first | (go_at_call 14; refine (HB.out _ hHeld.1).mono ?_; rintro e w1 ⟨A1, c1, rfl, hc1, hT1, -, -, hb1⟩; have HT1 := Lib.hid hT1; have HG1 := Lib.hid hb1; clear hT1 hb1 hc1)
  refine hK.out _ _ ?_ (fun hHeld => ?_)
  · ((try dsimp only); (first | exact ⟨hg.drew, hdr.keep k1, hdr.keep k2, hdr.keep k3⟩ | exact ⟨hHeld.1.trans HG1.out, HG1.out.keep hHeld.2.1, HG1.out.keep hHeld.2.2.1, HG1.out.keep hHeld.2.2.2⟩))
  clear hK K
  try simp only [Act.put, List.setIfInBounds_toArray, List.set_cons_zero, List.set_cons_succ]
  refine take_in (i := 7) (v := ?_) (d := (some 3)) rfl rfl ?_ ?_ ?_ ?_ ?_ ?_ ?_ ?_
  rotate_left
  · kernel_rfl
  · kernel_rfl
  · kernel_rfl
  · (intro _ _ _ hq; exact hq)
  · rfl
  · (intro _w hSw; (try dsimp only at hSw); go_simp; try with_reducible rfl)
  · assumption
  try simp only [Act.put, List.setIfInBounds_toArray, List.set_cons_zero, List.set_cons_succ]
  refine take_in (i := 8) (v := ?_) (d := (some 4)) rfl rfl ?_ ?_ ?_ ?_ ?_ ?_ ?_ ?_
  rotate_left
  · kernel_rfl
  · kernel_rfl
  · kernel_rfl
  · (intro _ _ _ hq; exact hq)
  · rfl
  · (intro _w hSw; (try dsimp only at hSw); go_simp; try with_reducible rfl)
  · assumption
  try simp only [Act.put, List.setIfInBounds_toArray, List.set_cons_zero, List.set_cons_succ]
  refine take_in (i := 9) (v := ?_) (d := (some 5)) rfl rfl ?_ ?_ ?_ ?_ ?_ ?_ ?_ ?_
  rotate_left
  · kernel_rfl
  · kernel_rfl
  · kernel_rfl
  · (intro _ _ _ hq; exact hq)
  · rfl
  · (intro _w hSw; (try dsimp only at hSw); go_simp; try with_reducible rfl)
  · assumption
  try simp only [Act.put, List.setIfInBounds_toArray, List.set_cons_zero, List.set_cons_succ]
  refine wpAnyH_done ?_ ?_ _
  · kernel_rfl
  rotate_left
  all_goals
    replace hg := hHeld.1
    rw [HQ.out]
    clear k1 k2 k3 hdr hHeld
    go_wp2_with fail
    refine (Best_no W H A1 q c1 qs _ HQ.out (by omega) HT1.out HT.out).mono ?_
    rintro e w2 ⟨rfl, hb2⟩
    go_wp2_with fail
    refine (rTask_any W H A1 q c1 qs _ HQ.out (by omega) (HT1.out.keep hb2) _ HT.out).mono ?_
    rintro e w3 ⟨rfl, hb3⟩
    go_wp2_with fail
    refine (Worth_any W H A1 none q c1 0 0 qs [] _ HQ.out (by omega) rfl (by omega) (HT1.out.keep (hb2.trans hb3)) (Rd_nil _ _)).mono ?_
    rintro e w4 ⟨rfl, hb4⟩
    rw [HWL.out]
    go_wp2_with fail
    refine (Rest_any W H A1 none q c1 0 0 qs [] _ HQ.out (by omega) rfl (by omega) (HT1.out.keep ((hb2.trans hb3).trans hb4)) (Rd_nil _ _)).mono ?_
    rintro e w5 ⟨rfl, hb5⟩
    rw [HRL.out]
    go_wp2_with fail
    refine (Check_any W H A1 none q c1 0 0 qs [] _ HQ.out (by omega) rfl (by omega) (fun row hr => by cases hr) (HT1.out.keep (((hb2.trans hb3).trans hb4).trans hb5)) (fun i row hr => by simp at hr)).mono ?_
    rintro e w6 ⟨rfl, hb6⟩
    rw [HCK.out]
    go_wp2_with fail
    refine (cawake_any _).mono ?_
    rintro e w7 ⟨rfl, hb7⟩
    go_wp2_with fail
    go_ret
    exact ⟨rfl, (((((hg.trans hb2).trans hb3).trans hb4).trans hb5).trans hb6).trans hb7⟩

set_option maxRecDepth 100000 in
set_option maxHeartbeats 4000000 in
theorem lawBest_yes (W H : Nat) (A : Option Addr) (n c : Nat) (bs : List Bl) (w : World) (hn : bs.length = n) (hl : n ≤ 9223372036854775807) (hc : n ≤ c) (h0 : A = none → c = 0) (hp : Tris w A bs) (ht : taskB W H (bs.take 17) = true) :
    Calls Try.prog 3 #[.agg #[.int .i64 (W : Int), .int .i64 (H : Int), .slice A n c]] w fun e w' => e = .returned (.bool true) ∧ Gr w w' := by
  have HB := Lib.hid (fun W' (g : Gr w W') => blanks_any A n c bs W' hn hl hc h0 (hp.keep g))
  generalize bs.take 17 = qs at HB ht
  obtain ⟨⟨hW1, hW2⟩, ⟨hH1, hH2⟩, h16, hbs⟩ := (taskB_iff _ _ _).1 ht
  obtain ⟨q, hq⟩ : ∃ q, qs.length = q := ⟨_, rfl⟩
  have HQ := Lib.hid hq
  rw [hq] at h16
  have HT := Lib.hid ht
  have HBS := Lib.hid hbs
  have HZ := Lib.hid (Sz_of ht)
  have HCK := Lib.hid (check_mst ht)
  have HOKB := Lib.hid (ok_mst ht)
  have HFR := Lib.hid (mstTb_frm hbs (show W ≤ 48 by omega) (show H ≤ 48 by omega))
  have HAT := Lib.hid (mstTb_at qs W H (Nat.le_refl W) (Nat.le_refl H))
  clear hn hl hc h0 hp hq ht hbs
  go_enter Try.func3, Try.ntmps3
  go_wp2_with fail
  generalize hW : World.alloc w _ = W0
  obtain ⟨hg, k1, k2, k3⟩ := task_box hW
  clear hW
  have hdr := (Gr.refl W0).drew
  refine wp_region_held_drew (S := (fun W' => Gr w W' ∧ W'.cell? ⟨w.heap.size, 0, none⟩ = some (.int .i64 (W : Int)) ∧ W'.cell? ⟨w.heap.size, 1, none⟩ = some (.int .i64 (H : Int)) ∧ W'.cell? ⟨w.heap.size, 2, none⟩ = some (.slice A n c))) ?_ ?_ (fun hHeld => ?_)
  · kernel_rfl
  · ((try dsimp only); (first | exact ⟨hg.drew, hdr.keep k1, hdr.keep k2, hdr.keep k3⟩ | exact ⟨hHeld.1.trans HG1.out, HG1.out.keep hHeld.2.1, HG1.out.keep hHeld.2.2.1, HG1.out.keep hHeld.2.2.2⟩))
  refine take_in (i := 0) (v := ?_) (d := (some 18)) rfl rfl ?_ ?_ ?_ ?_ ?_ ?_ ?_ ?_
  rotate_left
  · kernel_rfl
  · kernel_rfl
  · kernel_rfl
  · (intro _ _ _ hq; exact hq)
  · rfl
  · (intro _w hSw; (try dsimp only at hSw); go_simp; try with_reducible rfl)
  · assumption
  try simp only [Act.put, List.setIfInBounds_toArray, List.set_cons_zero, List.set_cons_succ]
  refine take_in (i := 1) (v := ?_) (d := (some 19)) rfl rfl ?_ ?_ ?_ ?_ ?_ ?_ ?_ ?_
  rotate_left
  · kernel_rfl
  · kernel_rfl
  · kernel_rfl
  · (intro _ _ _ hq; exact hq)
  · rfl
  · (intro _w hSw; (try dsimp only at hSw); go_simp; try with_reducible rfl)
  · assumption
  try simp only [Act.put, List.setIfInBounds_toArray, List.set_cons_zero, List.set_cons_succ]
  refine take_in (i := 2) (v := ?_) (d := (some 20)) rfl rfl ?_ ?_ ?_ ?_ ?_ ?_ ?_ ?_
  rotate_left
  · kernel_rfl
  · kernel_rfl
  · kernel_rfl
  · (intro _ _ _ hq; exact hq)
  · rfl
  · (intro _w hSw; (try dsimp only at hSw); go_simp; try with_reducible rfl)
  · assumption
  try simp only [Act.put, List.setIfInBounds_toArray, List.set_cons_zero, List.set_cons_succ]
  refine take_in (i := 3) (v := ?_) (d := (some 21)) rfl rfl ?_ ?_ ?_ ?_ ?_ ?_ ?_ ?_
  rotate_left
  · kernel_rfl
  · kernel_rfl
  · kernel_rfl
  · (intro _ _ _ hq; exact hq)
  · rfl
  · (intro _w hSw; (try dsimp only at hSw); go_simp; try with_reducible rfl)
  · assumption
  try simp only [Act.put, List.setIfInBounds_toArray, List.set_cons_zero, List.set_cons_succ]
  refine take_in (i := 4) (v := ?_) (d := (some 22)) rfl rfl ?_ ?_ ?_ ?_ ?_ ?_ ?_ ?_
  rotate_left
  · kernel_rfl
  · kernel_rfl
  · kernel_rfl
  · (intro _ _ _ hq; exact hq)
  · rfl
  · (intro _w hSw; (try dsimp only at hSw); go_simp; try with_reducible rfl)
  · assumption
  try simp only [Act.put, List.setIfInBounds_toArray, List.set_cons_zero, List.set_cons_succ]
  refine take_in (i := 5) (v := ?_) (d := (some 23)) rfl rfl ?_ ?_ ?_ ?_ ?_ ?_ ?_ ?_
  rotate_left
  · kernel_rfl
  · kernel_rfl
  · kernel_rfl
  · (intro _ _ _ hq; exact hq)
  · rfl
  · (intro _w hSw; (try dsimp only at hSw); go_simp; try with_reducible rfl)
  · assumption
  try simp only [Act.put, List.setIfInBounds_toArray, List.set_cons_zero, List.set_cons_succ]
  refine wpAnyH_ready (rs := [6]) ?_ ?_ ?_
  · kernel_rfl
  · simp
  refine (AllReadyH.cons rfl (fun K hK => ?_) AllReadyH.nil)
  go_simp
  first | (go_at_call 14; refine (HB.out _ hHeld.1).mono ?_; rintro e w1 ⟨A1, c1, rfl, hc1, hT1, -, -, hb1⟩; have HT1 := Lib.hid hT1; have HG1 := Lib.hid hb1; clear hT1 hb1 hc1)
  refine hK.out _ _ ?_ (fun hHeld => ?_)
  · ((try dsimp only); (first | exact ⟨hg.drew, hdr.keep k1, hdr.keep k2, hdr.keep k3⟩ | exact ⟨hHeld.1.trans HG1.out, HG1.out.keep hHeld.2.1, HG1.out.keep hHeld.2.2.1, HG1.out.keep hHeld.2.2.2⟩))
  clear hK K
  try simp only [Act.put, List.setIfInBounds_toArray, List.set_cons_zero, List.set_cons_succ]
  refine take_in (i := 7) (v := ?_) (d := (some 3)) rfl rfl ?_ ?_ ?_ ?_ ?_ ?_ ?_ ?_
  rotate_left
  · kernel_rfl
  · kernel_rfl
  · kernel_rfl
  · (intro _ _ _ hq; exact hq)
  · rfl
  · (intro _w hSw; (try dsimp only at hSw); go_simp; try with_reducible rfl)
  · assumption
  try simp only [Act.put, List.setIfInBounds_toArray, List.set_cons_zero, List.set_cons_succ]
  refine take_in (i := 8) (v := ?_) (d := (some 4)) rfl rfl ?_ ?_ ?_ ?_ ?_ ?_ ?_ ?_
  rotate_left
  · kernel_rfl
  · kernel_rfl
  · kernel_rfl
  · (intro _ _ _ hq; exact hq)
  · rfl
  · (intro _w hSw; (try dsimp only at hSw); go_simp; try with_reducible rfl)
  · assumption
  try simp only [Act.put, List.setIfInBounds_toArray, List.set_cons_zero, List.set_cons_succ]
  refine take_in (i := 9) (v := ?_) (d := (some 5)) rfl rfl ?_ ?_ ?_ ?_ ?_ ?_ ?_ ?_
  rotate_left
  · kernel_rfl
  · kernel_rfl
  · kernel_rfl
  · (intro _ _ _ hq; exact hq)
  · rfl
  · (intro _w hSw; (try dsimp only at hSw); go_simp; try with_reducible rfl)
  · assumption
  try simp only [Act.put, List.setIfInBounds_toArray, List.set_cons_zero, List.set_cons_succ]
  refine wpAnyH_done ?_ ?_ _
  · kernel_rfl
  rotate_left
  all_goals
    replace hg := hHeld.1
    rw [HQ.out]
    clear k1 k2 k3 hdr hHeld
    go_wp2_with fail
    refine (Best_yes W H A1 q c1 qs _ HQ.out (by omega) HT1.out HT.out).mono ?_
    rintro e w2 ⟨P, m, gp, cp, gb, rfl, hM, hs, hPc, -, -, hown, hR, hb2⟩
    have HPL := Lib.hid (hM.small (by omega) (by omega) (by omega) (by omega))
    have HV := Lib.hid (worthL_of hM HT.out)
    have HRD := Lib.hid (hM.readL (by omega) (by omega) (by omega) (by omega))
    have HPP := Lib.hid (PlanPost.pts hown)
    have HRR := Lib.hid hR.rd
    have HSM := Lib.hid hs
    obtain ⟨pn, hpn⟩ : ∃ pn, P.length = pn := ⟨_, rfl⟩
    have HPN := Lib.hid hpn
    rw [hpn] at HPL ⊢
    have hnl : pn ≤ 4607 := HPL.out
    clear hM hs hPc hown hR hpn HPL
    have HTT := Lib.hid (HT1.out.keep hb2)
    replace hg := hg.trans hb2
    clear hb2
    go_wp2_with fail
    refine (rTask_any W H A1 q c1 qs _ HQ.out (by omega) HTT.out _ HT.out).mono ?_
    rintro e w3 ⟨rfl, hb3⟩
    have HT3 := Lib.hid (HTT.out.keep hb3)
    have HP3 := Lib.hid (HPP.out.keep hb3)
    have HR3 := Lib.hid (HRR.out.keep hb3)
    replace hg := hg.trans hb3
    clear hb3
    go_wp2_with fail
    refine (Read_any W H A1 _ q c1 pn cp qs P _ HQ.out HPN.out (by omega) HBS.out HZ.out HT3.out HP3.out).mono ?_
    rintro e w4 ⟨rfl, hb4⟩
    rw [HRD.out]
    dsimp only [ReadL]
    obtain ⟨sv, hsv⟩ : ∃ sv, sumV m = sv := ⟨_, rfl⟩
    have HSV := Lib.hid hsv
    rw [hsv]
    have HT4 := Lib.hid (HT3.out.keep hb4)
    have HP4 := Lib.hid (HP3.out.keep hb4)
    have HR4 := Lib.hid (HR3.out.keep hb4)
    replace hg := hg.trans hb4
    clear hb4 hsv
    go_wp2_with fail
    refine (rBound_any W H (by omega) (by omega) A1 _ q c1 (W + 1) (W + 1) qs (mstTb qs W H) _ HQ.out h16 HBS.out (mstTb_len _ _ _) (mstTb_short (by omega)) HT4.out HR4.out).mono ?_
    rintro e w5 ⟨rfl, hb5⟩
    rw [HOKB.out]
    have HT5 := Lib.hid (HT4.out.keep hb5)
    have HP5 := Lib.hid (HP4.out.keep hb5)
    have HR5 := Lib.hid (HR4.out.keep hb5)
    replace hg := hg.trans hb5
    clear hb5
    obtain ⟨gb', o5, b5, p5, c5, e5, x1, x2⟩ := HR5.out.at HFR.out (Nat.le_refl W) (Nat.le_refl H)
    obtain ⟨rfl, rfl⟩ : gb = gb' ∧ 0 = o5 := by simpa using e5
    have hsv : at2 (mstTb qs W H) W H = sv := by rw [HAT.out, ← HSM.out, HSV.out]
    rw [hsv] at x2
    rw [Nat.zero_add] at x1
    clear hsv
    go_wp2_with fail
    refine (Most_any W H (by omega) (by omega) A1 q c1 qs _ HQ.out h16 HBS.out HT5.out).mono ?_
    rintro e w6 ⟨gm, cm, rfl, hRm, hb6⟩
    obtain ⟨gm', o6, b6, p6, c6, e6, y1, y2⟩ := hRm.at HFR.out (Nat.le_refl W) (Nat.le_refl H)
    obtain ⟨rfl, rfl⟩ : gm = gm' ∧ 0 = o6 := by simpa using e6
    have hsv : at2 (mstTb qs W H) W H = sv := by rw [HAT.out, ← HSM.out, HSV.out]
    rw [hsv] at y2
    rw [Nat.zero_add] at y1
    have HT6 := Lib.hid (HT5.out.keep hb6)
    have HP6 := Lib.hid (HP5.out.keep hb6)
    have HR6 := Lib.hid (HR5.out.keep hb6)
    replace hg := hg.trans hb6
    clear hb6 hRm hsv x1 x2 e5 e6
    go_wp2_with fail
    refine (Worth_any W H A1 _ q c1 pn cp qs P _ HQ.out (by omega) HPN.out (by omega) HT6.out HP6.out).mono ?_
    rintro e w7 ⟨rfl, hb7⟩
    rw [HV.out]
    dsimp only
    rw [HSV.out]
    have HT7 := Lib.hid (HT6.out.keep hb7)
    have HR7 := Lib.hid (HR6.out.keep hb7)
    replace hg := hg.trans hb7
    clear hb7 y1 y2
    go_wp2_with fail
    refine (Check_any W H A1 _ q c1 (W + 1) (W + 1) qs (mstTb qs W H) _ HQ.out (by omega) (mstTb_len _ _ _) (by omega) (mstTb_short (by omega)) HT7.out HR7.out).mono ?_
    rintro e w8 ⟨rfl, hb8⟩
    rw [HCK.out]
    replace hg := hg.trans hb8
    clear hb8
    go_wp2_with fail
    refine (cawake_any _).mono ?_
    rintro e w9 ⟨rfl, hb9⟩
    go_wp2_with fail
    go_ret
    exact ⟨rfl, hg.trans hb9⟩

theorem lawBest_any (W H : Int) (A : Option Addr) (n c : Nat) (bs : List Bl) (w : World) (hn : bs.length = n) (hl : n ≤ 9223372036854775807) (hc : n ≤ c) (h0 : A = none → c = 0) (hp : Tris w A bs) :
    Calls Try.prog 3 #[.agg #[.int .i64 W, .int .i64 H, .slice A n c]] w fun e w' => e = .returned (.bool true) ∧ Gr w w' := by
  cases ht : taskB W H (bs.take 17)
  · exact lawBest_no W H A n c bs w hn hl hc h0 hp ht
  · obtain ⟨⟨hW1, hW2⟩, ⟨hH1, hH2⟩, -⟩ := (taskB_iff _ _ _).1 ht
    obtain ⟨W, rfl⟩ : ∃ z : Nat, W = z := ⟨W.toNat, by omega⟩
    obtain ⟨H, rfl⟩ : ∃ z : Nat, H = z := ⟨H.toNat, by omega⟩
    exact lawBest_yes W H A n c bs w hn hl hc h0 hp ht

end Go.Proofs.Ytjmgoebhcijdfab
