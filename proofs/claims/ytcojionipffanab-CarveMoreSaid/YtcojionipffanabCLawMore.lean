/- The law CarveMore as a walk. -/
import Derived.Test.YtcojionipffanabCTwo
import Derived.Test.YtcojionipffanabCOpen
namespace Go.Proofs.Ytcojionipffanab
open Go.RowKit
set_option linter.unusedSimpArgs false

theorem tameL_same {bs : List Bl} (h1 : bs.length ≤ 16) (h2 : ∀ b ∈ bs, blB b = true) : tameL bs = bs := by
  unfold tameL
  rw [List.take_of_length_le h1]
  conv => rhs; rw [← List.map_id bs]
  exact List.map_congr_left (fun b hb => by unfold fixB; rw [if_pos (h2 b hb)]; rfl)
theorem sideT_id {M x : Int} (h1 : 1 ≤ x) (h2 : x ≤ M) : sideT M x = x := by unfold sideT; rw [if_neg (by omega)]

theorem run_blanks (w : World) (x y : Int) (g c : Nat) : Sem.run Try.prog (Instr.field 24 (.agg #[.int .i64 x, .int .i64 y, .slice (some ⟨g, 0, none⟩) 1 c]) 2) w = .ok (.slice (some ⟨g, 0, none⟩) 1 c) w := by kernel_rfl
/-- The law's further blank, made valid. -/
theorem more_any (mx my mz : Int) (G : Nat) (w : World) (h : Blk w G 49 #[.int .i64 mx, .int .i64 my, .int .i64 mz]) :
    Calls Try.prog 23 #[.agg #[.int .i64 0, .int .i64 0, .slice (some ⟨G, 0, none⟩) 1 1], .int .i64 1] w fun e w' => ∃ x y g c, e = .returned (.agg #[.int .i64 x, .int .i64 y, .slice (some ⟨g, 0, none⟩) 1 c]) ∧ 1 ≤ c ∧ w.heap.size ≤ g ∧
      Hid (∀ W', Gr w' W' → ∀ j u, (enc3 (fixB (mx, my, mz)))[j]? = some u → W'.cell? ((⟨g, 0, none⟩ : Addr).add j) = some u) ∧ Gr w w' := by
  refine (tame_any 0 0 (some ⟨G, 0, none⟩) 1 1 [(mx, my, mz)] 1 w (by omega) (by omega) rfl (by omega) (Rd_lit enc3_len h rfl)).mono ?_
  rintro e w' ⟨A, c, rfl, hc, hT, h0, hO, hg⟩
  obtain ⟨g, c', e', hgc⟩ := owns_shape hO (by show 0 < 1; omega)
  cases e'
  refine ⟨_, _, g, c, rfl, hc, (hO.lt g rfl).1, Lib.hid (fun W' h j u hu => ?_), hg⟩
  have hu' : (flatE enc3 (tameL [(mx, my, mz)]))[j]? = some u := by simpa [tameL, flatE] using hu
  exact Rd_news enc3_len (by decide) (hT.keep h) j u hu'

set_option maxRecDepth 100000 in
set_option maxHeartbeats 4000000 in
theorem lawMore_any (W0 H0 : Int) (A : Option Addr) (n c : Nat) (bs : List Bl) (x0 y0 : Int) (mx my mz : Int) (w : World) (hn : bs.length = n) (hl : n ≤ 9223372036854775807) (_hc : n ≤ c) (_h0 : A = none → c = 0) (hp : Tris w A bs) :
    Calls Try.prog 6 #[.agg #[.int .i64 W0, .int .i64 H0, .slice A n c], .agg #[.int .i64 x0, .int .i64 y0], .agg #[.int .i64 mx, .int .i64 my, .int .i64 mz]] w fun e w' => e = .returned (.bool true) ∧ Gr w w' := by
  have HTM := Lib.hid (fun W' (g : Gr w W') => tame_any W0 H0 A n c bs 20 W' (by omega) (by omega) hn hl (hp.keep g))
  obtain ⟨W, H, e1, e2, hW, hH, h16, hbl⟩ := tame_task 20 (by omega) (by omega) W0 H0 bs
  rw [show ((20 : Nat) : Int) = 20 from rfl] at e1 e2
  rw [e1, e2] at HTM
  generalize tameL bs = qs at HTM h16 hbl
  obtain ⟨q, hq⟩ : ∃ q, qs.length = q := ⟨_, rfl⟩
  have HQ := Lib.hid hq
  have HSAME := Lib.hid (tameL_same h16 hbl)
  rw [hq] at h16
  have HT := Lib.hid (task_ok (W := W) (H := H) (by omega) (by omega) (by omega) hbl)
  have HBL := Lib.hid hbl
  obtain ⟨a, ha, ha4⟩ : ∃ a : Nat, modL x0 4 = (a : Int) ∧ a < 4 := by
    have := modL_le (x := x0) (n := 4) (by omega) (by omega)
    exact ⟨(modL x0 4).toNat, by omega, by omega⟩
  obtain ⟨b, hb, hb4⟩ : ∃ b : Nat, modL y0 4 = (b : Int) ∧ b < 4 := by
    have := modL_le (x := y0) (n := 4) (by omega) (by omega)
    exact ⟨(modL y0 4).toNat, by omega, by omega⟩
  have HM1 := Lib.hid (fun W' => mod_any x0 4 W' (by omega) (by omega))
  have HM2 := Lib.hid (fun W' => mod_any y0 4 W' (by omega) (by omega))
  rw [ha] at HM1
  rw [hb] at HM2
  have HTW := Lib.hid (task_ok (W := W + a) (H := H + b) (bs := qs) (by omega) (by omega) (by omega) hbl)
  clear hn hl hp hq e1 e2 ha hb hbl
  go_enter Try.func6, Try.ntmps6
  go_wp2_with fail
  generalize hW1 : World.alloc (World.alloc (World.alloc w _) _) _ = W1
  have hg : Gr w W1 := by rw [← hW1]; exact (((Gr.refl w).alloc _).alloc _).alloc _
  have k0 : W1.cell? ⟨w.heap.size, 0, none⟩ = some (.int .i64 W0) ∧ W1.cell? ⟨w.heap.size, 1, none⟩ = some (.int .i64 H0) ∧ W1.cell? ⟨w.heap.size, 2, none⟩ = some (.slice A n c) := by
    rw [← hW1]; exact ⟨alloc_old (alloc_old (alloc_new rfl rfl)), alloc_old (alloc_old (alloc_new rfl rfl)), alloc_old (alloc_old (alloc_new rfl rfl))⟩
  have HBY : Hid (Blk W1 (w.heap.size + 1) 47 #[.int .i64 x0, .int .i64 y0]) := Lib.hid (by rw [← hW1]; exact (Blk.new _ _ _ (by simp)).alloc _)
  have HMO : Hid (Blk W1 (w.heap.size + 1 + 1) 49 #[.int .i64 mx, .int .i64 my, .int .i64 mz]) := Lib.hid (by rw [← hW1]; exact Blk.new _ _ _ (by simp))
  clear hW1
  generalize hSz : w.heap.size = Z at k0 HBY HMO ⊢
  obtain ⟨k1, k2, k3⟩ := k0
  refine (HTM.out _ hg).mono ?_
  rintro e w1 ⟨A1, c1, rfl, hc1, hT1, h01, -, hg1⟩
  rw [HQ.out]
  rw [HQ.out] at hc1
  replace hg := hg.trans hg1
  replace HBY := Lib.hid (HBY.out.keep hg1)
  replace HMO := Lib.hid (HMO.out.keep hg1)
  have HT1 := Lib.hid hT1
  clear hT1 k1 k2 k3 hg1
  go_upto_region 2 with fail
  generalize hW2 : World.alloc w1 _ = w2
  have hg2 : Gr w1 w2 := by rw [← hW2]; exact (Gr.refl _).alloc _
  have HB7 : Hid (Blk w2 w1.heap.size 24 #[.int .i64 (W : Int), .int .i64 (H : Int), .slice A1 q c1]) := Lib.hid (by rw [← hW2]; exact Blk.new _ _ _ rfl)
  have HT2 := Lib.hid (HT1.out.keep hg2)
  replace hg := hg.trans hg2
  replace HBY := Lib.hid (HBY.out.keep hg2)
  replace HMO := Lib.hid (HMO.out.keep hg2)
  clear hW2 hg2 HT1 HTM
  generalize hS : w1.heap.size = S7 at HB7 ⊢
  clear hS
  have HTA := Lib.hid (fun W' (g : Gr w2 W') => tame_any ((W : Int) + a) ((H : Int) + b) A1 q c1 qs 48 W' (by omega) (by omega) HQ.out (by omega) (HT2.out.keep g))
  rw [sideT_id (show 1 ≤ (W : Int) + a by omega) (by omega), sideT_id (show 1 ≤ (H : Int) + b by omega) (by omega), HSAME.out] at HTA
  go_cut [8] from 8 to 31 (fun p8 wx => ∃ S A2 c2, p8 = .pointer (some ⟨S, 0, none⟩) ∧ Hid (Blk wx S 24 #[.int .i64 ((W : Int) + a), .int .i64 ((H : Int) + b), .slice A2 q c2]) ∧ Hid (Tris wx A2 qs) ∧ Hid (Gr w2 wx))
  case first =>
    have KS := Lib.hid (fun W' (h : Gr w2 W') => And.intro h (And.intro (And.intro ((HB7.out.keep h).cell 0) (And.intro ((HB7.out.keep h).cell 1) ((HB7.out.keep h).cell 2))) (And.intro ((HBY.out.keep h).cell 0) ((HBY.out.keep h).cell 1))))
    have i1 : IntKind.i64.wrap ((W : Int) + a) = (W : Int) + a := IntWalk.i64_in _ (by omega)
    have i2 : IntKind.i64.wrap ((H : Int) + b) = (H : Int) + b := IntWalk.i64_in _ (by omega)
    refine wp_region_held_drew (S := (fun W' => Gr w2 W' ∧ (W'.cell? ⟨S7, 0, none⟩ = some (.int .i64 (W : Int)) ∧ W'.cell? ⟨S7, 1, none⟩ = some (.int .i64 (H : Int)) ∧ W'.cell? ⟨S7, 2, none⟩ = some (.slice A1 q c1)) ∧ (W'.cell? ⟨Z + 1, 0, none⟩ = some (.int .i64 x0) ∧ W'.cell? ⟨Z + 1, 1, none⟩ = some (.int .i64 y0)))) ?_ ?_ (fun hHeld => ?_)
    · kernel_rfl
    · ((try dsimp only); (refine KS.out _ ?_; (repeat (first | exact Gr.refl _ | exact hHeld.1 | (refine Gr.drew ?_) | (refine Gr.alloc ?_ _) | (refine Gr.setCell ?_ (by simp) _) | (refine Gr.trans ?_ (by assumption))))))
    refine take_in (i := 0) (v := ?_) (d := (some 16)) rfl rfl ?_ ?_ ?_ ?_ ?_ ?_ ?_ ?_
    rotate_left
    · kernel_rfl
    · kernel_rfl
    · kernel_rfl
    · (intro _ _ _ hq; exact hq)
    · rfl
    · (intro _w hSw; (try dsimp only at hSw); go_simp; try with_reducible rfl)
    · assumption
    try simp only [Act.put, List.setIfInBounds_toArray, List.set_cons_zero, List.set_cons_succ]
    refine take_in (i := 1) (v := ?_) (d := (some 17)) rfl rfl ?_ ?_ ?_ ?_ ?_ ?_ ?_ ?_
    rotate_left
    · kernel_rfl
    · kernel_rfl
    · kernel_rfl
    · (intro _ _ _ hq; exact hq)
    · rfl
    · (intro _w hSw; (try dsimp only at hSw); go_simp; try with_reducible rfl)
    · assumption
    try simp only [Act.put, List.setIfInBounds_toArray, List.set_cons_zero, List.set_cons_succ]
    refine take_in (i := 2) (v := ?_) (d := (some 18)) rfl rfl ?_ ?_ ?_ ?_ ?_ ?_ ?_ ?_
    rotate_left
    · kernel_rfl
    · kernel_rfl
    · kernel_rfl
    · (intro _ _ _ hq; exact hq)
    · rfl
    · (intro _w hSw; (try dsimp only at hSw); go_simp; try with_reducible rfl)
    · assumption
    try simp only [Act.put, List.setIfInBounds_toArray, List.set_cons_zero, List.set_cons_succ]
    refine take_in (i := 3) (v := ?_) (d := (some 19)) rfl rfl ?_ ?_ ?_ ?_ ?_ ?_ ?_ ?_
    rotate_left
    · kernel_rfl
    · kernel_rfl
    · kernel_rfl
    · (intro _ _ _ hq; exact hq)
    · rfl
    · (intro _w hSw; (try dsimp only at hSw); go_simp; try with_reducible rfl)
    · assumption
    try simp only [Act.put, List.setIfInBounds_toArray, List.set_cons_zero, List.set_cons_succ]
    refine take_in (i := 6) (v := ?_) (d := (some 22)) rfl rfl ?_ ?_ ?_ ?_ ?_ ?_ ?_ ?_
    rotate_left
    · kernel_rfl
    · kernel_rfl
    · kernel_rfl
    · (intro _ _ _ hq; exact hq)
    · rfl
    · (intro _w hSw; (try dsimp only at hSw); go_simp; try with_reducible rfl)
    · assumption
    try simp only [Act.put, List.setIfInBounds_toArray, List.set_cons_zero, List.set_cons_succ]
    refine take_in (i := 7) (v := ?_) (d := (some 23)) rfl rfl ?_ ?_ ?_ ?_ ?_ ?_ ?_ ?_
    rotate_left
    · kernel_rfl
    · kernel_rfl
    · kernel_rfl
    · (intro _ _ _ hq; exact hq)
    · rfl
    · (intro _w hSw; (try dsimp only at hSw); go_simp; try with_reducible rfl)
    · assumption
    try simp only [Act.put, List.setIfInBounds_toArray, List.set_cons_zero, List.set_cons_succ]
    refine take_in (i := 8) (v := ?_) (d := (some 24)) rfl rfl ?_ ?_ ?_ ?_ ?_ ?_ ?_ ?_
    rotate_left
    · kernel_rfl
    · kernel_rfl
    · kernel_rfl
    · (intro _ _ _ hq; exact hq)
    · rfl
    · (intro _w hSw; (try dsimp only at hSw); go_simp; try with_reducible rfl)
    · assumption
    try simp only [Act.put, List.setIfInBounds_toArray, List.set_cons_zero, List.set_cons_succ]
    refine take_in (i := 9) (v := ?_) (d := (some 25)) rfl rfl ?_ ?_ ?_ ?_ ?_ ?_ ?_ ?_
    rotate_left
    · kernel_rfl
    · kernel_rfl
    · kernel_rfl
    · (intro _ _ _ hq; exact hq)
    · rfl
    · (intro _w hSw; (try dsimp only at hSw); go_simp; try with_reducible rfl)
    · assumption
    try simp only [Act.put, List.setIfInBounds_toArray, List.set_cons_zero, List.set_cons_succ]
    refine take_in (i := 12) (v := ?_) (d := (some 28)) rfl rfl ?_ ?_ ?_ ?_ ?_ ?_ ?_ ?_
    rotate_left
    · kernel_rfl
    · kernel_rfl
    · kernel_rfl
    · (intro _ _ _ hq; exact hq)
    · rfl
    · (intro _w hSw; (try dsimp only at hSw); go_simp; try with_reducible rfl)
    · assumption
    try simp only [Act.put, List.setIfInBounds_toArray, List.set_cons_zero, List.set_cons_succ]
    refine take_in (i := 13) (v := ?_) (d := (some 29)) rfl rfl ?_ ?_ ?_ ?_ ?_ ?_ ?_ ?_
    rotate_left
    · kernel_rfl
    · kernel_rfl
    · kernel_rfl
    · (intro _ _ _ hq; exact hq)
    · rfl
    · (intro _w hSw; (try dsimp only at hSw); go_simp; try with_reducible rfl)
    · assumption
    try simp only [Act.put, List.setIfInBounds_toArray, List.set_cons_zero, List.set_cons_succ]
    refine wpAnyH_ready (rs := [4, 16]) ?_ ?_ ?_
    · kernel_rfl
    · simp
    refine (AllReadyH.cons rfl (fun K hK => ?_) (AllReadyH.cons rfl (fun K hK => ?_) AllReadyH.nil))
    go_simp
    first | (go_at_call 25; ((with_reducible refine (HM1.out _).mono ?_); rintro e w8 ⟨rfl, rfl⟩)) | (go_at_call 25; ((with_reducible refine (HM2.out _).mono ?_); rintro e w8 ⟨rfl, rfl⟩)) | (go_at_call 23; refine (HTA.out _ hHeld.1).mono ?_; rintro e w8 ⟨A2, c2, rfl, hc2, hT2, h02, hO2, hg8⟩; rw [HQ.out] at hO2 ⊢; first | (have hz := (Blk.new w2 #[.int .i64 0, .int .i64 0, .slice none 0 0] 24 rfl).keep ((Gr.refl _).drew.trans hg8); have z0 := hz.cell 0; have z1 := hz.cell 1; have z2 := hz.cell 2; have f0 := hz.free 0; have f1 := hz.free 1; have f2 := hz.free 2; have HZ := Lib.hid hz; clear hz) | skip)
    refine hK.out _ _ ?_ (fun hHeld => ?_)
    · ((try dsimp only); (refine KS.out _ ?_; (repeat (first | exact Gr.refl _ | exact hHeld.1 | (refine Gr.drew ?_) | (refine Gr.alloc ?_ _) | (refine Gr.setCell ?_ (by simp) _) | (refine Gr.trans ?_ (by assumption))))))
    clear hK K
    try simp only [Act.put, List.setIfInBounds_toArray, List.set_cons_zero, List.set_cons_succ]
    refine take_in (i := 5) (v := ?_) (d := (some 21)) rfl rfl ?_ ?_ ?_ ?_ ?_ ?_ ?_ ?_
    rotate_left
    · kernel_rfl
    · kernel_rfl
    · kernel_rfl
    · (intro _ _ _ hq; exact hq)
    · rfl
    · (intro _w hSw; (try dsimp only at hSw); go_simp; try with_reducible rfl)
    · assumption
    try simp only [Act.put, List.setIfInBounds_toArray, List.set_cons_zero, List.set_cons_succ]
    refine wpAnyH_ready (rs := [10, 16]) ?_ ?_ ?_
    · kernel_rfl
    · simp
    refine (AllReadyH.cons rfl (fun K hK => ?_) (AllReadyH.cons rfl (fun K hK => ?_) AllReadyH.nil))
    go_simp
    first | (go_at_call 25; ((with_reducible refine (HM1.out _).mono ?_); rintro e w8 ⟨rfl, rfl⟩)) | (go_at_call 25; ((with_reducible refine (HM2.out _).mono ?_); rintro e w8 ⟨rfl, rfl⟩)) | (go_at_call 23; refine (HTA.out _ hHeld.1).mono ?_; rintro e w8 ⟨A2, c2, rfl, hc2, hT2, h02, hO2, hg8⟩; rw [HQ.out] at hO2 ⊢; first | (have hz := (Blk.new w2 #[.int .i64 0, .int .i64 0, .slice none 0 0] 24 rfl).keep ((Gr.refl _).drew.trans hg8); have z0 := hz.cell 0; have z1 := hz.cell 1; have z2 := hz.cell 2; have f0 := hz.free 0; have f1 := hz.free 1; have f2 := hz.free 2; have HZ := Lib.hid hz; clear hz) | skip)
    refine hK.out _ _ ?_ (fun hHeld => ?_)
    · ((try dsimp only); (refine KS.out _ ?_; (repeat (first | exact Gr.refl _ | exact hHeld.1 | (refine Gr.drew ?_) | (refine Gr.alloc ?_ _) | (refine Gr.setCell ?_ (by simp) _) | (refine Gr.trans ?_ (by assumption))))))
    clear hK K
    try simp only [Act.put, List.setIfInBounds_toArray, List.set_cons_zero, List.set_cons_succ]
    refine take_in (i := 11) (v := ?_) (d := (some 27)) rfl rfl ?_ ?_ ?_ ?_ ?_ ?_ ?_ ?_
    rotate_left
    · kernel_rfl
    · kernel_rfl
    · kernel_rfl
    · (intro _ _ _ hq; exact hq)
    · rfl
    · (intro _w hSw; (try dsimp only at hSw); go_simp; try with_reducible rfl)
    · assumption
    try simp only [Act.put, List.setIfInBounds_toArray, List.set_cons_zero, List.set_cons_succ]
    refine take_in (i := 14) (v := ?_) (d := (some 30)) rfl rfl ?_ ?_ ?_ ?_ ?_ ?_ ?_ ?_
    rotate_left
    · kernel_rfl
    · kernel_rfl
    · kernel_rfl
    · (intro _ _ _ hq; exact hq)
    · rfl
    · (intro _w hSw; (try dsimp only at hSw); go_simp; try with_reducible rfl)
    · assumption
    try simp only [Act.put, List.setIfInBounds_toArray, List.set_cons_zero, List.set_cons_succ]
    refine wpAnyH_ready (rs := [15, 16]) ?_ ?_ ?_
    · kernel_rfl
    · simp
    refine (AllReadyH.cons rfl (fun K hK => ?_) (AllReadyH.cons rfl (fun K hK => ?_) AllReadyH.nil))
    go_simp
    first | (go_at_call 25; ((with_reducible refine (HM1.out _).mono ?_); rintro e w8 ⟨rfl, rfl⟩)) | (go_at_call 25; ((with_reducible refine (HM2.out _).mono ?_); rintro e w8 ⟨rfl, rfl⟩)) | (go_at_call 23; refine (HTA.out _ hHeld.1).mono ?_; rintro e w8 ⟨A2, c2, rfl, hc2, hT2, h02, hO2, hg8⟩; rw [HQ.out] at hO2 ⊢; first | (have hz := (Blk.new w2 #[.int .i64 0, .int .i64 0, .slice none 0 0] 24 rfl).keep ((Gr.refl _).drew.trans hg8); have z0 := hz.cell 0; have z1 := hz.cell 1; have z2 := hz.cell 2; have f0 := hz.free 0; have f1 := hz.free 1; have f2 := hz.free 2; have HZ := Lib.hid hz; clear hz) | skip)
    refine hK.out _ _ ?_ (fun hHeld => ?_)
    · ((try dsimp only); (refine KS.out _ ?_; (repeat (first | exact Gr.refl _ | exact hHeld.1 | (refine Gr.drew ?_) | (refine Gr.alloc ?_ _) | (refine Gr.setCell ?_ (by simp) _) | (refine Gr.trans ?_ (by assumption))))))
    clear hK K
    try simp only [Act.put, List.setIfInBounds_toArray, List.set_cons_zero, List.set_cons_succ]
    refine wpAnyH_ready (rs := [16]) ?_ ?_ ?_
    · kernel_rfl
    · simp
    refine (AllReadyH.cons rfl (fun K hK => ?_) AllReadyH.nil)
    go_simp
    refine hK.out _ _ ?_ (fun hHeld => ?_)
    · ((try dsimp only); (refine KS.out _ ?_; (repeat (first | exact Gr.refl _ | exact hHeld.1 | (refine Gr.drew ?_) | (refine Gr.alloc ?_ _) | (refine Gr.setCell ?_ (by simp) _) | (refine Gr.trans ?_ (by assumption))))))
    clear hK K
    try simp only [Act.put, List.setIfInBounds_toArray, List.set_cons_zero, List.set_cons_succ]
    refine wpAnyH_ready (rs := [17]) ?_ ?_ ?_
    · kernel_rfl
    · simp
    refine (AllReadyH.cons rfl (fun K hK => ?_) AllReadyH.nil)
    go_simp
    refine hK.out _ _ ?_ (fun hHeld => ?_)
    · ((try dsimp only); (refine KS.out _ ?_; (repeat (first | exact Gr.refl _ | exact hHeld.1 | (refine Gr.drew ?_) | (refine Gr.alloc ?_ _) | (refine Gr.setCell ?_ (by simp) _) | (refine Gr.trans ?_ (by assumption))))))
    clear hK K
    try simp only [Act.put, List.setIfInBounds_toArray, List.set_cons_zero, List.set_cons_succ]
    refine wpAnyH_done ?_ ?_ _
    · kernel_rfl
    rotate_left
    go_simp
    refine hK.out _ _ ?_ (fun hHeld => ?_)
    · ((try dsimp only); (refine KS.out _ ?_; (repeat (first | exact Gr.refl _ | exact hHeld.1 | (refine Gr.drew ?_) | (refine Gr.alloc ?_ _) | (refine Gr.setCell ?_ (by simp) _) | (refine Gr.trans ?_ (by assumption))))))
    clear hK K
    try simp only [Act.put, List.setIfInBounds_toArray, List.set_cons_zero, List.set_cons_succ]
    refine wpAnyH_ready (rs := [15]) ?_ ?_ ?_
    · kernel_rfl
    · simp
    refine (AllReadyH.cons rfl (fun K hK => ?_) AllReadyH.nil)
    go_simp
    first | (go_at_call 25; ((with_reducible refine (HM1.out _).mono ?_); rintro e w8 ⟨rfl, rfl⟩)) | (go_at_call 25; ((with_reducible refine (HM2.out _).mono ?_); rintro e w8 ⟨rfl, rfl⟩)) | (go_at_call 23; refine (HTA.out _ hHeld.1).mono ?_; rintro e w8 ⟨A2, c2, rfl, hc2, hT2, h02, hO2, hg8⟩; rw [HQ.out] at hO2 ⊢; first | (have hz := (Blk.new w2 #[.int .i64 0, .int .i64 0, .slice none 0 0] 24 rfl).keep ((Gr.refl _).drew.trans hg8); have z0 := hz.cell 0; have z1 := hz.cell 1; have z2 := hz.cell 2; have f0 := hz.free 0; have f1 := hz.free 1; have f2 := hz.free 2; have HZ := Lib.hid hz; clear hz) | skip)
    refine hK.out _ _ ?_ (fun hHeld => ?_)
    · ((try dsimp only); (refine KS.out _ ?_; (repeat (first | exact Gr.refl _ | exact hHeld.1 | (refine Gr.drew ?_) | (refine Gr.alloc ?_ _) | (refine Gr.setCell ?_ (by simp) _) | (refine Gr.trans ?_ (by assumption))))))
    clear hK K
    try simp only [Act.put, List.setIfInBounds_toArray, List.set_cons_zero, List.set_cons_succ]
    refine wpAnyH_ready (rs := [17]) ?_ ?_ ?_
    · kernel_rfl
    · simp
    refine (AllReadyH.cons rfl (fun K hK => ?_) AllReadyH.nil)
    go_simp
    refine hK.out _ _ ?_ (fun hHeld => ?_)
    · ((try dsimp only); (refine KS.out _ ?_; (repeat (first | exact Gr.refl _ | exact hHeld.1 | (refine Gr.drew ?_) | (refine Gr.alloc ?_ _) | (refine Gr.setCell ?_ (by simp) _) | (refine Gr.trans ?_ (by assumption))))))
    clear hK K
    try simp only [Act.put, List.setIfInBounds_toArray, List.set_cons_zero, List.set_cons_succ]
    refine wpAnyH_done ?_ ?_ _
    · kernel_rfl
    rotate_left
    go_simp
    refine hK.out _ _ ?_ (fun hHeld => ?_)
    · ((try dsimp only); (refine KS.out _ ?_; (repeat (first | exact Gr.refl _ | exact hHeld.1 | (refine Gr.drew ?_) | (refine Gr.alloc ?_ _) | (refine Gr.setCell ?_ (by simp) _) | (refine Gr.trans ?_ (by assumption))))))
    clear hK K
    try simp only [Act.put, List.setIfInBounds_toArray, List.set_cons_zero, List.set_cons_succ]
    refine wpAnyH_ready (rs := [10]) ?_ ?_ ?_
    · kernel_rfl
    · simp
    refine (AllReadyH.cons rfl (fun K hK => ?_) AllReadyH.nil)
    go_simp
    first | (go_at_call 25; ((with_reducible refine (HM1.out _).mono ?_); rintro e w8 ⟨rfl, rfl⟩)) | (go_at_call 25; ((with_reducible refine (HM2.out _).mono ?_); rintro e w8 ⟨rfl, rfl⟩)) | (go_at_call 23; refine (HTA.out _ hHeld.1).mono ?_; rintro e w8 ⟨A2, c2, rfl, hc2, hT2, h02, hO2, hg8⟩; rw [HQ.out] at hO2 ⊢; first | (have hz := (Blk.new w2 #[.int .i64 0, .int .i64 0, .slice none 0 0] 24 rfl).keep ((Gr.refl _).drew.trans hg8); have z0 := hz.cell 0; have z1 := hz.cell 1; have z2 := hz.cell 2; have f0 := hz.free 0; have f1 := hz.free 1; have f2 := hz.free 2; have HZ := Lib.hid hz; clear hz) | skip)
    refine hK.out _ _ ?_ (fun hHeld => ?_)
    · ((try dsimp only); (refine KS.out _ ?_; (repeat (first | exact Gr.refl _ | exact hHeld.1 | (refine Gr.drew ?_) | (refine Gr.alloc ?_ _) | (refine Gr.setCell ?_ (by simp) _) | (refine Gr.trans ?_ (by assumption))))))
    clear hK K
    try simp only [Act.put, List.setIfInBounds_toArray, List.set_cons_zero, List.set_cons_succ]
    refine take_in (i := 11) (v := ?_) (d := (some 27)) rfl rfl ?_ ?_ ?_ ?_ ?_ ?_ ?_ ?_
    rotate_left
    · kernel_rfl
    · kernel_rfl
    · kernel_rfl
    · (intro _ _ _ hq; exact hq)
    · rfl
    · (intro _w hSw; (try dsimp only at hSw); go_simp; try with_reducible rfl)
    · assumption
    try simp only [Act.put, List.setIfInBounds_toArray, List.set_cons_zero, List.set_cons_succ]
    refine take_in (i := 14) (v := ?_) (d := (some 30)) rfl rfl ?_ ?_ ?_ ?_ ?_ ?_ ?_ ?_
    rotate_left
    · kernel_rfl
    · kernel_rfl
    · kernel_rfl
    · (intro _ _ _ hq; exact hq)
    · rfl
    · (intro _w hSw; (try dsimp only at hSw); go_simp; try with_reducible rfl)
    · assumption
    try simp only [Act.put, List.setIfInBounds_toArray, List.set_cons_zero, List.set_cons_succ]
    refine wpAnyH_ready (rs := [15]) ?_ ?_ ?_
    · kernel_rfl
    · simp
    refine (AllReadyH.cons rfl (fun K hK => ?_) AllReadyH.nil)
    go_simp
    first | (go_at_call 25; ((with_reducible refine (HM1.out _).mono ?_); rintro e w8 ⟨rfl, rfl⟩)) | (go_at_call 25; ((with_reducible refine (HM2.out _).mono ?_); rintro e w8 ⟨rfl, rfl⟩)) | (go_at_call 23; refine (HTA.out _ hHeld.1).mono ?_; rintro e w8 ⟨A2, c2, rfl, hc2, hT2, h02, hO2, hg8⟩; rw [HQ.out] at hO2 ⊢; first | (have hz := (Blk.new w2 #[.int .i64 0, .int .i64 0, .slice none 0 0] 24 rfl).keep ((Gr.refl _).drew.trans hg8); have z0 := hz.cell 0; have z1 := hz.cell 1; have z2 := hz.cell 2; have f0 := hz.free 0; have f1 := hz.free 1; have f2 := hz.free 2; have HZ := Lib.hid hz; clear hz) | skip)
    refine hK.out _ _ ?_ (fun hHeld => ?_)
    · ((try dsimp only); (refine KS.out _ ?_; (repeat (first | exact Gr.refl _ | exact hHeld.1 | (refine Gr.drew ?_) | (refine Gr.alloc ?_ _) | (refine Gr.setCell ?_ (by simp) _) | (refine Gr.trans ?_ (by assumption))))))
    clear hK K
    try simp only [Act.put, List.setIfInBounds_toArray, List.set_cons_zero, List.set_cons_succ]
    refine wpAnyH_ready (rs := [17]) ?_ ?_ ?_
    · kernel_rfl
    · simp
    refine (AllReadyH.cons rfl (fun K hK => ?_) AllReadyH.nil)
    go_simp
    refine hK.out _ _ ?_ (fun hHeld => ?_)
    · ((try dsimp only); (refine KS.out _ ?_; (repeat (first | exact Gr.refl _ | exact hHeld.1 | (refine Gr.drew ?_) | (refine Gr.alloc ?_ _) | (refine Gr.setCell ?_ (by simp) _) | (refine Gr.trans ?_ (by assumption))))))
    clear hK K
    try simp only [Act.put, List.setIfInBounds_toArray, List.set_cons_zero, List.set_cons_succ]
    refine wpAnyH_done ?_ ?_ _
    · kernel_rfl
    rotate_left
    go_simp
    refine hK.out _ _ ?_ (fun hHeld => ?_)
    · ((try dsimp only); (refine KS.out _ ?_; (repeat (first | exact Gr.refl _ | exact hHeld.1 | (refine Gr.drew ?_) | (refine Gr.alloc ?_ _) | (refine Gr.setCell ?_ (by simp) _) | (refine Gr.trans ?_ (by assumption))))))
    clear hK K
    try simp only [Act.put, List.setIfInBounds_toArray, List.set_cons_zero, List.set_cons_succ]
    refine wpAnyH_ready (rs := [4]) ?_ ?_ ?_
    · kernel_rfl
    · simp
    refine (AllReadyH.cons rfl (fun K hK => ?_) AllReadyH.nil)
    go_simp
    first | (go_at_call 25; ((with_reducible refine (HM1.out _).mono ?_); rintro e w8 ⟨rfl, rfl⟩)) | (go_at_call 25; ((with_reducible refine (HM2.out _).mono ?_); rintro e w8 ⟨rfl, rfl⟩)) | (go_at_call 23; refine (HTA.out _ hHeld.1).mono ?_; rintro e w8 ⟨A2, c2, rfl, hc2, hT2, h02, hO2, hg8⟩; rw [HQ.out] at hO2 ⊢; first | (have hz := (Blk.new w2 #[.int .i64 0, .int .i64 0, .slice none 0 0] 24 rfl).keep ((Gr.refl _).drew.trans hg8); have z0 := hz.cell 0; have z1 := hz.cell 1; have z2 := hz.cell 2; have f0 := hz.free 0; have f1 := hz.free 1; have f2 := hz.free 2; have HZ := Lib.hid hz; clear hz) | skip)
    refine hK.out _ _ ?_ (fun hHeld => ?_)
    · ((try dsimp only); (refine KS.out _ ?_; (repeat (first | exact Gr.refl _ | exact hHeld.1 | (refine Gr.drew ?_) | (refine Gr.alloc ?_ _) | (refine Gr.setCell ?_ (by simp) _) | (refine Gr.trans ?_ (by assumption))))))
    clear hK K
    try simp only [Act.put, List.setIfInBounds_toArray, List.set_cons_zero, List.set_cons_succ]
    refine take_in (i := 5) (v := ?_) (d := (some 21)) rfl rfl ?_ ?_ ?_ ?_ ?_ ?_ ?_ ?_
    rotate_left
    · kernel_rfl
    · kernel_rfl
    · kernel_rfl
    · (intro _ _ _ hq; exact hq)
    · rfl
    · (intro _w hSw; (try dsimp only at hSw); go_simp; try with_reducible rfl)
    · assumption
    try simp only [Act.put, List.setIfInBounds_toArray, List.set_cons_zero, List.set_cons_succ]
    refine wpAnyH_ready (rs := [10]) ?_ ?_ ?_
    · kernel_rfl
    · simp
    refine (AllReadyH.cons rfl (fun K hK => ?_) AllReadyH.nil)
    go_simp
    first | (go_at_call 25; ((with_reducible refine (HM1.out _).mono ?_); rintro e w8 ⟨rfl, rfl⟩)) | (go_at_call 25; ((with_reducible refine (HM2.out _).mono ?_); rintro e w8 ⟨rfl, rfl⟩)) | (go_at_call 23; refine (HTA.out _ hHeld.1).mono ?_; rintro e w8 ⟨A2, c2, rfl, hc2, hT2, h02, hO2, hg8⟩; rw [HQ.out] at hO2 ⊢; first | (have hz := (Blk.new w2 #[.int .i64 0, .int .i64 0, .slice none 0 0] 24 rfl).keep ((Gr.refl _).drew.trans hg8); have z0 := hz.cell 0; have z1 := hz.cell 1; have z2 := hz.cell 2; have f0 := hz.free 0; have f1 := hz.free 1; have f2 := hz.free 2; have HZ := Lib.hid hz; clear hz) | skip)
    refine hK.out _ _ ?_ (fun hHeld => ?_)
    · ((try dsimp only); (refine KS.out _ ?_; (repeat (first | exact Gr.refl _ | exact hHeld.1 | (refine Gr.drew ?_) | (refine Gr.alloc ?_ _) | (refine Gr.setCell ?_ (by simp) _) | (refine Gr.trans ?_ (by assumption))))))
    clear hK K
    try simp only [Act.put, List.setIfInBounds_toArray, List.set_cons_zero, List.set_cons_succ]
    refine take_in (i := 11) (v := ?_) (d := (some 27)) rfl rfl ?_ ?_ ?_ ?_ ?_ ?_ ?_ ?_
    rotate_left
    · kernel_rfl
    · kernel_rfl
    · kernel_rfl
    · (intro _ _ _ hq; exact hq)
    · rfl
    · (intro _w hSw; (try dsimp only at hSw); go_simp; try with_reducible rfl)
    · assumption
    try simp only [Act.put, List.setIfInBounds_toArray, List.set_cons_zero, List.set_cons_succ]
    refine take_in (i := 14) (v := ?_) (d := (some 30)) rfl rfl ?_ ?_ ?_ ?_ ?_ ?_ ?_ ?_
    rotate_left
    · kernel_rfl
    · kernel_rfl
    · kernel_rfl
    · (intro _ _ _ hq; exact hq)
    · rfl
    · (intro _w hSw; (try dsimp only at hSw); go_simp; try with_reducible rfl)
    · assumption
    try simp only [Act.put, List.setIfInBounds_toArray, List.set_cons_zero, List.set_cons_succ]
    refine wpAnyH_ready (rs := [15]) ?_ ?_ ?_
    · kernel_rfl
    · simp
    refine (AllReadyH.cons rfl (fun K hK => ?_) AllReadyH.nil)
    go_simp
    first | (go_at_call 25; ((with_reducible refine (HM1.out _).mono ?_); rintro e w8 ⟨rfl, rfl⟩)) | (go_at_call 25; ((with_reducible refine (HM2.out _).mono ?_); rintro e w8 ⟨rfl, rfl⟩)) | (go_at_call 23; refine (HTA.out _ hHeld.1).mono ?_; rintro e w8 ⟨A2, c2, rfl, hc2, hT2, h02, hO2, hg8⟩; rw [HQ.out] at hO2 ⊢; first | (have hz := (Blk.new w2 #[.int .i64 0, .int .i64 0, .slice none 0 0] 24 rfl).keep ((Gr.refl _).drew.trans hg8); have z0 := hz.cell 0; have z1 := hz.cell 1; have z2 := hz.cell 2; have f0 := hz.free 0; have f1 := hz.free 1; have f2 := hz.free 2; have HZ := Lib.hid hz; clear hz) | skip)
    refine hK.out _ _ ?_ (fun hHeld => ?_)
    · ((try dsimp only); (refine KS.out _ ?_; (repeat (first | exact Gr.refl _ | exact hHeld.1 | (refine Gr.drew ?_) | (refine Gr.alloc ?_ _) | (refine Gr.setCell ?_ (by simp) _) | (refine Gr.trans ?_ (by assumption))))))
    clear hK K
    try simp only [Act.put, List.setIfInBounds_toArray, List.set_cons_zero, List.set_cons_succ]
    refine wpAnyH_ready (rs := [17]) ?_ ?_ ?_
    · kernel_rfl
    · simp
    refine (AllReadyH.cons rfl (fun K hK => ?_) AllReadyH.nil)
    go_simp
    refine hK.out _ _ ?_ (fun hHeld => ?_)
    · ((try dsimp only); (refine KS.out _ ?_; (repeat (first | exact Gr.refl _ | exact hHeld.1 | (refine Gr.drew ?_) | (refine Gr.alloc ?_ _) | (refine Gr.setCell ?_ (by simp) _) | (refine Gr.trans ?_ (by assumption))))))
    clear hK K
    try simp only [Act.put, List.setIfInBounds_toArray, List.set_cons_zero, List.set_cons_succ]
    refine wpAnyH_done ?_ ?_ _
    · kernel_rfl
    rotate_left
    all_goals
      go_wp2_with fail
      go_meet
      first
        | exact ⟨_, A2, c2, rfl, Lib.hid (Blk.new _ _ _ rfl), Lib.hid (hT2.keep ((Gr.refl _).alloc _)), Lib.hid hHeld.1⟩
        | (refine ⟨_, A2, c2, rfl, Lib.hid (by simpa using ((HZ.out.put 0 (.int .i64 ((W : Int) + a))).put 1 (.int .i64 ((H : Int) + b))).put 2 (.slice A2 q c2)), Lib.hid ?_, Lib.hid hHeld.1⟩
           have hne : (Value.slice A2 q c2).ownBlock ≠ some w2.heap.size := fun e => by have h := (hO2.lt _ e).1; simp at h <;> omega
           obtain ⟨A9, c9, e9, -, hrd, -⟩ := own_row enc3_len HQ.out (ownsRow_setCell_other (a := ⟨w2.heap.size, 2, none⟩) (ownsRow_setCell_other (a := ⟨w2.heap.size, 1, none⟩) (ownsRow_setCell_other (a := ⟨w2.heap.size, 0, none⟩) hO2 hne (.int .i64 ((W : Int) + a))) hne (.int .i64 ((H : Int) + b))) hne (.slice A2 q c2))
           cases e9
           exact hrd)
  case rest =>
    obtain ⟨S8, A2, c2, rfl, HB8, HT8, HG8⟩ := hcut
    replace hg := hg.trans HG8.out
    replace HB7 := Lib.hid (HB7.out.keep HG8.out)
    replace HMO := Lib.hid (HMO.out.keep HG8.out)
    have HT3 := Lib.hid (HT2.out.keep HG8.out)
    clear HT2 HG8 HTA HBY
    go_upto_region 3 with fail
    have KS := Lib.hid (fun W' (h : Gr wc W') => And.intro h (And.intro (And.intro ((HB7.out.keep h).cell 0) (And.intro ((HB7.out.keep h).cell 1) ((HB7.out.keep h).cell 2))) (And.intro ((HB8.out.keep h).cell 0) (And.intro ((HB8.out.keep h).cell 1) ((HB8.out.keep h).cell 2)))))
    have HC1 := Lib.hid (fun W' (h : Gr wc W') => best_any W H A1 q c1 qs W' HQ.out (by omega) (HT3.out.keep h) HT.out)
    have hc2 := fun W' (h : Gr wc W') => best_any (W + a) (H + b) A2 q c2 qs W' HQ.out (by omega) (HT8.out.keep h) HTW.out
    simp only [Int.natCast_add] at hc2
    have HC2 := Lib.hid hc2
    have a1 := mst_nonneg qs W H
    have a5 := mst_mono qs (show W ≤ W + a by omega) (show H ≤ H + b by omega)
    have HUN := Lib.hid (fun (x : Bl) (h : fitsB x W H = false) => mst_unfit (bs := qs) h)
    have HMR := Lib.hid (fun (x : Bl) => mst_more (bs := qs) (bs' := qs ++ [x]) (fun c hc => List.mem_append_left _ hc) W H)
    clear hc2
    generalize mst qs W H = v1 at a1 a5 HC1 HUN HMR ⊢
    generalize mst qs (W + a) (H + b) = v2 at a5 HC2 ⊢
    go_cut [9, 10] from 9 to 35 (fun p7 p8 wx => p7 = .int .i64 v1 ∧ p8 = .int .i64 v2 ∧ Hid (Gr wc wx))
    case first =>
      refine wp_region_held_drew (S := (fun W' => Gr wc W' ∧ (W'.cell? ⟨S7, 0, none⟩ = some (.int .i64 (W : Int)) ∧ W'.cell? ⟨S7, 1, none⟩ = some (.int .i64 (H : Int)) ∧ W'.cell? ⟨S7, 2, none⟩ = some (.slice A1 q c1)) ∧ (W'.cell? ⟨S8, 0, none⟩ = some (.int .i64 ((W : Int) + a)) ∧ W'.cell? ⟨S8, 1, none⟩ = some (.int .i64 ((H : Int) + b)) ∧ W'.cell? ⟨S8, 2, none⟩ = some (.slice A2 q c2)))) ?_ ?_ (fun hHeld => ?_)
      · kernel_rfl
      · ((try dsimp only); (first | exact KS.out _ (Gr.refl _).drew | exact KS.out _ (hHeld.1.trans HG1.out)))
      refine take_in (i := 0) (v := ?_) (d := (some 32)) rfl rfl ?_ ?_ ?_ ?_ ?_ ?_ ?_ ?_
      rotate_left
      · kernel_rfl
      · kernel_rfl
      · kernel_rfl
      · (intro _ _ _ hq; exact hq)
      · rfl
      · (intro _w hSw; (try dsimp only at hSw); go_simp; try with_reducible rfl)
      · assumption
      try simp only [Act.put, List.setIfInBounds_toArray, List.set_cons_zero, List.set_cons_succ]
      refine take_in (i := 2) (v := ?_) (d := (some 34)) rfl rfl ?_ ?_ ?_ ?_ ?_ ?_ ?_ ?_
      rotate_left
      · kernel_rfl
      · kernel_rfl
      · kernel_rfl
      · (intro _ _ _ hq; exact hq)
      · rfl
      · (intro _w hSw; (try dsimp only at hSw); go_simp; try with_reducible rfl)
      · assumption
      try simp only [Act.put, List.setIfInBounds_toArray, List.set_cons_zero, List.set_cons_succ]
      refine wpAnyH_ready (rs := [1]) ?_ ?_ ?_
      · kernel_rfl
      · simp
      refine (AllReadyH.cons rfl (fun K hK => ?_) AllReadyH.nil)
      go_simp
      first | (go_at_call 26; ((with_reducible refine (HC1.out _ hHeld.1).mono ?_); rintro e w8 ⟨rfl, hgf⟩; have HG1 := Lib.hid hgf; clear hgf)) | (go_at_call 26; ((with_reducible refine (HC2.out _ hHeld.1).mono ?_); rintro e w8 ⟨rfl, hgf⟩; have HG1 := Lib.hid hgf; clear hgf))
      refine hK.out _ _ ?_ (fun hHeld => ?_)
      · ((try dsimp only); (first | exact KS.out _ (Gr.refl _).drew | exact KS.out _ (hHeld.1.trans HG1.out)))
      clear hK K
      try simp only [Act.put, List.setIfInBounds_toArray, List.set_cons_zero, List.set_cons_succ]
      refine wpAnyH_ready (rs := [3]) ?_ ?_ ?_
      · kernel_rfl
      · simp
      refine (AllReadyH.cons rfl (fun K hK => ?_) AllReadyH.nil)
      go_simp
      first | (go_at_call 26; ((with_reducible refine (HC1.out _ hHeld.1).mono ?_); rintro e w8 ⟨rfl, hgf⟩; have HG1 := Lib.hid hgf; clear hgf)) | (go_at_call 26; ((with_reducible refine (HC2.out _ hHeld.1).mono ?_); rintro e w8 ⟨rfl, hgf⟩; have HG1 := Lib.hid hgf; clear hgf))
      refine hK.out _ _ ?_ (fun hHeld => ?_)
      · ((try dsimp only); (first | exact KS.out _ (Gr.refl _).drew | exact KS.out _ (hHeld.1.trans HG1.out)))
      clear hK K
      try simp only [Act.put, List.setIfInBounds_toArray, List.set_cons_zero, List.set_cons_succ]
      refine take_in (i := 4) (v := ?_) (d := (some 9)) rfl rfl ?_ ?_ ?_ ?_ ?_ ?_ ?_ ?_
      rotate_left
      · kernel_rfl
      · kernel_rfl
      · kernel_rfl
      · (intro _ _ _ hq; exact hq)
      · rfl
      · (intro _w hSw; (try dsimp only at hSw); go_simp; try with_reducible rfl)
      · assumption
      try simp only [Act.put, List.setIfInBounds_toArray, List.set_cons_zero, List.set_cons_succ]
      refine take_in (i := 5) (v := ?_) (d := (some 10)) rfl rfl ?_ ?_ ?_ ?_ ?_ ?_ ?_ ?_
      rotate_left
      · kernel_rfl
      · kernel_rfl
      · kernel_rfl
      · (intro _ _ _ hq; exact hq)
      · rfl
      · (intro _w hSw; (try dsimp only at hSw); go_simp; try with_reducible rfl)
      · assumption
      try simp only [Act.put, List.setIfInBounds_toArray, List.set_cons_zero, List.set_cons_succ]
      refine wpAnyH_done ?_ ?_ _
      · kernel_rfl
      rotate_left
      all_goals
        go_wp2_with fail
        go_meet
        exact ⟨rfl, rfl, Lib.hid hHeld.1⟩
    case rest =>
      obtain ⟨rfl, rfl, HG8⟩ := hcut
      replace hg := hg.trans HG8.out
      replace HB7 := Lib.hid (HB7.out.keep HG8.out)
      replace HMO := Lib.hid (HMO.out.keep HG8.out)
      have HT4 := Lib.hid (HT3.out.keep HG8.out)
      clear HG8 HT3 HC1 HC2 KS HB8 HT8
      have d1 : decide (v1 < 0) = false := decide_eq_false (by omega)
      have d2 : decide (v2 < v1) = false := decide_eq_false (by omega)
      have o0 := HB7.out.cell 0
      have o1 := HB7.out.cell 1
      have o2 := HB7.out.cell 2
      go_upto_region 7 with fail
      have HB7o := HB7
      have HB7lt := HB7.out.lt
      have HMOlt := HMO.out.lt
      generalize hW6 : World.alloc wc _ = w6
      have HB11 : Hid (Blk w6 wc.heap.size 24 #[.int .i64 (W : Int), .int .i64 (H : Int), .slice A1 q c1]) := Lib.hid (by rw [← hW6]; exact Blk.new _ _ _ rfl)
      have hg6 : Gr wc w6 := by rw [← hW6]; exact (Gr.refl _).alloc _
      replace HB7 := Lib.hid (HB7.out.keep hg6)
      replace HMO := Lib.hid (HMO.out.keep hg6)
      have HT6 := Lib.hid (HT4.out.keep hg6)
      have hwc : Gr w wc := hg
      clear hW6 o0 o1 o2 d1 d2
      have hsz : wc.heap.size ≤ wc.heap.size := Nat.le_refl _
      generalize hS11 : wc.heap.size = S11 at HB11 hsz ⊢
      have HS11 := Lib.hid hS11
      clear hS11
      have htk : qs.take 17 = qs := List.take_of_length_le (by have := HQ.out; omega)
      have HBK := Lib.hid (fun W' (h : Gr w6 W') => blanks_any A1 q c1 qs W' HQ.out (by omega) hc1 h01 (HT6.out.keep h))
      rw [htk] at HBK
      have HML := Lib.hid (fun W0 W' (h : Gr (World.alloc W0 (.cells #[.int .i64 mx, .int .i64 my, .int .i64 mz] 49)) W') => more_any mx my mz W0.heap.size W' ((Blk.new W0 _ _ rfl).keep h))
      have HG6 := Lib.hid hg6
      have hlt7 : S7 ≠ S11 := fun e => by have := HS11.out; have h2 := HB7lt; omega
      have hltm : Z + 1 + 1 ≠ S11 := fun e => by have := HS11.out; have h2 := HMOlt; omega
      have KS6 := Lib.hid (fun W' (h : Gr w6 W') => And.intro (HG6.out.trans h) (And.intro ((HB7.out.keep h).cell 2) (And.intro ((HMO.out.keep h).cell 0) (And.intro ((HMO.out.keep h).cell 1) ((HMO.out.keep h).cell 2)))))
      have KSF := Lib.hid (fun W' (h : Gr w6 W') (u : Value) => And.intro (Gr.setCell (p := ⟨S11, 2, none⟩) (HG6.out.trans h) (by have := HS11.out; simp; omega) u) (And.intro (((HB7.out.keep h).other (p := ⟨S11, 2, none⟩) hlt7 u).cell 2) (And.intro (((HMO.out.keep h).other (p := ⟨S11, 2, none⟩) hltm u).cell 0) (And.intro (((HMO.out.keep h).other (p := ⟨S11, 2, none⟩) hltm u).cell 1) (((HMO.out.keep h).other (p := ⟨S11, 2, none⟩) hltm u).cell 2)))))
      clear hg6
      obtain ⟨i0, hi, hz0, hz1, hz2⟩ := info_parts Try.infoBl
      have hfld := run_blanks
      go_cut [] from 44 to 53 (fun wx => ∃ g c', Hid (Blk wx S11 24 #[.int .i64 (W : Int), .int .i64 (H : Int), .slice (some ⟨g, 0, none⟩) (q + 1) c']) ∧ Hid (Tris wx (some ⟨g, 0, none⟩) (qs ++ [fixB (mx, my, mz)])) ∧ Hid (Gr wc wx))
      case first =>
        refine wp_region_held_drew (S := (fun W' => Gr wc W' ∧ W'.cell? ⟨S7, 2, none⟩ = some (.slice A1 q c1) ∧ W'.cell? ⟨Z + 1 + 1, 0, none⟩ = some (.int .i64 mx) ∧ W'.cell? ⟨Z + 1 + 1, 1, none⟩ = some (.int .i64 my) ∧ W'.cell? ⟨Z + 1 + 1, 2, none⟩ = some (.int .i64 mz))) ?_ ?_ (fun hHeld => ?_)
        · kernel_rfl
        · ((try dsimp only); (first | (refine KS6.out _ ?_; (repeat (first | exact Gr.refl _ | assumption | (refine Gr.drew ?_) | (refine Gr.drewN ?_ _) | (refine Gr.alloc ?_ _) | (refine Gr.trans ?_ (by assumption)))); done) | exact KSF.out _ HG4.out _))
        refine take_in (i := 0) (v := ?_) (d := (some 44)) rfl rfl ?_ ?_ ?_ ?_ ?_ ?_ ?_ ?_
        rotate_left
        · kernel_rfl
        · kernel_rfl
        · kernel_rfl
        · (intro _ _ _ hq; exact hq)
        · rfl
        · (intro _w hSw; (try dsimp only at hSw); go_simp; try with_reducible rfl)
        · assumption
        try simp only [Act.put, List.setIfInBounds_toArray, List.set_cons_zero, List.set_cons_succ]
        refine take_in (i := 1) (v := ?_) (d := (some 45)) rfl rfl ?_ ?_ ?_ ?_ ?_ ?_ ?_ ?_
        rotate_left
        · kernel_rfl
        · kernel_rfl
        · kernel_rfl
        · (intro _ _ _ hq; exact hq)
        · rfl
        · (intro _w hSw; (try dsimp only at hSw); go_simp; try with_reducible rfl)
        · assumption
        try simp only [Act.put, List.setIfInBounds_toArray, List.set_cons_zero, List.set_cons_succ]
        refine take_in (i := 3) (v := ?_) (d := (some 47)) rfl rfl ?_ ?_ ?_ ?_ ?_ ?_ ?_ ?_
        rotate_left
        · kernel_rfl
        · kernel_rfl
        · kernel_rfl
        · (intro _ _ _ hq; exact hq)
        · rfl
        · (intro _w hSw; (try dsimp only at hSw); go_simp; try with_reducible rfl)
        · assumption
        try simp only [Act.put, List.setIfInBounds_toArray, List.set_cons_zero, List.set_cons_succ]
        refine wpAnyH_ready (rs := [2, 4]) ?_ ?_ ?_
        · kernel_rfl
        · simp
        refine (AllReadyH.cons rfl (fun K hK => ?_) (AllReadyH.cons rfl (fun K hK => ?_) AllReadyH.nil))
        go_simp
        first | (go_at_call 13; refine (HBK.out _ (by (repeat (first | exact Gr.refl _ | assumption | (refine Gr.drew ?_) | (refine Gr.drewN ?_ _) | (refine Gr.alloc ?_ _) | (refine Gr.trans ?_ (by assumption)))))).mono ?_; rintro e w8 ⟨A3, c3, rfl, hc3, hT3, h03, hO3, hgB⟩; rw [HQ.out] at hO3 ⊢; have HRW := Lib.hid (owns_base hO3 (show w6.heap.size ≤ _ from Gr.size (by (repeat (first | exact Gr.refl _ | assumption | (refine Gr.drew ?_) | (refine Gr.drewN ?_ _) | (refine Gr.alloc ?_ _) | (refine Gr.trans ?_ (by assumption))))))); clear hO3 hc3 hT3 h03) | (go_at_call 23; refine (HML.out _ _ (by (repeat (first | exact Gr.refl _ | assumption | (refine Gr.drew ?_) | (refine Gr.drewN ?_ _) | (refine Gr.alloc ?_ _) | (refine Gr.trans ?_ (by assumption)))))).mono ?_; rintro e w9 ⟨tx, ty, g9, c9, rfl, hc9, -, HN9, hgT⟩) | (refine step_append_lies _ (by rfl) (.tmp 46) (.tmp 51) 22 (by rfl) w6.heap.size 49 i0 _ 3 24 Try.underlying22 hi hz0 hz1 hz2 rfl (by decide) (.slice A3 q c3) q (flatE enc3 qs) (by rfl) (owns_gr HRW.out (by (repeat (first | exact Gr.refl _ | assumption | (refine Gr.drew ?_) | (refine Gr.drewN ?_ _) | (refine Gr.alloc ?_ _) | (refine Gr.trans ?_ (by assumption)))))) ⟨g9, 0, none⟩ 1 c9 (enc3 (fixB (mx, my, mz))) (by rfl) rfl (HN9.out _ (by (repeat (first | exact Gr.refl _ | assumption | (refine Gr.drew ?_) | (refine Gr.drewN ?_ _) | (refine Gr.alloc ?_ _) | (refine Gr.trans ?_ (by assumption)))))) (enc3_one _) (by decide) (by unfold maxLen; omega) (by omega) (Gr.size (by (repeat (first | exact Gr.refl _ | assumption | (refine Gr.drew ?_) | (refine Gr.drewN ?_ _) | (refine Gr.alloc ?_ _) | (refine Gr.trans ?_ (by assumption)))))) _ rfl ?_; intro g4 c4 w4 hown hgrow _ _; have hg4 : Gr w6 w4 := Below.grown (by (repeat (first | exact Gr.refl _ | assumption | (refine Gr.drew ?_) | (refine Gr.drewN ?_ _) | (refine Gr.alloc ?_ _) | (refine Gr.trans ?_ (by assumption))))) hgrow (Gr.size (by (repeat (first | exact Gr.refl _ | assumption | (refine Gr.drew ?_) | (refine Gr.drewN ?_ _) | (refine Gr.alloc ?_ _) | (refine Gr.trans ?_ (by assumption)))))) (fun t ht => ((owns_gr HRW.out (by (repeat (first | exact Gr.refl _ | assumption | (refine Gr.drew ?_) | (refine Gr.drewN ?_ _) | (refine Gr.alloc ?_ _) | (refine Gr.trans ?_ (by assumption)))))).lt t ht).1); have HG4 := Lib.hid hg4; have HOWN := Lib.hid hown; have d8 := (HB11.out.keep hg4).cell 2; have d9 := (HB11.out.keep hg4).free 2; clear hown hgrow)
        refine hK.out _ _ ?_ (fun hHeld => ?_)
        · ((try dsimp only); (first | (refine KS6.out _ ?_; (repeat (first | exact Gr.refl _ | assumption | (refine Gr.drew ?_) | (refine Gr.drewN ?_ _) | (refine Gr.alloc ?_ _) | (refine Gr.trans ?_ (by assumption)))); done) | exact KSF.out _ HG4.out _))
        clear hK K
        try simp only [Act.put, List.setIfInBounds_toArray, List.set_cons_zero, List.set_cons_succ]
        refine wpAnyH_ready (rs := [4]) ?_ ?_ ?_
        · kernel_rfl
        · simp
        refine (AllReadyH.cons rfl (fun K hK => ?_) AllReadyH.nil)
        go_simp
        refine hK.out _ _ ?_ (fun hHeld => ?_)
        · ((try dsimp only); (first | (refine KS6.out _ ?_; (repeat (first | exact Gr.refl _ | assumption | (refine Gr.drew ?_) | (refine Gr.drewN ?_ _) | (refine Gr.alloc ?_ _) | (refine Gr.trans ?_ (by assumption)))); done) | exact KSF.out _ HG4.out _))
        clear hK K
        try simp only [Act.put, List.setIfInBounds_toArray, List.set_cons_zero, List.set_cons_succ]
        refine take_in (i := 5) (v := ?_) (d := (some 49)) rfl rfl ?_ ?_ ?_ ?_ ?_ ?_ ?_ ?_
        rotate_left
        · kernel_rfl
        · kernel_rfl
        · kernel_rfl
        · (intro _ _ _ hq; exact hq)
        · rfl
        · (intro _w hSw; (try dsimp only at hSw); go_simp; try with_reducible rfl)
        · assumption
        try simp only [Act.put, List.setIfInBounds_toArray, List.set_cons_zero, List.set_cons_succ]
        refine wpAnyH_ready (rs := [6]) ?_ ?_ ?_
        · kernel_rfl
        · simp
        refine (AllReadyH.cons rfl (fun K hK => ?_) AllReadyH.nil)
        go_simp
        first | (go_at_call 13; refine (HBK.out _ (by (repeat (first | exact Gr.refl _ | assumption | (refine Gr.drew ?_) | (refine Gr.drewN ?_ _) | (refine Gr.alloc ?_ _) | (refine Gr.trans ?_ (by assumption)))))).mono ?_; rintro e w8 ⟨A3, c3, rfl, hc3, hT3, h03, hO3, hgB⟩; rw [HQ.out] at hO3 ⊢; have HRW := Lib.hid (owns_base hO3 (show w6.heap.size ≤ _ from Gr.size (by (repeat (first | exact Gr.refl _ | assumption | (refine Gr.drew ?_) | (refine Gr.drewN ?_ _) | (refine Gr.alloc ?_ _) | (refine Gr.trans ?_ (by assumption))))))); clear hO3 hc3 hT3 h03) | (go_at_call 23; refine (HML.out _ _ (by (repeat (first | exact Gr.refl _ | assumption | (refine Gr.drew ?_) | (refine Gr.drewN ?_ _) | (refine Gr.alloc ?_ _) | (refine Gr.trans ?_ (by assumption)))))).mono ?_; rintro e w9 ⟨tx, ty, g9, c9, rfl, hc9, -, HN9, hgT⟩) | (refine step_append_lies _ (by rfl) (.tmp 46) (.tmp 51) 22 (by rfl) w6.heap.size 49 i0 _ 3 24 Try.underlying22 hi hz0 hz1 hz2 rfl (by decide) (.slice A3 q c3) q (flatE enc3 qs) (by rfl) (owns_gr HRW.out (by (repeat (first | exact Gr.refl _ | assumption | (refine Gr.drew ?_) | (refine Gr.drewN ?_ _) | (refine Gr.alloc ?_ _) | (refine Gr.trans ?_ (by assumption)))))) ⟨g9, 0, none⟩ 1 c9 (enc3 (fixB (mx, my, mz))) (by rfl) rfl (HN9.out _ (by (repeat (first | exact Gr.refl _ | assumption | (refine Gr.drew ?_) | (refine Gr.drewN ?_ _) | (refine Gr.alloc ?_ _) | (refine Gr.trans ?_ (by assumption)))))) (enc3_one _) (by decide) (by unfold maxLen; omega) (by omega) (Gr.size (by (repeat (first | exact Gr.refl _ | assumption | (refine Gr.drew ?_) | (refine Gr.drewN ?_ _) | (refine Gr.alloc ?_ _) | (refine Gr.trans ?_ (by assumption)))))) _ rfl ?_; intro g4 c4 w4 hown hgrow _ _; have hg4 : Gr w6 w4 := Below.grown (by (repeat (first | exact Gr.refl _ | assumption | (refine Gr.drew ?_) | (refine Gr.drewN ?_ _) | (refine Gr.alloc ?_ _) | (refine Gr.trans ?_ (by assumption))))) hgrow (Gr.size (by (repeat (first | exact Gr.refl _ | assumption | (refine Gr.drew ?_) | (refine Gr.drewN ?_ _) | (refine Gr.alloc ?_ _) | (refine Gr.trans ?_ (by assumption)))))) (fun t ht => ((owns_gr HRW.out (by (repeat (first | exact Gr.refl _ | assumption | (refine Gr.drew ?_) | (refine Gr.drewN ?_ _) | (refine Gr.alloc ?_ _) | (refine Gr.trans ?_ (by assumption)))))).lt t ht).1); have HG4 := Lib.hid hg4; have HOWN := Lib.hid hown; have d8 := (HB11.out.keep hg4).cell 2; have d9 := (HB11.out.keep hg4).free 2; clear hown hgrow)
        refine hK.out _ _ ?_ (fun hHeld => ?_)
        · ((try dsimp only); (first | (refine KS6.out _ ?_; (repeat (first | exact Gr.refl _ | assumption | (refine Gr.drew ?_) | (refine Gr.drewN ?_ _) | (refine Gr.alloc ?_ _) | (refine Gr.trans ?_ (by assumption)))); done) | exact KSF.out _ HG4.out _))
        clear hK K
        try simp only [Act.put, List.setIfInBounds_toArray, List.set_cons_zero, List.set_cons_succ]
        refine take_in (i := 7) (v := ?_) (d := (some 51)) rfl rfl ?_ ?_ ?_ ?_ ?_ ?_ ?_ ?_
        rotate_left
        · kernel_rfl
        · kernel_rfl
        · kernel_rfl
        · (intro _ _ _ hq; exact hq)
        · rfl
        · (intro _w hSw; (try dsimp only at hSw); go_simp; try with_reducible rfl)
        · assumption
        try simp only [Act.put, List.setIfInBounds_toArray, List.set_cons_zero, List.set_cons_succ]
        refine wpAnyH_ready (rs := [8]) ?_ ?_ ?_
        · kernel_rfl
        · simp
        refine (AllReadyH.cons rfl (fun K hK => ?_) AllReadyH.nil)
        first | (go_at_call 13; refine (HBK.out _ (by (repeat (first | exact Gr.refl _ | assumption | (refine Gr.drew ?_) | (refine Gr.drewN ?_ _) | (refine Gr.alloc ?_ _) | (refine Gr.trans ?_ (by assumption)))))).mono ?_; rintro e w8 ⟨A3, c3, rfl, hc3, hT3, h03, hO3, hgB⟩; rw [HQ.out] at hO3 ⊢; have HRW := Lib.hid (owns_base hO3 (show w6.heap.size ≤ _ from Gr.size (by (repeat (first | exact Gr.refl _ | assumption | (refine Gr.drew ?_) | (refine Gr.drewN ?_ _) | (refine Gr.alloc ?_ _) | (refine Gr.trans ?_ (by assumption))))))); clear hO3 hc3 hT3 h03) | (go_at_call 23; refine (HML.out _ _ (by (repeat (first | exact Gr.refl _ | assumption | (refine Gr.drew ?_) | (refine Gr.drewN ?_ _) | (refine Gr.alloc ?_ _) | (refine Gr.trans ?_ (by assumption)))))).mono ?_; rintro e w9 ⟨tx, ty, g9, c9, rfl, hc9, -, HN9, hgT⟩) | (refine step_append_lies _ (by rfl) (.tmp 46) (.tmp 51) 22 (by rfl) w6.heap.size 49 i0 _ 3 24 Try.underlying22 hi hz0 hz1 hz2 rfl (by decide) (.slice A3 q c3) q (flatE enc3 qs) (by rfl) (owns_gr HRW.out (by (repeat (first | exact Gr.refl _ | assumption | (refine Gr.drew ?_) | (refine Gr.drewN ?_ _) | (refine Gr.alloc ?_ _) | (refine Gr.trans ?_ (by assumption)))))) ⟨g9, 0, none⟩ 1 c9 (enc3 (fixB (mx, my, mz))) (by rfl) rfl (HN9.out _ (by (repeat (first | exact Gr.refl _ | assumption | (refine Gr.drew ?_) | (refine Gr.drewN ?_ _) | (refine Gr.alloc ?_ _) | (refine Gr.trans ?_ (by assumption)))))) (enc3_one _) (by decide) (by unfold maxLen; omega) (by omega) (Gr.size (by (repeat (first | exact Gr.refl _ | assumption | (refine Gr.drew ?_) | (refine Gr.drewN ?_ _) | (refine Gr.alloc ?_ _) | (refine Gr.trans ?_ (by assumption)))))) _ rfl ?_; intro g4 c4 w4 hown hgrow _ _; have hg4 : Gr w6 w4 := Below.grown (by (repeat (first | exact Gr.refl _ | assumption | (refine Gr.drew ?_) | (refine Gr.drewN ?_ _) | (refine Gr.alloc ?_ _) | (refine Gr.trans ?_ (by assumption))))) hgrow (Gr.size (by (repeat (first | exact Gr.refl _ | assumption | (refine Gr.drew ?_) | (refine Gr.drewN ?_ _) | (refine Gr.alloc ?_ _) | (refine Gr.trans ?_ (by assumption)))))) (fun t ht => ((owns_gr HRW.out (by (repeat (first | exact Gr.refl _ | assumption | (refine Gr.drew ?_) | (refine Gr.drewN ?_ _) | (refine Gr.alloc ?_ _) | (refine Gr.trans ?_ (by assumption)))))).lt t ht).1); have HG4 := Lib.hid hg4; have HOWN := Lib.hid hown; have d8 := (HB11.out.keep hg4).cell 2; have d9 := (HB11.out.keep hg4).free 2; clear hown hgrow)
        refine hK.out _ _ ?_ (fun hHeld => ?_)
        · ((try dsimp only); (first | (refine KS6.out _ ?_; (repeat (first | exact Gr.refl _ | assumption | (refine Gr.drew ?_) | (refine Gr.drewN ?_ _) | (refine Gr.alloc ?_ _) | (refine Gr.trans ?_ (by assumption)))); done) | exact KSF.out _ HG4.out _))
        clear hK K
        try simp only [Act.put, List.setIfInBounds_toArray, List.set_cons_zero, List.set_cons_succ]
        refine take_in (i := 9) (v := ?_) (d := (some 53)) rfl rfl ?_ ?_ ?_ ?_ ?_ ?_ ?_ ?_
        rotate_left
        · kernel_rfl
        · kernel_rfl
        · kernel_rfl
        · (intro _ _ _ hq; exact hq)
        · rfl
        · (intro _w hSw; (try dsimp only at hSw); go_simp; try with_reducible rfl)
        · assumption
        try simp only [Act.put, List.setIfInBounds_toArray, List.set_cons_zero, List.set_cons_succ]
        refine wpAnyH_ready (rs := [10]) ?_ ?_ ?_
        · kernel_rfl
        · simp
        refine (AllReadyH.cons rfl (fun K hK => ?_) AllReadyH.nil)
        go_simp
        refine hK.out _ _ ?_ (fun hHeld => ?_)
        · ((try dsimp only); (first | (refine KS6.out _ ?_; (repeat (first | exact Gr.refl _ | assumption | (refine Gr.drew ?_) | (refine Gr.drewN ?_ _) | (refine Gr.alloc ?_ _) | (refine Gr.trans ?_ (by assumption)))); done) | exact KSF.out _ HG4.out _))
        clear hK K
        try simp only [Act.put, List.setIfInBounds_toArray, List.set_cons_zero, List.set_cons_succ]
        refine wpAnyH_done ?_ ?_ _
        · kernel_rfl
        rotate_left
        go_simp
        refine hK.out _ _ ?_ (fun hHeld => ?_)
        · ((try dsimp only); (first | (refine KS6.out _ ?_; (repeat (first | exact Gr.refl _ | assumption | (refine Gr.drew ?_) | (refine Gr.drewN ?_ _) | (refine Gr.alloc ?_ _) | (refine Gr.trans ?_ (by assumption)))); done) | exact KSF.out _ HG4.out _))
        clear hK K
        try simp only [Act.put, List.setIfInBounds_toArray, List.set_cons_zero, List.set_cons_succ]
        refine take_in (i := 5) (v := ?_) (d := (some 49)) rfl rfl ?_ ?_ ?_ ?_ ?_ ?_ ?_ ?_
        rotate_left
        · kernel_rfl
        · kernel_rfl
        · kernel_rfl
        · (intro _ _ _ hq; exact hq)
        · rfl
        · (intro _w hSw; (try dsimp only at hSw); go_simp; try with_reducible rfl)
        · assumption
        try simp only [Act.put, List.setIfInBounds_toArray, List.set_cons_zero, List.set_cons_succ]
        refine wpAnyH_ready (rs := [2]) ?_ ?_ ?_
        · kernel_rfl
        · simp
        refine (AllReadyH.cons rfl (fun K hK => ?_) AllReadyH.nil)
        go_simp
        first | (go_at_call 13; refine (HBK.out _ (by (repeat (first | exact Gr.refl _ | assumption | (refine Gr.drew ?_) | (refine Gr.drewN ?_ _) | (refine Gr.alloc ?_ _) | (refine Gr.trans ?_ (by assumption)))))).mono ?_; rintro e w8 ⟨A3, c3, rfl, hc3, hT3, h03, hO3, hgB⟩; rw [HQ.out] at hO3 ⊢; have HRW := Lib.hid (owns_base hO3 (show w6.heap.size ≤ _ from Gr.size (by (repeat (first | exact Gr.refl _ | assumption | (refine Gr.drew ?_) | (refine Gr.drewN ?_ _) | (refine Gr.alloc ?_ _) | (refine Gr.trans ?_ (by assumption))))))); clear hO3 hc3 hT3 h03) | (go_at_call 23; refine (HML.out _ _ (by (repeat (first | exact Gr.refl _ | assumption | (refine Gr.drew ?_) | (refine Gr.drewN ?_ _) | (refine Gr.alloc ?_ _) | (refine Gr.trans ?_ (by assumption)))))).mono ?_; rintro e w9 ⟨tx, ty, g9, c9, rfl, hc9, -, HN9, hgT⟩) | (refine step_append_lies _ (by rfl) (.tmp 46) (.tmp 51) 22 (by rfl) w6.heap.size 49 i0 _ 3 24 Try.underlying22 hi hz0 hz1 hz2 rfl (by decide) (.slice A3 q c3) q (flatE enc3 qs) (by rfl) (owns_gr HRW.out (by (repeat (first | exact Gr.refl _ | assumption | (refine Gr.drew ?_) | (refine Gr.drewN ?_ _) | (refine Gr.alloc ?_ _) | (refine Gr.trans ?_ (by assumption)))))) ⟨g9, 0, none⟩ 1 c9 (enc3 (fixB (mx, my, mz))) (by rfl) rfl (HN9.out _ (by (repeat (first | exact Gr.refl _ | assumption | (refine Gr.drew ?_) | (refine Gr.drewN ?_ _) | (refine Gr.alloc ?_ _) | (refine Gr.trans ?_ (by assumption)))))) (enc3_one _) (by decide) (by unfold maxLen; omega) (by omega) (Gr.size (by (repeat (first | exact Gr.refl _ | assumption | (refine Gr.drew ?_) | (refine Gr.drewN ?_ _) | (refine Gr.alloc ?_ _) | (refine Gr.trans ?_ (by assumption)))))) _ rfl ?_; intro g4 c4 w4 hown hgrow _ _; have hg4 : Gr w6 w4 := Below.grown (by (repeat (first | exact Gr.refl _ | assumption | (refine Gr.drew ?_) | (refine Gr.drewN ?_ _) | (refine Gr.alloc ?_ _) | (refine Gr.trans ?_ (by assumption))))) hgrow (Gr.size (by (repeat (first | exact Gr.refl _ | assumption | (refine Gr.drew ?_) | (refine Gr.drewN ?_ _) | (refine Gr.alloc ?_ _) | (refine Gr.trans ?_ (by assumption)))))) (fun t ht => ((owns_gr HRW.out (by (repeat (first | exact Gr.refl _ | assumption | (refine Gr.drew ?_) | (refine Gr.drewN ?_ _) | (refine Gr.alloc ?_ _) | (refine Gr.trans ?_ (by assumption)))))).lt t ht).1); have HG4 := Lib.hid hg4; have HOWN := Lib.hid hown; have d8 := (HB11.out.keep hg4).cell 2; have d9 := (HB11.out.keep hg4).free 2; clear hown hgrow)
        refine hK.out _ _ ?_ (fun hHeld => ?_)
        · ((try dsimp only); (first | (refine KS6.out _ ?_; (repeat (first | exact Gr.refl _ | assumption | (refine Gr.drew ?_) | (refine Gr.drewN ?_ _) | (refine Gr.alloc ?_ _) | (refine Gr.trans ?_ (by assumption)))); done) | exact KSF.out _ HG4.out _))
        clear hK K
        try simp only [Act.put, List.setIfInBounds_toArray, List.set_cons_zero, List.set_cons_succ]
        refine wpAnyH_ready (rs := [6]) ?_ ?_ ?_
        · kernel_rfl
        · simp
        refine (AllReadyH.cons rfl (fun K hK => ?_) AllReadyH.nil)
        go_simp
        first | (go_at_call 13; refine (HBK.out _ (by (repeat (first | exact Gr.refl _ | assumption | (refine Gr.drew ?_) | (refine Gr.drewN ?_ _) | (refine Gr.alloc ?_ _) | (refine Gr.trans ?_ (by assumption)))))).mono ?_; rintro e w8 ⟨A3, c3, rfl, hc3, hT3, h03, hO3, hgB⟩; rw [HQ.out] at hO3 ⊢; have HRW := Lib.hid (owns_base hO3 (show w6.heap.size ≤ _ from Gr.size (by (repeat (first | exact Gr.refl _ | assumption | (refine Gr.drew ?_) | (refine Gr.drewN ?_ _) | (refine Gr.alloc ?_ _) | (refine Gr.trans ?_ (by assumption))))))); clear hO3 hc3 hT3 h03) | (go_at_call 23; refine (HML.out _ _ (by (repeat (first | exact Gr.refl _ | assumption | (refine Gr.drew ?_) | (refine Gr.drewN ?_ _) | (refine Gr.alloc ?_ _) | (refine Gr.trans ?_ (by assumption)))))).mono ?_; rintro e w9 ⟨tx, ty, g9, c9, rfl, hc9, -, HN9, hgT⟩) | (refine step_append_lies _ (by rfl) (.tmp 46) (.tmp 51) 22 (by rfl) w6.heap.size 49 i0 _ 3 24 Try.underlying22 hi hz0 hz1 hz2 rfl (by decide) (.slice A3 q c3) q (flatE enc3 qs) (by rfl) (owns_gr HRW.out (by (repeat (first | exact Gr.refl _ | assumption | (refine Gr.drew ?_) | (refine Gr.drewN ?_ _) | (refine Gr.alloc ?_ _) | (refine Gr.trans ?_ (by assumption)))))) ⟨g9, 0, none⟩ 1 c9 (enc3 (fixB (mx, my, mz))) (by rfl) rfl (HN9.out _ (by (repeat (first | exact Gr.refl _ | assumption | (refine Gr.drew ?_) | (refine Gr.drewN ?_ _) | (refine Gr.alloc ?_ _) | (refine Gr.trans ?_ (by assumption)))))) (enc3_one _) (by decide) (by unfold maxLen; omega) (by omega) (Gr.size (by (repeat (first | exact Gr.refl _ | assumption | (refine Gr.drew ?_) | (refine Gr.drewN ?_ _) | (refine Gr.alloc ?_ _) | (refine Gr.trans ?_ (by assumption)))))) _ rfl ?_; intro g4 c4 w4 hown hgrow _ _; have hg4 : Gr w6 w4 := Below.grown (by (repeat (first | exact Gr.refl _ | assumption | (refine Gr.drew ?_) | (refine Gr.drewN ?_ _) | (refine Gr.alloc ?_ _) | (refine Gr.trans ?_ (by assumption))))) hgrow (Gr.size (by (repeat (first | exact Gr.refl _ | assumption | (refine Gr.drew ?_) | (refine Gr.drewN ?_ _) | (refine Gr.alloc ?_ _) | (refine Gr.trans ?_ (by assumption)))))) (fun t ht => ((owns_gr HRW.out (by (repeat (first | exact Gr.refl _ | assumption | (refine Gr.drew ?_) | (refine Gr.drewN ?_ _) | (refine Gr.alloc ?_ _) | (refine Gr.trans ?_ (by assumption)))))).lt t ht).1); have HG4 := Lib.hid hg4; have HOWN := Lib.hid hown; have d8 := (HB11.out.keep hg4).cell 2; have d9 := (HB11.out.keep hg4).free 2; clear hown hgrow)
        refine hK.out _ _ ?_ (fun hHeld => ?_)
        · ((try dsimp only); (first | (refine KS6.out _ ?_; (repeat (first | exact Gr.refl _ | assumption | (refine Gr.drew ?_) | (refine Gr.drewN ?_ _) | (refine Gr.alloc ?_ _) | (refine Gr.trans ?_ (by assumption)))); done) | exact KSF.out _ HG4.out _))
        clear hK K
        try simp only [Act.put, List.setIfInBounds_toArray, List.set_cons_zero, List.set_cons_succ]
        refine take_in (i := 7) (v := ?_) (d := (some 51)) rfl rfl ?_ ?_ ?_ ?_ ?_ ?_ ?_ ?_
        rotate_left
        · kernel_rfl
        · kernel_rfl
        · kernel_rfl
        · (intro _ _ _ hq; exact hq)
        · rfl
        · (intro _w hSw; (try dsimp only at hSw); go_simp; try with_reducible rfl)
        · assumption
        try simp only [Act.put, List.setIfInBounds_toArray, List.set_cons_zero, List.set_cons_succ]
        refine wpAnyH_ready (rs := [8]) ?_ ?_ ?_
        · kernel_rfl
        · simp
        refine (AllReadyH.cons rfl (fun K hK => ?_) AllReadyH.nil)
        first | (go_at_call 13; refine (HBK.out _ (by (repeat (first | exact Gr.refl _ | assumption | (refine Gr.drew ?_) | (refine Gr.drewN ?_ _) | (refine Gr.alloc ?_ _) | (refine Gr.trans ?_ (by assumption)))))).mono ?_; rintro e w8 ⟨A3, c3, rfl, hc3, hT3, h03, hO3, hgB⟩; rw [HQ.out] at hO3 ⊢; have HRW := Lib.hid (owns_base hO3 (show w6.heap.size ≤ _ from Gr.size (by (repeat (first | exact Gr.refl _ | assumption | (refine Gr.drew ?_) | (refine Gr.drewN ?_ _) | (refine Gr.alloc ?_ _) | (refine Gr.trans ?_ (by assumption))))))); clear hO3 hc3 hT3 h03) | (go_at_call 23; refine (HML.out _ _ (by (repeat (first | exact Gr.refl _ | assumption | (refine Gr.drew ?_) | (refine Gr.drewN ?_ _) | (refine Gr.alloc ?_ _) | (refine Gr.trans ?_ (by assumption)))))).mono ?_; rintro e w9 ⟨tx, ty, g9, c9, rfl, hc9, -, HN9, hgT⟩) | (refine step_append_lies _ (by rfl) (.tmp 46) (.tmp 51) 22 (by rfl) w6.heap.size 49 i0 _ 3 24 Try.underlying22 hi hz0 hz1 hz2 rfl (by decide) (.slice A3 q c3) q (flatE enc3 qs) (by rfl) (owns_gr HRW.out (by (repeat (first | exact Gr.refl _ | assumption | (refine Gr.drew ?_) | (refine Gr.drewN ?_ _) | (refine Gr.alloc ?_ _) | (refine Gr.trans ?_ (by assumption)))))) ⟨g9, 0, none⟩ 1 c9 (enc3 (fixB (mx, my, mz))) (by rfl) rfl (HN9.out _ (by (repeat (first | exact Gr.refl _ | assumption | (refine Gr.drew ?_) | (refine Gr.drewN ?_ _) | (refine Gr.alloc ?_ _) | (refine Gr.trans ?_ (by assumption)))))) (enc3_one _) (by decide) (by unfold maxLen; omega) (by omega) (Gr.size (by (repeat (first | exact Gr.refl _ | assumption | (refine Gr.drew ?_) | (refine Gr.drewN ?_ _) | (refine Gr.alloc ?_ _) | (refine Gr.trans ?_ (by assumption)))))) _ rfl ?_; intro g4 c4 w4 hown hgrow _ _; have hg4 : Gr w6 w4 := Below.grown (by (repeat (first | exact Gr.refl _ | assumption | (refine Gr.drew ?_) | (refine Gr.drewN ?_ _) | (refine Gr.alloc ?_ _) | (refine Gr.trans ?_ (by assumption))))) hgrow (Gr.size (by (repeat (first | exact Gr.refl _ | assumption | (refine Gr.drew ?_) | (refine Gr.drewN ?_ _) | (refine Gr.alloc ?_ _) | (refine Gr.trans ?_ (by assumption)))))) (fun t ht => ((owns_gr HRW.out (by (repeat (first | exact Gr.refl _ | assumption | (refine Gr.drew ?_) | (refine Gr.drewN ?_ _) | (refine Gr.alloc ?_ _) | (refine Gr.trans ?_ (by assumption)))))).lt t ht).1); have HG4 := Lib.hid hg4; have HOWN := Lib.hid hown; have d8 := (HB11.out.keep hg4).cell 2; have d9 := (HB11.out.keep hg4).free 2; clear hown hgrow)
        refine hK.out _ _ ?_ (fun hHeld => ?_)
        · ((try dsimp only); (first | (refine KS6.out _ ?_; (repeat (first | exact Gr.refl _ | assumption | (refine Gr.drew ?_) | (refine Gr.drewN ?_ _) | (refine Gr.alloc ?_ _) | (refine Gr.trans ?_ (by assumption)))); done) | exact KSF.out _ HG4.out _))
        clear hK K
        try simp only [Act.put, List.setIfInBounds_toArray, List.set_cons_zero, List.set_cons_succ]
        refine take_in (i := 9) (v := ?_) (d := (some 53)) rfl rfl ?_ ?_ ?_ ?_ ?_ ?_ ?_ ?_
        rotate_left
        · kernel_rfl
        · kernel_rfl
        · kernel_rfl
        · (intro _ _ _ hq; exact hq)
        · rfl
        · (intro _w hSw; (try dsimp only at hSw); go_simp; try with_reducible rfl)
        · assumption
        try simp only [Act.put, List.setIfInBounds_toArray, List.set_cons_zero, List.set_cons_succ]
        refine wpAnyH_ready (rs := [10]) ?_ ?_ ?_
        · kernel_rfl
        · simp
        refine (AllReadyH.cons rfl (fun K hK => ?_) AllReadyH.nil)
        go_simp
        refine hK.out _ _ ?_ (fun hHeld => ?_)
        · ((try dsimp only); (first | (refine KS6.out _ ?_; (repeat (first | exact Gr.refl _ | assumption | (refine Gr.drew ?_) | (refine Gr.drewN ?_ _) | (refine Gr.alloc ?_ _) | (refine Gr.trans ?_ (by assumption)))); done) | exact KSF.out _ HG4.out _))
        clear hK K
        try simp only [Act.put, List.setIfInBounds_toArray, List.set_cons_zero, List.set_cons_succ]
        refine wpAnyH_done ?_ ?_ _
        · kernel_rfl
        rotate_left
        all_goals
          go_wp2_with fail
          go_meet
          refine ⟨g4, c4, Lib.hid (by simpa using (HB11.out.keep HG4.out).put 2 (.slice (some ⟨g4, 0, none⟩) (q + 1) c4)), Lib.hid ?_, Lib.hid hHeld.1⟩
          have hne : (Value.slice (some ⟨g4, 0, none⟩) (q + 1) c4).ownBlock ≠ some S11 := fun e => by have h1 := (HOWN.out.lt _ e).1; have h2 := HB11.out.lt; omega
          have hO := ownsRow_setCell_other (a := ⟨S11, 2, none⟩) HOWN.out hne (.slice (some ⟨g4, 0, none⟩) (q + 1) c4)
          rw [show enc3 (fixB (mx, my, mz)) = flatE enc3 [fixB (mx, my, mz)] by simp [flatE], ← flatE_app] at hO
          obtain ⟨A9, c9', e9, -, hrd, -⟩ := own_row enc3_len (by rw [List.length_append, HQ.out]; rfl) hO
          cases e9
          exact hrd
      case rest =>
        obtain ⟨g, c', HB, HTF, HG7⟩ := hcut
        replace hg := hwc.trans HG7.out
        replace HB7o := Lib.hid (HB7o.out.keep HG7.out)
        have hfb := fixB_ok (mx, my, mz)
        generalize fixB (mx, my, mz) = f at HTF hfb
        have HF := Lib.hid hfb
        have HLF : Hid ((qs ++ [f]).length = q + 1) := Lib.hid (by rw [List.length_append, HQ.out]; rfl)
        clear HB7 HMO HT6 HBK HML KS6 KSF HG6 hfld HB11 HG7 hfb
        have o0 := HB.out.cell 0
        have o1 := HB.out.cell 1
        have o2 := HB.out.cell 2
        by_cases hq16 : q < 16
        · have d1 : decide (16 < (q : Int) + 1) = false := decide_eq_false (by omega)
          have d1' : decide (16 < q + 1) = false := decide_eq_false (by omega)
          have HTK := Lib.hid (task_ok (W := W) (H := H) (bs := qs ++ [f]) (by omega) (by omega) (by rw [HLF.out]; omega) (fun b hb => by
            rcases List.mem_append.1 hb with hb | hb
            · exact HBL.out b hb
            · obtain rfl : b = f := List.mem_singleton.1 hb
              exact HF.out))
          go_wp2_with fail
          refine (best_any W H (some ⟨g, 0, none⟩) (q + 1) c' (qs ++ [f]) _ HLF.out (by omega) HTF.out HTK.out).mono ?_
          rintro e w7 ⟨rfl, hg7⟩
          have a7 := HMR.out f
          have HU := Lib.hid (HUN.out f)
          have HH := Lib.hid (fun h => mst_has (bs := qs ++ [f]) (b := f) (List.mem_append_right _ (List.mem_singleton.2 rfl)) (show 1 ≤ W by omega) (show 1 ≤ H by omega) h)
          generalize mst (qs ++ [f]) W H = v3 at a7 HU HH ⊢
          obtain ⟨bb, boff, e, q0, q1, q2⟩ := Tris_at (HTF.out.keep hg7) (show q < (qs ++ [f]).length by rw [HLF.out]; omega)
          obtain ⟨rfl, rfl⟩ : g = bb ∧ 0 = boff := by simpa using e
          rw [show (qs ++ [f]).getD q (0, 0, 0) = f by rw [List.getD_eq_getElem?_getD, List.getElem?_append_right (by rw [HQ.out]; omega), HQ.out, Nat.sub_self]; rfl, Nat.zero_add] at q0 q1 q2
          have o2' := hg7.keep o2
          have s0 := (HB7o.out.keep hg7).cell 0
          have s1 := (HB7o.out.keep hg7).cell 1
          replace hg := hg.trans hg7
          clear e o0 o1 o2 HMR HUN
          go_upto_region 12 with fail
          generalize hW8 : World.alloc w7 _ = w8
          obtain ⟨hg8, p0, p1, p2⟩ := cell3 hW8
          replace s0 := hg8.keep s0
          replace s1 := hg8.keep s1
          replace hg := hg.trans hg8
          clear hW8 hg8 hg7 q0 q1 q2 o2'
          generalize w7.heap.size = S13 at p0 p1 p2 ⊢
          have e1 : decide (v1 ≤ v3) = true := decide_eq_true a7
          cases hr : fitsB f W H
          · have HR := Lib.hid (fun W' => rFits_any f (W : Int) (H : Int) W' false hr)
            have HE := Lib.hid (HU.out hr)
            clear HU HH hr
            go_wp2_with fail
            refine (HR.out _).mono ?_
            rintro e w9 ⟨rfl, hg9⟩
            have p0' := hg9.keep p0
            have p1' := hg9.keep p1
            have p2' := hg9.keep p2
            have s0' := hg9.keep s0
            have s1' := hg9.keep s1
            go_wp2_with fail
            refine (HR.out _).mono ?_
            rintro e w10 ⟨rfl, hg10⟩
            rw [HE.out]
            have e2 : (v1 == v1) = true := by simp
            go_wp2_with fail
            refine (cawake_any _).mono ?_
            rintro e w11 ⟨rfl, hg11⟩
            go_wp2_with fail
            go_ret
            exact ⟨rfl, ((hg.trans hg9).trans hg10).trans hg11⟩
          · have HR := Lib.hid (fun W' => rFits_any f (W : Int) (H : Int) W' true hr)
            have e3 : decide (f.2.2 ≤ v3) = true := decide_eq_true (HH.out hr)
            clear HU HH hr
            go_wp2_with fail
            refine (HR.out _).mono ?_
            rintro e w9 ⟨rfl, hg9⟩
            have p2' := hg9.keep p2
            go_wp2_with fail
            refine (cawake_any _).mono ?_
            rintro e w11 ⟨rfl, hg11⟩
            go_wp2_with fail
            go_ret
            exact ⟨rfl, (hg.trans hg9).trans hg11⟩
        · obtain rfl : q = 16 := by omega
          clear HMR HUN
          go_wp2_with fail
          refine (cawake_any _).mono ?_
          rintro e w11 ⟨rfl, hg11⟩
          go_wp2_with fail
          go_ret
          exact ⟨rfl, hg.trans hg11⟩

end Go.Proofs.Ytcojionipffanab
