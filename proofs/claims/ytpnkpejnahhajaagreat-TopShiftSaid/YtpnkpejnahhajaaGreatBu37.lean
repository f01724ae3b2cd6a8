/- The law TopShift as a walk.
Layer 2: tasks, steps and tables that came in, opened as lists. -/
import Derived.Test.YtpnkpejnahhajaaGreatBu36
import Derived.Test.YtpnkpejnahhajaaGreatBu31
import Derived.Test.YtpnkpejnahhajaaGreatBu2
import Derived.Test.YtpnkpejnahhajaaGreatBu32
namespace Go.Proofs.YtpnkpejnahhajaaGreat
open Go.RowKit
set_option linter.unusedSimpArgs false

theorem Tryz.infoTpJ : (Tryz.prog.info? 39).map (fun i => (i.zero, i.size, i.bytes)) = some (some (.agg #[.int .i64 0, .int .i64 0, .int .i64 0]), 3, 24) := by kernel_rfl
theorem task12_ok (W H : Int) (bs : List Bl) : taskB (sdT 12 W) (sdT 12 H) ((bs.take 8).map (fixT 12)) = true := by
  have h1 := sdT_in (M := 12) W (by omega) (by omega)
  have h2 := sdT_in (M := 12) H (by omega) (by omega)
  refine (taskB_iff _ _ _).2 ⟨by omega, by omega, ?_, ?_⟩
  · simp; omega
  · intro b hb
    obtain ⟨c, -, rfl⟩ := List.mem_map.1 hb
    exact fixT_ok c (by omega) (by omega)
theorem mkJ_no (qs : List Bl) (d : Nat) {b : Bx} (h : b.k = -1) : mkJ qs d b = [] := by unfold mkJ; rw [h]; rfl
theorem mkJ_yes (qs : List Bl) (d : Nat) {b : Bx} {i : Nat} (h : b.k = (i : Int)) : mkJ qs d b = [(0, (d : Int), (bl qs i).1 * (bl qs i).2.1)] := by unfold mkJ; rw [h, if_pos (by omega), Int.toNat_natCast]

set_option maxRecDepth 100000 in
set_option maxHeartbeats 80000000 in
theorem lawShift_any (W H : Int) (A : Option Addr) (n c : Nat) (bs : List Bl) (due : Int) (w : World) (hn : bs.length = n) (hl : n ≤ 9223372036854775807) (hp : Tris w A bs) :
    Calls Tryz.prog 4 #[.agg #[.int .i64 W, .int .i64 H, .slice A n c], .int .i64 due] w fun e w' => e = .returned (.bool true) ∧ Gr w w' := by
  have HT : Hid (∀ W', Gr w W' → Calls Tryz.prog 11 #[.agg #[.int .i64 W, .int .i64 H, .slice A n c], .int .i64 12, .int .i64 8] W' (TaskPost (sdT 12 W) (sdT 12 H) ((bs.take 8).map (fixT 12)) W')) :=
    Lib.hid (fun W' g => task_any W H A n c bs 12 8 W' (by omega) (by omega) (by omega) hn hl (hp.keep g))
  have hok := task12_ok W H bs
  have h1 := sdT_in (M := 12) W (by omega) (by omega)
  have h2 := sdT_in (M := 12) H (by omega) (by omega)
  have h3 : ((bs.take 8).map (fixT 12)).length ≤ 8 := by simp; omega
  clear hn hp hl
  generalize (bs.take 8).map (fixT 12) = qs at HT hok h3
  generalize sdT 12 W = X at HT hok h1
  generalize sdT 12 H = Y at HT hok h2
  obtain ⟨x, rfl⟩ : ∃ x : Nat, X = x := ⟨X.toNat, by omega⟩
  obtain ⟨y, rfl⟩ : ∃ y : Nat, Y = y := ⟨Y.toNat, by omega⟩
  have HOK := Lib.hid hok
  have HBS := Lib.hid ((taskB_iff _ _ _).1 hok).2.2.2
  clear hok
  go_enter Tryz.func4, Tryz.ntmps4
  go_wp2_with fail
  generalize hW0 : World.alloc w _ = W0
  have hg0 : Gr w W0 := by rw [← hW0]; exact (Gr.refl w).alloc _
  clear hW0
  refine (HT.out _ hg0).mono ?_
  rintro e W1 ⟨A1, c1, rfl, hq, hg1⟩
  have HQ := Lib.hid hq
  obtain ⟨q, hqn⟩ : ∃ q, qs.length = q := ⟨_, rfl⟩
  rw [hqn] at h3 ⊢
  have HQN := Lib.hid hqn
  have hg01 := hg0.trans hg1
  clear hq hqn hg0 hg1
  go_upto_region 2 with fail
  generalize hW2 : World.alloc W1 _ = W2
  have hg2 : Gr W1 W2 := by rw [← hW2]; exact (Gr.refl W1).alloc _
  have hB2 : Blk W2 W1.heap.size 45 #[.int .i64 (x : Int), .int .i64 (y : Int), .slice A1 q c1] := by rw [← hW2]; exact heap_alloc_new W1 _
  generalize W1.heap.size = T at hB2 ⊢
  have HB2 := Lib.hid hB2
  have hg02 := hg01.trans hg2
  have HQ2 := Lib.hid (HQ.out.keep hg2)
  clear hW2 hB2 hg2 hg01 HQ
  have t0 := HB2.out.cell 0
  have t1 := HB2.out.cell 1
  have t2 := HB2.out.cell 2
  go_wp2_with fail
  refine (planned_any x y A1 q c1 qs _ HQN.out (by omega) HQ2.out HOK.out).mono ?_
  rintro e W3 ⟨P, m, l, g, c, v, ⟨hM, hP, -⟩, hBx, hmade, rfl, hrd, hg3⟩
  have HR3 := Lib.hid hrd
  have HB3 := Lib.hid (HB2.out.keep hg3)
  have HQ3 := Lib.hid (HQ2.out.keep hg3)
  have hg03 := hg02.trans hg3
  have hcnt : l.length ≤ 4608 := by
    have a1 := hBx.count
    have a2 := hM.short (by omega) (by omega) (by omega) (by omega)
    omega
  obtain ⟨nl, hnl⟩ : ∃ nl, l.length = nl := ⟨_, rfl⟩
  rw [hnl] at hcnt ⊢
  have HNL := Lib.hid hnl
  have HFT := Lib.hid hBx.fits
  clear hM hP hBx hmade hrd hg3 hg02 hnl HB2 HQ2 t0 t1 t2
  have hm := modT_le (x := due) (n := 150) (by omega) (by omega)
  have HMO := Lib.hid (fun W => tmod_any due 150 W (by omega) (by omega))
  generalize modT due 150 = mo at hm HMO
  obtain ⟨d, hd⟩ : ∃ d : Nat, (1 + mo) = (d : Int) := ⟨(1 + mo).toNat, by omega⟩
  have hwd : IntKind.i64.wrap (1 + mo) = (d : Int) := by rw [← hd]; exact IntWalk.i64_in _ (by omega)
  have hd1 : 1 ≤ d := by omega
  have hd2 : d ≤ 150 := by omega
  have hd0 : ((d : Int) == 0) = false := by simp; omega
  clear hd
  go_wp2_with fail
  refine (HMO.out _).mono ?_
  rintro e W4 ⟨rfl, rfl⟩
  clear HMO
  have HMAD := Lib.hid (fun k => madeBx_bd HBS.out (l := l.take k) (fun b hb => HFT.out b (List.mem_of_mem_take hb)))
  have HJL := Lib.hid (fun k => jobsB_len qs d (l.take k))
  obtain ⟨i0, hi, hz0, hz1, hz2⟩ := info_parts Tryz.infoTpJ
  have HI := Lib.hid (And.intro hi (And.intro hz0 (And.intro hz1 hz2)))
  clear hi hz0 hz1 hz2
  go_wp2_with fail
  go_loopw [10, 11, 12, 13] (fun u s b z wr => ∃ (k m : Nat) (A8 : Option Addr) (c8 : Nat), k ≤ nl ∧ m ≤ k ∧ z = .int .i64 k ∧ u = .slice A8 m c8 ∧ s = .int .i64 (madeBx qs (l.take k)) ∧ b = .bool (lgB qs d (l.take k)) ∧ Hid ((jobsB qs d (l.take k)).length = m) ∧ Hid (wr.ownsRow W4.heap.size 39 3 (.slice A8 m c8) m (flatE enc3 (jobsB qs d (l.take k)))) ∧ Gr W4 wr) (fun _ _ _ z _ => nl - (intOf z).toNat)
  case atStart => exact ⟨0, 0, none, 0, Nat.zero_le _, Nat.le_refl _, rfl, rfl, rfl, rfl, Lib.hid rfl, Lib.hid (World.ownsRow_nil W4 _ _ _), Gr.refl _⟩
  case round =>
    obtain ⟨k, m, A8, c8, hk, hmk, rfl, rfl, rfl, rfl, hlen, hown, hgr⟩ := hrel
    have hm1 := HMAD.out k
    have hlk : (l.take k).length ≤ nl := by have := HNL.out; simp; omega
    by_cases hlt : k < nl
    · obtain ⟨b, hb⟩ : ∃ b, l[k]? = some b := ⟨_, List.getElem?_eq_getElem (by rw [HNL.out]; exact hlt)⟩
      obtain ⟨gb, ob, e0, -, -, -, -, c4⟩ := Bx_at (HR3.out.keep hgr) hb
      cases e0
      simp only [Nat.zero_add] at c4
      have HFB := Lib.hid (HFT.out b (List.mem_of_getElem? hb))
      have HM1 := Lib.hid (madeBx_take (bs := qs) hb)
      have HJ1 := Lib.hid (jobsB_take qs d hb)
      have HL1 := Lib.hid (lgB_take qs d hb)
      have hki : (k : Int) < (nl : Int) := by omega
      clear hb
      generalize madeBx qs (l.take k) = ma at hm1 HM1 ⊢
      generalize lgB qs d (l.take k) = lg at HL1 ⊢
      have HFB' := HFB.out
      rcases HFB' with e | ⟨i, e, hi, -⟩
      · have HE : Hid (madeBx qs (l.take (k + 1)) = ma ∧ jobsB qs d (l.take (k + 1)) = jobsB qs d (l.take k) ∧ lgB qs d (l.take (k + 1)) = lg) := Lib.hid ⟨by rw [HM1.out, e]; simp, by rw [HJ1.out, mkJ_no qs d e, List.append_nil], by rw [HL1.out, mkJ_no qs d e]; simp⟩
        rw [e] at c4
        clear e HM1 HJ1 HL1
        go_wp2_with fail
        go_roundw
        case rel => exact ⟨k + 1, m, A8, c8, by omega, by omega, by go_num, rfl, by rw [HE.out.1], by rw [HE.out.2.2], Lib.hid (by rw [HE.out.2.1]; exact hlen.out), Lib.hid (by rw [HE.out.2.1]; exact hown.out), hgr⟩
        case measure => simp [intOf]; omega
      · rw [e] at c4
        obtain ⟨gq, oq, rfl, q0, q1, q2⟩ := Tris_at (HQ3.out.keep hgr) hi
        rw [bl_getD] at q0 q1 q2
        obtain ⟨⟨v1, v2⟩, ⟨v3, v4⟩, v5, v6⟩ := (blB_iff _).1 (HBS.out _ (bl_mem hi))
        have hiq : i < q := by rw [← HQN.out]; exact hi
        have HE : Hid (madeBx qs (l.take (k + 1)) = ma + (bl qs i).1 * (bl qs i).2.1 ∧ jobsB qs d (l.take (k + 1)) = jobsB qs d (l.take k) ++ [(0, (d : Int), (bl qs i).1 * (bl qs i).2.1)] ∧ lgB qs d (l.take (k + 1)) = (lg || decide ((d : Int) < (bl qs i).1 * (bl qs i).2.1))) := Lib.hid ⟨by rw [HM1.out, e]; simp, by rw [HJ1.out, mkJ_yes qs d e], by rw [HL1.out, mkJ_yes qs d e]; simp⟩
        clear e HM1 HJ1 HL1
        generalize bl qs i = bb at q0 q1 q2 v1 v2 v3 v4 v5 v6 HE
        obtain ⟨p1, p2, p3⟩ := bb
        dsimp only at q0 q1 q2 v1 v2 v3 v4 v5 v6 HE
        have m1 : p1 * p2 ≤ 48 * 48 := Int.mul_le_mul v2 v4 (by omega) (by omega)
        have m2 : 0 ≤ p1 * p2 := Int.mul_nonneg (by omega) (by omega)
        obtain ⟨pr, hpp⟩ : ∃ pr, p1 * p2 = pr := ⟨_, rfl⟩
        rw [hpp] at m1 m2 HE
        have hT2 := (HB3.out.keep hgr).cell 2
        have hig : (0 : Int) ≤ (i : Int) := by omega
        have hiq' : (i : Int) < (q : Int) := by omega
        clear hi
        go_upto_region 12 with fail
        refine wp_region_held_drew (S := (fun W' => Gr wr W' ∧ W'.cell? ⟨T, 2, none⟩ = some (.slice (some ⟨gq, oq, none⟩) q c1) ∧ W'.cell? ⟨g, k * 5 + 4, none⟩ = some (.int .i64 (i : Int)) ∧ W'.cell? ⟨gq, oq + i * 3, none⟩ = some (.int .i64 p1) ∧ W'.cell? ⟨gq, oq + i * 3 + 1, none⟩ = some (.int .i64 p2) ∧ W'.cell? ⟨gq, oq + i * 3 + 2, none⟩ = some (.int .i64 p3))) ?_ ?_ (fun hHeld => ?_)
        · kernel_rfl
        · ((try dsimp only); ((try go_split_ands); (repeat' apply And.intro) <;> (repeat (first | assumption | (exact Gr.refl _) | (refine Gr.drew ?_) | (refine Gr.alloc ?_ _) | (refine alloc_old ?_) | (refine Gr.keep (by assumption) ?_) | (refine Gr.trans ?_ (by assumption))))))
        refine take_in (i := 0) (v := ?_) (d := (some 43)) rfl rfl ?_ ?_ ?_ ?_ ?_ ?_ ?_ ?_
        rotate_left
        · kernel_rfl
        · kernel_rfl
        · kernel_rfl
        · (intro _ _ _ hq; exact hq)
        · rfl
        · (intro _w hSw; (try dsimp only at hSw); go_simp; try with_reducible rfl)
        · assumption
        try simp only [Act.put, List.setIfInBounds_toArray, List.set_cons_zero, List.set_cons_succ]
        refine take_in (i := 1) (v := ?_) (d := (some 44)) rfl rfl ?_ ?_ ?_ ?_ ?_ ?_ ?_ ?_
        rotate_left
        · kernel_rfl
        · kernel_rfl
        · kernel_rfl
        · (intro _ _ _ hq; exact hq)
        · rfl
        · (intro _w hSw; (try dsimp only at hSw); go_simp; try with_reducible rfl)
        · assumption
        try simp only [Act.put, List.setIfInBounds_toArray, List.set_cons_zero, List.set_cons_succ]
        refine take_in (i := 2) (v := ?_) (d := (some 45)) rfl rfl ?_ ?_ ?_ ?_ ?_ ?_ ?_ ?_
        rotate_left
        · kernel_rfl
        · kernel_rfl
        · kernel_rfl
        · (intro _ _ _ hq; exact hq)
        · rfl
        · (intro _w hSw; (try dsimp only at hSw); go_simp; try with_reducible rfl)
        · assumption
        try simp only [Act.put, List.setIfInBounds_toArray, List.set_cons_zero, List.set_cons_succ]
        refine take_in (i := 3) (v := ?_) (d := (some 46)) rfl rfl ?_ ?_ ?_ ?_ ?_ ?_ ?_ ?_
        rotate_left
        · kernel_rfl
        · kernel_rfl
        · kernel_rfl
        · (intro _ _ _ hq; exact hq)
        · rfl
        · (intro _w hSw; (try dsimp only at hSw); go_simp; try with_reducible rfl)
        · assumption
        try simp only [Act.put, List.setIfInBounds_toArray, List.set_cons_zero, List.set_cons_succ]
        refine take_in (i := 4) (v := ?_) (d := (some 47)) rfl rfl ?_ ?_ ?_ ?_ ?_ ?_ ?_ ?_
        rotate_left
        · kernel_rfl
        · kernel_rfl
        · kernel_rfl
        · (intro _ _ _ hq; exact hq)
        · rfl
        · (intro _w hSw; (try dsimp only at hSw); go_simp; try with_reducible rfl)
        · assumption
        try simp only [Act.put, List.setIfInBounds_toArray, List.set_cons_zero, List.set_cons_succ]
        refine take_in (i := 5) (v := ?_) (d := (some 48)) rfl rfl ?_ ?_ ?_ ?_ ?_ ?_ ?_ ?_
        rotate_left
        · kernel_rfl
        · kernel_rfl
        · kernel_rfl
        · (intro _ _ _ hq; exact hq)
        · rfl
        · (intro _w hSw; (try dsimp only at hSw); go_simp; try with_reducible rfl)
        · assumption
        try simp only [Act.put, List.setIfInBounds_toArray, List.set_cons_zero, List.set_cons_succ]
        refine take_in (i := 6) (v := ?_) (d := (some 49)) rfl rfl ?_ ?_ ?_ ?_ ?_ ?_ ?_ ?_
        rotate_left
        · kernel_rfl
        · kernel_rfl
        · kernel_rfl
        · (intro _ _ _ hq; exact hq)
        · rfl
        · (intro _w hSw; (try dsimp only at hSw); go_simp; try with_reducible rfl)
        · assumption
        try simp only [Act.put, List.setIfInBounds_toArray, List.set_cons_zero, List.set_cons_succ]
        refine take_in (i := 7) (v := ?_) (d := (some 50)) rfl rfl ?_ ?_ ?_ ?_ ?_ ?_ ?_ ?_
        rotate_left
        · kernel_rfl
        · kernel_rfl
        · kernel_rfl
        · (intro _ _ _ hq; exact hq)
        · rfl
        · (intro _w hSw; (try dsimp only at hSw); go_simp; try with_reducible rfl)
        · assumption
        try simp only [Act.put, List.setIfInBounds_toArray, List.set_cons_zero, List.set_cons_succ]
        refine take_in (i := 8) (v := ?_) (d := (some 51)) rfl rfl ?_ ?_ ?_ ?_ ?_ ?_ ?_ ?_
        rotate_left
        · kernel_rfl
        · kernel_rfl
        · kernel_rfl
        · (intro _ _ _ hq; exact hq)
        · rfl
        · (intro _w hSw; (try dsimp only at hSw); go_simp; try with_reducible rfl)
        · assumption
        try simp only [Act.put, List.setIfInBounds_toArray, List.set_cons_zero, List.set_cons_succ]
        refine wpAnyH_ready (rs := [9]) ?_ ?_ ?_
        · kernel_rfl
        · simp
        refine (AllReadyH.cons rfl (fun K hK => ?_) AllReadyH.nil)
        go_simp
        refine hK.out _ _ ?_ (fun hHeld => ?_)
        · ((try dsimp only); ((try go_split_ands); (repeat' apply And.intro) <;> (repeat (first | assumption | (exact Gr.refl _) | (refine Gr.drew ?_) | (refine Gr.alloc ?_ _) | (refine alloc_old ?_) | (refine Gr.keep (by assumption) ?_) | (refine Gr.trans ?_ (by assumption))))))
        clear hK K
        try simp only [Act.put, List.setIfInBounds_toArray, List.set_cons_zero, List.set_cons_succ]
        refine wpAnyH_ready (rs := [10]) ?_ ?_ ?_
        · kernel_rfl
        · simp
        refine (AllReadyH.cons rfl (fun K hK => ?_) AllReadyH.nil)
        go_simp
        refine hK.out _ _ ?_ (fun hHeld => ?_)
        · ((try dsimp only); ((try go_split_ands); (repeat' apply And.intro) <;> (repeat (first | assumption | (exact Gr.refl _) | (refine Gr.drew ?_) | (refine Gr.alloc ?_ _) | (refine alloc_old ?_) | (refine Gr.keep (by assumption) ?_) | (refine Gr.trans ?_ (by assumption))))))
        clear hK K
        try simp only [Act.put, List.setIfInBounds_toArray, List.set_cons_zero, List.set_cons_succ]
        refine wpAnyH_done ?_ ?_ _
        · kernel_rfl
        rotate_left
        have hga0 : Gr wr (wr.alloc (.cells #[.int .i64 p1, .int .i64 p2, .int .i64 p3] 50)).drew := ((Gr.refl wr).alloc _).drew
        have hZ : Blk (wr.alloc (.cells #[.int .i64 p1, .int .i64 p2, .int .i64 p3] 50)).drew wr.heap.size 50 #[.int .i64 p1, .int .i64 p2, .int .i64 p3] := Blk.keep (w := wr.alloc _) (heap_alloc_new wr _) (Gr.refl _).drew
        generalize World.drew _ = w9 at hga0 hZ ⊢
        have hgr9 := hgr.trans hga0
        have HO9 := Lib.hid (owns_gr hown.out hga0)
        generalize wr.heap.size = Z3 at hZ ⊢
        have d0 := hZ.cell 0
        have d1 := hZ.cell 1
        have d2 := hZ.cell 2
        have HZ := Lib.hid hZ
        clear q0 q1 q2 hT2 hown hZ hga0 c4
        obtain ⟨hi, hz0, hz1, hz2⟩ := HI.out
        go_wp2_with (at_builtin; refine wpList_append_own _ rfl _ _ 22 rfl W4.heap.size 39 i0 _ 3 24 Tryz.underlying22 hi hz0 hz1 hz2 rfl (by decide) _ _ _ rfl (HO9.out.alloc _) ⟨w9.heap.size, 0, none⟩ 1 1 (enc3 (0, (d : Int), pr)) rfl rfl ?a1 ?a2 ?a3 ?a4 ?a5 ?_)
        case a1 =>
          intro t u ht
          rw [Addr.add_lit]
          exact alloc_new rfl (by rw [Nat.zero_add]; simpa [enc3] using ht)
        case a2 => exact fun u hu => enc3_one _ u hu
        case a3 => unfold maxLen; omega
        case a4 => omega
        case a5 => have := hgr9.size; simp; omega
        intro v' w10 hown' hgrow _
        have hal := hgr9.alloc (.cells #[.int .i64 0, .int .i64 (d : Int), .int .i64 pr] 39)
        have ho3 := HO9.out.alloc (.cells #[.int .i64 0, .int .i64 (d : Int), .int .i64 pr] 39)
        have hgf : Gr W4 w10 := Below.grown hal hgrow hal.size (fun t ht => (ho3.lt t ht).1)
        have hZ10 := (HZ.out.alloc _).grown hgrow ((HZ.out.alloc _).apart ho3 (by decide))
        replace d0 := hZ10.cell 0
        replace d1 := hZ10.cell 1
        clear d2
        have hown5 : w10.ownsRow W4.heap.size 39 3 v' (m + 1) (flatE enc3 (jobsB qs d (l.take (k + 1)))) := by
          rw [HE.out.2.1, flatE_app]; simpa [flatE] using hown'
        have hlen2 : (jobsB qs d (l.take (k + 1))).length = m + 1 := by rw [HE.out.2.1, List.length_append, hlen.out]; rfl
        obtain ⟨A9, c9, rfl, -, -, -⟩ := own_row enc3_len hlen2 hown5
        have HO5 := Lib.hid hown5
        have HLN := Lib.hid hlen2
        clear hi hz0 hz1 hz2 hown' hgrow hal ho3 hown5 hlen2 hZ10 hgr9 HZ HO9 hlen
        cases lg with
        | true =>
          go_wp2_with fail
          go_roundw
          case rel => exact ⟨k + 1, m + 1, A9, c9, by omega, by omega, by go_num, rfl, by rw [HE.out.1], by rw [HE.out.2.2]; rfl, HLN, HO5, hgf⟩
          case measure => simp [intOf]; omega
        | false =>
          by_cases hc : (d : Int) < pr
          · have HC := Lib.hid (decide_eq_true hc)
            go_wp2_with fail
            go_roundw
            case rel => exact ⟨k + 1, m + 1, A9, c9, by omega, by omega, by go_num, rfl, by rw [HE.out.1], by rw [HE.out.2.2, HC.out]; rfl, HLN, HO5, hgf⟩
            case measure => simp [intOf]; omega
          · have HC := Lib.hid (decide_eq_false hc)
            go_wp2_with fail
            go_roundw
            case rel => exact ⟨k + 1, m + 1, A9, c9, by omega, by omega, by go_num, rfl, by rw [HE.out.1], by rw [HE.out.2.2, HC.out]; rfl, HLN, HO5, hgf⟩
            case measure => simp [intOf]; omega
    · obtain rfl : k = nl := by omega
      have htk : l.take k = l := List.take_of_length_le (by have := HNL.out; omega)
      rw [htk] at hlen hown hm1 ⊢
      obtain ⟨A5, c5, he5, -, g2, -⟩ := own_row enc3_len hlen.out hown.out
      cases he5
      have HG2 := Lib.hid g2
      have hgf := hg03.trans hgr
      clear htk hlt hown g2 hlk
      by_cases h32 : m ≤ 32
      · have HF := Lib.hid (fewest_any A8 m c8 (jobsB qs d l) wr hlen.out (by omega) HG2.out)
        have HFW := Lib.hid (fun w5 e (hf : FewP (jobsB qs d l) wr e w5) => few_want hd1 (by omega) HBS.out HFT.out (by rw [hlen.out]; exact h32) hf)
        have h32i : ¬ (32 : Int) < (m : Int) := by omega
        generalize madeBx qs l = su at hm1 HFW ⊢
        generalize lgB qs d l = lg at HFW ⊢
        obtain ⟨wt, hwt⟩ : ∃ wt, wantN su d lg = wt := ⟨_, rfl⟩
        rw [hwt] at HFW
        have HWT := Lib.hid hwt
        clear hwt
        go_wp2_with fail
        refine HF.out.mono ?_
        intro e w5 hf
        obtain ⟨rfl, hg5⟩ := HFW.out _ _ hf
        clear hf HF HFW
        have hgf5 := hgf.trans hg5
        have hq0 : Int.tdiv (su + (d : Int) - 1) (d : Int) = (su + (d : Int) - 1) / (d : Int) := Int.tdiv_eq_ediv_of_nonneg (by omega)
        have hq1 : 0 ≤ (su + (d : Int) - 1) / (d : Int) := Int.ediv_nonneg (by omega) (by omega)
        have hq2 : (su + (d : Int) - 1) / (d : Int) ≤ su + (d : Int) - 1 := Int.ediv_le_self _ (by omega)
        have HW2 := HWT.out
        unfold wantN at HW2
        generalize (su + (d : Int) - 1) / (d : Int) = qv at hq0 hq1 hq2 HW2
        have HW3 := Lib.hid HW2
        clear HW2 HWT
        have hsb : su ≤ 10616832 := by have := HNL.out; omega
        have g1 : IntKind.i64.wrap (su + (d : Int)) = su + (d : Int) := IntWalk.i64_in _ (by omega)
        have g2 : IntKind.i64.wrap (su + (d : Int) - 1) = su + (d : Int) - 1 := IntWalk.i64_in _ (by omega)
        have g3 : IntKind.i64.wrap (Int.tdiv (su + (d : Int) - 1) (d : Int)) = qv := by rw [hq0]; exact IntWalk.i64_in _ (by omega)
        go_upto_region 20 with fail
        obtain ⟨mx, hmx⟩ : ∃ mx, max 1 qv = mx := ⟨_, rfl⟩
        have HW4 := HW3.out
        rw [hmx] at HW4 ⊢
        clear hmx HW3 g1 g2 g3 hq0 hq1 hq2
        cases lg with
        | true =>
          obtain rfl : wt = 0 := by rw [← HW4]; simp
          clear HW4
          go_wp2_with fail
          refine (four_any _).mono ?_
          rintro e w6 ⟨rfl, hg6⟩
          go_wp2_with fail
          go_ret
          exact ⟨rfl, hgf5.trans hg6⟩
        | false =>
          by_cases h8 : 8 < mx
          · obtain rfl : wt = 0 := by rw [← HW4, if_pos (Or.inr h8)]
            clear HW4
            go_wp2_with fail
            refine (four_any _).mono ?_
            rintro e w6 ⟨rfl, hg6⟩
            go_wp2_with fail
            go_ret
            exact ⟨rfl, hgf5.trans hg6⟩
          · obtain rfl : wt = mx := by rw [← HW4, if_neg (by simp; omega)]
            clear HW4
            go_wp2_with fail
            refine (four_any _).mono ?_
            rintro e w6 ⟨rfl, hg6⟩
            go_wp2_with fail
            go_ret
            exact ⟨rfl, hgf5.trans hg6⟩
      · have h32i : (32 : Int) < (m : Int) := by omega
        go_wp2_with fail
        refine (four_any _).mono ?_
        rintro e w5 ⟨rfl, hg5⟩
        go_wp2_with fail
        go_ret
        exact ⟨rfl, hgf.trans hg5⟩

end Go.Proofs.YtpnkpejnahhajaaGreat

namespace Go.Proofs.YtpnkpejnahhajaaGreat
open Go.RowKit Go.Deep Go.Joins Go.ChangeShapes Go.WideShapes Go.ChangeAt

set_option maxRecDepth 100000 in
theorem blank_fields : ∃ fs : Array Field, Tryz.prog.underlying 50 = some (.struct fs) ∧ fs.size = 3 ∧ oneCellFields Tryz.prog fs = true ∧ Tryz.prog.cellsOf 50 = 3 ∧ ∀ (j : Nat) (f : Field), fs[j]? = some f → Tryz.prog.underlying f.type = some (.int .i64) :=
  ⟨_, Tryz.underlying50, rfl, by kernel_rfl, by kernel_rfl, fun j f h => by
    match j, h with
    | 0, h => obtain rfl := Option.some.inj h; exact Tryz.underlying3
    | 1, h => obtain rfl := Option.some.inj h; exact Tryz.underlying3
    | 2, h => obtain rfl := Option.some.inj h; exact Tryz.underlying3⟩
section
variable {H : Type} {enc : TypeId × Value → H} {w : World} {base : Nat} {hd : Bool}
theorem open_blanks {fuel : Nat} {v : Value} {y : DataW H × List MemPlace} (h : DataW.trod enc Tryz.prog w base (fun _ => true) hd fuel 43 [v] = some y) :
    ∃ A n c bs, v = .slice A n c ∧ n ≤ c ∧ c ≤ maxLen ∧ (A = none → c = 0) ∧ List.length bs = n ∧ Tris w A bs := by
  obtain ⟨fs, h1, h2, h3, h4, h5⟩ := blank_fields
  obtain ⟨A, n, c, rfl, hc, hm, h0, Z, hZ⟩ := open_records Tryz.underlying43 h1 h3 (by rw [h4, h2]) h5 (by omega) h
  refine ⟨A, n, c, (List.range n).map fun i => (Z i 0, Z i 1, Z i 2), rfl, hc, hm, h0, by simp, fun i x hx => ?_⟩
  have hi : i < n := by have := (List.getElem?_eq_some_iff.1 hx).1; simpa using this
  obtain rfl : (Z i 0, Z i 1, Z i 2) = x := by simpa [hi] using hx
  obtain ⟨b, off, e, c0⟩ := hZ i (by omega) 0 (by omega)
  obtain ⟨b1, off1, e1, c1⟩ := hZ i (by omega) 1 (by omega)
  obtain ⟨b2, off2, e2, c2⟩ := hZ i (by omega) 2 (by omega)
  subst e
  obtain ⟨rfl, rfl⟩ : b = b1 ∧ off = off1 := by simpa using e1
  obtain ⟨rfl, rfl⟩ : b = b2 ∧ off = off2 := by simpa using e2
  rw [h2] at c0 c1 c2
  refine ⟨b, off, rfl, fun j v hv => ?_⟩
  match j, hv with
  | 0, hv => obtain rfl := Option.some.inj hv; exact c0
  | 1, hv => obtain rfl := Option.some.inj hv; exact c1
  | 2, hv => obtain rfl := Option.some.inj hv; exact c2
  | j + 3, hv => simp [enc3] at hv
end
set_option maxRecDepth 100000 in
theorem task_fields : ∃ f0 f1 f2 : Field, Tryz.prog.underlying 45 = some (.struct #[f0, f1, f2]) ∧ oneCellFields Tryz.prog #[f0, f1, f2] = true ∧ Tryz.prog.cellsOf 45 = 3 ∧ Tryz.prog.underlying f0.type = some (.int .i64) ∧ Tryz.prog.underlying f1.type = some (.int .i64) ∧ f2.type = 43 :=
  ⟨_, _, _, Tryz.underlying45, by kernel_rfl, by kernel_rfl, Tryz.underlying3, Tryz.underlying3, rfl⟩
set_option maxRecDepth 100000 in
/-- A task by value. -/
theorem open_task {H : Type} {enc : TypeId × Value → H} {w : World} {base : Nat} {hd : Bool} {r : Reach} {b0 : Nat} {v : Value} {d : DataW H} {p : List MemPlace}
    (hv : Value.okWide Tryz.prog w r b0 45 v) (h : DataW.Trod enc Tryz.prog w base (fun _ => true) hd 45 v d p) :
    ∃ W0 H0 A n c bs, v = .agg #[.int .i64 W0, .int .i64 H0, .slice A n c] ∧ n ≤ c ∧ c ≤ maxLen ∧ (A = none → c = 0) ∧ List.length bs = n ∧ Tris w A bs := by
  obtain ⟨f0, f1, f2, h1, h2, h3, h4, h5, h6⟩ := task_fields
  obtain ⟨v0, v1, v2, y0, y1, y2, n, rfl, -, -, t0, t1, t2⟩ := open_agg3 h1 h2 h3 hv h
  obtain ⟨x, rfl⟩ := trod_int h4 t0
  obtain ⟨y, rfl⟩ := trod_int h5 t1
  rw [h6] at t2
  obtain ⟨A, m, c, bs, rfl, r1, r2, r3, r4, r5⟩ := open_blanks t2
  exact ⟨x, y, A, m, c, bs, rfl, r1, r2, r3, r4, r5⟩

end Go.Proofs.YtpnkpejnahhajaaGreat
