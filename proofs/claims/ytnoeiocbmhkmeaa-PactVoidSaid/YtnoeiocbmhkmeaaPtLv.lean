/- Layer 5: the law Void. -/
import Derived.Test.YtnoeiocbmhkmeaaPtAO
namespace Go.Proofs.Ytnoeiocbmhkmeaa
open Go.RowKit
set_option linter.unusedSimpArgs false

set_option maxRecDepth 100000 in
set_option maxHeartbeats 16000000 in
theorem lawVoid_any (kd st nn : Int) (A : Option Addr) (n c : Nat) (l : List Mv) (w : World) (hnn : I64 nn) (hn : l.length = n) (hc : n ≤ c) (hm : c ≤ 9223372036854775807) (h0 : A = none → c = 0) (hp : Pts w A l) (hI : ∀ p ∈ l, I64 p.1) :
    Calls Try.prog 4 #[.agg #[.int .i64 kd, .int .i64 st, .int .i64 nn, .slice A n c]] w fun e w' => e = .returned (.bool true) ∧ Gr w w' := by
  have HPA := Lib.hid (fun W (hW : Gr w W) => parts_any A n c l W hn hc hm h0 (hp.keep hW))
  have HAW := Lib.hid (fun W => awake5_any W)
  have HT := Lib.hid (show (l.take 9).length = min n 9 by rw [List.length_take, hn]; omega)
  have HI := Lib.hid (show ∀ p ∈ l.take 9, I64 p.1 from fun p hp => hI p (List.mem_of_mem_take hp))
  have HNN := Lib.hid hnn
  clear hn hm h0 hp hI hnn
  go_enter Try.func4, Try.ntmps4
  go_upto_region 1 with fail
  generalize hW1 : World.alloc w _ = w1
  have hg1 : Gr w w1 := by rw [← hW1]; exact (Gr.refl w).alloc _
  have hbk : Blk w1 w.heap.size 40 #[.int .i64 kd, .int .i64 st, .int .i64 nn, .slice A n c] := by rw [← hW1]; exact Blk.new w _ _ rfl
  generalize w.heap.size = T at hbk ⊢
  have HT0 := Lib.hid hbk
  clear hW1 hbk
  go_wp2_with fail
  go_loopw [3] (fun z wr => ∃ k : Nat, k ≤ 2 ∧ z = .int .i64 (k : Int) ∧ Gr w1 wr) (fun z _ => 2 - (intOf z).toNat)
  case atStart => exact ⟨0, by omega, rfl, Gr.refl _⟩
  case round =>
    obtain ⟨k, hk, rfl, hgr⟩ := hrel
    have HB := Lib.hid (HT0.out.keep hgr)
    have x1 : wr.cell? ⟨T, 1, none⟩ = some (.int .i64 st) := HB.out.cell 1
    have x2 : wr.cell? ⟨T, 2, none⟩ = some (.int .i64 nn) := HB.out.cell 2
    have x3 : wr.cell? ⟨T, 3, none⟩ = some (.slice A n c) := HB.out.cell 3
    have h3 : k = 0 ∨ k = 1 ∨ k = 2 := by omega
    rcases h3 with rfl | rfl | rfl
    · go_wp2_with fail
      refine (Stock_nil _ _).mono ?_
      rintro e w2 ⟨rfl, rfl⟩
      go_upto_region 8 with fail
      refine wp_region_held_drew (S := (fun W' => Gr w2 W' ∧ W'.cell? ⟨T, 1, none⟩ = some (.int .i64 st) ∧ W'.cell? ⟨T, 3, none⟩ = some (.slice A n c))) ?_ ?_ (fun hHeld => ?_)
      · kernel_rfl
      · ((try dsimp only); ((try go_split_ands); (repeat' apply And.intro) <;> (repeat (first | assumption | (exact Gr.refl _) | (refine Gr.drew ?_) | (refine Gr.alloc ?_ _) | (refine alloc_old ?_) | (refine Gr.keep (by assumption) ?_) | (refine Gr.trans ?_ (by assumption))))))
      refine take_in (i := 0) (v := ?_) (d := (some 25)) rfl rfl ?_ ?_ ?_ ?_ ?_ ?_ ?_ ?_
      rotate_left
      · kernel_rfl
      · kernel_rfl
      · kernel_rfl
      · (intro _ _ _ hq; exact hq)
      · rfl
      · (intro _w hSw; (try dsimp only at hSw); go_simp; try with_reducible rfl)
      · assumption
      try simp only [Act.put, List.setIfInBounds_toArray, List.set_cons_zero, List.set_cons_succ]
      refine take_in (i := 1) (v := ?_) (d := (some 26)) rfl rfl ?_ ?_ ?_ ?_ ?_ ?_ ?_ ?_
      rotate_left
      · kernel_rfl
      · kernel_rfl
      · kernel_rfl
      · (intro _ _ _ hq; exact hq)
      · rfl
      · (intro _w hSw; (try dsimp only at hSw); go_simp; try with_reducible rfl)
      · assumption
      try simp only [Act.put, List.setIfInBounds_toArray, List.set_cons_zero, List.set_cons_succ]
      refine take_in (i := 2) (v := ?_) (d := (some 27)) rfl rfl ?_ ?_ ?_ ?_ ?_ ?_ ?_ ?_
      rotate_left
      · kernel_rfl
      · kernel_rfl
      · kernel_rfl
      · (intro _ _ _ hq; exact hq)
      · rfl
      · (intro _w hSw; (try dsimp only at hSw); go_simp; try with_reducible rfl)
      · assumption
      try simp only [Act.put, List.setIfInBounds_toArray, List.set_cons_zero, List.set_cons_succ]
      refine take_in (i := 3) (v := ?_) (d := (some 28)) rfl rfl ?_ ?_ ?_ ?_ ?_ ?_ ?_ ?_
      rotate_left
      · kernel_rfl
      · kernel_rfl
      · kernel_rfl
      · (intro _ _ _ hq; exact hq)
      · rfl
      · (intro _w hSw; (try dsimp only at hSw); go_simp; try with_reducible rfl)
      · assumption
      try simp only [Act.put, List.setIfInBounds_toArray, List.set_cons_zero, List.set_cons_succ]
      refine take_in (i := 4) (v := ?_) (d := (some 29)) rfl rfl ?_ ?_ ?_ ?_ ?_ ?_ ?_ ?_
      rotate_left
      · kernel_rfl
      · kernel_rfl
      · kernel_rfl
      · (intro _ _ _ hq; exact hq)
      · rfl
      · (intro _w hSw; (try dsimp only at hSw); go_simp; try with_reducible rfl)
      · assumption
      try simp only [Act.put, List.setIfInBounds_toArray, List.set_cons_zero, List.set_cons_succ]
      refine wpAnyH_ready (rs := [5]) ?_ ?_ ?_
      · kernel_rfl
      · simp
      refine (AllReadyH.cons rfl (fun K hK => ?_) AllReadyH.nil)
      go_simp
      first | (go_at_call 16; (with_reducible refine (HPA.out _ (hg1.trans (hgr.trans hHeld.1))).mono ?_); rintro e w3 ⟨A3, c3, rfl, hcp⟩; have hg3 := hcp.gr; clear hcp) | (go_at_call 15; (with_reducible refine (Begin_nil _ _ _).mono ?_); rintro e w4 ⟨rfl, rfl⟩)
      refine hK.out _ _ ?_ (fun hHeld => ?_)
      · ((try dsimp only); ((try go_split_ands); (repeat' apply And.intro) <;> (repeat (first | assumption | (exact Gr.refl _) | (refine Gr.drew ?_) | (refine Gr.alloc ?_ _) | (refine alloc_old ?_) | (refine Gr.keep (by assumption) ?_) | (refine Gr.trans ?_ (by assumption))))))
      clear hK K
      try simp only [Act.put, List.setIfInBounds_toArray, List.set_cons_zero, List.set_cons_succ]
      refine wpAnyH_ready (rs := [6]) ?_ ?_ ?_
      · kernel_rfl
      · simp
      refine (AllReadyH.cons rfl (fun K hK => ?_) AllReadyH.nil)
      go_simp
      first | (go_at_call 16; (with_reducible refine (HPA.out _ (hg1.trans (hgr.trans hHeld.1))).mono ?_); rintro e w3 ⟨A3, c3, rfl, hcp⟩; have hg3 := hcp.gr; clear hcp) | (go_at_call 15; (with_reducible refine (Begin_nil _ _ _).mono ?_); rintro e w4 ⟨rfl, rfl⟩)
      refine hK.out _ _ ?_ (fun hHeld => ?_)
      · ((try dsimp only); ((try go_split_ands); (repeat' apply And.intro) <;> (repeat (first | assumption | (exact Gr.refl _) | (refine Gr.drew ?_) | (refine Gr.alloc ?_ _) | (refine alloc_old ?_) | (refine Gr.keep (by assumption) ?_) | (refine Gr.trans ?_ (by assumption))))))
      clear hK K
      try simp only [Act.put, List.setIfInBounds_toArray, List.set_cons_zero, List.set_cons_succ]
      refine take_in (i := 7) (v := ?_) (d := (some 24)) rfl rfl ?_ ?_ ?_ ?_ ?_ ?_ ?_ ?_
      rotate_left
      · kernel_rfl
      · kernel_rfl
      · kernel_rfl
      · (intro _ _ _ hq; exact hq)
      · rfl
      · (intro _w hSw; (try dsimp only at hSw); go_simp; try with_reducible rfl)
      · assumption
      try simp only [Act.put, List.setIfInBounds_toArray, List.set_cons_zero, List.set_cons_succ]
      refine take_in (i := 8) (v := ?_) (d := (some 32)) rfl rfl ?_ ?_ ?_ ?_ ?_ ?_ ?_ ?_
      rotate_left
      · kernel_rfl
      · kernel_rfl
      · kernel_rfl
      · (intro _ _ _ hq; exact hq)
      · rfl
      · (intro _w hSw; (try dsimp only at hSw); go_simp; try with_reducible rfl)
      · assumption
      try simp only [Act.put, List.setIfInBounds_toArray, List.set_cons_zero, List.set_cons_succ]
      refine take_in (i := 9) (v := ?_) (d := (some 33)) rfl rfl ?_ ?_ ?_ ?_ ?_ ?_ ?_ ?_
      rotate_left
      · kernel_rfl
      · kernel_rfl
      · kernel_rfl
      · (intro _ _ _ hq; exact hq)
      · rfl
      · (intro _w hSw; (try dsimp only at hSw); go_simp; try with_reducible rfl)
      · assumption
      try simp only [Act.put, List.setIfInBounds_toArray, List.set_cons_zero, List.set_cons_succ]
      refine take_in (i := 10) (v := ?_) (d := (some 7)) rfl rfl ?_ ?_ ?_ ?_ ?_ ?_ ?_ ?_
      rotate_left
      · kernel_rfl
      · kernel_rfl
      · kernel_rfl
      · (intro _ _ _ hq; exact hq)
      · rfl
      · (intro _w hSw; (try dsimp only at hSw); go_simp; try with_reducible rfl)
      · assumption
      try simp only [Act.put, List.setIfInBounds_toArray, List.set_cons_zero, List.set_cons_succ]
      refine take_in (i := 11) (v := ?_) (d := (some 8)) rfl rfl ?_ ?_ ?_ ?_ ?_ ?_ ?_ ?_
      rotate_left
      · kernel_rfl
      · kernel_rfl
      · kernel_rfl
      · (intro _ _ _ hq; exact hq)
      · rfl
      · (intro _w hSw; (try dsimp only at hSw); go_simp; try with_reducible rfl)
      · assumption
      try simp only [Act.put, List.setIfInBounds_toArray, List.set_cons_zero, List.set_cons_succ]
      refine wpAnyH_done ?_ ?_ _
      · kernel_rfl
      rotate_left
      all_goals
        have hgr3 : Gr w1 w4 := hgr.trans ((Gr.refl w2).drew.trans hg3)
        have HB3 := Lib.hid (HT0.out.keep hgr3)
        clear hHeld hg3 hgr HB x1 x2 x3
        have x1 : w4.cell? ⟨T, 1, none⟩ = some (.int .i64 st) := HB3.out.cell 1
        have x2 : w4.cell? ⟨T, 2, none⟩ = some (.int .i64 nn) := HB3.out.cell 2
        go_wp2_with fail
        refine (Sites_nil _).mono ?_
        rintro e w10 ⟨rfl, rfl⟩
        go_wp2_with fail
        refine (Up_nil _ _).mono ?_
        rintro e w11 ⟨rfl, rfl⟩
        go_wp2_with fail
        refine (Letters_nil _).mono ?_
        rintro e w12 ⟨rfl, rfl⟩
        go_wp2_with fail
        refine (Outcome_nil _ _ _).mono ?_
        rintro e w13 ⟨rfl, rfl⟩
        go_wp2_with fail
        refine (Settled_nil _).mono ?_
        rintro e w14 ⟨rfl, rfl⟩
        go_wp2_with fail
        refine (Clone_nil _).mono ?_
        rintro e w15 ⟨rfl, rfl⟩
        go_wp2_with fail
        refine (Cancel_nil _ _ _).mono ?_
        rintro e w16 ⟨rfl, rfl⟩
        go_wp2_with fail
        refine (Deliver_nil _ _).mono ?_
        rintro e w17 ⟨rfl, rfl⟩
        go_wp2_with fail
        refine (Repeat_nil _ _).mono ?_
        rintro e w18 ⟨rfl, rfl⟩
        go_wp2_with fail
        refine (Lose_nil _ _).mono ?_
        rintro e w19 ⟨rfl, rfl⟩
        go_wp2_with fail
        refine (Tick_nil _ _).mono ?_
        rintro e w20 ⟨rfl, rfl⟩
        go_wp2_with fail
        refine (Crash_nil _ _).mono ?_
        rintro e w21 ⟨rfl, rfl⟩
        go_wp2_with fail
        refine (Start_nil _ _).mono ?_
        rintro e w22 ⟨rfl, rfl⟩
        go_wp2_with fail
        go_roundw
        case rel => exact ⟨1, by omega, by go_num, hgr3⟩
        case measure => simp [intOf]
    · go_upto_region 7 with fail
      generalize hW2 : World.alloc wr _ = w2
      have hg2 : Gr wr w2 := by rw [← hW2]; exact (Gr.refl wr).alloc _
      have hzb : Blk w2 wr.heap.size 43 #[.slice none 0 0, .slice none 0 0, .int .i64 0] := by rw [← hW2]; exact Blk.new wr _ _ rfl
      have hN := zeroN_of hzb (Nat.le_refl _)
      have hsz : wr.heap.size < w2.heap.size := hzb.lt
      obtain ⟨p, hp⟩ : ∃ p, wr.heap.size = p := ⟨_, rfl⟩
      rw [hp] at hN hsz ⊢
      have HN := Lib.hid hN
      have HSZ := Lib.hid hsz
      replace hgr := hgr.trans hg2
      replace x1 := hg2.keep x1
      replace x2 := hg2.keep x2
      replace x3 := hg2.keep x3
      have HB4 := Lib.hid (HB.out.keep hg2)
      clear hW2 hzb hN hsz hp hg2 HB
      have HST := Lib.hid (fun W (hW : Gr w2 W) => Stock_z (HN.out.keep hW) st)
      have HBE := Lib.hid (fun A3 c3 W (hW : Gr w2 W) hq => Begin_z (HN.out.keep hW) st A3 (min n 9) c3 (l.take 9) HT.out (by omega) hq HI.out)
      have HSI := Lib.hid (fun W (hW : Gr w2 W) => Sites_z (HN.out.keep hW))
      have HUP := Lib.hid (fun W (hW : Gr w2 W) => Up_z (HN.out.keep hW) st)
      have HLE := Lib.hid (fun W (hW : Gr w2 W) => Letters_z (HN.out.keep hW))
      have HOU := Lib.hid (fun W (hW : Gr w2 W) => Outcome_z (HN.out.keep hW) st nn HNN.out)
      have HSE := Lib.hid (fun W (hW : Gr w2 W) => Settled_z (HN.out.keep hW))
      have HCL := Lib.hid (fun W (hW : Gr w2 W) => Clone_z (HN.out.keep hW))
      have HCA := Lib.hid (fun W (hW : Gr w2 W) => Cancel_z (HN.out.keep hW) st nn)
      have HDE := Lib.hid (fun W (hW : Gr w2 W) => Deliver_z (HN.out.keep hW) nn)
      have HRE := Lib.hid (fun W (hW : Gr w2 W) => Repeat_z (HN.out.keep hW) nn)
      have HLO := Lib.hid (fun W (hW : Gr w2 W) => Lose_z (HN.out.keep hW) nn)
      have HTI := Lib.hid (fun W (hW : Gr w2 W) => Tick_z (HN.out.keep hW) st)
      have HCR := Lib.hid (fun W (hW : Gr w2 W) => Crash_z (HN.out.keep hW) st)
      have HSA := Lib.hid (fun W (hW : Gr w2 W) => Start_z (HN.out.keep hW) st)
      go_wp2_with fail
      refine (HST.out _ (Gr.refl _)).mono ?_
      rintro e w4 ⟨rfl, rfl⟩
      go_upto_region 8 with fail
      refine wp_region_held_drew (S := (fun W' => Gr w4 W' ∧ W'.cell? ⟨T, 1, none⟩ = some (.int .i64 st) ∧ W'.cell? ⟨T, 3, none⟩ = some (.slice A n c))) ?_ ?_ (fun hHeld => ?_)
      · kernel_rfl
      · ((try dsimp only); ((try go_split_ands); (repeat' apply And.intro) <;> (repeat (first | assumption | (exact Gr.refl _) | (refine Gr.drew ?_) | (refine Gr.alloc ?_ _) | (refine alloc_old ?_) | (refine Gr.keep (by assumption) ?_) | (refine Gr.trans ?_ (by assumption))))))
      refine take_in (i := 0) (v := ?_) (d := (some 25)) rfl rfl ?_ ?_ ?_ ?_ ?_ ?_ ?_ ?_
      rotate_left
      · kernel_rfl
      · kernel_rfl
      · kernel_rfl
      · (intro _ _ _ hq; exact hq)
      · rfl
      · (intro _w hSw; (try dsimp only at hSw); go_simp; try with_reducible rfl)
      · assumption
      try simp only [Act.put, List.setIfInBounds_toArray, List.set_cons_zero, List.set_cons_succ]
      refine take_in (i := 1) (v := ?_) (d := (some 26)) rfl rfl ?_ ?_ ?_ ?_ ?_ ?_ ?_ ?_
      rotate_left
      · kernel_rfl
      · kernel_rfl
      · kernel_rfl
      · (intro _ _ _ hq; exact hq)
      · rfl
      · (intro _w hSw; (try dsimp only at hSw); go_simp; try with_reducible rfl)
      · assumption
      try simp only [Act.put, List.setIfInBounds_toArray, List.set_cons_zero, List.set_cons_succ]
      refine take_in (i := 2) (v := ?_) (d := (some 27)) rfl rfl ?_ ?_ ?_ ?_ ?_ ?_ ?_ ?_
      rotate_left
      · kernel_rfl
      · kernel_rfl
      · kernel_rfl
      · (intro _ _ _ hq; exact hq)
      · rfl
      · (intro _w hSw; (try dsimp only at hSw); go_simp; try with_reducible rfl)
      · assumption
      try simp only [Act.put, List.setIfInBounds_toArray, List.set_cons_zero, List.set_cons_succ]
      refine take_in (i := 3) (v := ?_) (d := (some 28)) rfl rfl ?_ ?_ ?_ ?_ ?_ ?_ ?_ ?_
      rotate_left
      · kernel_rfl
      · kernel_rfl
      · kernel_rfl
      · (intro _ _ _ hq; exact hq)
      · rfl
      · (intro _w hSw; (try dsimp only at hSw); go_simp; try with_reducible rfl)
      · assumption
      try simp only [Act.put, List.setIfInBounds_toArray, List.set_cons_zero, List.set_cons_succ]
      refine take_in (i := 4) (v := ?_) (d := (some 29)) rfl rfl ?_ ?_ ?_ ?_ ?_ ?_ ?_ ?_
      rotate_left
      · kernel_rfl
      · kernel_rfl
      · kernel_rfl
      · (intro _ _ _ hq; exact hq)
      · rfl
      · (intro _w hSw; (try dsimp only at hSw); go_simp; try with_reducible rfl)
      · assumption
      try simp only [Act.put, List.setIfInBounds_toArray, List.set_cons_zero, List.set_cons_succ]
      refine wpAnyH_ready (rs := [5]) ?_ ?_ ?_
      · kernel_rfl
      · simp
      refine (AllReadyH.cons rfl (fun K hK => ?_) AllReadyH.nil)
      go_simp
      first | (go_at_call 16; (with_reducible refine (HPA.out _ (hg1.trans (hgr.trans hHeld.1))).mono ?_); rintro e w3 ⟨A3, c3, rfl, hcp⟩; have hg3 := hcp.gr; have HCP := Lib.hid hcp; clear hcp) | (go_at_call 15; go_loud (with_reducible refine (HBE.out A3 c3 _ hHeld.1 (HCP.out.away (fun g hg => by have h1 := HSZ.out; have h2 : g = p := (by simpa using hg); rw [h2]; exact Nat.lt_of_lt_of_le h1 (Gr.refl _).drew.size))).mono ?_); rintro e w5 ⟨rfl, hg5⟩)
      refine hK.out _ _ ?_ (fun hHeld => ?_)
      · ((try dsimp only); ((try go_split_ands); (repeat' apply And.intro) <;> (repeat (first | assumption | (exact Gr.refl _) | (refine Gr.drew ?_) | (refine Gr.alloc ?_ _) | (refine alloc_old ?_) | (refine Gr.keep (by assumption) ?_) | (refine Gr.trans ?_ (by assumption))))))
      clear hK K
      try simp only [Act.put, List.setIfInBounds_toArray, List.set_cons_zero, List.set_cons_succ]
      refine wpAnyH_ready (rs := [6]) ?_ ?_ ?_
      · kernel_rfl
      · simp
      refine (AllReadyH.cons rfl (fun K hK => ?_) AllReadyH.nil)
      go_simp
      first | (go_at_call 16; (with_reducible refine (HPA.out _ (hg1.trans (hgr.trans hHeld.1))).mono ?_); rintro e w3 ⟨A3, c3, rfl, hcp⟩; have hg3 := hcp.gr; have HCP := Lib.hid hcp; clear hcp) | (go_at_call 15; go_loud (with_reducible refine (HBE.out A3 c3 _ hHeld.1 (HCP.out.away (fun g hg => by have h1 := HSZ.out; have h2 : g = p := (by simpa using hg); rw [h2]; exact Nat.lt_of_lt_of_le h1 (Gr.refl _).drew.size))).mono ?_); rintro e w5 ⟨rfl, hg5⟩)
      refine hK.out _ _ ?_ (fun hHeld => ?_)
      · ((try dsimp only); ((try go_split_ands); (repeat' apply And.intro) <;> (repeat (first | assumption | (exact Gr.refl _) | (refine Gr.drew ?_) | (refine Gr.alloc ?_ _) | (refine alloc_old ?_) | (refine Gr.keep (by assumption) ?_) | (refine Gr.trans ?_ (by assumption))))))
      clear hK K
      try simp only [Act.put, List.setIfInBounds_toArray, List.set_cons_zero, List.set_cons_succ]
      refine take_in (i := 7) (v := ?_) (d := (some 24)) rfl rfl ?_ ?_ ?_ ?_ ?_ ?_ ?_ ?_
      rotate_left
      · kernel_rfl
      · kernel_rfl
      · kernel_rfl
      · (intro _ _ _ hq; exact hq)
      · rfl
      · (intro _w hSw; (try dsimp only at hSw); go_simp; try with_reducible rfl)
      · assumption
      try simp only [Act.put, List.setIfInBounds_toArray, List.set_cons_zero, List.set_cons_succ]
      refine take_in (i := 8) (v := ?_) (d := (some 32)) rfl rfl ?_ ?_ ?_ ?_ ?_ ?_ ?_ ?_
      rotate_left
      · kernel_rfl
      · kernel_rfl
      · kernel_rfl
      · (intro _ _ _ hq; exact hq)
      · rfl
      · (intro _w hSw; (try dsimp only at hSw); go_simp; try with_reducible rfl)
      · assumption
      try simp only [Act.put, List.setIfInBounds_toArray, List.set_cons_zero, List.set_cons_succ]
      refine take_in (i := 9) (v := ?_) (d := (some 33)) rfl rfl ?_ ?_ ?_ ?_ ?_ ?_ ?_ ?_
      rotate_left
      · kernel_rfl
      · kernel_rfl
      · kernel_rfl
      · (intro _ _ _ hq; exact hq)
      · rfl
      · (intro _w hSw; (try dsimp only at hSw); go_simp; try with_reducible rfl)
      · assumption
      try simp only [Act.put, List.setIfInBounds_toArray, List.set_cons_zero, List.set_cons_succ]
      refine take_in (i := 10) (v := ?_) (d := (some 7)) rfl rfl ?_ ?_ ?_ ?_ ?_ ?_ ?_ ?_
      rotate_left
      · kernel_rfl
      · kernel_rfl
      · kernel_rfl
      · (intro _ _ _ hq; exact hq)
      · rfl
      · (intro _w hSw; (try dsimp only at hSw); go_simp; try with_reducible rfl)
      · assumption
      try simp only [Act.put, List.setIfInBounds_toArray, List.set_cons_zero, List.set_cons_succ]
      refine take_in (i := 11) (v := ?_) (d := (some 8)) rfl rfl ?_ ?_ ?_ ?_ ?_ ?_ ?_ ?_
      rotate_left
      · kernel_rfl
      · kernel_rfl
      · kernel_rfl
      · (intro _ _ _ hq; exact hq)
      · rfl
      · (intro _w hSw; (try dsimp only at hSw); go_simp; try with_reducible rfl)
      · assumption
      try simp only [Act.put, List.setIfInBounds_toArray, List.set_cons_zero, List.set_cons_succ]
      refine wpAnyH_done ?_ ?_ _
      · kernel_rfl
      rotate_left
      all_goals
        have HG5 : Hid (Gr w4 w5) := Lib.hid (hHeld.1.trans (by first | exact hg5 | exact Gr.refl _))
        have HB5 := Lib.hid (HB4.out.keep HG5.out)
        clear hHeld hg3 x1 x2 x3
        have x1 : w5.cell? ⟨T, 1, none⟩ = some (.int .i64 st) := HB5.out.cell 1
        have x2 : w5.cell? ⟨T, 2, none⟩ = some (.int .i64 nn) := HB5.out.cell 2
        go_wp2_with fail
        refine (HSI.out _ HG5.out).mono ?_
        rintro e w10 ⟨rfl, rfl⟩
        go_wp2_with fail
        refine (HUP.out _ HG5.out).mono ?_
        rintro e w11 ⟨rfl, rfl⟩
        go_wp2_with fail
        refine (HLE.out _ HG5.out).mono ?_
        rintro e w12 ⟨A9, c9, rfl, hg9⟩
        replace x1 := hg9.keep x1
        replace x2 := hg9.keep x2
        replace HG5 := Lib.hid (HG5.out.trans hg9)
        clear hg9
        go_wp2_with fail
        refine (HOU.out _ HG5.out).mono ?_
        rintro e w13 ⟨rfl, hg9⟩
        replace x1 := hg9.keep x1
        replace x2 := hg9.keep x2
        replace HG5 := Lib.hid (HG5.out.trans hg9)
        clear hg9
        go_wp2_with fail
        refine (HSE.out _ HG5.out).mono ?_
        rintro e w14 ⟨rfl, rfl⟩
        go_wp2_with fail
        refine (HCL.out _ HG5.out).mono ?_
        rintro e w15 ⟨rfl, rfl⟩
        go_wp2_with fail
        refine (HCA.out _ HG5.out).mono ?_
        rintro e w16 ⟨rfl, rfl⟩
        go_wp2_with fail
        refine (HDE.out _ HG5.out).mono ?_
        rintro e w17 ⟨rfl, rfl⟩
        go_wp2_with fail
        refine (HRE.out _ HG5.out).mono ?_
        rintro e w18 ⟨rfl, rfl⟩
        go_wp2_with fail
        refine (HLO.out _ HG5.out).mono ?_
        rintro e w19 ⟨rfl, rfl⟩
        go_wp2_with fail
        refine (HTI.out _ HG5.out).mono ?_
        rintro e w20 ⟨rfl, rfl⟩
        go_wp2_with fail
        refine (HCR.out _ HG5.out).mono ?_
        rintro e w21 ⟨rfl, rfl⟩
        go_wp2_with fail
        refine (HSA.out _ HG5.out).mono ?_
        rintro e w22 ⟨rfl, rfl⟩
        have hgF := hgr.trans HG5.out
        go_wp2_with fail
        go_roundw
        case rel => exact ⟨2, by omega, by go_num, hgF⟩
        case measure => simp [intOf]
    · go_wp2_with fail
      refine (HAW.out _).mono ?_
      rintro e w9 ⟨rfl, hg9⟩
      have hF := hg1.trans (hgr.trans hg9)
      go_wp2_with fail
      go_ret
      exact ⟨rfl, hF⟩

end Go.Proofs.Ytnoeiocbmhkmeaa
