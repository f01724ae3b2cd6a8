/- Layer 4: push. -/
import Derived.Test.YtobcdkjomehdkaaGreatBu32
import Derived.Deep.CutRange
import Derived.Maps.Own
import Derived.BigQuiet
import Derived.StillTailTactics
namespace Go.Proofs.YtobcdkjomehdkaaGreat
open Go.RowKit
set_option linter.unusedSimpArgs false
set_option maxRecDepth 100000
set_option maxHeartbeats 80000000

theorem backB_any (x y : Int) (w : World) : Calls Tryz.prog 102 #[.agg #[.int .i64 x, .int .i64 y]] w fun e w' => e = .returned (.agg #[.int .i64 y, .int .i64 x]) ∧ Gr w w' := by
 go_enter Tryz.func102, Tryz.ntmps102
 go_upto_region 1 with fail
 generalize hW1 : World.alloc (World.alloc w _) _ = w1
 have hg : Gr w w1 := by rw [← hW1]; exact ((Gr.refl w).alloc _).alloc _
 have hB : Blk w1 w.heap.size 156 #[.int .i64 x, .int .i64 y] := by rw [← hW1]; exact (Blk.new w _ _ rfl).alloc _
 have hR : Blk w1 (w.heap.size + 1) 156 #[.int .i64 0, .int .i64 0] := by rw [← hW1]; exact Blk.new _ _ _ (by simp)
 obtain ⟨U, hU⟩ : ∃ U, w.heap.size = U := ⟨_, rfl⟩
 rw [hU] at hB hR ⊢
 have c0 := hB.cell 0
 have c1 := hB.cell 1
 have r0 := hR.cell 0
 have r1 := hR.cell 1
 have f0 := hR.free 0
 have f1 := hR.free 1
 have hput := (hR.put 0 (.int .i64 y)).put 1 (.int .i64 x)
 have HPUT := Lib.hid (And.intro (hput.cell 0) (hput.cell 1))
 have HG : Hid (Gr w ((w1.setCell ⟨U + 1, 0, none⟩ (.int .i64 y)).setCell ⟨U + 1, 1, none⟩ (.int .i64 x))) := Lib.hid (Gr.setCell (Gr.setCell hg (by show w.heap.size ≤ U + 1; omega) _) (by show w.heap.size ≤ U + 1; omega) _)
 clear hW1 hB hR hput hg hU
 go_wp2_with fail
 obtain ⟨u0, u1⟩ := HPUT.out
 simp at u0 u1
 refine bodyPost_ret (v := .agg #[.int .i64 y, .int .i64 x]) ?_ ?_ ?_
 ·simp [results, Tryz.results102, go_sem, u0, u1]
 ·rfl
 ·exact ⟨rfl, HG.out⟩

theorem gb_cell {g : Nat} {w w' : World} (h : Gb g w w') {b o : Nat} {v : Value} (hc : w.cell? ⟨b, o, none⟩ = some v) (hne : b ≠ g) : w'.cell? ⟨b, o, none⟩ = some v :=
 (Gb.cell h (World.block_lt_of_cell? w _ hc) hne).trans hc

structure PushH (g mb fb h N : Nat) (nx : Nat → List Nat) (r : Nat → Nat → Int) (F : Nat → Option Nat) (w : World) : Prop where
 net : NetB w g mb h N nx
 rm : RM w mb r
 fm : FM w fb F
 pos : ∀ a b, 0 ≤ r a b
 cap : ∀ a b, r a b + r b a ≤ 1099511627776
 lt : ∀ v, F v ≠ none → v < N
 lev : ∀ v d, F v = some d → d < N
structure NetN (N : Nat) (nx : Nat → List Nat) : Prop where
 two : 2 ≤ N
 max : N ≤ 4096
 lt : ∀ u, u < N → ∀ v ∈ nx u, v < N
 len : ∀ u, u < N → (nx u).length ≤ 1048576
def PushPost (mb fb N : Nat) (nx : Nat → List Nat) (r : Nat → Nat → Int) (F : Nat → Option Nat) (u k : Nat) (lim : Int) (w : World) (e : Ending) (w' : World) : Prop :=
 ∃ s r' F', e = .returned (.int .i64 s) ∧ (0 ≤ s ∧ s ≤ lim) ∧ RM w' mb r' ∧ FM w' fb F' ∧ PushP nx N r r' F F' u k s ∧ Gt mb fb w w'

theorem push_sink (g mb fb h N : Nat) (nx : Nat → List Nat) (r : Nat → Nat → Int) (F : Nat → Option Nat) (k : Nat) (lim : Int) (w : World) (H : PushH g mb fb h N nx r F w) (h1 : 1 ≤ lim) :
 Calls Tryz.prog 79 #[.pointer (some ⟨g, 0, none⟩), .int .i64 1, .int .i64 lim, .map (some fb)] w (PushPost mb fb N nx r F 1 k lim w) := by
 have HH := Lib.hid H
 clear H
 go_enter Tryz.func79, Tryz.ntmps79
 go_wp2_with fail
 go_ret
 exact ⟨lim, r, F, rfl, ⟨by omega, Int.le_refl _⟩, HH.out.rm, HH.out.fm, PushP.sink HH.out.pos h1, Gt.refl _ _ _⟩

theorem push_step (g mb fb h N : Nat) (nx : Nat → List Nat) (HN : NetN N nx) (hne : fb ≠ mb) (u k : Nat) (hu1 : u ≠ 1)
 (IH : ∀ (v : Nat) (lim : Int) (r : Nat → Nat → Int) (F : Nat → Option Nat) (w : World), PushH g mb fb h N nx r F w → F v = some (k + 1) → 1 ≤ lim → lim ≤ 1099511627776 →
   Calls Tryz.prog 79 #[.pointer (some ⟨g, 0, none⟩), .int .i64 (v : Int), .int .i64 lim, .map (some fb)] w (PushPost mb fb N nx r F v (k + 1) lim w))
 (lim : Int) (r : Nat → Nat → Int) (F : Nat → Option Nat) (w : World) (H : PushH g mb fb h N nx r F w) (hF : F u = some k) (h1 : 1 ≤ lim) (h2 : lim ≤ 1099511627776) :
 Calls Tryz.prog 79 #[.pointer (some ⟨g, 0, none⟩), .int .i64 (u : Int), .int .i64 lim, .map (some fb)] w (PushPost mb fb N nx r F u k lim w) := by
 have HH := Lib.hid H
 have HNN := Lib.hid HN
 have HIH := Lib.hid IH
 have HFU := Lib.hid hF
 have huN := H.lt u (by rw [hF]; simp)
 have hN2 := HN.max
 have hkN := H.lev u k hF
 have hub : ((u : Int) == 1) = false := by simp; omega
 obtain ⟨A, c, hrow, hints⟩ := H.net.rows u huN
 have hm := HN.len u huN
 obtain ⟨m, hmm⟩ : ∃ m, (nx u).length = m := ⟨_, rfl⟩
 rw [hmm] at hrow hm
 have HMM := Lib.hid hmm
 have HINT : Hid (∀ W', Gt mb fb w W' → Ints W' A (nodesI (nx u))) := Lib.hid (fun W' hg i x hx => by
  obtain ⟨b, off, e, hc⟩ := hints i x hx
  exact ⟨b, off, e, fun j v hv => hg.cell (hc j v hv) (H.rm.ne (hc j v hv)) (H.fm.ne (hc j v hv))⟩)
 have HNT : Hid (∀ W', Gt mb fb w W' → NetB W' g mb h N nx) := Lib.hid (fun W' hg => H.net.gt H.rm H.fm hg)
 have n1 := H.net.c1
 have hui : (u : Int) < (N : Int) := by omega
 clear H HN IH hF hints hmm
 go_enter Tryz.func79, Tryz.ntmps79
 go_wp2_with fail
 go_loopw [9, 27] (fun q z wr => ∃ (j : Nat) (s : Int) (r' : Nat → Nat → Int) (F' : Nat → Option Nat), j ≤ m ∧ z = .int .i64 (j : Int) ∧ q = .int .i64 s ∧ (0 ≤ s ∧ s < lim) ∧ Hid (RM wr mb r') ∧ Hid (FM wr fb F') ∧ Hid (PushL nx N r r' F F' u k j s) ∧ Hid (Gt mb fb w wr)) (fun _ z _ => m - (intOf z).toNat)
 case atStart => exact ⟨0, 0, r, F, Nat.zero_le _, rfl, rfl, ⟨by omega, by omega⟩, Lib.hid HH.out.rm, Lib.hid HH.out.fm, Lib.hid (PushL.start HH.out.pos), Lib.hid (Gt.refl _ _ _)⟩
 case round =>
  obtain ⟨j, s, r', F', hj, rfl, rfl, ⟨hs0, hsl⟩, hr, hf, hL, hgt⟩ := hrel
  clear hrow n1
  by_cases hlt : j < m
  ·obtain ⟨v, hv⟩ : ∃ v, (nx u)[j]? = some v := ⟨_, List.getElem?_eq_getElem (by rw [HMM.out]; exact hlt)⟩
   have hvN := HNN.out.lt u huN v (List.mem_of_getElem? hv)
   obtain ⟨bv, ov, rfl, cv0⟩ := (HINT.out _ hgt.out) j _ (nodesI_at hv)
   have cj := cv0 0 _ rfl
   simp only [Nat.mul_one, Nat.add_zero] at cj
   have hjm : (j : Int) < (m : Int) := by omega
   have HV := Lib.hid hv
   clear hv cv0
   go_upto_region 8 with fail
   generalize hW1 : World.alloc wr _ = w1
   have hg1 : Gr wr w1 := by rw [← hW1]; exact (Gr.refl wr).alloc _
   have hZ : Blk w1 wr.heap.size 156 #[.int .i64 (u : Int), .int .i64 (v : Int)] := by rw [← hW1]; exact heap_alloc_new wr _
   generalize wr.heap.size = Z at hZ ⊢
   have HZ := Lib.hid hZ
   have HR1 := Lib.hid (hr.out.keep hg1)
   have HF1 := Lib.hid (hf.out.keep hg1)
   have HG1 := Lib.hid (hgt.out.trans (Gt.of hg1 mb fb))
   clear hW1 hZ hr hf hgt cj
   have hL1 := HF1.out.look2 (u := v) (by unfold nodeB; omega)
   have n0 := (HNT.out _ HG1.out).c0
   rcases hfv : F' v with _ | d
   ·rw [hfv] at hL1
    simp only [Option.getD_none, Option.isSome_none] at hL1
    have HSK := Lib.hid (hL.out.skip HV.out (Or.inl hfv))
    clear hfv
    go_upto_region 9 with fail
    go_quiet (fail)
    have HG2 : Hid (Gt mb fb w (w1.drewN nq)) := Lib.hid ⟨HG1.out.os, HG1.out.tape, HG1.out.output, HG1.out.size, HG1.out.block⟩
    have HR2 : Hid (RM (w1.drewN nq) mb r') := HR1
    have HF2 : Hid (FM (w1.drewN nq) fb F') := HF1
    go_wp2_with fail
    go_roundw
    case rel => exact ⟨j + 1, s, r', F', by omega, by go_num, rfl, ⟨hs0, hsl⟩, HR2, HF2, HSK, HG2⟩
    case measure => simp [intOf]; omega
   ·rw [hfv] at hL1
    simp only [Option.getD_some, Option.isSome_some] at hL1
    have hdN := HH.out.lev v d (hL.out.has hfv)
    have hLU : ∀ n, (Instr.lookup 115 (.map (some fb)) (.int .i64 (u : Int)) false).run Tryz.prog (w1.drewN n) = .ok (.int .i64 (k : Int)) (w1.drewN n) := fun n => by
     have := (show FM (w1.drewN n) fb F' from HF1.out).look (u := u) (by unfold nodeB; omega)
     rw [hL.out.own HFU.out] at this
     exact this
    by_cases hdk : d = k + 1
    ·subst hdk
     have hde : (((k + 1 : Nat) : Int) != (k : Int) + 1) = false := by simp
     obtain ⟨rv, hrv⟩ : ∃ rv, r' u v = rv := ⟨_, rfl⟩
     have hLR : ∀ n, (Instr.lookup 152 (.map (some mb)) (.agg #[.int .i64 (u : Int), .int .i64 (v : Int)]) false).run Tryz.prog (w1.drewN n) = .ok (.int .i64 rv) (w1.drewN n) := fun n => by
      have := (show RM (w1.drewN n) mb r' from HR1.out).look (u := u) (v := v) (by unfold nodeB; omega) (by unfold nodeB; omega)
      rw [hrv] at this
      exact this
     have z0 := HZ.out.cell 0
     have z1 := HZ.out.cell 1
     have hrp := hL.out.pos u v
     have hcap := hL.out.sum u v
     have hcap2 := HH.out.cap u v
     have hrp2 := hL.out.pos v u
     rw [hrv] at hrp hcap
     have HRV := Lib.hid hrv
     have HFV := Lib.hid hfv
     have hrvb : rv ≤ 1099511627776 := by omega
     have HCP := Lib.hid hcap
     clear hrv hfv hcap hcap2 hrp2
     by_cases hz : rv = 0
     ·subst hz
      have HSK := Lib.hid (hL.out.skip HV.out (Or.inr (Or.inr HRV.out)))
      go_upto_region 9 with fail
      go_quiet (fail)
      have HG2 : Hid (Gt mb fb w (w1.drewN nq)) := Lib.hid ⟨HG1.out.os, HG1.out.tape, HG1.out.output, HG1.out.size, HG1.out.block⟩
      have HR2 : Hid (RM (w1.drewN nq) mb r') := HR1
      have HF2 : Hid (FM (w1.drewN nq) fb F') := HF1
      go_wp2_with fail
      go_roundw
      case rel => exact ⟨j + 1, s, r', F', by omega, by go_num, rfl, ⟨hs0, hsl⟩, HR2, HF2, HSK, HG2⟩
      case measure => simp [intOf]; omega
     ·have hzb : (rv == 0) = false := by simp [hz]
      go_upto_region 9 with fail
      go_quiet (fail)
      go_upto_region 10 with fail
      have HG2 : Hid (Gt mb fb w (w1.drewN nq)) := Lib.hid ⟨HG1.out.os, HG1.out.tape, HG1.out.output, HG1.out.size, HG1.out.block⟩
      have HR2 : Hid (RM (w1.drewN nq) mb r') := HR1
      have HF2 : Hid (FM (w1.drewN nq) fb F') := HF1
      have HZ2 : Hid (Blk (w1.drewN nq) Z 156 #[.int .i64 (u : Int), .int .i64 (v : Int)]) := HZ
      generalize w1.drewN nq = w2 at HG2 HR2 HF2 HZ2 ⊢
      clear HG1 HR1 HF1 HZ hLR hLU hL1 z0 z1 n0 hde
      have n0 := (HNT.out _ HG2.out).c0
      have z0 := HZ2.out.cell 0
      have z1 := HZ2.out.cell 1
      have hLR : (Instr.lookup 152 (.map (some mb)) (.agg #[.int .i64 (u : Int), .int .i64 (v : Int)]) false).run Tryz.prog w2.drew = .ok (.int .i64 rv) w2.drew := by
       have := (show RM w2.drew mb r' from HR2.out).look (u := u) (v := v) (by unfold nodeB; omega) (by unfold nodeB; omega)
       rw [HRV.out] at this
       exact this
      have hls : IntKind.i64.wrap (lim - s) = lim - s := IntWalk.i64_in _ (by omega)
      obtain ⟨lm, hlm⟩ : ∃ lm, (if rv < lim - s then rv else lim - s) = lm := ⟨_, rfl⟩
      have hlm1 : 1 ≤ lm ∧ lm ≤ lim - s ∧ lm ≤ rv := by split at hlm <;> omega
      have HLM := Lib.hid hlm
      have HLM2 : Hid (min (lim - s) rv = lm) := Lib.hid (by split at hlm <;> omega)
      have HLM3 : Hid (min rv (lim - s) = lm) := Lib.hid (by split at hlm <;> omega)
      clear hlm
      go_still_tail 13, (by kernel_rfl)
      change wpList _ _ _ _ _ w2.drew
      first
      | rw [HLM.out]
      | rw [HLM2.out]
      | rw [HLM3.out]
      clear HLM HLM2 HLM3 hls
      have HG3 : Hid (Gt mb fb w w2.drew) := Lib.hid ⟨HG2.out.os, HG2.out.tape, HG2.out.output, HG2.out.size, HG2.out.block⟩
      have HR3 : Hid (RM w2.drew mb r') := HR2
      have HF3 : Hid (FM w2.drew fb F') := HF2
      have HZ3 : Hid (Blk w2.drew Z 156 #[.int .i64 (u : Int), .int .i64 (v : Int)]) := HZ2
      generalize w2.drew = w3 at HG3 HR3 HF3 HZ3 ⊢
      clear HG2 HR2 HF2 HZ2 hLR z0 z1 n0
      have HPH : Hid (PushH g mb fb h N nx r' F' w3) := Lib.hid ⟨HNT.out _ HG3.out, HR3.out, HF3.out, hL.out.pos, fun a b => by rw [hL.out.sum a b]; exact HH.out.cap a b, fun a ha => by
       obtain ⟨da, hda⟩ := Option.ne_none_iff_exists'.1 ha
       exact HH.out.lt a (by rw [hL.out.has hda]; simp), fun a da hda => HH.out.lev a da (hL.out.has hda)⟩
      have HCALL := Lib.hid (HIH.out v lm r' F' w3 HPH.out HFV.out (by omega) (by omega))
      clear HPH
      go_wp2_with fail
      refine HCALL.out.mono ?_
      rintro e w4 ⟨x, r2, F2, rfl, ⟨hx0, hxl⟩, hr2, hf2, hP, hg4⟩
      obtain ⟨HSE, hrv2⟩ := hL.out.send HFU.out huN hvN hu1 HV.out HFV.out (by rw [HRV.out]; omega) hP hx0 (by rw [HRV.out]; omega) hs0
      rw [HRV.out] at hrv2
      have hvu := hP.pos v u
      have hvs := hP.sum u v
      rw [hrv2, HRV.out, HCP.out] at hvs
      have hvs2 := HH.out.cap u v
      have HSE := Lib.hid HSE
      have huv : u ≠ v := fun e => by
       have h1 := hL.out.own HFU.out
       have h2 := HFV.out
       rw [← e, h1] at h2
       simp at h2
      obtain ⟨bw, hbw⟩ : ∃ bw, r2 v u = bw := ⟨_, rfl⟩
      rw [hbw] at hvu hvs
      have hbwb : bw ≤ 1099511627776 := by omega
      clear hvs hvs2
      have HG4 := Lib.hid (HG3.out.trans hg4)
      have HZ4 := Lib.hid (hg4.blk HZ3.out (HR3.out.ne (HZ3.out.cell 0)) (HF3.out.ne (HZ3.out.cell 0)))
      have HR4 := Lib.hid hr2
      have HF4 := Lib.hid hf2
      have HRB := Lib.hid (And.intro hrv2 hbw)
      clear HCALL HG3 HR3 HF3 HZ3 hg4 hr2 hf2 hP hL HIH hrv2 hbw
      have n0 := (HNT.out _ HG4.out).c0
      have z0 := HZ4.out.cell 0
      have z1 := HZ4.out.cell 1
      have hgm : g ≠ mb := HR4.out.ne n0
      have hZm : Z ≠ mb := HR4.out.ne z0
      have hs1 : IntKind.i64.wrap (rv - x) = rv - x := IntWalk.i64_in _ (by omega)
      have hs2 : IntKind.i64.wrap (bw + x) = bw + x := IntWalk.i64_in _ (by omega)
      have HLA : Hid (∀ W, RM W mb r2 → (Instr.lookup 152 (.map (some mb)) (.agg #[.int .i64 (u : Int), .int .i64 (v : Int)]) false).run Tryz.prog W = .ok (.int .i64 rv) W) := Lib.hid (fun W hW => by
       have := hW.look (u := u) (v := v) (by unfold nodeB; omega) (by unfold nodeB; omega)
       rw [HRB.out.1] at this; exact this)
      have HEN : Hid (∀ W, RM W mb r2 → _) := Lib.hid (fun W (hW : RM W mb r2) => hW.enter (u := u) (v := v) (by unfold nodeB; omega) (by unfold nodeB; omega))
      go_upto_region 11 with fail
      have hm4d : Hid (RM w4.drew mb r2) := HR4
      refine wp_region_held_drew (S := (fun W' => W'.cell? ⟨g, 0, none⟩ = some (.map (some mb)) ∧ W'.cell? ⟨Z, 0, none⟩ = some (.int .i64 (u : Int)) ∧ W'.cell? ⟨Z, 1, none⟩ = some (.int .i64 (v : Int)))) ?_ ?_ (fun hHeld => ?_)
      ·kernel_rfl
      ·((try dsimp only); (try go_split_ands); (repeat' apply And.intro) <;> repeat first | assumption | exact Gr.refl _ | refine Gr.drew ?_ | refine Gr.alloc ?_ _ | refine alloc_old ?_ | refine Gr.keep (by assumption) ?_ | refine Gr.trans ?_ (by assumption))
      refine ti 0 (some 73) rfl rfl ?_; try simp only [Act.put, lA, lB, lC]
      refine ti 1 (some 74) rfl rfl ?_; try simp only [Act.put, lA, lB, lC]
      refine ti 2 (some 75) rfl rfl ?_; try simp only [Act.put, lA, lB, lC]
      refine ti 3 (some 76) rfl rfl ?_; try simp only [Act.put, lA, lB, lC]
      refine ti 4 (some 77) rfl rfl ?_; try simp only [Act.put, lA, lB, lC]
      refine ti 6 (some 79) rfl rfl ?_; try simp only [Act.put, lA, lB, lC]
      refine tr [5, 8] (.cons rfl (fun K hK => ?_) (.cons rfl (fun K hK => ?_) .nil))
      first | (refine held_look (by rfl) (.tmp 76) (.tmp 77) _ _ (by rfl) (.map (some mb)) (.agg #[.int .i64 (u : Int), .int .i64 (v : Int)]) (.int .i64 rv) (by rfl) (by rfl) (HLA.out _ HM5.out) ?_) | (refine held_look (by rfl) (.tmp 76) (.tmp 77) _ _ (by rfl) (.map (some mb)) (.agg #[.int .i64 (u : Int), .int .i64 (v : Int)]) (.int .i64 rv) (by rfl) (by rfl) (HLA.out _ hm4d.out) ?_)
      refine hK.out _ _ ?_ (fun hHeld => ?_)
      ·((try dsimp only); (try go_split_ands); (repeat' apply And.intro) <;> repeat first | assumption | exact Gr.refl _ | refine Gr.drew ?_ | refine Gr.alloc ?_ _ | refine alloc_old ?_ | refine Gr.keep (by assumption) ?_ | refine Gr.trans ?_ (by assumption))
      clear hK K; try simp only [Act.put, lA, lB, lC]
      refine ti 7 (some 80) rfl rfl ?_; try simp only [Act.put, lA, lB, lC]
      refine tr [8] (.cons rfl (fun K hK => ?_) .nil)
      first | (obtain ⟨st, w5, hrunE, hM5, hb5, -, hst⟩ := HEN.out _ hm4d.out; have HM5 := Lib.hid hM5; have HST := Lib.hid hst; have HB5 := Lib.hid hb5; have q0 := gb_cell hb5 hHeld.1 hgm; have q1 := gb_cell hb5 hHeld.2.1 hZm; have q2 := gb_cell hb5 hHeld.2.2 hZm; clear hM5 hst hb5; refine held_entry (by rfl) (.tmp 76) (.tmp 77) _ (by rfl) (.map (some mb)) (.agg #[.int .i64 (u : Int), .int .i64 (v : Int)]) _ w5 (by rfl) (by rfl) hrunE ?_; clear hrunE)
      refine hK.out _ _ ?_ (fun hHeld => ?_)
      ·((try dsimp only); (try go_split_ands); (repeat' apply And.intro) <;> repeat first | assumption | exact Gr.refl _ | refine Gr.drew ?_ | refine Gr.alloc ?_ _ | refine alloc_old ?_ | refine Gr.keep (by assumption) ?_ | refine Gr.trans ?_ (by assumption))
      clear hK K; try simp only [Act.put, lA, lB, lC]
      refine ti 9 (some 82) rfl rfl ?_; try simp only [Act.put, lA, lB, lC]
      refine tr [10] (.cons rfl (fun K hK => ?_) .nil)
      first | (obtain ⟨w6, hrunS, hM6, hb6, -⟩ := HST.out _ (rv - x) (Gr.refl _); have HM6 := Lib.hid hM6; have HB6 := Lib.hid hb6; have p0 := gb_cell hb6 hHeld.1 hgm; have p1 := gb_cell hb6 hHeld.2.1 hZm; have p2 := gb_cell hb6 hHeld.2.2 hZm; clear hM6 hb6; refine held_entryStore (by rfl) (.tmp 76) (.tmp 82) (.tmp 80) _ (by rfl) (.map (some mb)) (goInt st) (.int .i64 (rv - x)) w6 (by rfl) (by rfl) (by rfl) hrunS ?_; clear hrunS)
      refine hK.out _ _ ?_ (fun hHeld => ?_)
      ·((try dsimp only); (try go_split_ands); (repeat' apply And.intro) <;> repeat first | assumption | exact Gr.refl _ | refine Gr.drew ?_ | refine Gr.alloc ?_ _ | refine alloc_old ?_ | refine Gr.keep (by assumption) ?_ | refine Gr.trans ?_ (by assumption))
      clear hK K; try simp only [Act.put, lA, lB, lC]
      refine wpAnyH_done ?_ ?_ _
      ·kernel_rfl
      rotate_left
      first | (obtain ⟨st, w5, hrunE, hM5, hb5, -, hst⟩ := HEN.out _ hm4d.out; have HM5 := Lib.hid hM5; have HST := Lib.hid hst; have HB5 := Lib.hid hb5; have q0 := gb_cell hb5 hHeld.1 hgm; have q1 := gb_cell hb5 hHeld.2.1 hZm; have q2 := gb_cell hb5 hHeld.2.2 hZm; clear hM5 hst hb5; refine held_entry (by rfl) (.tmp 76) (.tmp 77) _ (by rfl) (.map (some mb)) (.agg #[.int .i64 (u : Int), .int .i64 (v : Int)]) _ w5 (by rfl) (by rfl) hrunE ?_; clear hrunE)
      refine hK.out _ _ ?_ (fun hHeld => ?_)
      ·((try dsimp only); (try go_split_ands); (repeat' apply And.intro) <;> repeat first | assumption | exact Gr.refl _ | refine Gr.drew ?_ | refine Gr.alloc ?_ _ | refine alloc_old ?_ | refine Gr.keep (by assumption) ?_ | refine Gr.trans ?_ (by assumption))
      clear hK K; try simp only [Act.put, lA, lB, lC]
      refine ti 9 (some 82) rfl rfl ?_; try simp only [Act.put, lA, lB, lC]
      refine tr [5] (.cons rfl (fun K hK => ?_) .nil)
      first | (refine held_look (by rfl) (.tmp 76) (.tmp 77) _ _ (by rfl) (.map (some mb)) (.agg #[.int .i64 (u : Int), .int .i64 (v : Int)]) (.int .i64 rv) (by rfl) (by rfl) (HLA.out _ HM5.out) ?_) | (refine held_look (by rfl) (.tmp 76) (.tmp 77) _ _ (by rfl) (.map (some mb)) (.agg #[.int .i64 (u : Int), .int .i64 (v : Int)]) (.int .i64 rv) (by rfl) (by rfl) (HLA.out _ hm4d.out) ?_)
      refine hK.out _ _ ?_ (fun hHeld => ?_)
      ·((try dsimp only); (try go_split_ands); (repeat' apply And.intro) <;> repeat first | assumption | exact Gr.refl _ | refine Gr.drew ?_ | refine Gr.alloc ?_ _ | refine alloc_old ?_ | refine Gr.keep (by assumption) ?_ | refine Gr.trans ?_ (by assumption))
      clear hK K; try simp only [Act.put, lA, lB, lC]
      refine ti 7 (some 80) rfl rfl ?_; try simp only [Act.put, lA, lB, lC]
      refine tr [10] (.cons rfl (fun K hK => ?_) .nil)
      first | (obtain ⟨w6, hrunS, hM6, hb6, -⟩ := HST.out _ (rv - x) (Gr.refl _); have HM6 := Lib.hid hM6; have HB6 := Lib.hid hb6; have p0 := gb_cell hb6 hHeld.1 hgm; have p1 := gb_cell hb6 hHeld.2.1 hZm; have p2 := gb_cell hb6 hHeld.2.2 hZm; clear hM6 hb6; refine held_entryStore (by rfl) (.tmp 76) (.tmp 82) (.tmp 80) _ (by rfl) (.map (some mb)) (goInt st) (.int .i64 (rv - x)) w6 (by rfl) (by rfl) (by rfl) hrunS ?_; clear hrunS)
      refine hK.out _ _ ?_ (fun hHeld => ?_)
      ·((try dsimp only); (try go_split_ands); (repeat' apply And.intro) <;> repeat first | assumption | exact Gr.refl _ | refine Gr.drew ?_ | refine Gr.alloc ?_ _ | refine alloc_old ?_ | refine Gr.keep (by assumption) ?_ | refine Gr.trans ?_ (by assumption))
      clear hK K; try simp only [Act.put, lA, lB, lC]
      refine wpAnyH_done ?_ ?_ _
      ·kernel_rfl
      rotate_left
      all_goals
       have HG6 : Hid (Gt mb fb w w6) := Lib.hid (HG4.out.trans (((Gt.of (Gr.refl w4).drew mb fb).trans (Gt.left HB5.out fb)).trans (Gt.left HB6.out fb)))
       have HF6 : Hid (FM w6 fb F2) := Lib.hid (((HF4.out.keep (Gr.refl w4).drew).gb HB5.out hne).gb HB6.out hne)
       have HRV6 : Hid (setR r2 u v (rv - x) v u = bw) := Lib.hid (by unfold setR; rw [if_neg (by omega)]; exact HRB.out.2)
       have HFL : Hid (setR (setR r2 u v (rv - x)) v u (bw + x) = flowR r2 u v x) := Lib.hid (by unfold flowR; rw [HRB.out.1, HRB.out.2])
       generalize setR r2 u v (rv - x) = r3 at HM6 HRV6 HFL
       clear HM5 HST HB5 HB6 HEN HLA hm4d HG4 HR4 HF4 HZ4 hHeld q0 q1 q2 z0 z1 n0
       have HLB : Hid (∀ W, RM W mb r3 → (Instr.lookup 152 (.map (some mb)) (.agg #[.int .i64 (v : Int), .int .i64 (u : Int)]) false).run Tryz.prog W = .ok (.int .i64 bw) W) := Lib.hid (fun W hW => by
        have := hW.look (u := v) (v := u) (by unfold nodeB; omega) (by unfold nodeB; omega)
        rw [HRV6.out] at this; exact this)
       have HEN2 : Hid (∀ W, RM W mb r3 → _) := Lib.hid (fun W (hW : RM W mb r3) => hW.enter (u := v) (v := u) (by unfold nodeB; omega) (by unfold nodeB; omega))
       go_upto_region 12 with fail
       have hm6d : Hid (RM w6.drew mb r3) := HM6
       refine wp_region_held_drew (S := (fun W' => W'.cell? ⟨g, 0, none⟩ = some (.map (some mb)) ∧ W'.cell? ⟨Z, 0, none⟩ = some (.int .i64 (u : Int)) ∧ W'.cell? ⟨Z, 1, none⟩ = some (.int .i64 (v : Int)))) ?_ ?_ (fun hHeld => ?_)
       ·kernel_rfl
       ·((try dsimp only); (try go_split_ands); (repeat' apply And.intro) <;> repeat first | assumption | exact Gr.refl _ | refine Gr.drew ?_ | refine Gr.alloc ?_ _ | refine alloc_old ?_ | refine Gr.keep (by assumption) ?_ | refine Gr.trans ?_ (by assumption))
       refine ti 0 (some 83) rfl rfl ?_; try simp only [Act.put, lA, lB, lC]
       refine ti 1 (some 84) rfl rfl ?_; try simp only [Act.put, lA, lB, lC]
       refine ti 2 (some 85) rfl rfl ?_; try simp only [Act.put, lA, lB, lC]
       refine ti 3 (some 86) rfl rfl ?_; try simp only [Act.put, lA, lB, lC]
       refine ti 4 (some 87) rfl rfl ?_; try simp only [Act.put, lA, lB, lC]
       refine ti 7 (some 90) rfl rfl ?_; try simp only [Act.put, lA, lB, lC]
       refine tr [5] (.cons rfl (fun K hK => ?_) .nil)
       go_simp
       first | (go_at_call 102; (with_reducible refine (backB_any (u : Int) (v : Int) _).mono ?_); rintro e w7 ⟨rfl, hg7⟩; have y0 := hg7.keep hHeld.1; have y1 := hg7.keep hHeld.2.1; have y2 := hg7.keep hHeld.2.2; have HM7 := Lib.hid (hm6d.out.keep hg7); have HG7 := Lib.hid hg7; clear hg7)
       refine hK.out _ _ ?_ (fun hHeld => ?_)
       ·((try dsimp only); (try go_split_ands); (repeat' apply And.intro) <;> repeat first | assumption | exact Gr.refl _ | refine Gr.drew ?_ | refine Gr.alloc ?_ _ | refine alloc_old ?_ | refine Gr.keep (by assumption) ?_ | refine Gr.trans ?_ (by assumption))
       clear hK K; try simp only [Act.put, lA, lB, lC]
       refine tr [6, 9] (.cons rfl (fun K hK => ?_) (.cons rfl (fun K hK => ?_) .nil))
       first | (refine held_look (by rfl) (.tmp 86) (.tmp 88) _ _ (by rfl) (.map (some mb)) (.agg #[.int .i64 (v : Int), .int .i64 (u : Int)]) (.int .i64 bw) (by rfl) (by rfl) (HLB.out _ HM8.out) ?_) | (refine held_look (by rfl) (.tmp 86) (.tmp 88) _ _ (by rfl) (.map (some mb)) (.agg #[.int .i64 (v : Int), .int .i64 (u : Int)]) (.int .i64 bw) (by rfl) (by rfl) (HLB.out _ HM7.out) ?_)
       refine hK.out _ _ ?_ (fun hHeld => ?_)
       ·((try dsimp only); (try go_split_ands); (repeat' apply And.intro) <;> repeat first | assumption | exact Gr.refl _ | refine Gr.drew ?_ | refine Gr.alloc ?_ _ | refine alloc_old ?_ | refine Gr.keep (by assumption) ?_ | refine Gr.trans ?_ (by assumption))
       clear hK K; try simp only [Act.put, lA, lB, lC]
       refine ti 8 (some 91) rfl rfl ?_; try simp only [Act.put, lA, lB, lC]
       refine tr [9] (.cons rfl (fun K hK => ?_) .nil)
       first | (obtain ⟨st, w8, hrunE, hM8, hb8, -, hst⟩ := HEN2.out _ HM7.out; have HM8 := Lib.hid hM8; have HST := Lib.hid hst; have HB8 := Lib.hid hb8; have q0 := gb_cell hb8 hHeld.1 hgm; have q1 := gb_cell hb8 hHeld.2.1 hZm; have q2 := gb_cell hb8 hHeld.2.2 hZm; clear hM8 hst hb8; refine held_entry (by rfl) (.tmp 86) (.tmp 88) _ (by rfl) (.map (some mb)) (.agg #[.int .i64 (v : Int), .int .i64 (u : Int)]) _ w8 (by rfl) (by rfl) hrunE ?_; clear hrunE)
       refine hK.out _ _ ?_ (fun hHeld => ?_)
       ·((try dsimp only); (try go_split_ands); (repeat' apply And.intro) <;> repeat first | assumption | exact Gr.refl _ | refine Gr.drew ?_ | refine Gr.alloc ?_ _ | refine alloc_old ?_ | refine Gr.keep (by assumption) ?_ | refine Gr.trans ?_ (by assumption))
       clear hK K; try simp only [Act.put, lA, lB, lC]
       refine ti 10 (some 93) rfl rfl ?_; try simp only [Act.put, lA, lB, lC]
       refine tr [11] (.cons rfl (fun K hK => ?_) .nil)
       first | (obtain ⟨w9, hrunS, hM9, hb9, -⟩ := HST.out _ (bw + x) (Gr.refl _); have HM9 := Lib.hid hM9; have HB9 := Lib.hid hb9; have x0 := gb_cell hb9 hHeld.1 hgm; have x1 := gb_cell hb9 hHeld.2.1 hZm; have x2 := gb_cell hb9 hHeld.2.2 hZm; clear hM9 hb9; refine held_entryStore (by rfl) (.tmp 86) (.tmp 93) (.tmp 91) _ (by rfl) (.map (some mb)) (goInt st) (.int .i64 (bw + x)) w9 (by rfl) (by rfl) (by rfl) hrunS ?_; clear hrunS)
       refine hK.out _ _ ?_ (fun hHeld => ?_)
       ·((try dsimp only); (try go_split_ands); (repeat' apply And.intro) <;> repeat first | assumption | exact Gr.refl _ | refine Gr.drew ?_ | refine Gr.alloc ?_ _ | refine alloc_old ?_ | refine Gr.keep (by assumption) ?_ | refine Gr.trans ?_ (by assumption))
       clear hK K; try simp only [Act.put, lA, lB, lC]
       refine wpAnyH_done ?_ ?_ _
       ·kernel_rfl
       rotate_left
       first | (obtain ⟨st, w8, hrunE, hM8, hb8, -, hst⟩ := HEN2.out _ HM7.out; have HM8 := Lib.hid hM8; have HST := Lib.hid hst; have HB8 := Lib.hid hb8; have q0 := gb_cell hb8 hHeld.1 hgm; have q1 := gb_cell hb8 hHeld.2.1 hZm; have q2 := gb_cell hb8 hHeld.2.2 hZm; clear hM8 hst hb8; refine held_entry (by rfl) (.tmp 86) (.tmp 88) _ (by rfl) (.map (some mb)) (.agg #[.int .i64 (v : Int), .int .i64 (u : Int)]) _ w8 (by rfl) (by rfl) hrunE ?_; clear hrunE)
       refine hK.out _ _ ?_ (fun hHeld => ?_)
       ·((try dsimp only); (try go_split_ands); (repeat' apply And.intro) <;> repeat first | assumption | exact Gr.refl _ | refine Gr.drew ?_ | refine Gr.alloc ?_ _ | refine alloc_old ?_ | refine Gr.keep (by assumption) ?_ | refine Gr.trans ?_ (by assumption))
       clear hK K; try simp only [Act.put, lA, lB, lC]
       refine ti 10 (some 93) rfl rfl ?_; try simp only [Act.put, lA, lB, lC]
       refine tr [6] (.cons rfl (fun K hK => ?_) .nil)
       first | (refine held_look (by rfl) (.tmp 86) (.tmp 88) _ _ (by rfl) (.map (some mb)) (.agg #[.int .i64 (v : Int), .int .i64 (u : Int)]) (.int .i64 bw) (by rfl) (by rfl) (HLB.out _ HM8.out) ?_) | (refine held_look (by rfl) (.tmp 86) (.tmp 88) _ _ (by rfl) (.map (some mb)) (.agg #[.int .i64 (v : Int), .int .i64 (u : Int)]) (.int .i64 bw) (by rfl) (by rfl) (HLB.out _ HM7.out) ?_)
       refine hK.out _ _ ?_ (fun hHeld => ?_)
       ·((try dsimp only); (try go_split_ands); (repeat' apply And.intro) <;> repeat first | assumption | exact Gr.refl _ | refine Gr.drew ?_ | refine Gr.alloc ?_ _ | refine alloc_old ?_ | refine Gr.keep (by assumption) ?_ | refine Gr.trans ?_ (by assumption))
       clear hK K; try simp only [Act.put, lA, lB, lC]
       refine ti 8 (some 91) rfl rfl ?_; try simp only [Act.put, lA, lB, lC]
       refine tr [11] (.cons rfl (fun K hK => ?_) .nil)
       first | (obtain ⟨w9, hrunS, hM9, hb9, -⟩ := HST.out _ (bw + x) (Gr.refl _); have HM9 := Lib.hid hM9; have HB9 := Lib.hid hb9; have x0 := gb_cell hb9 hHeld.1 hgm; have x1 := gb_cell hb9 hHeld.2.1 hZm; have x2 := gb_cell hb9 hHeld.2.2 hZm; clear hM9 hb9; refine held_entryStore (by rfl) (.tmp 86) (.tmp 93) (.tmp 91) _ (by rfl) (.map (some mb)) (goInt st) (.int .i64 (bw + x)) w9 (by rfl) (by rfl) (by rfl) hrunS ?_; clear hrunS)
       refine hK.out _ _ ?_ (fun hHeld => ?_)
       ·((try dsimp only); (try go_split_ands); (repeat' apply And.intro) <;> repeat first | assumption | exact Gr.refl _ | refine Gr.drew ?_ | refine Gr.alloc ?_ _ | refine alloc_old ?_ | refine Gr.keep (by assumption) ?_ | refine Gr.trans ?_ (by assumption))
       clear hK K; try simp only [Act.put, lA, lB, lC]
       refine wpAnyH_done ?_ ?_ _
       ·kernel_rfl
       rotate_left
       all_goals
        have HG9 : Hid (Gt mb fb w w9) := Lib.hid (HG6.out.trans ((((Gt.of (Gr.refl w6).drew mb fb).trans (Gt.of HG7.out mb fb)).trans (Gt.left HB8.out fb)).trans (Gt.left HB9.out fb)))
        have HF9 : Hid (FM w9 fb F2) := Lib.hid ((((HF6.out.keep (Gr.refl w6).drew).keep HG7.out).gb HB8.out hne).gb HB9.out hne)
        rw [HFL.out] at HM9
        clear HM7 HM8 HST HB8 HB9 HEN2 HLB hm6d HG6 HF6 hHeld q0 q1 q2 y0 y1 y2 x0 x1 x2 p0 p1 p2 HFL HRV6 HM6 HG7
        by_cases hfull : s + x = lim
        ·have hfb : (s + x == lim) = true := by simp [hfull]
         have HPF : Hid (PushP nx N r (flowR r2 u v x) F F2 u k lim) := Lib.hid (by have := HSE.out.full (by omega); rwa [hfull] at this)
         go_wp2_with fail
         go_ret
         exact ⟨lim, _, F2, rfl, ⟨by omega, Int.le_refl _⟩, HM9.out, HF9.out, HPF.out, HG9.out⟩
        ·have hfb : (s + x == lim) = false := by simp [hfull]
         go_wp2_with fail
         go_roundw
         case rel => exact ⟨j + 1, s + x, _, F2, by omega, by go_num, rfl, ⟨by omega, by omega⟩, HM9, HF9, HSE, HG9⟩
         case measure => simp [intOf]; omega
    ·have hde : ((d : Int) != (k : Int) + 1) = true := by simp; omega
     have HSK := Lib.hid (hL.out.skip HV.out (Or.inr (Or.inl ⟨d, hfv, hdk⟩)))
     clear hfv hdk
     go_upto_region 9 with fail
     go_quiet (fail)
     have HG2 : Hid (Gt mb fb w (w1.drewN nq)) := Lib.hid ⟨HG1.out.os, HG1.out.tape, HG1.out.output, HG1.out.size, HG1.out.block⟩
     have HR2 : Hid (RM (w1.drewN nq) mb r') := HR1
     have HF2 : Hid (FM (w1.drewN nq) fb F') := HF1
     go_wp2_with fail
     go_roundw
     case rel => exact ⟨j + 1, s, r', F', by omega, by go_num, rfl, ⟨hs0, hsl⟩, HR2, HF2, HSK, HG2⟩
     case measure => simp [intOf]; omega
  ·obtain rfl : j = m := by omega
   have HDN := Lib.hid (hL.out.done HFU.out hu1 (by rw [HMM.out]; exact Nat.le_refl _))
   clear hlt
   go_wp2_with (first | (refine step_delF rfl _ _ rfl hf.out (u := u) (by unfold nodeB; omega) rfl rfl ?_; intro w5 hF5 hG5) | fail)
   go_ret
   exact ⟨s, r', _, rfl, ⟨hs0, by omega⟩, hr.out.gb hG5 (Ne.symm hne), hF5, HDN.out, hgt.out.trans (Gt.right hG5 mb)⟩

theorem push_any (g mb fb h N : Nat) (nx : Nat → List Nat) (HN : NetN N nx) (hne : fb ≠ mb) : ∀ (d u k : Nat) (lim : Int) (r : Nat → Nat → Int) (F : Nat → Option Nat) (w : World), N ≤ d + k → PushH g mb fb h N nx r F w → F u = some k → 1 ≤ lim → lim ≤ 1099511627776 →
 Calls Tryz.prog 79 #[.pointer (some ⟨g, 0, none⟩), .int .i64 (u : Int), .int .i64 lim, .map (some fb)] w (PushPost mb fb N nx r F u k lim w) := by
 intro d
 induction d with
 | zero => intro u k lim r F w hd H hF; have := H.lev u k hF; omega
 | succ d ih =>
   intro u k lim r F w hd H hF h1 h2
   by_cases hu : u = 1
   ·subst hu; exact push_sink g mb fb h N nx r F k lim w H h1
   ·exact push_step g mb fb h N nx HN hne u k hu (fun v lim' r' F' w' H' hF' a b => ih v (k + 1) lim' r' F' w' (by omega) H' hF' a b) lim r F w H hF h1 h2

end Go.Proofs.YtobcdkjomehdkaaGreat
