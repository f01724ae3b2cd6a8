/- Layer 5: the reference ticks. -/
import Derived.Test.YtnoeiocbmhkmeaaGreatBu35
namespace Go.Proofs.YtnoeiocbmhkmeaaGreat
open Go.RowKit
set_option linter.unusedSimpArgs false
set_option maxRecDepth 100000
set_option maxHeartbeats 80000000

theorem xtick_any (S : List Nat) (w : World) (L : LN) (h : XAt S w L) (hS : ∀ g ∈ S, g < w.heap.size) (hl : XLe L.era) (i : Int) :
 Calls Tryz.prog 29 #[L.v, .int .i64 i] w (EndX S w (xTickO L.era i) (xErrD L.era i)) := by
 obtain ⟨As, At, Al, n, m, l, cs, ct, cl, hsh⟩ := h.rd.shp
 have h8 : n ≤ 8 := by have := hl.s8; rw [lens_era.1, hsh.n] at this; exact this
 have h256 : m ≤ 256 := by have := hl.tx; rw [lens_era.2.1, hsh.m] at this; exact this
 have hml : l ≤ 1024 := by have := hl.ml; rw [lens_era.2.2, hsh.l] at this; exact this
 have HSH := Lib.hid hsh
 have HA := Lib.hid h
 have HS0 := Lib.hid hS
 have HL := Lib.hid hl
 rw [hsh.v]
 obtain ⟨M, hM⟩ : ∃ M, EndX S w (xTickO L.era i) (xErrD L.era i) = M := ⟨_, rfl⟩
 rw [hM]
 have HM := Lib.hid hM
 clear h hS hl hsh hM
 go_enter Tryz.func29, Tryz.ntmps29
 go_upto_region 1 with fail
 generalize hW1 : World.alloc (World.alloc w _) _ = w1
 obtain ⟨g, hg⟩ : ∃ g, w.heap.size = g := ⟨_, rfl⟩
 obtain ⟨hg1, k1, k2, hs1⟩ := box33 hg hW1
 have HG := Lib.hid hg1
 have HS := Lib.hid hg
 have HS1 := Lib.hid hs1
 have HK1 := Lib.hid k1
 have HK2 := Lib.hid k2
 have b0 := k1.cell 0
 have b1 := k1.cell 1
 have b2 := k1.cell 2
 simp only [List.getElem?_toArray, List.getElem?_cons_succ, List.getElem?_cons_zero] at b0 b1 b2
 have f0 := k2.free 0
 have f1 := k2.free 1
 have f2 := k2.free 2
 have d0 := k2.cell 0
 have d1 := k2.cell 1
 have d2 := k2.cell 2
 simp only [List.getElem?_toArray, List.getElem?_cons_succ, List.getElem?_cons_zero] at d0 d1 d2
 rw [hg]
 clear hg1 hW1 hg k1 k2 hs1
 by_cases hi : 0 ≤ i ∧ i < (n : Int)
 ·obtain ⟨a, rfl⟩ : ∃ a : Nat, i = (a : Int) := ⟨i.toNat, by omega⟩
  have ha : a < n := by omega
  obtain ⟨s0, hs0⟩ := site_at (L := L) a (by rw [HSH.out.n]; exact ha)
  have hEd := xErrD_of HSH.out hs0
  have hEu := xErrU_of HSH.out hs0
  have HE := Lib.hid (And.intro hEd hEu)
  have HS00 := Lib.hid hs0
  have HSITE : Hid (∀ W, Calls Tryz.prog 58 #[.agg #[.slice As n cs, .slice At m ct, .slice Al l cl], .int .i64 (a : Int)] W fun e w' => e = .returned (.bool true) ∧ Gr W w') := Lib.hid (fun W => by
   have := xsite_any As n cs (.slice At m ct) (.slice Al l cl) (a : Int) W
   rw [decide_eq_true (by omega)] at this
   exact this)
  obtain ⟨b, off, c', hsv, -, -, c1, -⟩ := (HA.out.gr HG.out).rd.site3 hs0
  rw [HSH.out.sv, HSH.out.n] at hsv
  injection hsv with hAs _ hcc
  subst hAs
  subst hcc
  obtain ⟨dn, hdn⟩ : ∃ dn, s0.down = dn := ⟨_, rfl⟩
  rw [hdn] at c1
  have HDN := Lib.hid hdn
  have hai : (a : Int) < (n : Int) := by omega
  have ha0 : (0 : Int) ≤ (a : Int) := by omega
  clear hs0 hEd hEu hdn hi
  go_wp2_with fail
  refine (HSITE.out _).mono ?_
  rintro e w2 ⟨rfl, hg2⟩
  have HG2 := Lib.hid (HG.out.trans hg2)
  have HK12 := Lib.hid (HK1.out.keep hg2)
  have HK22 := Lib.hid (HK2.out.keep hg2)
  replace c1 := hg2.keep c1
  clear b0 b1 b2 f0 f1 f2 d0 d1 d2 hg2
  have b0 := HK12.out.cell 0
  have b1 := HK12.out.cell 1
  have b2 := HK12.out.cell 2
  simp only [List.getElem?_toArray, List.getElem?_cons_succ, List.getElem?_cons_zero] at b0 b1 b2
  cases dn with
  | true =>
    have HX : Hid (xTickO L.era (a : Int) = L.era ∧ xErrD L.era (a : Int) = 7) := Lib.hid (by
     have e : xErrD L.era (a : Int) = 7 := by first | exact HOUT.out.1 | (rw [HE.out.1, HDN.out]; rfl)
     exact ⟨by unfold xTickO; rw [e]; rfl, e⟩)
    have f0 := HK22.out.free 0
    have f1 := HK22.out.free 1
    have f2 := HK22.out.free 2
    have d0 := HK22.out.cell 0
    have d1 := HK22.out.cell 1
    have d2 := HK22.out.cell 2
    simp only [List.getElem?_toArray, List.getElem?_cons_succ, List.getElem?_cons_zero] at d0 d1 d2
    go_wp2_with fail
    generalize hW : World.setCell (World.setCell (World.setCell w2 _ _) _ _) _ _ = W
    obtain ⟨kW, cW⟩ := put33 (HK22.out) hW
    have u0 := kW.cell 0
    have u1 := kW.cell 1
    have u2 := kW.cell 2
    refine bodyPost_ret (v := .tuple #[.agg #[.slice (some ⟨b, off, none⟩) n cs, .slice At m ct, .slice Al l cl], .int .i64 7]) ?_ ?_ ?_
    ·simp [results, Tryz.results29, go_sem, u0, u1, u2]
    ·rfl
    ·rw [← HM.out, HX.out.1, HX.out.2]
     exact EndX.err HA.out (cW.up (HG2.out) (fun t ht => by have := HS.out; simp at ht; omega)) rfl HSH.out
  | false =>
    have HX : Hid (xTickO L.era (a : Int) = xTik L.era (a : Int) ∧ xErrD L.era (a : Int) = 0) := Lib.hid (by
     have e : xErrD L.era (a : Int) = 0 := by rw [HE.out.1, HDN.out]; rfl
     exact ⟨by unfold xTickO; rw [e, if_pos rfl], e⟩)
    go_wp2_with fail
    refine (xcopyV HA.out (HG2.out) HL.out HSH.out).mono ?_
    rintro e w3 ⟨L3, rfl, hc1, hc2, HERA3, hc3⟩
    have HGO3 := Lib.hid (Out5.start ⟨hc1, hc2, hc3⟩ (by have := HS.out; omega) (HK22.out))
    replace HERA3 := Lib.hid HERA3
    have HGC3 := Lib.hid hc3
    have HYG3 := Lib.hid hc2
    obtain ⟨As3, At3, Al3, n3, m3, l3, cs3, ct3, cl3, HSH3⟩ := hc1.rd0.shp
    replace HSH3 := Lib.hid HSH3
    rw [HSH3.out.v]
    have HB3 : Hid (Blk w3 g 33 #[.slice (some ⟨b, off, none⟩) n cs, .slice At m ct, .slice Al l cl] ∧ g ∉ blkR L3.rows) := Lib.hid ⟨(HK12.out).keep hc3, fun hm => by have := hc2 g hm; have := (HK12.out).lt; omega⟩
    have HN3 : Hid (n3 = n ∧ m3 = m ∧ l3 = l) := Lib.hid (by
     have e := HERA3.out
     refine ⟨?_, ?_, ?_⟩
     ·have := congrArg (fun X => X.sites.length) e
      simp only [lens_era.1] at this
      rw [HSH3.out.n, HSH.out.n] at this
      exact this
     ·have := congrArg (fun X => X.txs.length) e
      simp only [lens_era.2.1] at this
      rw [HSH3.out.m, HSH.out.m] at this
      exact this
     ·have := congrArg (fun X => X.mail.length) e
      simp only [lens_era.2.2] at this
      rw [HSH3.out.l, HSH.out.l] at this
      exact this)
    clear hc1 hc2 hc3
    clear c1
    have f0 := HB3.out.1.free 0
    have f1 := HB3.out.1.free 1
    have f2 := HB3.out.1.free 2
    have d0 := HB3.out.1.cell 0
    have d1 := HB3.out.1.cell 1
    have d2 := HB3.out.1.cell 2
    simp only [List.getElem?_toArray, List.getElem?_cons_succ, List.getElem?_cons_zero] at d0 d1 d2
    go_upto_region 6 with fail
    generalize hWn : World.setCell (World.setCell (World.setCell w3 _ _) _ _) _ _ = w4
    obtain ⟨kb, cb⟩ := put33 HB3.out.1 hWn
    have HGO4 := Lib.hid (HGO3.out.side cb (fun t ht => by rw [List.mem_singleton.1 ht]; exact ⟨by have := HS.out; omega, HB3.out.2, by omega, _, _, HB3.out.1, by decide⟩))
    have HB4 : Hid (Blk w4 g 33 #[.slice As3 n3 cs3, .slice At3 m3 ct3, .slice Al3 l3 cl3] ∧ g ∉ blkR L3.rows) := Lib.hid ⟨kb, HB3.out.2⟩
    have HCB4 := Lib.hid cb
    have b0 := kb.cell 0
    have b1 := kb.cell 1
    have b2 := kb.cell 2
    simp only [List.getElem?_toArray, List.getElem?_cons_succ, List.getElem?_cons_zero] at b0 b1 b2
    clear f0 f1 f2 d0 d1 d2 hWn kb cb
    have hLN3 : Hid (L3.sites.length = n ∧ L3.txs.length = m) := Lib.hid (by rw [HSH3.out.n, HSH3.out.m]; exact ⟨HN3.out.1, HN3.out.2.1⟩)
    clear b0 b1 b2
    go_wp2_with fail
    go_loopw [6] (fun z wr => ∃ (j : Nat) (Lj : LN), j ≤ m ∧ z = .int .i64 ((j : Int) + 1) ∧ Hid (Out5 S w (g + 1) Lj wr) ∧ Hid (Blk wr g 33 #[Lj.sv, Lj.tv, Lj.lv] ∧ g ∉ blkR Lj.rows) ∧ Hid (XLe Lj.era) ∧ Hid (Lj.sites.length = n ∧ Lj.txs.length = m) ∧ Hid (Lj.era = (tik1 L.era (a : Int) j).foldl xSend L.era)) (fun z _ => m + 1 - (intOf z).toNat)
    case atStart => exact ⟨0, L3, Nat.zero_le _, rfl, HGO4, Lib.hid (by rw [HSH3.out.sv, HSH3.out.tv, HSH3.out.lv]; exact HB4.out), Lib.hid (by rw [HERA3.out]; exact HL.out), hLN3, Lib.hid (by rw [HERA3.out]; rfl)⟩
    case round =>
     obtain ⟨j, Lj, hj, rfl, HGOj, HBj, HLEj, HLNj, HERAj⟩ := hrel
     obtain ⟨As5, At5, Al5, n5, m5, l5, cs5, ct5, cl5, hsh5⟩ := HGOj.out.ow.rd0.shp
     have hbj := HBj.out.1
     rw [hsh5.sv, hsh5.tv, hsh5.lv] at hbj
     have hnn : n = n5 := by rw [← hsh5.n]; exact HLNj.out.1.symm
     have hmm : m = m5 := by rw [← hsh5.m]; exact HLNj.out.2.symm
     rw [← hnn, ← hmm] at hsh5 hbj
     have HSH5 := Lib.hid hsh5
     have HB5 : Hid (Blk wr g 33 #[.slice As5 n cs5, .slice At5 m ct5, .slice Al5 l5 cl5] ∧ g ∉ blkR Lj.rows) := Lib.hid ⟨hbj, HBj.out.2⟩
     clear hbj hsh5 hnn hmm
     have b0 := HB5.out.1.cell 0
     have b1 := HB5.out.1.cell 1
     have b2 := HB5.out.1.cell 2
     simp only [List.getElem?_toArray, List.getElem?_cons_succ, List.getElem?_cons_zero] at b0 b1 b2
     by_cases hlt : j < m
     ·have hji : (j : Int) < (m : Int) := by omega
      obtain ⟨st, hst⟩ : ∃ st, xState Lj.era (a : Int) ((j : Int) + 1) = st := ⟨_, rfl⟩
      have HSTA : Hid (Calls Tryz.prog 61 #[.agg #[.slice As5 n cs5, .slice At5 m ct5, .slice Al5 l5 cl5], .int .i64 (a : Int), .int .i64 ((j : Int) + 1)] wr fun e w' => e = .returned (.int .i64 st) ∧ Gr wr w') := Lib.hid (by
       have := xstateV HGOj.out.ow.rd0 HLEj.out HSH5.out (a : Int) j hlt
       rw [hst] at this
       exact this)
      have HST := Lib.hid hst
      clear hst
      go_wp2_with fail
      refine HSTA.out.mono ?_
      rintro e w6 ⟨rfl, hg6⟩
      have HGO6 := Lib.hid (HGOj.out.keep hg6)
      have HB6 : Hid (Blk w6 g _ _ ∧ g ∉ blkR Lj.rows) := Lib.hid ⟨HB5.out.1.keep hg6, HB5.out.2⟩
      clear b0 b1 b2 hg6
      have b0 := HB6.out.1.cell 0
      have b1 := HB6.out.1.cell 1
      have b2 := HB6.out.1.cell 2
      simp only [List.getElem?_toArray, List.getElem?_cons_succ, List.getElem?_cons_zero] at b0 b1 b2
      by_cases hs1 : st = 1
      ·subst hs1
       have HS9 : Hid (xState L.era (a : Int) ((j : Int) + 1) = 1) := Lib.hid (by rw [← (fold_at (X := L.era) (tik1 L.era (a : Int) j) (a : Int) ((j : Int) + 1)).1, ← HERAj.out]; exact HST.out)
       go_wp2_with fail
       refine (xtellV HGO6.out.ow HLEj.out HSH5.out (a : Int) 1 (-1) true j hlt).mono ?_
       intro e w8 hst
       obtain ⟨L8, rfl, HGO8, HERA8, HFR8⟩ := HGO6.out.step hst
       replace HGO8 := Lib.hid HGO8
       replace HERA8 := Lib.hid HERA8
       replace HFR8 := Lib.hid HFR8
       obtain ⟨As8, At8, Al8, n8, m8, l8, cs8, ct8, cl8, HSH8⟩ := HGO8.out.ow.rd0.shp
       replace HSH8 := Lib.hid HSH8
       rw [HSH8.out.v]
       clear hst
       have HB8 := Lib.hid (HFR8.out.stay HB6.out.1 HB6.out.2)
       have HE9 : Hid (L8.era = (tik1 L.era (a : Int) (j + 1)).foldl xSend L.era) := Lib.hid (by rw [HERA8.out, HERAj.out, tell_fold, tik1_succ, if_pos HS9.out])
       have HLN8 : Hid (L8.sites.length = n ∧ L8.txs.length = m) := Lib.hid (by have := len_of (L := L) HE9.out (fold_len _); rw [this.1, this.2, HSH.out.n, HSH.out.m]; exact ⟨rfl, rfl⟩)
       clear b0 b1 b2
       have f0 := HB8.out.1.free 0
       have f1 := HB8.out.1.free 1
       have f2 := HB8.out.1.free 2
       have d0 := HB8.out.1.cell 0
       have d1 := HB8.out.1.cell 1
       have d2 := HB8.out.1.cell 2
       simp only [List.getElem?_toArray, List.getElem?_cons_succ, List.getElem?_cons_zero] at d0 d1 d2
       go_wp2_with fail
       generalize hWn : World.setCell (World.setCell (World.setCell w8 _ _) _ _) _ _ = w9
       obtain ⟨kb, cb⟩ := put33 HB8.out.1 hWn
       have HGO9 := Lib.hid (HGO8.out.side cb (fun t ht => by rw [List.mem_singleton.1 ht]; exact ⟨by have := HS.out; omega, HB8.out.2, by omega, _, _, HB8.out.1, by decide⟩))
       have HB9 : Hid (Blk w9 g 33 #[.slice As8 n8 cs8, .slice At8 m8 ct8, .slice Al8 l8 cl8] ∧ g ∉ blkR L8.rows) := Lib.hid ⟨kb, HB8.out.2⟩
       clear f0 f1 f2 d0 d1 d2 hWn kb cb
       go_roundw
       case rel => exact ⟨j + 1, L8, by omega, by go_num, HGO9, Lib.hid (by rw [HSH8.out.sv, HSH8.out.tv, HSH8.out.lv]; exact HB9.out), Lib.hid (by rw [HERA8.out]; exact HLEj.out.tell _ _ _ _ _), HLN8, HE9⟩
       case measure => simp [intOf]; omega
      ·have e1 : (st == 1) = false := by simpa using hs1
       have HS9 : Hid (¬ xState L.era (a : Int) ((j : Int) + 1) = 1) := Lib.hid (by rw [← (fold_at (X := L.era) (tik1 L.era (a : Int) j) (a : Int) ((j : Int) + 1)).1, ← HERAj.out, HST.out]; exact hs1)
       have HE9 : Hid (Lj.era = (tik1 L.era (a : Int) (j + 1)).foldl xSend L.era) := Lib.hid (by rw [HERAj.out, tik1_succ, if_neg HS9.out, List.append_nil])
       go_wp2_with fail
       go_roundw
       case rel => exact ⟨j + 1, Lj, by omega, by go_num, HGO6, Lib.hid (by rw [HSH5.out.sv, HSH5.out.tv, HSH5.out.lv]; exact HB6.out), HLEj, HLNj, HE9⟩
       case measure => simp [intOf]; omega
     ·obtain rfl : m = j := by omega
      have HGOa := HGOj
      have HBa := HBj
      have HLEa := HLEj
      have HLNa := HLNj
      have HERAa : Hid (Lj.era = (tik1 L.era (a : Int) m ++ tik2 L.era (a : Int) 0).foldl xSend L.era) := Lib.hid (by rw [HERAj.out, show tik2 L.era (a : Int) 0 = [] from rfl, List.append_nil])
      clear b0 b2
      go_wp2_with fail
      clear b1
      go_loopw [7] (fun z wr => ∃ (j : Nat) (Lj : LN), j ≤ m ∧ z = .int .i64 ((j : Int) + 1) ∧ Hid (Out5 S w (g + 1) Lj wr) ∧ Hid (Blk wr g 33 #[Lj.sv, Lj.tv, Lj.lv] ∧ g ∉ blkR Lj.rows) ∧ Hid (XLe Lj.era) ∧ Hid (Lj.sites.length = n ∧ Lj.txs.length = m) ∧ Hid (Lj.era = (tik1 L.era (a : Int) m ++ tik2 L.era (a : Int) j).foldl xSend L.era)) (fun z _ => m + 1 - (intOf z).toNat)
      case atStart => exact ⟨0, Lj, Nat.zero_le _, rfl, HGOa, HBa, HLEa, HLNa, HERAa⟩
      case round =>
       obtain ⟨j, Lj, hj, rfl, HGOj, HBj, HLEj, HLNj, HERAj⟩ := hrel
       obtain ⟨As5, At5, Al5, n5, m5, l5, cs5, ct5, cl5, hsh5⟩ := HGOj.out.ow.rd0.shp
       have hbj := HBj.out.1
       rw [hsh5.sv, hsh5.tv, hsh5.lv] at hbj
       have hnn : n = n5 := by rw [← hsh5.n]; exact HLNj.out.1.symm
       have hmm : m = m5 := by rw [← hsh5.m]; exact HLNj.out.2.symm
       rw [← hnn, ← hmm] at hsh5 hbj
       have HSH5 := Lib.hid hsh5
       have HB5 : Hid (Blk wr g 33 #[.slice As5 n cs5, .slice At5 m ct5, .slice Al5 l5 cl5] ∧ g ∉ blkR Lj.rows) := Lib.hid ⟨hbj, HBj.out.2⟩
       clear hbj hsh5 hnn hmm
       have b0 := HB5.out.1.cell 0
       have b1 := HB5.out.1.cell 1
       have b2 := HB5.out.1.cell 2
       simp only [List.getElem?_toArray, List.getElem?_cons_succ, List.getElem?_cons_zero] at b0 b1 b2
       by_cases hlt : j < m
       ·have hji : (j : Int) < (m : Int) := by omega
        obtain ⟨st, hst⟩ : ∃ st, xState Lj.era (a : Int) ((j : Int) + 1) = st := ⟨_, rfl⟩
        have HSTA : Hid (Calls Tryz.prog 61 #[.agg #[.slice As5 n cs5, .slice At5 m ct5, .slice Al5 l5 cl5], .int .i64 (a : Int), .int .i64 ((j : Int) + 1)] wr fun e w' => e = .returned (.int .i64 st) ∧ Gr wr w') := Lib.hid (by
         have := xstateV HGOj.out.ow.rd0 HLEj.out HSH5.out (a : Int) j hlt
         rw [hst] at this
         exact this)
        have HST := Lib.hid hst
        clear hst
        go_wp2_with fail
        refine HSTA.out.mono ?_
        rintro e w6 ⟨rfl, hg6⟩
        have HGO6 := Lib.hid (HGOj.out.keep hg6)
        have HB6 : Hid (Blk w6 g _ _ ∧ g ∉ blkR Lj.rows) := Lib.hid ⟨HB5.out.1.keep hg6, HB5.out.2⟩
        clear b0 b1 b2 hg6
        have b0 := HB6.out.1.cell 0
        have b1 := HB6.out.1.cell 1
        have b2 := HB6.out.1.cell 2
        simp only [List.getElem?_toArray, List.getElem?_cons_succ, List.getElem?_cons_zero] at b0 b1 b2
        by_cases hs1 : st = 2
        ·subst hs1
         have HS9 : Hid (xState L.era (a : Int) ((j : Int) + 1) = 2) := Lib.hid (by rw [← (fold_at (X := L.era) (tik1 L.era (a : Int) m ++ tik2 L.era (a : Int) j) (a : Int) ((j : Int) + 1)).1, ← HERAj.out]; exact HST.out)
         go_wp2_with fail
         refine (xtellV HGO6.out.ow HLEj.out HSH5.out (a : Int) 4 (-1) true j hlt).mono ?_
         intro e w8 hst
         obtain ⟨L8, rfl, HGO8, HERA8, HFR8⟩ := HGO6.out.step hst
         replace HGO8 := Lib.hid HGO8
         replace HERA8 := Lib.hid HERA8
         replace HFR8 := Lib.hid HFR8
         obtain ⟨As8, At8, Al8, n8, m8, l8, cs8, ct8, cl8, HSH8⟩ := HGO8.out.ow.rd0.shp
         replace HSH8 := Lib.hid HSH8
         rw [HSH8.out.v]
         clear hst
         have HB8 := Lib.hid (HFR8.out.stay HB6.out.1 HB6.out.2)
         have HE9 : Hid (L8.era = (tik1 L.era (a : Int) m ++ tik2 L.era (a : Int) (j + 1)).foldl xSend L.era) := Lib.hid (by rw [HERA8.out, HERAj.out, tell_fold, tik2_succ, if_pos HS9.out, List.append_assoc])
         have HLN8 : Hid (L8.sites.length = n ∧ L8.txs.length = m) := Lib.hid (by have := len_of (L := L) HE9.out (fold_len _); rw [this.1, this.2, HSH.out.n, HSH.out.m]; exact ⟨rfl, rfl⟩)
         clear b0 b1 b2
         have f0 := HB8.out.1.free 0
         have f1 := HB8.out.1.free 1
         have f2 := HB8.out.1.free 2
         have d0 := HB8.out.1.cell 0
         have d1 := HB8.out.1.cell 1
         have d2 := HB8.out.1.cell 2
         simp only [List.getElem?_toArray, List.getElem?_cons_succ, List.getElem?_cons_zero] at d0 d1 d2
         go_wp2_with fail
         generalize hWn : World.setCell (World.setCell (World.setCell w8 _ _) _ _) _ _ = w9
         obtain ⟨kb, cb⟩ := put33 HB8.out.1 hWn
         have HGO9 := Lib.hid (HGO8.out.side cb (fun t ht => by rw [List.mem_singleton.1 ht]; exact ⟨by have := HS.out; omega, HB8.out.2, by omega, _, _, HB8.out.1, by decide⟩))
         have HB9 : Hid (Blk w9 g 33 #[.slice As8 n8 cs8, .slice At8 m8 ct8, .slice Al8 l8 cl8] ∧ g ∉ blkR L8.rows) := Lib.hid ⟨kb, HB8.out.2⟩
         clear f0 f1 f2 d0 d1 d2 hWn kb cb
         go_roundw
         case rel => exact ⟨j + 1, L8, by omega, by go_num, HGO9, Lib.hid (by rw [HSH8.out.sv, HSH8.out.tv, HSH8.out.lv]; exact HB9.out), Lib.hid (by rw [HERA8.out]; exact HLEj.out.tell _ _ _ _ _), HLN8, HE9⟩
         case measure => simp [intOf]; omega
        ·have e1 : (st == 2) = false := by simpa using hs1
         have HS9 : Hid (¬ xState L.era (a : Int) ((j : Int) + 1) = 2) := Lib.hid (by rw [← (fold_at (X := L.era) (tik1 L.era (a : Int) m ++ tik2 L.era (a : Int) j) (a : Int) ((j : Int) + 1)).1, ← HERAj.out, HST.out]; exact hs1)
         have HE9 : Hid (Lj.era = (tik1 L.era (a : Int) m ++ tik2 L.era (a : Int) (j + 1)).foldl xSend L.era) := Lib.hid (by rw [HERAj.out, tik2_succ, if_neg HS9.out, List.append_nil])
         go_wp2_with fail
         go_roundw
         case rel => exact ⟨j + 1, Lj, by omega, by go_num, HGO6, Lib.hid (by rw [HSH5.out.sv, HSH5.out.tv, HSH5.out.lv]; exact HB6.out), HLEj, HLNj, HE9⟩
         case measure => simp [intOf]; omega
       ·obtain rfl : m = j := by omega
        have HGOb := HGOj
        have HBb := HBj
        have HLEb := HLEj
        have HLNb := HLNj
        have HERAb : Hid (Lj.era = (tik1 L.era (a : Int) m ++ tik2 L.era (a : Int) m ++ tik3 L.era (a : Int) 0).foldl xSend L.era) := Lib.hid (by rw [HERAj.out, show tik3 L.era (a : Int) 0 = [] from rfl, List.append_nil])
        clear b0 b2
        go_wp2_with fail
        clear b1
        go_loopw [8] (fun z wr => ∃ (j : Nat) (Lj : LN), j ≤ m ∧ z = .int .i64 ((j : Int) + 1) ∧ Hid (Out5 S w (g + 1) Lj wr) ∧ Hid (Blk wr g 33 #[Lj.sv, Lj.tv, Lj.lv] ∧ g ∉ blkR Lj.rows) ∧ Hid (XLe Lj.era) ∧ Hid (Lj.sites.length = n ∧ Lj.txs.length = m) ∧ Hid (Lj.era = (tik1 L.era (a : Int) m ++ tik2 L.era (a : Int) m ++ tik3 L.era (a : Int) j).foldl xSend L.era)) (fun z _ => m + 1 - (intOf z).toNat)
        case atStart => exact ⟨0, Lj, Nat.zero_le _, rfl, HGOb, HBb, HLEb, HLNb, HERAb⟩
        case round =>
         obtain ⟨j, Lj, hj, rfl, HGOj, HBj, HLEj, HLNj, HERAj⟩ := hrel
         obtain ⟨As5, At5, Al5, n5, m5, l5, cs5, ct5, cl5, hsh5⟩ := HGOj.out.ow.rd0.shp
         have hbj := HBj.out.1
         rw [hsh5.sv, hsh5.tv, hsh5.lv] at hbj
         have hnn : n = n5 := by rw [← hsh5.n]; exact HLNj.out.1.symm
         have hmm : m = m5 := by rw [← hsh5.m]; exact HLNj.out.2.symm
         rw [← hnn, ← hmm] at hsh5 hbj
         have HSH5 := Lib.hid hsh5
         have HB5 : Hid (Blk wr g 33 #[.slice As5 n cs5, .slice At5 m ct5, .slice Al5 l5 cl5] ∧ g ∉ blkR Lj.rows) := Lib.hid ⟨hbj, HBj.out.2⟩
         clear hbj hsh5 hnn hmm
         have b0 := HB5.out.1.cell 0
         have b1 := HB5.out.1.cell 1
         have b2 := HB5.out.1.cell 2
         simp only [List.getElem?_toArray, List.getElem?_cons_succ, List.getElem?_cons_zero] at b0 b1 b2
         by_cases hlt : j < m
         ·have hji : (j : Int) < (m : Int) := by omega
          have hj0 : (0 : Int) ≤ (j : Int) := by omega
          obtain ⟨s, hs⟩ := site_at (L := Lj) a (by rw [HSH5.out.n]; exact ha)
          have hmn : s.minds.length = m := by rw [HLEj.out.minds hs]; exact HSH5.out.m
          obtain ⟨gs, cc, hsv, hcs⟩ := HGOj.out.ow.cellsS hs
          rw [HSH5.out.sv, HSH5.out.n] at hsv
          injection hsv with hAs5 _ hcc5
          subst hAs5
          subst hcc5
          obtain ⟨gm, cm, hmv, hcm⟩ := HGOj.out.ow.cellsM hs (by omega)
          rw [hmn] at hmv
          obtain ⟨-, -, c2⟩ := hcs wr HGOj.out.ow
          rw [hmv] at c2
          obtain ⟨o0, o1, o2⟩ := hcm wr HGOj.out.ow j (by omega)
          have hxm := xMindAt_era (k := j) hs
          obtain ⟨own, how⟩ : ∃ own, s.minds.getD j (0, (0, 0)) = own := ⟨_, rfl⟩
          rw [how] at o0 o1 o2 hxm
          have HXM : Hid (xMindAt L.era (a : Int) ((j : Int) + 1) = own) := Lib.hid (by rw [← (fold_at (X := L.era) (tik1 L.era (a : Int) m ++ tik2 L.era (a : Int) m ++ tik3 L.era (a : Int) j) (a : Int) ((j : Int) + 1)).2.2, ← HERAj.out]; exact hxm)
          obtain ⟨ow1, ow2, ow3⟩ := own
          dsimp only at o0 o1 o2
          have hal := (Gr.refl wr).alloc (.cells #[.int .i64 0, .int .i64 0, .int .i64 0] 102)
          clear hs hmn hcs hmv hcm hxm how
          go_upto_region 20 with fail
          generalize hW6 : World.alloc wr _ = w6
          obtain ⟨gq, hgq⟩ : ∃ gq, wr.heap.size = gq := ⟨_, rfl⟩
          have kq : Blk w6 gq 102 #[.int .i64 ow1, .int .i64 ow2, .int .i64 ow3] := by rw [← hW6]; exact Blk.new _ _ _ hgq
          have hg6 : Gr wr w6 := by rw [← hW6]; exact (Gr.refl wr).alloc _
          have HGO6 := Lib.hid (HGOj.out.keep hg6)
          have HB6 : Hid (Blk w6 g _ _ ∧ g ∉ blkR Lj.rows) := Lib.hid ⟨HB5.out.1.keep hg6, HB5.out.2⟩
          rw [hgq]
          have q0 := kq.cell 0
          have q1 := kq.cell 1
          simp only [List.getElem?_toArray, List.getElem?_cons_succ, List.getElem?_cons_zero] at q0 q1
          clear b0 b1 b2 c2 o0 o1 o2 hal hW6 hgq kq hg6
          have b0 := HB6.out.1.cell 0
          have b1 := HB6.out.1.cell 1
          have b2 := HB6.out.1.cell 2
          simp only [List.getElem?_toArray, List.getElem?_cons_succ, List.getElem?_cons_zero] at b0 b1 b2
          by_cases hs1 : ow1 = 1
          ·subst hs1
           go_wp2_with fail
           refine (xsendV HGO6.out.ow HLEj.out HSH5.out (a : Int) ow2 7 ((j : Int) + 1) 0).mono ?_
           intro e w8 hst
           obtain ⟨L8, rfl, HGO8, HERA8, HFR8⟩ := HGO6.out.step hst
           replace HGO8 := Lib.hid HGO8
           replace HERA8 := Lib.hid HERA8
           replace HFR8 := Lib.hid HFR8
           obtain ⟨As8, At8, Al8, n8, m8, l8, cs8, ct8, cl8, HSH8⟩ := HGO8.out.ow.rd0.shp
           replace HSH8 := Lib.hid HSH8
           rw [HSH8.out.v]
           clear hst
           have HB8 := Lib.hid (HFR8.out.stay HB6.out.1 HB6.out.2)
           have HE9 : Hid (L8.era = (tik1 L.era (a : Int) m ++ tik2 L.era (a : Int) m ++ tik3 L.era (a : Int) (j + 1)).foldl xSend L.era) := Lib.hid (by rw [HERA8.out, HERAj.out, send_fold, tik3_succ, HXM.out, if_pos rfl, List.append_assoc])
           have HLN8 : Hid (L8.sites.length = n ∧ L8.txs.length = m) := Lib.hid (by have := len_of (L := L) HE9.out (fold_len _); rw [this.1, this.2, HSH.out.n, HSH.out.m]; exact ⟨rfl, rfl⟩)
           clear b0 b1 b2 q0 q1
           have f0 := HB8.out.1.free 0
           have f1 := HB8.out.1.free 1
           have f2 := HB8.out.1.free 2
           have d0 := HB8.out.1.cell 0
           have d1 := HB8.out.1.cell 1
           have d2 := HB8.out.1.cell 2
           simp only [List.getElem?_toArray, List.getElem?_cons_succ, List.getElem?_cons_zero] at d0 d1 d2
           go_wp2_with fail
           generalize hWn : World.setCell (World.setCell (World.setCell w8 _ _) _ _) _ _ = w9
           obtain ⟨kb, cb⟩ := put33 HB8.out.1 hWn
           have HGO9 := Lib.hid (HGO8.out.side cb (fun t ht => by rw [List.mem_singleton.1 ht]; exact ⟨by have := HS.out; omega, HB8.out.2, by omega, _, _, HB8.out.1, by decide⟩))
           have HB9 : Hid (Blk w9 g 33 #[.slice As8 n8 cs8, .slice At8 m8 ct8, .slice Al8 l8 cl8] ∧ g ∉ blkR L8.rows) := Lib.hid ⟨kb, HB8.out.2⟩
           clear f0 f1 f2 d0 d1 d2 hWn kb cb
           go_roundw
           case rel => exact ⟨j + 1, L8, by omega, by go_num, HGO9, Lib.hid (by rw [HSH8.out.sv, HSH8.out.tv, HSH8.out.lv]; exact HB9.out), Lib.hid (by rw [HERA8.out]; exact HLEj.out.send _), HLN8, HE9⟩
           case measure => simp [intOf]; omega
          ·have e1 : (ow1 == 1) = false := by simpa using hs1
           have HE9 : Hid (Lj.era = (tik1 L.era (a : Int) m ++ tik2 L.era (a : Int) m ++ tik3 L.era (a : Int) (j + 1)).foldl xSend L.era) := Lib.hid (by rw [HERAj.out, tik3_succ, HXM.out, if_neg hs1, List.append_nil])
           go_wp2_with fail
           go_roundw
           case rel => exact ⟨j + 1, Lj, by omega, by go_num, HGO6, Lib.hid (by rw [HSH5.out.sv, HSH5.out.tv, HSH5.out.lv]; exact HB6.out), HLEj, HLNj, HE9⟩
           case measure => simp [intOf]; omega
         ·obtain rfl : m = j := by omega
          have hmx : L.era.txs.length = m := by rw [lens_era.2.1, HSH.out.m]
          have HMX := Lib.hid hmx
          clear hmx
          have f0 := HGOj.out.b2.free 0
          have f1 := HGOj.out.b2.free 1
          have f2 := HGOj.out.b2.free 2
          have d0 := HGOj.out.b2.cell 0
          have d1 := HGOj.out.b2.cell 1
          have d2 := HGOj.out.b2.cell 2
          simp only [List.getElem?_toArray, List.getElem?_cons_succ, List.getElem?_cons_zero] at d0 d1 d2
          go_wp2_with fail
          generalize hW : World.setCell (World.setCell (World.setCell wr _ _) _ _) _ _ = W
          obtain ⟨kW, -⟩ := put33 HGOj.out.b2 hW
          have u0 := kW.cell 0
          have u1 := kW.cell 1
          have u2 := kW.cell 2
          refine bodyPost_ret (v := .tuple #[.agg #[.slice As5 n cs5, .slice At5 m ct5, .slice Al5 l5 cl5], .int .i64 0]) ?_ ?_ ?_
          ·simp [results, Tryz.results29, go_sem, u0, u1, u2]
          ·rfl
          ·rw [← HM.out, HX.out.1, HX.out.2]
           exact HGOj.out.done HS0.out (by rw [HERAj.out, xTik_eq, HMX.out]) HSH5.out hW
 ·have HSITE : Hid (∀ W, Calls Tryz.prog 58 #[.agg #[.slice As n cs, .slice At m ct, .slice Al l cl], .int .i64 i] W fun e w' => e = .returned (.bool false) ∧ Gr W w') := Lib.hid (fun W => by
   have := xsite_any As n cs (.slice At m ct) (.slice Al l cl) i W
   rw [decide_eq_false hi] at this
   exact this)
  have HOUT := Lib.hid (xErr_out HSH.out hi)
  clear hi f0 f1 f2 d0 d1 d2
  go_wp2_with fail
  refine (HSITE.out _).mono ?_
  rintro e w2 ⟨rfl, hg2⟩
  have HG2 := Lib.hid (HG.out.trans hg2)
  have HK12 := Lib.hid (HK1.out.keep hg2)
  have HK22 := Lib.hid (HK2.out.keep hg2)
  clear b0 b1 b2 hg2
  have b0 := HK12.out.cell 0
  have b1 := HK12.out.cell 1
  have b2 := HK12.out.cell 2
  simp only [List.getElem?_toArray, List.getElem?_cons_succ, List.getElem?_cons_zero] at b0 b1 b2
  have HX : Hid (xTickO L.era i = L.era ∧ xErrD L.era i = 3) := Lib.hid (by
   have e : xErrD L.era i = 3 := by first | exact HOUT.out.1 | (rw [HE.out.1, HDN.out]; rfl)
   exact ⟨by unfold xTickO; rw [e]; rfl, e⟩)
  have f0 := HK22.out.free 0
  have f1 := HK22.out.free 1
  have f2 := HK22.out.free 2
  have d0 := HK22.out.cell 0
  have d1 := HK22.out.cell 1
  have d2 := HK22.out.cell 2
  simp only [List.getElem?_toArray, List.getElem?_cons_succ, List.getElem?_cons_zero] at d0 d1 d2
  go_wp2_with fail
  generalize hW : World.setCell (World.setCell (World.setCell w2 _ _) _ _) _ _ = W
  obtain ⟨kW, cW⟩ := put33 (HK22.out) hW
  have u0 := kW.cell 0
  have u1 := kW.cell 1
  have u2 := kW.cell 2
  refine bodyPost_ret (v := .tuple #[.agg #[.slice As n cs, .slice At m ct, .slice Al l cl], .int .i64 3]) ?_ ?_ ?_
  ·simp [results, Tryz.results29, go_sem, u0, u1, u2]
  ·rfl
  ·rw [← HM.out, HX.out.1, HX.out.2]
   exact EndX.err HA.out (cW.up (HG2.out) (fun t ht => by have := HS.out; simp at ht; omega)) rfl HSH.out

end Go.Proofs.YtnoeiocbmhkmeaaGreat
