/- Layer 5: the reference starts, crashes, cancels and ticks. -/
import Derived.Test.YtnoeiocbmhkmeaaGreatBu33
import Derived.Test.YtnoeiocbmhkmeaaGreatBu34
namespace Go.Proofs.YtnoeiocbmhkmeaaGreat
open Go.RowKit
set_option linter.unusedSimpArgs false
set_option maxRecDepth 100000
set_option maxHeartbeats 80000000

theorem xstart_any (S : List Nat) (w : World) (L : LN) (h : XAt S w L) (hS : ∀ g ∈ S, g < w.heap.size) (hl : XLe L.era) (i : Int) :
 Calls Tryz.prog 37 #[L.v, .int .i64 i] w (EndX S w (xStartO L.era i) (xErrU L.era i)) := by
 obtain ⟨As, At, Al, n, m, l, cs, ct, cl, hsh⟩ := h.rd.shp
 have h8 : n ≤ 8 := by have := hl.s8; rw [lens_era.1, hsh.n] at this; exact this
 have h256 : m ≤ 256 := by have := hl.tx; rw [lens_era.2.1, hsh.m] at this; exact this
 have hml : l ≤ 1024 := by have := hl.ml; rw [lens_era.2.2, hsh.l] at this; exact this
 have HSH := Lib.hid hsh
 have HA := Lib.hid h
 have HS0 := Lib.hid hS
 have HL := Lib.hid hl
 rw [hsh.v]
 obtain ⟨M, hM⟩ : ∃ M, EndX S w (xStartO L.era i) (xErrU L.era i) = M := ⟨_, rfl⟩
 rw [hM]
 have HM := Lib.hid hM
 clear h hS hl hsh hM
 go_enter Tryz.func37, Tryz.ntmps37
 go_upto_region 1 with fail
 generalize hW1 : World.alloc (World.alloc w _) _ = w1
 obtain ⟨g, hg⟩ : ∃ g, w.heap.size = g := ⟨_, rfl⟩
 obtain ⟨hg1, k1, k2, hs1⟩ := box33 hg hW1
 have HG := Lib.hid hg1
 have HS := Lib.hid hg
 have HS1 := Lib.hid hs1
 have HK1 := Lib.hid k1
 have HK2 := Lib.hid k2
 have b0 := k1.cell 0
 have b1 := k1.cell 1
 have b2 := k1.cell 2
 simp only [List.getElem?_toArray, List.getElem?_cons_succ, List.getElem?_cons_zero] at b0 b1 b2
 have f0 := k2.free 0
 have f1 := k2.free 1
 have f2 := k2.free 2
 have d0 := k2.cell 0
 have d1 := k2.cell 1
 have d2 := k2.cell 2
 simp only [List.getElem?_toArray, List.getElem?_cons_succ, List.getElem?_cons_zero] at d0 d1 d2
 rw [hg]
 clear hg1 hW1 hg k1 k2 hs1
 by_cases hi : 0 ≤ i ∧ i < (n : Int)
 ·obtain ⟨a, rfl⟩ : ∃ a : Nat, i = (a : Int) := ⟨i.toNat, by omega⟩
  have ha : a < n := by omega
  obtain ⟨s0, hs0⟩ := site_at (L := L) a (by rw [HSH.out.n]; exact ha)
  have hEd := xErrD_of HSH.out hs0
  have hEu := xErrU_of HSH.out hs0
  have HE := Lib.hid (And.intro hEd hEu)
  have HS00 := Lib.hid hs0
  have HSITE : Hid (∀ W, Calls Tryz.prog 58 #[.agg #[.slice As n cs, .slice At m ct, .slice Al l cl], .int .i64 (a : Int)] W fun e w' => e = .returned (.bool true) ∧ Gr W w') := Lib.hid (fun W => by
   have := xsite_any As n cs (.slice At m ct) (.slice Al l cl) (a : Int) W
   rw [decide_eq_true (by omega)] at this
   exact this)
  obtain ⟨b, off, c', hsv, -, -, c1, -⟩ := (HA.out.gr HG.out).rd.site3 hs0
  rw [HSH.out.sv, HSH.out.n] at hsv
  injection hsv with hAs _ hcc
  subst hAs
  subst hcc
  obtain ⟨dn, hdn⟩ : ∃ dn, s0.down = dn := ⟨_, rfl⟩
  rw [hdn] at c1
  have HDN := Lib.hid hdn
  have hai : (a : Int) < (n : Int) := by omega
  have ha0 : (0 : Int) ≤ (a : Int) := by omega
  clear hs0 hEd hEu hdn hi
  go_wp2_with fail
  refine (HSITE.out _).mono ?_
  rintro e w2 ⟨rfl, hg2⟩
  have HG2 := Lib.hid (HG.out.trans hg2)
  have HK12 := Lib.hid (HK1.out.keep hg2)
  have HK22 := Lib.hid (HK2.out.keep hg2)
  replace c1 := hg2.keep c1
  clear b0 b1 b2 f0 f1 f2 d0 d1 d2 hg2
  have b0 := HK12.out.cell 0
  have b1 := HK12.out.cell 1
  have b2 := HK12.out.cell 2
  simp only [List.getElem?_toArray, List.getElem?_cons_succ, List.getElem?_cons_zero] at b0 b1 b2
  cases dn with
  | false =>
    have HX : Hid (xStartO L.era (a : Int) = L.era ∧ xErrU L.era (a : Int) = 7) := Lib.hid (by
     have e : xErrU L.era (a : Int) = 7 := by first | exact HOUT.out.2 | (rw [HE.out.2, HDN.out]; rfl)
     exact ⟨by unfold xStartO; rw [e]; rfl, e⟩)
    have f0 := HK22.out.free 0
    have f1 := HK22.out.free 1
    have f2 := HK22.out.free 2
    have d0 := HK22.out.cell 0
    have d1 := HK22.out.cell 1
    have d2 := HK22.out.cell 2
    simp only [List.getElem?_toArray, List.getElem?_cons_succ, List.getElem?_cons_zero] at d0 d1 d2
    go_wp2_with fail
    generalize hW : World.setCell (World.setCell (World.setCell w2 _ _) _ _) _ _ = W
    obtain ⟨kW, cW⟩ := put33 (HK22.out) hW
    have u0 := kW.cell 0
    have u1 := kW.cell 1
    have u2 := kW.cell 2
    refine bodyPost_ret (v := .tuple #[.agg #[.slice (some ⟨b, off, none⟩) n cs, .slice At m ct, .slice Al l cl], .int .i64 7]) ?_ ?_ ?_
    ·simp [results, Tryz.results37, go_sem, u0, u1, u2]
    ·rfl
    ·rw [← HM.out, HX.out.1, HX.out.2]
     exact EndX.err HA.out (cW.up (HG2.out) (fun t ht => by have := HS.out; simp at ht; omega)) rfl HSH.out
  | true =>
    have HX : Hid (xStartO L.era (a : Int) = xSet L.era (a : Int) false ∧ xErrU L.era (a : Int) = 0) := Lib.hid (by
     have e : xErrU L.era (a : Int) = 0 := by rw [HE.out.2, HDN.out]; rfl
     exact ⟨by unfold xStartO; rw [e, if_pos rfl], e⟩)
    go_wp2_with fail
    refine (xcopyV HA.out (HG2.out) HL.out HSH.out).mono ?_
    rintro e w3 ⟨L3, rfl, hc1, hc2, HERA3, hc3⟩
    have HGO3 := Lib.hid (Out5.start ⟨hc1, hc2, hc3⟩ (by have := HS.out; omega) (HK22.out))
    replace HERA3 := Lib.hid HERA3
    have HGC3 := Lib.hid hc3
    have HYG3 := Lib.hid hc2
    obtain ⟨As3, At3, Al3, n3, m3, l3, cs3, ct3, cl3, HSH3⟩ := hc1.rd0.shp
    replace HSH3 := Lib.hid HSH3
    rw [HSH3.out.v]
    have HB3 : Hid (Blk w3 g 33 #[.slice (some ⟨b, off, none⟩) n cs, .slice At m ct, .slice Al l cl] ∧ g ∉ blkR L3.rows) := Lib.hid ⟨(HK12.out).keep hc3, fun hm => by have := hc2 g hm; have := (HK12.out).lt; omega⟩
    have HN3 : Hid (n3 = n ∧ m3 = m ∧ l3 = l) := Lib.hid (by
     have e := HERA3.out
     refine ⟨?_, ?_, ?_⟩
     ·have := congrArg (fun X => X.sites.length) e
      simp only [lens_era.1] at this
      rw [HSH3.out.n, HSH.out.n] at this
      exact this
     ·have := congrArg (fun X => X.txs.length) e
      simp only [lens_era.2.1] at this
      rw [HSH3.out.m, HSH.out.m] at this
      exact this
     ·have := congrArg (fun X => X.mail.length) e
      simp only [lens_era.2.2] at this
      rw [HSH3.out.l, HSH.out.l] at this
      exact this)
    clear hc1 hc2 hc3
    clear c1
    have f0 := HB3.out.1.free 0
    have f1 := HB3.out.1.free 1
    have f2 := HB3.out.1.free 2
    have d0 := HB3.out.1.cell 0
    have d1 := HB3.out.1.cell 1
    have d2 := HB3.out.1.cell 2
    simp only [List.getElem?_toArray, List.getElem?_cons_succ, List.getElem?_cons_zero] at d0 d1 d2
    go_upto_region 6 with fail
    generalize hWn : World.setCell (World.setCell (World.setCell w3 _ _) _ _) _ _ = w4
    obtain ⟨kb, cb⟩ := put33 HB3.out.1 hWn
    have HGO4 := Lib.hid (HGO3.out.side cb (fun t ht => by rw [List.mem_singleton.1 ht]; exact ⟨by have := HS.out; omega, HB3.out.2, by omega, _, _, HB3.out.1, by decide⟩))
    have HB4 : Hid (Blk w4 g 33 #[.slice As3 n3 cs3, .slice At3 m3 ct3, .slice Al3 l3 cl3] ∧ g ∉ blkR L3.rows) := Lib.hid ⟨kb, HB3.out.2⟩
    have HCB4 := Lib.hid cb
    have b0 := kb.cell 0
    have b1 := kb.cell 1
    have b2 := kb.cell 2
    simp only [List.getElem?_toArray, List.getElem?_cons_succ, List.getElem?_cons_zero] at b0 b1 b2
    clear f0 f1 f2 d0 d1 d2 hWn kb cb
    have han3 : a < n3 := by have := HN3.out.1; omega
    obtain ⟨s, hs⟩ := site_at (L := L3) a (by rw [HSH3.out.n]; exact han3)
    obtain ⟨gs, cc, hsv, hcs⟩ := HGO4.out.ow.cellsS hs
    rw [HSH3.out.sv, HSH3.out.n] at hsv
    injection hsv with hAs _ hcc
    subst hAs
    subst hcc
    have HCS := Lib.hid hcs
    have HSI := Lib.hid hs
    obtain ⟨Am, cm, hmv, -⟩ := HGO4.out.ow.rd0.mv s (List.mem_of_getElem? hs)
    obtain ⟨qm, hqm⟩ : ∃ qm, s.minds.length = qm := ⟨_, rfl⟩
    rw [hqm] at hmv
    have HMV := Lib.hid hmv
    obtain ⟨c0, c1, c2⟩ := hcs w4 HGO4.out.ow
    rw [hmv] at c2
    have hai3 : (a : Int) < (n3 : Int) := by omega
    have hal := (Gr.refl w4).alloc (.cells #[.int .i64 0, .bool false, .slice none 0 0] 73)
    clear hs hcs hmv hqm
    go_upto_region 7 with fail
    generalize hW5 : World.alloc w4 _ = w5
    obtain ⟨gy, hgy⟩ : ∃ gy, w4.heap.size = gy := ⟨_, rfl⟩
    have ky : Blk w5 gy 73 #[.int .i64 s.stock, .bool s.down, .slice Am qm cm] := by rw [← hW5]; exact Blk.new _ _ _ hgy
    have hg5 : Gr w4 w5 := by rw [← hW5]; exact (Gr.refl w4).alloc _
    have HGY : Hid (gy ∉ blkR L3.rows ∧ g + 1 < gy) := Lib.hid ⟨HGO4.out.ow.young (by omega), by have := HGO4.out.b2.lt; omega⟩
    have HGO5 := Lib.hid (HGO4.out.keep hg5)
    have HB5 := Lib.hid (HB4.out.1.keep hg5)
    have HKY := Lib.hid ky
    rw [hgy]
    have fy := ky.free 1
    have y1 := ky.cell 1
    simp only [List.getElem?_toArray, List.getElem?_cons_succ, List.getElem?_cons_zero] at y1
    clear b0 b1 b2 c0 c1 c2 hal hW5 hgy ky hg5
    go_upto_region 8 with fail
    generalize hW6 : World.setCell w5 _ _ = w6
    have ky6 : Blk w6 gy 73 #[.int .i64 s.stock, .bool false, .slice Am qm cm] := by rw [← hW6]; exact HKY.out.put 1 _
    have hc6 : Ch [gy] w5 w6 := by rw [← hW6]; exact Ch.refl.set (p := ⟨gy, 1, none⟩) (by simp) _
    have HGO6 := Lib.hid (HGO5.out.side hc6 (fun t ht => by rw [List.mem_singleton.1 ht]; exact ⟨by have := HGY.out.2; have := HS.out; omega, HGY.out.1, by have := HGY.out.2; omega, _, _, HKY.out, by decide⟩))
    have hb6 : Blk w6 g _ _ := (hc6.block g HB5.out.lt (by have := HGY.out.2; simp; omega)).trans HB5.out
    obtain ⟨c0, c1, c2⟩ := HCS.out w6 HGO6.out.ow
    rw [HMV.out] at c2
    have e0 := HGO6.out.ow.freeS HSH3.out.sv HSH3.out.n (a * 3)
    have e1 := HGO6.out.ow.freeS HSH3.out.sv HSH3.out.n (a * 3 + 1)
    have e2 := HGO6.out.ow.freeS HSH3.out.sv HSH3.out.n (a * 3 + 2)
    have HB6 := Lib.hid hb6
    have b0 := hb6.cell 0
    have y0 := ky6.cell 0
    have y1 := ky6.cell 1
    have y2 := ky6.cell 2
    simp only [List.getElem?_toArray, List.getElem?_cons_succ, List.getElem?_cons_zero] at b0 y0 y1 y2
    clear hW6 ky6 hc6 fy hb6
    go_upto_region 9 with fail
    generalize hW7 : World.setCell (World.setCell (World.setCell w6 _ _) _ _) _ _ = w7
    obtain ⟨HGO7, HFR7⟩ := HGO6.out.put (a := a) (s := s) (s' := { s with down := false }) HSI.out ⟨rfl, rfl⟩ (q := gs) (c := cs3) (by rw [HSH3.out.n]; exact HSH3.out.sv) (by show World.setCell (World.setCell (World.setCell w6 _ _) _ _) _ s.mv = w7; rw [HMV.out]; exact hW7)
    obtain ⟨L7, hL7⟩ : ∃ L7, { L3 with sites := L3.sites.set a { s with down := false } } = L7 := ⟨_, rfl⟩
    have HERA7 : Hid (L7.era = xSet L.era (a : Int) false) := Lib.hid (by
     rw [← hL7, era_setSite]
     unfold xSet
     rw [← HERA3.out, era_site HSI.out]
     rfl)
    have HSH7 : Hid (Shp L7 (some ⟨gs, 0, none⟩) At3 Al3 n3 m3 l3 cs3 ct3 cl3) := Lib.hid (by
     rw [← hL7]
     exact ⟨HSH3.out.sv, HSH3.out.tv, HSH3.out.lv, by show (L3.sites.set a _).length = n3; rw [List.length_set]; exact HSH3.out.n, HSH3.out.m, HSH3.out.l⟩)
    rw [hL7] at HGO7 HFR7
    replace HGO7 := Lib.hid HGO7
    have hb7 := HFR7.stay HB6.out (HGO6.out.ow.netBox HB6.out)
    have HB7 := Lib.hid hb7
    have b0 := hb7.1.cell 0
    have b1 := hb7.1.cell 1
    have b2 := hb7.1.cell 2
    simp only [List.getElem?_toArray, List.getElem?_cons_succ, List.getElem?_cons_zero] at b0 b1 b2
    clear hW7 hL7 HFR7 hb7 c0 c1 c2 e0 e1 e2 y0 y1 y2
    have f0 := HGO7.out.b2.free 0
    have f1 := HGO7.out.b2.free 1
    have f2 := HGO7.out.b2.free 2
    have d0 := HGO7.out.b2.cell 0
    have d1 := HGO7.out.b2.cell 1
    have d2 := HGO7.out.b2.cell 2
    simp only [List.getElem?_toArray, List.getElem?_cons_succ, List.getElem?_cons_zero] at d0 d1 d2
    go_wp2_with fail
    generalize hW : World.setCell (World.setCell (World.setCell w7 _ _) _ _) _ _ = W
    obtain ⟨kW, -⟩ := put33 HGO7.out.b2 hW
    have u0 := kW.cell 0
    have u1 := kW.cell 1
    have u2 := kW.cell 2
    refine bodyPost_ret (v := .tuple #[.agg #[.slice (some ⟨gs, 0, none⟩) n3 cs3, .slice At3 m3 ct3, .slice Al3 l3 cl3], .int .i64 0]) ?_ ?_ ?_
    ·simp [results, Tryz.results37, go_sem, u0, u1, u2]
    ·rfl
    ·rw [← HM.out, HX.out.1, HX.out.2]
     exact HGO7.out.done HS0.out (HERA7.out) HSH7.out hW
 ·have HSITE : Hid (∀ W, Calls Tryz.prog 58 #[.agg #[.slice As n cs, .slice At m ct, .slice Al l cl], .int .i64 i] W fun e w' => e = .returned (.bool false) ∧ Gr W w') := Lib.hid (fun W => by
   have := xsite_any As n cs (.slice At m ct) (.slice Al l cl) i W
   rw [decide_eq_false hi] at this
   exact this)
  have HOUT := Lib.hid (xErr_out HSH.out hi)
  clear hi f0 f1 f2 d0 d1 d2
  go_wp2_with fail
  refine (HSITE.out _).mono ?_
  rintro e w2 ⟨rfl, hg2⟩
  have HG2 := Lib.hid (HG.out.trans hg2)
  have HK12 := Lib.hid (HK1.out.keep hg2)
  have HK22 := Lib.hid (HK2.out.keep hg2)
  clear b0 b1 b2 hg2
  have b0 := HK12.out.cell 0
  have b1 := HK12.out.cell 1
  have b2 := HK12.out.cell 2
  simp only [List.getElem?_toArray, List.getElem?_cons_succ, List.getElem?_cons_zero] at b0 b1 b2
  have HX : Hid (xStartO L.era i = L.era ∧ xErrU L.era i = 3) := Lib.hid (by
   have e : xErrU L.era i = 3 := by first | exact HOUT.out.2 | (rw [HE.out.2, HDN.out]; rfl)
   exact ⟨by unfold xStartO; rw [e]; rfl, e⟩)
  have f0 := HK22.out.free 0
  have f1 := HK22.out.free 1
  have f2 := HK22.out.free 2
  have d0 := HK22.out.cell 0
  have d1 := HK22.out.cell 1
  have d2 := HK22.out.cell 2
  simp only [List.getElem?_toArray, List.getElem?_cons_succ, List.getElem?_cons_zero] at d0 d1 d2
  go_wp2_with fail
  generalize hW : World.setCell (World.setCell (World.setCell w2 _ _) _ _) _ _ = W
  obtain ⟨kW, cW⟩ := put33 (HK22.out) hW
  have u0 := kW.cell 0
  have u1 := kW.cell 1
  have u2 := kW.cell 2
  refine bodyPost_ret (v := .tuple #[.agg #[.slice As n cs, .slice At m ct, .slice Al l cl], .int .i64 3]) ?_ ?_ ?_
  ·simp [results, Tryz.results37, go_sem, u0, u1, u2]
  ·rfl
  ·rw [← HM.out, HX.out.1, HX.out.2]
   exact EndX.err HA.out (cW.up (HG2.out) (fun t ht => by have := HS.out; simp at ht; omega)) rfl HSH.out
theorem xcancel_any (S : List Nat) (w : World) (L : LN) (h : XAt S w L) (hS : ∀ g ∈ S, g < w.heap.size) (hl : XLe L.era) (i : Int) (t : Int) :
 Calls Tryz.prog 32 #[L.v, .int .i64 i, .int .i64 t] w (EndX S w (xCancelO L.era i t) (xErrC L.era i t)) := by
 obtain ⟨As, At, Al, n, m, l, cs, ct, cl, hsh⟩ := h.rd.shp
 have h8 : n ≤ 8 := by have := hl.s8; rw [lens_era.1, hsh.n] at this; exact this
 have h256 : m ≤ 256 := by have := hl.tx; rw [lens_era.2.1, hsh.m] at this; exact this
 have hml : l ≤ 1024 := by have := hl.ml; rw [lens_era.2.2, hsh.l] at this; exact this
 have HSH := Lib.hid hsh
 have HA := Lib.hid h
 have HS0 := Lib.hid hS
 have HL := Lib.hid hl
 rw [hsh.v]
 obtain ⟨M, hM⟩ : ∃ M, EndX S w (xCancelO L.era i t) (xErrC L.era i t) = M := ⟨_, rfl⟩
 rw [hM]
 have HM := Lib.hid hM
 clear h hS hl hsh hM
 go_enter Tryz.func32, Tryz.ntmps32
 go_upto_region 1 with fail
 generalize hW1 : World.alloc (World.alloc w _) _ = w1
 obtain ⟨g, hg⟩ : ∃ g, w.heap.size = g := ⟨_, rfl⟩
 obtain ⟨hg1, k1, k2, hs1⟩ := box33 hg hW1
 have HG := Lib.hid hg1
 have HS := Lib.hid hg
 have HS1 := Lib.hid hs1
 have HK1 := Lib.hid k1
 have HK2 := Lib.hid k2
 have b0 := k1.cell 0
 have b1 := k1.cell 1
 have b2 := k1.cell 2
 simp only [List.getElem?_toArray, List.getElem?_cons_succ, List.getElem?_cons_zero] at b0 b1 b2
 have f0 := k2.free 0
 have f1 := k2.free 1
 have f2 := k2.free 2
 have d0 := k2.cell 0
 have d1 := k2.cell 1
 have d2 := k2.cell 2
 simp only [List.getElem?_toArray, List.getElem?_cons_succ, List.getElem?_cons_zero] at d0 d1 d2
 rw [hg]
 clear hg1 hW1 hg k1 k2 hs1
 by_cases hi : 0 ≤ i ∧ i < (n : Int)
 ·obtain ⟨a, rfl⟩ : ∃ a : Nat, i = (a : Int) := ⟨i.toNat, by omega⟩
  have ha : a < n := by omega
  obtain ⟨s0, hs0⟩ := site_at (L := L) a (by rw [HSH.out.n]; exact ha)
  have hEd := xErrD_of HSH.out hs0
  have hEu := xErrU_of HSH.out hs0
  have HE := Lib.hid (And.intro hEd hEu)
  have HS00 := Lib.hid hs0
  have HSITE : Hid (∀ W, Calls Tryz.prog 58 #[.agg #[.slice As n cs, .slice At m ct, .slice Al l cl], .int .i64 (a : Int)] W fun e w' => e = .returned (.bool true) ∧ Gr W w') := Lib.hid (fun W => by
   have := xsite_any As n cs (.slice At m ct) (.slice Al l cl) (a : Int) W
   rw [decide_eq_true (by omega)] at this
   exact this)
  obtain ⟨b, off, c', hsv, -, -, c1, -⟩ := (HA.out.gr HG.out).rd.site3 hs0
  rw [HSH.out.sv, HSH.out.n] at hsv
  injection hsv with hAs _ hcc
  subst hAs
  subst hcc
  obtain ⟨dn, hdn⟩ : ∃ dn, s0.down = dn := ⟨_, rfl⟩
  rw [hdn] at c1
  have HDN := Lib.hid hdn
  have hai : (a : Int) < (n : Int) := by omega
  have ha0 : (0 : Int) ≤ (a : Int) := by omega
  clear hs0 hEd hEu hdn hi
  go_wp2_with fail
  refine (HSITE.out _).mono ?_
  rintro e w2 ⟨rfl, hg2⟩
  have HG2 := Lib.hid (HG.out.trans hg2)
  have HK12 := Lib.hid (HK1.out.keep hg2)
  have HK22 := Lib.hid (HK2.out.keep hg2)
  replace c1 := hg2.keep c1
  clear b0 b1 b2 f0 f1 f2 d0 d1 d2 hg2
  have b0 := HK12.out.cell 0
  have b1 := HK12.out.cell 1
  have b2 := HK12.out.cell 2
  simp only [List.getElem?_toArray, List.getElem?_cons_succ, List.getElem?_cons_zero] at b0 b1 b2
  cases dn with
  | true =>
    have HX : Hid (xCancelO L.era (a : Int) t = L.era ∧ xErrC L.era (a : Int) t = 7) := Lib.hid (by
     have e : xErrC L.era (a : Int) t = 7 := by
      have e0 : xErrD L.era (a : Int) = 7 := by first | exact HOUT.out.1 | (rw [HE.out.1, HDN.out]; rfl)
      unfold xErrC
      rw [e0, if_pos (by decide)]
     exact ⟨by unfold xCancelO; rw [e]; rfl, e⟩)
    have f0 := HK22.out.free 0
    have f1 := HK22.out.free 1
    have f2 := HK22.out.free 2
    have d0 := HK22.out.cell 0
    have d1 := HK22.out.cell 1
    have d2 := HK22.out.cell 2
    simp only [List.getElem?_toArray, List.getElem?_cons_succ, List.getElem?_cons_zero] at d0 d1 d2
    go_wp2_with fail
    generalize hW : World.setCell (World.setCell (World.setCell w2 _ _) _ _) _ _ = W
    obtain ⟨kW, cW⟩ := put33 (HK22.out) hW
    have u0 := kW.cell 0
    have u1 := kW.cell 1
    have u2 := kW.cell 2
    refine bodyPost_ret (v := .tuple #[.agg #[.slice (some ⟨b, off, none⟩) n cs, .slice At m ct, .slice Al l cl], .int .i64 7]) ?_ ?_ ?_
    ·simp [results, Tryz.results32, go_sem, u0, u1, u2]
    ·rfl
    ·rw [← HM.out, HX.out.1, HX.out.2]
     exact EndX.err HA.out (cW.up (HG2.out) (fun t ht => by have := HS.out; simp at ht; omega)) rfl HSH.out
  | false =>
    by_cases ht0 : t < 1
    ·have HX : Hid (xCancelO L.era (a : Int) t = L.era ∧ xErrC L.era (a : Int) t = 6) := Lib.hid (by
      have e0 : xErrD L.era (a : Int) = 0 := by rw [HE.out.1, HDN.out]; rfl
      have e : xErrC L.era (a : Int) t = 6 := by
       unfold xErrC
       rw [e0, if_neg (by decide), if_neg (fun hc => by have := hc.1; omega)]
      exact ⟨by unfold xCancelO; rw [e]; rfl, e⟩)
     have f0 := HK22.out.free 0
     have f1 := HK22.out.free 1
     have f2 := HK22.out.free 2
     have d0 := HK22.out.cell 0
     have d1 := HK22.out.cell 1
     have d2 := HK22.out.cell 2
     simp only [List.getElem?_toArray, List.getElem?_cons_succ, List.getElem?_cons_zero] at d0 d1 d2
     go_wp2_with fail
     generalize hW : World.setCell (World.setCell (World.setCell w2 _ _) _ _) _ _ = W
     obtain ⟨kW, cW⟩ := put33 (HK22.out) hW
     have u0 := kW.cell 0
     have u1 := kW.cell 1
     have u2 := kW.cell 2
     refine bodyPost_ret (v := .tuple #[.agg #[.slice (some ⟨b, off, none⟩) n cs, .slice At m ct, .slice Al l cl], .int .i64 6]) ?_ ?_ ?_
     ·simp [results, Tryz.results32, go_sem, u0, u1, u2]
     ·rfl
     ·rw [← HM.out, HX.out.1, HX.out.2]
      exact EndX.err HA.out (cW.up (HG2.out) (fun t ht => by have := HS.out; simp at ht; omega)) rfl HSH.out
    by_cases ht1 : (m : Int) < t
    ·have HX : Hid (xCancelO L.era (a : Int) t = L.era ∧ xErrC L.era (a : Int) t = 6) := Lib.hid (by
      have e0 : xErrD L.era (a : Int) = 0 := by rw [HE.out.1, HDN.out]; rfl
      have e : xErrC L.era (a : Int) t = 6 := by
       unfold xErrC
       rw [e0, if_neg (by decide), if_neg (fun hc => by have := hc.2.1; rw [lens_era.2.1, HSH.out.m] at this; omega)]
      exact ⟨by unfold xCancelO; rw [e]; rfl, e⟩)
     have f0 := HK22.out.free 0
     have f1 := HK22.out.free 1
     have f2 := HK22.out.free 2
     have d0 := HK22.out.cell 0
     have d1 := HK22.out.cell 1
     have d2 := HK22.out.cell 2
     simp only [List.getElem?_toArray, List.getElem?_cons_succ, List.getElem?_cons_zero] at d0 d1 d2
     go_wp2_with fail
     generalize hW : World.setCell (World.setCell (World.setCell w2 _ _) _ _) _ _ = W
     obtain ⟨kW, cW⟩ := put33 (HK22.out) hW
     have u0 := kW.cell 0
     have u1 := kW.cell 1
     have u2 := kW.cell 2
     refine bodyPost_ret (v := .tuple #[.agg #[.slice (some ⟨b, off, none⟩) n cs, .slice At m ct, .slice Al l cl], .int .i64 6]) ?_ ?_ ?_
     ·simp [results, Tryz.results32, go_sem, u0, u1, u2]
     ·rfl
     ·rw [← HM.out, HX.out.1, HX.out.2]
      exact EndX.err HA.out (cW.up (HG2.out) (fun t ht => by have := HS.out; simp at ht; omega)) rfl HSH.out
    obtain ⟨k, rfl⟩ : ∃ k : Nat, t = (k : Int) + 1 := ⟨(t - 1).toNat, by omega⟩
    have hk : k < m := by omega
    have hki : (k : Int) < (m : Int) := by omega
    obtain ⟨st, hst⟩ : ∃ st, xState L.era (a : Int) ((k : Int) + 1) = st := ⟨_, rfl⟩
    have HSTA : Hid (Calls Tryz.prog 61 #[.agg #[.slice (some ⟨b, off, none⟩) n cs, .slice At m ct, .slice Al l cl], .int .i64 (a : Int), .int .i64 ((k : Int) + 1)] w2 fun e w' => e = .returned (.int .i64 st) ∧ Gr w2 w') := Lib.hid (by
     have := xstateV (HA.out.gr HG2.out).rd HL.out HSH.out (a : Int) k hk
     rw [hst] at this
     exact this)
    have HST := Lib.hid hst
    clear hst
    go_wp2_with fail
    refine HSTA.out.mono ?_
    rintro e w9 ⟨rfl, hg9⟩
    have HG9 := Lib.hid (HG2.out.trans hg9)
    have HK19 := Lib.hid (HK12.out.keep hg9)
    have HK29 := Lib.hid (HK22.out.keep hg9)
    clear b0 b1 b2 hg9 c1
    have b0 := HK19.out.cell 0
    have b1 := HK19.out.cell 1
    have b2 := HK19.out.cell 2
    simp only [List.getElem?_toArray, List.getElem?_cons_succ, List.getElem?_cons_zero] at b0 b1 b2
    by_cases hs1 : st = 1
    ·subst hs1
     have HX : Hid (xCancelO L.era (a : Int) ((k : Int) + 1) = xTell (xTurn L.era ((k : Int) + 1) 0) (a : Int) 5 ((k : Int) + 1) (-1) false ∧ xErrC L.era (a : Int) ((k : Int) + 1) = 0) := Lib.hid (by
      have e0 : xErrD L.era (a : Int) = 0 := by rw [HE.out.1, HDN.out]; rfl
      have e : xErrC L.era (a : Int) ((k : Int) + 1) = 0 := by
       unfold xErrC
       rw [e0, if_neg (by decide), if_pos ⟨by omega, by rw [lens_era.2.1, HSH.out.m]; omega, HST.out⟩]
      exact ⟨by unfold xCancelO; rw [e, if_pos rfl]; rfl, e⟩)
     go_wp2_with fail
     refine (xcopyV HA.out (HG9.out) HL.out HSH.out).mono ?_
     rintro e w3 ⟨L3, rfl, hc1, hc2, HERA3, hc3⟩
     have HGO3 := Lib.hid (Out5.start ⟨hc1, hc2, hc3⟩ (by have := HS.out; omega) (HK29.out))
     replace HERA3 := Lib.hid HERA3
     have HGC3 := Lib.hid hc3
     have HYG3 := Lib.hid hc2
     obtain ⟨As3, At3, Al3, n3, m3, l3, cs3, ct3, cl3, HSH3⟩ := hc1.rd0.shp
     replace HSH3 := Lib.hid HSH3
     rw [HSH3.out.v]
     have HB3 : Hid (Blk w3 g 33 #[.slice (some ⟨b, off, none⟩) n cs, .slice At m ct, .slice Al l cl] ∧ g ∉ blkR L3.rows) := Lib.hid ⟨(HK19.out).keep hc3, fun hm => by have := hc2 g hm; have := (HK19.out).lt; omega⟩
     have HN3 : Hid (n3 = n ∧ m3 = m ∧ l3 = l) := Lib.hid (by
      have e := HERA3.out
      refine ⟨?_, ?_, ?_⟩
      ·have := congrArg (fun X => X.sites.length) e
       simp only [lens_era.1] at this
       rw [HSH3.out.n, HSH.out.n] at this
       exact this
      ·have := congrArg (fun X => X.txs.length) e
       simp only [lens_era.2.1] at this
       rw [HSH3.out.m, HSH.out.m] at this
       exact this
      ·have := congrArg (fun X => X.mail.length) e
       simp only [lens_era.2.2] at this
       rw [HSH3.out.l, HSH.out.l] at this
       exact this)
     clear hc1 hc2 hc3
     have hk3 : k < m3 := by have := HN3.out.2.1; omega
     go_wp2_with fail
     refine (xturnV HGO3.out.ow (by rw [HERA3.out]; exact HL.out) HSH3.out 0 k hk3).mono ?_
     intro e w4 hst
     obtain ⟨L4, rfl, HGO4, HERA4, HFR4⟩ := HGO3.out.step hst
     replace HGO4 := Lib.hid HGO4
     replace HERA4 := Lib.hid HERA4
     replace HFR4 := Lib.hid HFR4
     obtain ⟨As4, At4, Al4, n4, m4, l4, cs4, ct4, cl4, HSH4⟩ := HGO4.out.ow.rd0.shp
     replace HSH4 := Lib.hid HSH4
     rw [HSH4.out.v]
     clear hst
     have hk4 : k < m4 := by have := (len_of (L := L3) HERA4.out (xTurn_len _ _ _)).2; rw [HSH4.out.m, HSH3.out.m] at this; omega
     go_wp2_with fail
     refine (xtellV HGO4.out.ow (by rw [HERA4.out, HERA3.out]; exact HL.out.turn _ _) HSH4.out (a : Int) 5 (-1) false k hk4).mono ?_
     intro e w5 hst
     obtain ⟨L5, rfl, HGO5, HERA5, HFR5⟩ := HGO4.out.step hst
     replace HGO5 := Lib.hid HGO5
     replace HERA5 := Lib.hid HERA5
     replace HFR5 := Lib.hid HFR5
     obtain ⟨As5, At5, Al5, n5, m5, l5, cs5, ct5, cl5, HSH5⟩ := HGO5.out.ow.rd0.shp
     replace HSH5 := Lib.hid HSH5
     rw [HSH5.out.v]
     clear hst
     have f0 := HGO5.out.b2.free 0
     have f1 := HGO5.out.b2.free 1
     have f2 := HGO5.out.b2.free 2
     have d0 := HGO5.out.b2.cell 0
     have d1 := HGO5.out.b2.cell 1
     have d2 := HGO5.out.b2.cell 2
     simp only [List.getElem?_toArray, List.getElem?_cons_succ, List.getElem?_cons_zero] at d0 d1 d2
     go_wp2_with fail
     generalize hW : World.setCell (World.setCell (World.setCell w5 _ _) _ _) _ _ = W
     obtain ⟨kW, -⟩ := put33 HGO5.out.b2 hW
     have u0 := kW.cell 0
     have u1 := kW.cell 1
     have u2 := kW.cell 2
     refine bodyPost_ret (v := .tuple #[.agg #[.slice As5 n5 cs5, .slice At5 m5 ct5, .slice Al5 l5 cl5], .int .i64 0]) ?_ ?_ ?_
     ·simp [results, Tryz.results32, go_sem, u0, u1, u2]
     ·rfl
     ·rw [← HM.out, HX.out.1, HX.out.2]
      exact HGO5.out.done HS0.out (by rw [HERA5.out, HERA4.out, HERA3.out]) HSH5.out hW
    ·have e1 : (st != 1) = true := by simpa using hs1
     have HX : Hid (xCancelO L.era (a : Int) ((k : Int) + 1) = L.era ∧ xErrC L.era (a : Int) ((k : Int) + 1) = 6) := Lib.hid (by
      have e0 : xErrD L.era (a : Int) = 0 := by rw [HE.out.1, HDN.out]; rfl
      have e : xErrC L.era (a : Int) ((k : Int) + 1) = 6 := by
       unfold xErrC
       rw [e0, if_neg (by decide), if_neg (fun hc => hs1 (HST.out ▸ hc.2.2))]
      exact ⟨by unfold xCancelO; rw [e]; rfl, e⟩)
     have f0 := HK29.out.free 0
     have f1 := HK29.out.free 1
     have f2 := HK29.out.free 2
     have d0 := HK29.out.cell 0
     have d1 := HK29.out.cell 1
     have d2 := HK29.out.cell 2
     simp only [List.getElem?_toArray, List.getElem?_cons_succ, List.getElem?_cons_zero] at d0 d1 d2
     go_wp2_with fail
     generalize hW : World.setCell (World.setCell (World.setCell w9 _ _) _ _) _ _ = W
     obtain ⟨kW, cW⟩ := put33 (HK29.out) hW
     have u0 := kW.cell 0
     have u1 := kW.cell 1
     have u2 := kW.cell 2
     refine bodyPost_ret (v := .tuple #[.agg #[.slice (some ⟨b, off, none⟩) n cs, .slice At m ct, .slice Al l cl], .int .i64 6]) ?_ ?_ ?_
     ·simp [results, Tryz.results32, go_sem, u0, u1, u2]
     ·rfl
     ·rw [← HM.out, HX.out.1, HX.out.2]
      exact EndX.err HA.out (cW.up (HG9.out) (fun t ht => by have := HS.out; simp at ht; omega)) rfl HSH.out
 ·have HSITE : Hid (∀ W, Calls Tryz.prog 58 #[.agg #[.slice As n cs, .slice At m ct, .slice Al l cl], .int .i64 i] W fun e w' => e = .returned (.bool false) ∧ Gr W w') := Lib.hid (fun W => by
   have := xsite_any As n cs (.slice At m ct) (.slice Al l cl) i W
   rw [decide_eq_false hi] at this
   exact this)
  have HOUT := Lib.hid (xErr_out HSH.out hi)
  clear hi f0 f1 f2 d0 d1 d2
  go_wp2_with fail
  refine (HSITE.out _).mono ?_
  rintro e w2 ⟨rfl, hg2⟩
  have HG2 := Lib.hid (HG.out.trans hg2)
  have HK12 := Lib.hid (HK1.out.keep hg2)
  have HK22 := Lib.hid (HK2.out.keep hg2)
  clear b0 b1 b2 hg2
  have b0 := HK12.out.cell 0
  have b1 := HK12.out.cell 1
  have b2 := HK12.out.cell 2
  simp only [List.getElem?_toArray, List.getElem?_cons_succ, List.getElem?_cons_zero] at b0 b1 b2
  have HX : Hid (xCancelO L.era i t = L.era ∧ xErrC L.era i t = 3) := Lib.hid (by
   have e : xErrC L.era i t = 3 := by
    have e0 : xErrD L.era i = 3 := by first | exact HOUT.out.1 | (rw [HE.out.1, HDN.out]; rfl)
    unfold xErrC
    rw [e0, if_pos (by decide)]
   exact ⟨by unfold xCancelO; rw [e]; rfl, e⟩)
  have f0 := HK22.out.free 0
  have f1 := HK22.out.free 1
  have f2 := HK22.out.free 2
  have d0 := HK22.out.cell 0
  have d1 := HK22.out.cell 1
  have d2 := HK22.out.cell 2
  simp only [List.getElem?_toArray, List.getElem?_cons_succ, List.getElem?_cons_zero] at d0 d1 d2
  go_wp2_with fail
  generalize hW : World.setCell (World.setCell (World.setCell w2 _ _) _ _) _ _ = W
  obtain ⟨kW, cW⟩ := put33 (HK22.out) hW
  have u0 := kW.cell 0
  have u1 := kW.cell 1
  have u2 := kW.cell 2
  refine bodyPost_ret (v := .tuple #[.agg #[.slice As n cs, .slice At m ct, .slice Al l cl], .int .i64 3]) ?_ ?_ ?_
  ·simp [results, Tryz.results32, go_sem, u0, u1, u2]
  ·rfl
  ·rw [← HM.out, HX.out.1, HX.out.2]
   exact EndX.err HA.out (cW.up (HG2.out) (fun t ht => by have := HS.out; simp at ht; omega)) rfl HSH.out
theorem xcrash_any (S : List Nat) (w : World) (L : LN) (h : XAt S w L) (hS : ∀ g ∈ S, g < w.heap.size) (hl : XLe L.era) (i : Int) :
 Calls Tryz.prog 36 #[L.v, .int .i64 i] w (EndX S w (xCrashO L.era i) (xErrD L.era i)) := by
 obtain ⟨As, At, Al, n, m, l, cs, ct, cl, hsh⟩ := h.rd.shp
 have h8 : n ≤ 8 := by have := hl.s8; rw [lens_era.1, hsh.n] at this; exact this
 have h256 : m ≤ 256 := by have := hl.tx; rw [lens_era.2.1, hsh.m] at this; exact this
 have hml : l ≤ 1024 := by have := hl.ml; rw [lens_era.2.2, hsh.l] at this; exact this
 have HSH := Lib.hid hsh
 have HA := Lib.hid h
 have HS0 := Lib.hid hS
 have HL := Lib.hid hl
 rw [hsh.v]
 obtain ⟨M, hM⟩ : ∃ M, EndX S w (xCrashO L.era i) (xErrD L.era i) = M := ⟨_, rfl⟩
 rw [hM]
 have HM := Lib.hid hM
 clear h hS hl hsh hM
 go_enter Tryz.func36, Tryz.ntmps36
 go_upto_region 1 with fail
 generalize hW1 : World.alloc (World.alloc w _) _ = w1
 obtain ⟨g, hg⟩ : ∃ g, w.heap.size = g := ⟨_, rfl⟩
 obtain ⟨hg1, k1, k2, hs1⟩ := box33 hg hW1
 have HG := Lib.hid hg1
 have HS := Lib.hid hg
 have HS1 := Lib.hid hs1
 have HK1 := Lib.hid k1
 have HK2 := Lib.hid k2
 have b0 := k1.cell 0
 have b1 := k1.cell 1
 have b2 := k1.cell 2
 simp only [List.getElem?_toArray, List.getElem?_cons_succ, List.getElem?_cons_zero] at b0 b1 b2
 have f0 := k2.free 0
 have f1 := k2.free 1
 have f2 := k2.free 2
 have d0 := k2.cell 0
 have d1 := k2.cell 1
 have d2 := k2.cell 2
 simp only [List.getElem?_toArray, List.getElem?_cons_succ, List.getElem?_cons_zero] at d0 d1 d2
 rw [hg]
 clear hg1 hW1 hg k1 k2 hs1
 by_cases hi : 0 ≤ i ∧ i < (n : Int)
 ·obtain ⟨a, rfl⟩ : ∃ a : Nat, i = (a : Int) := ⟨i.toNat, by omega⟩
  have ha : a < n := by omega
  obtain ⟨s0, hs0⟩ := site_at (L := L) a (by rw [HSH.out.n]; exact ha)
  have hEd := xErrD_of HSH.out hs0
  have hEu := xErrU_of HSH.out hs0
  have HE := Lib.hid (And.intro hEd hEu)
  have HS00 := Lib.hid hs0
  have HSITE : Hid (∀ W, Calls Tryz.prog 58 #[.agg #[.slice As n cs, .slice At m ct, .slice Al l cl], .int .i64 (a : Int)] W fun e w' => e = .returned (.bool true) ∧ Gr W w') := Lib.hid (fun W => by
   have := xsite_any As n cs (.slice At m ct) (.slice Al l cl) (a : Int) W
   rw [decide_eq_true (by omega)] at this
   exact this)
  obtain ⟨b, off, c', hsv, -, -, c1, -⟩ := (HA.out.gr HG.out).rd.site3 hs0
  rw [HSH.out.sv, HSH.out.n] at hsv
  injection hsv with hAs _ hcc
  subst hAs
  subst hcc
  obtain ⟨dn, hdn⟩ : ∃ dn, s0.down = dn := ⟨_, rfl⟩
  rw [hdn] at c1
  have HDN := Lib.hid hdn
  have hai : (a : Int) < (n : Int) := by omega
  have ha0 : (0 : Int) ≤ (a : Int) := by omega
  clear hs0 hEd hEu hdn hi
  go_wp2_with fail
  refine (HSITE.out _).mono ?_
  rintro e w2 ⟨rfl, hg2⟩
  have HG2 := Lib.hid (HG.out.trans hg2)
  have HK12 := Lib.hid (HK1.out.keep hg2)
  have HK22 := Lib.hid (HK2.out.keep hg2)
  replace c1 := hg2.keep c1
  clear b0 b1 b2 f0 f1 f2 d0 d1 d2 hg2
  have b0 := HK12.out.cell 0
  have b1 := HK12.out.cell 1
  have b2 := HK12.out.cell 2
  simp only [List.getElem?_toArray, List.getElem?_cons_succ, List.getElem?_cons_zero] at b0 b1 b2
  cases dn with
  | true =>
    have HX : Hid (xCrashO L.era (a : Int) = L.era ∧ xErrD L.era (a : Int) = 7) := Lib.hid (by
     have e : xErrD L.era (a : Int) = 7 := by first | exact HOUT.out.1 | (rw [HE.out.1, HDN.out]; rfl)
     exact ⟨by unfold xCrashO; rw [e]; rfl, e⟩)
    have f0 := HK22.out.free 0
    have f1 := HK22.out.free 1
    have f2 := HK22.out.free 2
    have d0 := HK22.out.cell 0
    have d1 := HK22.out.cell 1
    have d2 := HK22.out.cell 2
    simp only [List.getElem?_toArray, List.getElem?_cons_succ, List.getElem?_cons_zero] at d0 d1 d2
    go_wp2_with fail
    generalize hW : World.setCell (World.setCell (World.setCell w2 _ _) _ _) _ _ = W
    obtain ⟨kW, cW⟩ := put33 (HK22.out) hW
    have u0 := kW.cell 0
    have u1 := kW.cell 1
    have u2 := kW.cell 2
    refine bodyPost_ret (v := .tuple #[.agg #[.slice (some ⟨b, off, none⟩) n cs, .slice At m ct, .slice Al l cl], .int .i64 7]) ?_ ?_ ?_
    ·simp [results, Tryz.results36, go_sem, u0, u1, u2]
    ·rfl
    ·rw [← HM.out, HX.out.1, HX.out.2]
     exact EndX.err HA.out (cW.up (HG2.out) (fun t ht => by have := HS.out; simp at ht; omega)) rfl HSH.out
  | false =>
    have HX : Hid (xCrashO L.era (a : Int) = xCra L.era (a : Int) ∧ xErrD L.era (a : Int) = 0) := Lib.hid (by
     have e : xErrD L.era (a : Int) = 0 := by rw [HE.out.1, HDN.out]; rfl
     exact ⟨by unfold xCrashO; rw [e, if_pos rfl], e⟩)
    go_wp2_with fail
    refine (xcopyV HA.out (HG2.out) HL.out HSH.out).mono ?_
    rintro e w3 ⟨L3, rfl, hc1, hc2, HERA3, hc3⟩
    have HGO3 := Lib.hid (Out5.start ⟨hc1, hc2, hc3⟩ (by have := HS.out; omega) (HK22.out))
    replace HERA3 := Lib.hid HERA3
    have HGC3 := Lib.hid hc3
    have HYG3 := Lib.hid hc2
    obtain ⟨As3, At3, Al3, n3, m3, l3, cs3, ct3, cl3, HSH3⟩ := hc1.rd0.shp
    replace HSH3 := Lib.hid HSH3
    rw [HSH3.out.v]
    have HB3 : Hid (Blk w3 g 33 #[.slice (some ⟨b, off, none⟩) n cs, .slice At m ct, .slice Al l cl] ∧ g ∉ blkR L3.rows) := Lib.hid ⟨(HK12.out).keep hc3, fun hm => by have := hc2 g hm; have := (HK12.out).lt; omega⟩
    have HN3 : Hid (n3 = n ∧ m3 = m ∧ l3 = l) := Lib.hid (by
     have e := HERA3.out
     refine ⟨?_, ?_, ?_⟩
     ·have := congrArg (fun X => X.sites.length) e
      simp only [lens_era.1] at this
      rw [HSH3.out.n, HSH.out.n] at this
      exact this
     ·have := congrArg (fun X => X.txs.length) e
      simp only [lens_era.2.1] at this
      rw [HSH3.out.m, HSH.out.m] at this
      exact this
     ·have := congrArg (fun X => X.mail.length) e
      simp only [lens_era.2.2] at this
      rw [HSH3.out.l, HSH.out.l] at this
      exact this)
    clear hc1 hc2 hc3
    clear c1
    have f0 := HB3.out.1.free 0
    have f1 := HB3.out.1.free 1
    have f2 := HB3.out.1.free 2
    have d0 := HB3.out.1.cell 0
    have d1 := HB3.out.1.cell 1
    have d2 := HB3.out.1.cell 2
    simp only [List.getElem?_toArray, List.getElem?_cons_succ, List.getElem?_cons_zero] at d0 d1 d2
    go_upto_region 6 with fail
    generalize hWn : World.setCell (World.setCell (World.setCell w3 _ _) _ _) _ _ = w4
    obtain ⟨kb, cb⟩ := put33 HB3.out.1 hWn
    have HGO4 := Lib.hid (HGO3.out.side cb (fun t ht => by rw [List.mem_singleton.1 ht]; exact ⟨by have := HS.out; omega, HB3.out.2, by omega, _, _, HB3.out.1, by decide⟩))
    have HB4 : Hid (Blk w4 g 33 #[.slice As3 n3 cs3, .slice At3 m3 ct3, .slice Al3 l3 cl3] ∧ g ∉ blkR L3.rows) := Lib.hid ⟨kb, HB3.out.2⟩
    have HCB4 := Lib.hid cb
    have b0 := kb.cell 0
    have b1 := kb.cell 1
    have b2 := kb.cell 2
    simp only [List.getElem?_toArray, List.getElem?_cons_succ, List.getElem?_cons_zero] at b0 b1 b2
    clear f0 f1 f2 d0 d1 d2 hWn kb cb
    have han3 : a < n3 := by have := HN3.out.1; omega
    obtain ⟨s, hs⟩ := site_at (L := L3) a (by rw [HSH3.out.n]; exact han3)
    obtain ⟨gs, cc, hsv, hcs⟩ := HGO4.out.ow.cellsS hs
    rw [HSH3.out.sv, HSH3.out.n] at hsv
    injection hsv with hAs _ hcc
    subst hAs
    subst hcc
    have HCS := Lib.hid hcs
    have HSI := Lib.hid hs
    obtain ⟨Am, cm, hmv, -⟩ := HGO4.out.ow.rd0.mv s (List.mem_of_getElem? hs)
    obtain ⟨qm, hqm⟩ : ∃ qm, s.minds.length = qm := ⟨_, rfl⟩
    rw [hqm] at hmv
    have HMV := Lib.hid hmv
    obtain ⟨c0, c1, c2⟩ := hcs w4 HGO4.out.ow
    rw [hmv] at c2
    have hai3 : (a : Int) < (n3 : Int) := by omega
    have hal := (Gr.refl w4).alloc (.cells #[.int .i64 0, .bool false, .slice none 0 0] 73)
    clear hs hcs hmv hqm
    go_upto_region 7 with fail
    generalize hW5 : World.alloc w4 _ = w5
    obtain ⟨gy, hgy⟩ : ∃ gy, w4.heap.size = gy := ⟨_, rfl⟩
    have ky : Blk w5 gy 73 #[.int .i64 s.stock, .bool s.down, .slice Am qm cm] := by rw [← hW5]; exact Blk.new _ _ _ hgy
    have hg5 : Gr w4 w5 := by rw [← hW5]; exact (Gr.refl w4).alloc _
    have HGY : Hid (gy ∉ blkR L3.rows ∧ g + 1 < gy) := Lib.hid ⟨HGO4.out.ow.young (by omega), by have := HGO4.out.b2.lt; omega⟩
    have HGO5 := Lib.hid (HGO4.out.keep hg5)
    have HB5 := Lib.hid (HB4.out.1.keep hg5)
    have HKY := Lib.hid ky
    rw [hgy]
    have fy := ky.free 1
    have y1 := ky.cell 1
    simp only [List.getElem?_toArray, List.getElem?_cons_succ, List.getElem?_cons_zero] at y1
    clear b0 b1 b2 c0 c1 c2 hal hW5 hgy ky hg5
    go_upto_region 8 with fail
    generalize hW6 : World.setCell w5 _ _ = w6
    have ky6 : Blk w6 gy 73 #[.int .i64 s.stock, .bool true, .slice Am qm cm] := by rw [← hW6]; exact HKY.out.put 1 _
    have hc6 : Ch [gy] w5 w6 := by rw [← hW6]; exact Ch.refl.set (p := ⟨gy, 1, none⟩) (by simp) _
    have HGO6 := Lib.hid (HGO5.out.side hc6 (fun t ht => by rw [List.mem_singleton.1 ht]; exact ⟨by have := HGY.out.2; have := HS.out; omega, HGY.out.1, by have := HGY.out.2; omega, _, _, HKY.out, by decide⟩))
    have hb6 : Blk w6 g _ _ := (hc6.block g HB5.out.lt (by have := HGY.out.2; simp; omega)).trans HB5.out
    obtain ⟨c0, c1, c2⟩ := HCS.out w6 HGO6.out.ow
    rw [HMV.out] at c2
    have e0 := HGO6.out.ow.freeS HSH3.out.sv HSH3.out.n (a * 3)
    have e1 := HGO6.out.ow.freeS HSH3.out.sv HSH3.out.n (a * 3 + 1)
    have e2 := HGO6.out.ow.freeS HSH3.out.sv HSH3.out.n (a * 3 + 2)
    have HB6 := Lib.hid hb6
    have b0 := hb6.cell 0
    have y0 := ky6.cell 0
    have y1 := ky6.cell 1
    have y2 := ky6.cell 2
    simp only [List.getElem?_toArray, List.getElem?_cons_succ, List.getElem?_cons_zero] at b0 y0 y1 y2
    clear hW6 ky6 hc6 fy hb6
    go_upto_region 9 with fail
    generalize hW7 : World.setCell (World.setCell (World.setCell w6 _ _) _ _) _ _ = w7
    obtain ⟨HGO7, HFR7⟩ := HGO6.out.put (a := a) (s := s) (s' := { s with down := true }) HSI.out ⟨rfl, rfl⟩ (q := gs) (c := cs3) (by rw [HSH3.out.n]; exact HSH3.out.sv) (by show World.setCell (World.setCell (World.setCell w6 _ _) _ _) _ s.mv = w7; rw [HMV.out]; exact hW7)
    obtain ⟨L7, hL7⟩ : ∃ L7, { L3 with sites := L3.sites.set a { s with down := true } } = L7 := ⟨_, rfl⟩
    have HERA7 : Hid (L7.era = xSet L.era (a : Int) true) := Lib.hid (by
     rw [← hL7, era_setSite]
     unfold xSet
     rw [← HERA3.out, era_site HSI.out]
     rfl)
    have HSH7 : Hid (Shp L7 (some ⟨gs, 0, none⟩) At3 Al3 n3 m3 l3 cs3 ct3 cl3) := Lib.hid (by
     rw [← hL7]
     exact ⟨HSH3.out.sv, HSH3.out.tv, HSH3.out.lv, by show (L3.sites.set a _).length = n3; rw [List.length_set]; exact HSH3.out.n, HSH3.out.m, HSH3.out.l⟩)
    rw [hL7] at HGO7 HFR7
    replace HGO7 := Lib.hid HGO7
    have hb7 := HFR7.stay HB6.out (HGO6.out.ow.netBox HB6.out)
    have HB7 := Lib.hid hb7
    have b0 := hb7.1.cell 0
    have b1 := hb7.1.cell 1
    have b2 := hb7.1.cell 2
    simp only [List.getElem?_toArray, List.getElem?_cons_succ, List.getElem?_cons_zero] at b0 b1 b2
    clear hW7 hL7 HFR7 hb7 c0 c1 c2 e0 e1 e2 y0 y1 y2
    have hLN7 : Hid (L7.sites.length = n ∧ L7.txs.length = m) := Lib.hid (by rw [HSH7.out.n, HSH7.out.m]; exact ⟨HN3.out.1, HN3.out.2.1⟩)
    clear b0 b1 b2
    go_wp2_with fail
    go_loopw [7] (fun z wr => ∃ (j : Nat) (Lj : LN), j ≤ m ∧ z = .int .i64 ((j : Int) + 1) ∧ Hid (Out5 S w (g + 1) Lj wr) ∧ Hid (Blk wr g 33 #[Lj.sv, Lj.tv, Lj.lv] ∧ g ∉ blkR Lj.rows) ∧ Hid (XLe Lj.era) ∧ Hid (Lj.sites.length = n ∧ Lj.txs.length = m) ∧ Hid (Lj.era = craP L.era (a : Int) j)) (fun z _ => m + 1 - (intOf z).toNat)
    case atStart => exact ⟨0, L7, Nat.zero_le _, rfl, HGO7, Lib.hid (by rw [HSH7.out.sv, HSH7.out.tv, HSH7.out.lv]; exact HB7.out), Lib.hid (by rw [HERA7.out]; exact HL.out.set _ _), hLN7, Lib.hid (by rw [HERA7.out, craP_zero])⟩
    case round =>
     obtain ⟨j, Lj, hj, rfl, HGOj, HBj, HLEj, HLNj, HERAj⟩ := hrel
     obtain ⟨As5, At5, Al5, n5, m5, l5, cs5, ct5, cl5, hsh5⟩ := HGOj.out.ow.rd0.shp
     have hbj := HBj.out.1
     rw [hsh5.sv, hsh5.tv, hsh5.lv] at hbj
     have hnn : n = n5 := by rw [← hsh5.n]; exact HLNj.out.1.symm
     have hmm : m = m5 := by rw [← hsh5.m]; exact HLNj.out.2.symm
     rw [← hnn, ← hmm] at hsh5 hbj
     have HSH5 := Lib.hid hsh5
     have HB5 : Hid (Blk wr g 33 #[.slice As5 n cs5, .slice At5 m ct5, .slice Al5 l5 cl5] ∧ g ∉ blkR Lj.rows) := Lib.hid ⟨hbj, HBj.out.2⟩
     clear hbj hsh5 hnn hmm
     have b0 := HB5.out.1.cell 0
     have b1 := HB5.out.1.cell 1
     have b2 := HB5.out.1.cell 2
     simp only [List.getElem?_toArray, List.getElem?_cons_succ, List.getElem?_cons_zero] at b0 b1 b2
     by_cases hlt : j < m
     ·have hji : (j : Int) < (m : Int) := by omega
      have htx : ∃ t, L.era.txs[j]? = some t := ⟨_, List.getElem?_eq_getElem (by rw [lens_era.2.1, HSH.out.m]; exact hlt)⟩
      obtain ⟨t, htx⟩ := htx
      have HTX := Lib.hid htx
      clear htx
      obtain ⟨st, hst⟩ : ∃ st, xState Lj.era (a : Int) ((j : Int) + 1) = st := ⟨_, rfl⟩
      have HSTA : Hid (Calls Tryz.prog 61 #[.agg #[.slice As5 n cs5, .slice At5 m ct5, .slice Al5 l5 cl5], .int .i64 (a : Int), .int .i64 ((j : Int) + 1)] wr fun e w' => e = .returned (.int .i64 st) ∧ Gr wr w') := Lib.hid (by
       have := xstateV HGOj.out.ow.rd0 HLEj.out HSH5.out (a : Int) j hlt
       rw [hst] at this
       exact this)
      have HST := Lib.hid hst
      clear hst
      go_wp2_with fail
      refine HSTA.out.mono ?_
      rintro e w6 ⟨rfl, hg6⟩
      have HGO6 := Lib.hid (HGOj.out.keep hg6)
      have HB6 : Hid (Blk w6 g _ _ ∧ g ∉ blkR Lj.rows) := Lib.hid ⟨HB5.out.1.keep hg6, HB5.out.2⟩
      clear b0 b1 b2 hg6
      have b0 := HB6.out.1.cell 0
      have b1 := HB6.out.1.cell 1
      have b2 := HB6.out.1.cell 2
      simp only [List.getElem?_toArray, List.getElem?_cons_succ, List.getElem?_cons_zero] at b0 b1 b2
      by_cases hs1 : st = 1
      ·subst hs1
       have HC : Hid (craP L.era (a : Int) (j + 1) = xTurn (craP L.era (a : Int) j) ((j : Int) + 1) 0) := Lib.hid (by rw [craP_step HTX.out, if_pos ((craP_state HTX.out).1 (by rw [← HERAj.out]; exact HST.out))])
       go_wp2_with fail
       refine (xturnV HGO6.out.ow HLEj.out HSH5.out 0 j hlt).mono ?_
       intro e w8 hst
       obtain ⟨L8, rfl, HGO8, HERA8, HFR8⟩ := HGO6.out.step hst
       replace HGO8 := Lib.hid HGO8
       replace HERA8 := Lib.hid HERA8
       replace HFR8 := Lib.hid HFR8
       obtain ⟨As8, At8, Al8, n8, m8, l8, cs8, ct8, cl8, HSH8⟩ := HGO8.out.ow.rd0.shp
       replace HSH8 := Lib.hid HSH8
       rw [HSH8.out.v]
       clear hst
       have HB8 := Lib.hid (HFR8.out.stay HB6.out.1 HB6.out.2)
       have HLN8 : Hid (L8.sites.length = n ∧ L8.txs.length = m) := Lib.hid (by have := len_of (L := Lj) HERA8.out (xTurn_len _ _ _); rw [this.1, this.2]; exact HLNj.out)
       clear b0 b1 b2
       have f0 := HB8.out.1.free 0
       have f1 := HB8.out.1.free 1
       have f2 := HB8.out.1.free 2
       have d0 := HB8.out.1.cell 0
       have d1 := HB8.out.1.cell 1
       have d2 := HB8.out.1.cell 2
       simp only [List.getElem?_toArray, List.getElem?_cons_succ, List.getElem?_cons_zero] at d0 d1 d2
       go_wp2_with fail
       generalize hWn : World.setCell (World.setCell (World.setCell w8 _ _) _ _) _ _ = w9
       obtain ⟨kb, cb⟩ := put33 HB8.out.1 hWn
       have HGO9 := Lib.hid (HGO8.out.side cb (fun t ht => by rw [List.mem_singleton.1 ht]; exact ⟨by have := HS.out; omega, HB8.out.2, by omega, _, _, HB8.out.1, by decide⟩))
       have HB9 : Hid (Blk w9 g 33 #[.slice As8 n8 cs8, .slice At8 m8 ct8, .slice Al8 l8 cl8] ∧ g ∉ blkR L8.rows) := Lib.hid ⟨kb, HB8.out.2⟩
       clear f0 f1 f2 d0 d1 d2 hWn kb cb
       go_roundw
       case rel => exact ⟨j + 1, L8, by omega, by go_num, HGO9, Lib.hid (by rw [HSH8.out.sv, HSH8.out.tv, HSH8.out.lv]; exact HB9.out), Lib.hid (by rw [HERA8.out]; exact HLEj.out.turn _ _), HLN8, Lib.hid (by rw [HERA8.out, HERAj.out, HC.out])⟩
       case measure => simp [intOf]; omega
      ·have e1 : (st == 1) = false := by simpa using hs1
       have HC : Hid (craP L.era (a : Int) (j + 1) = craP L.era (a : Int) j) := Lib.hid (by rw [craP_step HTX.out, if_neg (fun hc => hs1 (by rw [← HST.out, HERAj.out]; exact (craP_state HTX.out).2 hc))])
       go_wp2_with fail
       go_roundw
       case rel => exact ⟨j + 1, Lj, by omega, by go_num, HGO6, Lib.hid (by rw [HSH5.out.sv, HSH5.out.tv, HSH5.out.lv]; exact HB6.out), HLEj, HLNj, Lib.hid (by rw [HC.out]; exact HERAj.out)⟩
       case measure => simp [intOf]; omega
     ·obtain rfl : m = j := by omega
      have f0 := HGOj.out.b2.free 0
      have f1 := HGOj.out.b2.free 1
      have f2 := HGOj.out.b2.free 2
      have d0 := HGOj.out.b2.cell 0
      have d1 := HGOj.out.b2.cell 1
      have d2 := HGOj.out.b2.cell 2
      simp only [List.getElem?_toArray, List.getElem?_cons_succ, List.getElem?_cons_zero] at d0 d1 d2
      go_wp2_with fail
      generalize hW : World.setCell (World.setCell (World.setCell wr _ _) _ _) _ _ = W
      obtain ⟨kW, -⟩ := put33 HGOj.out.b2 hW
      have u0 := kW.cell 0
      have u1 := kW.cell 1
      have u2 := kW.cell 2
      refine bodyPost_ret (v := .tuple #[.agg #[.slice As5 n cs5, .slice At5 m ct5, .slice Al5 l5 cl5], .int .i64 0]) ?_ ?_ ?_
      ·simp [results, Tryz.results36, go_sem, u0, u1, u2]
      ·rfl
      ·rw [← HM.out, HX.out.1, HX.out.2]
       exact HGOj.out.done HS0.out (by rw [HERAj.out, craP_all (by rw [lens_era.2.1, HSH.out.m]; exact Nat.le_refl _)]) HSH5.out hW
 ·have HSITE : Hid (∀ W, Calls Tryz.prog 58 #[.agg #[.slice As n cs, .slice At m ct, .slice Al l cl], .int .i64 i] W fun e w' => e = .returned (.bool false) ∧ Gr W w') := Lib.hid (fun W => by
   have := xsite_any As n cs (.slice At m ct) (.slice Al l cl) i W
   rw [decide_eq_false hi] at this
   exact this)
  have HOUT := Lib.hid (xErr_out HSH.out hi)
  clear hi f0 f1 f2 d0 d1 d2
  go_wp2_with fail
  refine (HSITE.out _).mono ?_
  rintro e w2 ⟨rfl, hg2⟩
  have HG2 := Lib.hid (HG.out.trans hg2)
  have HK12 := Lib.hid (HK1.out.keep hg2)
  have HK22 := Lib.hid (HK2.out.keep hg2)
  clear b0 b1 b2 hg2
  have b0 := HK12.out.cell 0
  have b1 := HK12.out.cell 1
  have b2 := HK12.out.cell 2
  simp only [List.getElem?_toArray, List.getElem?_cons_succ, List.getElem?_cons_zero] at b0 b1 b2
  have HX : Hid (xCrashO L.era i = L.era ∧ xErrD L.era i = 3) := Lib.hid (by
   have e : xErrD L.era i = 3 := by first | exact HOUT.out.1 | (rw [HE.out.1, HDN.out]; rfl)
   exact ⟨by unfold xCrashO; rw [e]; rfl, e⟩)
  have f0 := HK22.out.free 0
  have f1 := HK22.out.free 1
  have f2 := HK22.out.free 2
  have d0 := HK22.out.cell 0
  have d1 := HK22.out.cell 1
  have d2 := HK22.out.cell 2
  simp only [List.getElem?_toArray, List.getElem?_cons_succ, List.getElem?_cons_zero] at d0 d1 d2
  go_wp2_with fail
  generalize hW : World.setCell (World.setCell (World.setCell w2 _ _) _ _) _ _ = W
  obtain ⟨kW, cW⟩ := put33 (HK22.out) hW
  have u0 := kW.cell 0
  have u1 := kW.cell 1
  have u2 := kW.cell 2
  refine bodyPost_ret (v := .tuple #[.agg #[.slice As n cs, .slice At m ct, .slice Al l cl], .int .i64 3]) ?_ ?_ ?_
  ·simp [results, Tryz.results36, go_sem, u0, u1, u2]
  ·rfl
  ·rw [← HM.out, HX.out.1, HX.out.2]
   exact EndX.err HA.out (cW.up (HG2.out) (fun t ht => by have := HS.out; simp at ht; omega)) rfl HSH.out

end Go.Proofs.YtnoeiocbmhkmeaaGreat
