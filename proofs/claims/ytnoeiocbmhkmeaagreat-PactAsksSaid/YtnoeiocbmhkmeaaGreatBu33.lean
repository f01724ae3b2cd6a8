/- Layer 5: the reference delivers, repeats and loses. -/
import Derived.Test.YtnoeiocbmhkmeaaGreatBu32
namespace Go.Proofs.YtnoeiocbmhkmeaaGreat
open Go.RowKit
set_option linter.unusedSimpArgs false
set_option maxRecDepth 100000
set_option maxHeartbeats 80000000

theorem xlose_any (S : List Nat) (w : World) (L : LN) (h : XAt S w L) (hS : ∀ g ∈ S, g < w.heap.size) (hl : XLe L.era) (i : Int) :
 Calls Tryz.prog 35 #[L.v, .int .i64 i] w (EndX S w (xLoseO L.era i) (xErrL L.era i)) := by
 obtain ⟨As, At, Al, n, m, l, cs, ct, cl, hsh⟩ := h.rd.shp
 have h8 : n ≤ 8 := by have := hl.s8; rw [lens_era.1, hsh.n] at this; exact this
 have h256 : m ≤ 256 := by have := hl.tx; rw [lens_era.2.1, hsh.m] at this; exact this
 have hml : l ≤ 1024 := by have := hl.ml; rw [lens_era.2.2, hsh.l] at this; exact this
 have HSH := Lib.hid hsh
 have HA := Lib.hid h
 have HS0 := Lib.hid hS
 have HL := Lib.hid hl
 rw [hsh.v]
 obtain ⟨M, hM⟩ : ∃ M, EndX S w (xLoseO L.era i) (xErrL L.era i) = M := ⟨_, rfl⟩
 rw [hM]
 have HM := Lib.hid hM
 clear h hS hl hsh hM
 go_enter Tryz.func35, Tryz.ntmps35
 go_upto_region 1 with fail
 generalize hW1 : World.alloc (World.alloc w _) _ = w1
 obtain ⟨g, hg⟩ : ∃ g, w.heap.size = g := ⟨_, rfl⟩
 obtain ⟨hg1, k1, k2, hs1⟩ := box33 hg hW1
 have HG := Lib.hid hg1
 have HS := Lib.hid hg
 have HS1 := Lib.hid hs1
 have HK1 := Lib.hid k1
 have HK2 := Lib.hid k2
 have b0 := k1.cell 0
 have b1 := k1.cell 1
 have b2 := k1.cell 2
 simp only [List.getElem?_toArray, List.getElem?_cons_succ, List.getElem?_cons_zero] at b0 b1 b2
 have f0 := k2.free 0
 have f1 := k2.free 1
 have f2 := k2.free 2
 have d0 := k2.cell 0
 have d1 := k2.cell 1
 have d2 := k2.cell 2
 simp only [List.getElem?_toArray, List.getElem?_cons_succ, List.getElem?_cons_zero] at d0 d1 d2
 rw [hg]
 clear hg1 hW1 hg k1 k2 hs1
 by_cases hi0 : i < 0
 ·have HX : Hid (xLoseO L.era i = L.era ∧ xErrL L.era i = 3) := Lib.hid (by
   have e : xErrL L.era i = 3 := by rw [xErrL_of HSH.out, if_neg (by omega)]
   exact ⟨by unfold xLoseO; rw [e]; rfl, e⟩)
  go_wp2_with fail
  generalize hW : World.setCell (World.setCell (World.setCell w1 _ _) _ _) _ _ = W
  obtain ⟨kW, cW⟩ := put33 (HK2.out) hW
  have u0 := kW.cell 0
  have u1 := kW.cell 1
  have u2 := kW.cell 2
  refine bodyPost_ret (v := .tuple #[.agg #[.slice As n cs, .slice At m ct, .slice Al l cl], .int .i64 3]) ?_ ?_ ?_
  ·simp [results, Tryz.results35, go_sem, u0, u1, u2]
  ·rfl
  ·rw [← HM.out, HX.out.1, HX.out.2]
   exact EndX.err HA.out (cW.up (HG.out) (fun t ht => by have := HS.out; simp at ht; omega)) rfl HSH.out
 by_cases hi1 : (l : Int) ≤ i
 ·have HX : Hid (xLoseO L.era i = L.era ∧ xErrL L.era i = 3) := Lib.hid (by
   have e : xErrL L.era i = 3 := by rw [xErrL_of HSH.out, if_neg (by omega)]
   exact ⟨by unfold xLoseO; rw [e]; rfl, e⟩)
  go_wp2_with fail
  generalize hW : World.setCell (World.setCell (World.setCell w1 _ _) _ _) _ _ = W
  obtain ⟨kW, cW⟩ := put33 (HK2.out) hW
  have u0 := kW.cell 0
  have u1 := kW.cell 1
  have u2 := kW.cell 2
  refine bodyPost_ret (v := .tuple #[.agg #[.slice As n cs, .slice At m ct, .slice Al l cl], .int .i64 3]) ?_ ?_ ?_
  ·simp [results, Tryz.results35, go_sem, u0, u1, u2]
  ·rfl
  ·rw [← HM.out, HX.out.1, HX.out.2]
   exact EndX.err HA.out (cW.up (HG.out) (fun t ht => by have := HS.out; simp at ht; omega)) rfl HSH.out
 obtain ⟨k, rfl⟩ : ∃ k : Nat, i = (k : Int) := ⟨i.toNat, by omega⟩
 have hk : k < l := by omega
 have hki : (k : Int) < (l : Int) := by omega
 have HX : Hid (xLoseO L.era (k : Int) = xWithout L.era k ∧ xErrL L.era (k : Int) = 0) := Lib.hid (by
  have e : xErrL L.era (k : Int) = 0 := by rw [xErrL_of HSH.out, if_pos (by omega)]
  exact ⟨by unfold xLoseO; rw [e, if_pos rfl]; rfl, e⟩)
 go_wp2_with fail
 refine (xcopyV HA.out (HG.out) HL.out HSH.out).mono ?_
 rintro e w3 ⟨L3, rfl, hc1, hc2, HERA3, hc3⟩
 have HGO3 := Lib.hid (Out5.start ⟨hc1, hc2, hc3⟩ (by have := HS.out; omega) (HK2.out))
 replace HERA3 := Lib.hid HERA3
 have HGC3 := Lib.hid hc3
 have HYG3 := Lib.hid hc2
 obtain ⟨As3, At3, Al3, n3, m3, l3, cs3, ct3, cl3, HSH3⟩ := hc1.rd0.shp
 replace HSH3 := Lib.hid HSH3
 rw [HSH3.out.v]
 have HB3 : Hid (Blk w3 g 33 #[.slice As n cs, .slice At m ct, .slice Al l cl] ∧ g ∉ blkR L3.rows) := Lib.hid ⟨(HK1.out).keep hc3, fun hm => by have := hc2 g hm; have := (HK1.out).lt; omega⟩
 have HN3 : Hid (n3 = n ∧ m3 = m ∧ l3 = l) := Lib.hid (by
  have e := HERA3.out
  refine ⟨?_, ?_, ?_⟩
  ·have := congrArg (fun X => X.sites.length) e
   simp only [lens_era.1] at this
   rw [HSH3.out.n, HSH.out.n] at this
   exact this
  ·have := congrArg (fun X => X.txs.length) e
   simp only [lens_era.2.1] at this
   rw [HSH3.out.m, HSH.out.m] at this
   exact this
  ·have := congrArg (fun X => X.mail.length) e
   simp only [lens_era.2.2] at this
   rw [HSH3.out.l, HSH.out.l] at this
   exact this)
 clear hc1 hc2 hc3
 go_wp2_with fail
 refine (xwithoutV HGO3.out.ow (by rw [HERA3.out]; exact HL.out) HSH3.out k (by rw [HN3.out.2.2]; exact hk)).mono ?_
 intro e w4 hst
 obtain ⟨L4, rfl, HGO4, HERA4, HFR4⟩ := HGO3.out.step hst
 replace HGO4 := Lib.hid HGO4
 replace HERA4 := Lib.hid HERA4
 replace HFR4 := Lib.hid HFR4
 obtain ⟨As4, At4, Al4, n4, m4, l4, cs4, ct4, cl4, HSH4⟩ := HGO4.out.ow.rd0.shp
 replace HSH4 := Lib.hid HSH4
 rw [HSH4.out.v]
 clear hst f0 f1 f2 d0 d1 d2
 have f0 := HGO4.out.b2.free 0
 have f1 := HGO4.out.b2.free 1
 have f2 := HGO4.out.b2.free 2
 have d0 := HGO4.out.b2.cell 0
 have d1 := HGO4.out.b2.cell 1
 have d2 := HGO4.out.b2.cell 2
 simp only [List.getElem?_toArray, List.getElem?_cons_succ, List.getElem?_cons_zero] at d0 d1 d2
 go_wp2_with fail
 generalize hW : World.setCell (World.setCell (World.setCell w4 _ _) _ _) _ _ = W
 obtain ⟨kW, -⟩ := put33 HGO4.out.b2 hW
 have u0 := kW.cell 0
 have u1 := kW.cell 1
 have u2 := kW.cell 2
 refine bodyPost_ret (v := .tuple #[.agg #[.slice As4 n4 cs4, .slice At4 m4 ct4, .slice Al4 l4 cl4], .int .i64 0]) ?_ ?_ ?_
 ·simp [results, Tryz.results35, go_sem, u0, u1, u2]
 ·rfl
 ·rw [← HM.out, HX.out.1, HX.out.2]
  exact HGO4.out.done HS0.out (by rw [HERA4.out, HERA3.out]) HSH4.out hW
theorem xdeliver_any (S : List Nat) (w : World) (L : LN) (h : XAt S w L) (hS : ∀ g ∈ S, g < w.heap.size) (hl : XLe L.era) (i : Int) (hr : XRg L.era) (hm : ∀ x ∈ L.mail, OkM L.era.sites.length (L.era.txs.length : Int) x) :
 Calls Tryz.prog 33 #[L.v, .int .i64 i] w (EndX S w (xDeliverO L.era i) (xErrL L.era i)) := by
 obtain ⟨As, At, Al, n, m, l, cs, ct, cl, hsh⟩ := h.rd.shp
 have h8 : n ≤ 8 := by have := hl.s8; rw [lens_era.1, hsh.n] at this; exact this
 have h256 : m ≤ 256 := by have := hl.tx; rw [lens_era.2.1, hsh.m] at this; exact this
 have hml : l ≤ 1024 := by have := hl.ml; rw [lens_era.2.2, hsh.l] at this; exact this
 have HSH := Lib.hid hsh
 have HA := Lib.hid h
 have HS0 := Lib.hid hS
 have HL := Lib.hid hl
 have HRG := Lib.hid hr
 have HMO := Lib.hid hm
 clear hr hm
 rw [hsh.v]
 obtain ⟨M, hM⟩ : ∃ M, EndX S w (xDeliverO L.era i) (xErrL L.era i) = M := ⟨_, rfl⟩
 rw [hM]
 have HM := Lib.hid hM
 clear h hS hl hsh hM
 go_enter Tryz.func33, Tryz.ntmps33
 go_upto_region 1 with fail
 generalize hW1 : World.alloc (World.alloc w _) _ = w1
 obtain ⟨g, hg⟩ : ∃ g, w.heap.size = g := ⟨_, rfl⟩
 obtain ⟨hg1, k1, k2, hs1⟩ := box33 hg hW1
 have HG := Lib.hid hg1
 have HS := Lib.hid hg
 have HS1 := Lib.hid hs1
 have HK1 := Lib.hid k1
 have HK2 := Lib.hid k2
 have b0 := k1.cell 0
 have b1 := k1.cell 1
 have b2 := k1.cell 2
 simp only [List.getElem?_toArray, List.getElem?_cons_succ, List.getElem?_cons_zero] at b0 b1 b2
 have f0 := k2.free 0
 have f1 := k2.free 1
 have f2 := k2.free 2
 have d0 := k2.cell 0
 have d1 := k2.cell 1
 have d2 := k2.cell 2
 simp only [List.getElem?_toArray, List.getElem?_cons_succ, List.getElem?_cons_zero] at d0 d1 d2
 rw [hg]
 clear hg1 hW1 hg k1 k2 hs1
 by_cases hi0 : i < 0
 ·have HX : Hid (xDeliverO L.era i = L.era ∧ xErrL L.era i = 3) := Lib.hid (by
   have e : xErrL L.era i = 3 := by rw [xErrL_of HSH.out, if_neg (by omega)]
   exact ⟨by unfold xDeliverO; rw [e]; rfl, e⟩)
  go_wp2_with fail
  generalize hW : World.setCell (World.setCell (World.setCell w1 _ _) _ _) _ _ = W
  obtain ⟨kW, cW⟩ := put33 (HK2.out) hW
  have u0 := kW.cell 0
  have u1 := kW.cell 1
  have u2 := kW.cell 2
  refine bodyPost_ret (v := .tuple #[.agg #[.slice As n cs, .slice At m ct, .slice Al l cl], .int .i64 3]) ?_ ?_ ?_
  ·simp [results, Tryz.results33, go_sem, u0, u1, u2]
  ·rfl
  ·rw [← HM.out, HX.out.1, HX.out.2]
   exact EndX.err HA.out (cW.up (HG.out) (fun t ht => by have := HS.out; simp at ht; omega)) rfl HSH.out
 by_cases hi1 : (l : Int) ≤ i
 ·have HX : Hid (xDeliverO L.era i = L.era ∧ xErrL L.era i = 3) := Lib.hid (by
   have e : xErrL L.era i = 3 := by rw [xErrL_of HSH.out, if_neg (by omega)]
   exact ⟨by unfold xDeliverO; rw [e]; rfl, e⟩)
  go_wp2_with fail
  generalize hW : World.setCell (World.setCell (World.setCell w1 _ _) _ _) _ _ = W
  obtain ⟨kW, cW⟩ := put33 (HK2.out) hW
  have u0 := kW.cell 0
  have u1 := kW.cell 1
  have u2 := kW.cell 2
  refine bodyPost_ret (v := .tuple #[.agg #[.slice As n cs, .slice At m ct, .slice Al l cl], .int .i64 3]) ?_ ?_ ?_
  ·simp [results, Tryz.results33, go_sem, u0, u1, u2]
  ·rfl
  ·rw [← HM.out, HX.out.1, HX.out.2]
   exact EndX.err HA.out (cW.up (HG.out) (fun t ht => by have := HS.out; simp at ht; omega)) rfl HSH.out
 obtain ⟨k, rfl⟩ : ∃ k : Nat, i = (k : Int) := ⟨i.toNat, by omega⟩
 have hk : k < l := by omega
 have hki : (k : Int) < (l : Int) := by omega
 have HX : Hid (xDeliverO L.era (k : Int) = xDeliver L.era k ∧ xErrL L.era (k : Int) = 0) := Lib.hid (by
  have e : xErrL L.era (k : Int) = 0 := by rw [xErrL_of HSH.out, if_pos (by omega)]
  exact ⟨by unfold xDeliverO; rw [e, if_pos rfl]; rfl, e⟩)
 obtain ⟨md, hmd⟩ : ∃ md, L.mail[k]? = some md := ⟨_, List.getElem?_eq_getElem (by rw [HSH.out.l]; exact hk)⟩
 have hok := HMO.out md (List.mem_of_getElem? hmd)
 have HMD := Lib.hid hmd
 obtain ⟨Ab, cb', eb, -, -, hrl⟩ := HA.out.rd.lv
 rw [HSH.out.lv, HSH.out.l] at eb
 injection eb with eb _ ec
 subst eb
 subst ec
 obtain ⟨f, dst, kd, tx, ch⟩ := md
 obtain ⟨hf, hd, hkd, htx, hch⟩ := hok
 dsimp only at hf hd hkd htx hch
 rw [lens_era.1, HSH.out.n] at hd
 rw [lens_era.2.1, HSH.out.m] at htx
 obtain ⟨a, rfl⟩ : ∃ a : Nat, dst = (a : Int) := ⟨dst.toNat, by omega⟩
 obtain ⟨q, rfl⟩ : ∃ q : Nat, tx = (q : Int) + 1 := ⟨(tx - 1).toNat, by omega⟩
 have ha : a < n := by omega
 have hq : q < m := by omega
 have HKD := Lib.hid hkd
 have HCH := Lib.hid hch
 have HRL := Lib.hid hrl
 clear hf hd hkd htx hch hrl hmd
 have HDV : Hid (xDeliver L.era k = if (xSite L.era (a : Int)).down then xWithout L.era k else xHandle (xWithout L.era k) (f, (a : Int), kd, (q : Int) + 1, ch)) := Lib.hid (by
  unfold xDeliver
  rw [show L.era.mail = L.mail from rfl, HMD.out])
 obtain ⟨bl, ol, rfl, hcl⟩ := (HRL.out.keep HG.out) k _ HMD.out
 have c0 := hcl 0 _ rfl
 have c1 := hcl 1 _ rfl
 have c2 := hcl 2 _ rfl
 have c3 := hcl 3 _ rfl
 have c4 := hcl 4 _ rfl
 rw [Nat.add_zero] at c0
 have hal := (Gr.refl w1).alloc (.cells #[.int .i64 0, .int .i64 0, .int .i64 0, .int .i64 0, .int .i64 0] 59)
 clear hcl
 go_upto_region 4 with fail
 generalize hW2 : World.alloc w1 _ = w2
 have km : Blk w2 (g + 2) 59 #[.int .i64 f, .int .i64 (a : Int), .int .i64 kd, .int .i64 ((q : Int) + 1), .int .i64 ch] := by rw [← hW2]; exact Blk.new _ _ _ HS1.out
 have hg2 : Gr w1 w2 := by rw [← hW2]; exact (Gr.refl w1).alloc _
 have HG2 := Lib.hid (HG.out.trans hg2)
 rw [HS1.out]
 have HKM := Lib.hid km
 have HK12 := Lib.hid (HK1.out.keep hg2)
 have HK22 := Lib.hid (HK2.out.keep hg2)
 have b0 := HK12.out.cell 0
 have b1 := HK12.out.cell 1
 have b2 := HK12.out.cell 2
 simp only [List.getElem?_toArray, List.getElem?_cons_succ, List.getElem?_cons_zero] at b0 b1 b2
 clear c0 c1 c2 c3 c4 hal hW2 km hg2 f0 f1 f2 d0 d1 d2
 go_wp2_with fail
 refine (xcopyV HA.out (HG2.out) HL.out HSH.out).mono ?_
 rintro e w3 ⟨L3, rfl, hc1, hc2, HERA3, hc3⟩
 have HGO3 := Lib.hid (Out5.start ⟨hc1, hc2, hc3⟩ (by have := HS.out; omega) (HK22.out))
 replace HERA3 := Lib.hid HERA3
 have HGC3 := Lib.hid hc3
 have HYG3 := Lib.hid hc2
 obtain ⟨As3, At3, Al3, n3, m3, l3, cs3, ct3, cl3, HSH3⟩ := hc1.rd0.shp
 replace HSH3 := Lib.hid HSH3
 rw [HSH3.out.v]
 have HB3 : Hid (Blk w3 g 33 #[.slice As n cs, .slice At m ct, .slice (some ⟨bl, ol, none⟩) l cl] ∧ g ∉ blkR L3.rows) := Lib.hid ⟨(HK12.out).keep hc3, fun hm => by have := hc2 g hm; have := (HK12.out).lt; omega⟩
 have HN3 : Hid (n3 = n ∧ m3 = m ∧ l3 = l) := Lib.hid (by
  have e := HERA3.out
  refine ⟨?_, ?_, ?_⟩
  ·have := congrArg (fun X => X.sites.length) e
   simp only [lens_era.1] at this
   rw [HSH3.out.n, HSH.out.n] at this
   exact this
  ·have := congrArg (fun X => X.txs.length) e
   simp only [lens_era.2.1] at this
   rw [HSH3.out.m, HSH.out.m] at this
   exact this
  ·have := congrArg (fun X => X.mail.length) e
   simp only [lens_era.2.2] at this
   rw [HSH3.out.l, HSH.out.l] at this
   exact this)
 clear hc1 hc2 hc3
 have HM3 : Hid (Blk w3 (g + 2) 59 #[.int .i64 f, .int .i64 (a : Int), .int .i64 kd, .int .i64 ((q : Int) + 1), .int .i64 ch] ∧ g + 2 ∉ blkR L3.rows) := Lib.hid ⟨HKM.out.keep HGC3.out, fun hm => by have := HYG3.out _ hm; have := HKM.out.lt; omega⟩
 go_wp2_with fail
 refine (xwithoutV HGO3.out.ow (by rw [HERA3.out]; exact HL.out) HSH3.out k (by rw [HN3.out.2.2]; exact hk)).mono ?_
 intro e w4 hst
 obtain ⟨L4, rfl, HGO4, HERA4, HFR4⟩ := HGO3.out.step hst
 replace HGO4 := Lib.hid HGO4
 replace HERA4 := Lib.hid HERA4
 replace HFR4 := Lib.hid HFR4
 obtain ⟨As4, At4, Al4, n4, m4, l4, cs4, ct4, cl4, HSH4⟩ := HGO4.out.ow.rd0.shp
 replace HSH4 := Lib.hid HSH4
 rw [HSH4.out.v]
 clear hst
 have HB4 := Lib.hid (HFR4.out.stay HB3.out.1 HB3.out.2)
 have HM4 := Lib.hid (HFR4.out.stay HM3.out.1 HM3.out.2)
 have hlen4 : n4 = n ∧ m4 = m := by
  have := len_of (L := L) (L' := L4) (X := xWithout L.era k) (by rw [HERA4.out, HERA3.out]) ⟨rfl, rfl⟩
  rw [HSH4.out.n, HSH4.out.m, HSH.out.n, HSH.out.m] at this
  exact this
 have han4 : a < n4 := by omega
 have hqm4 : q < m4 := by omega
 clear hlen4
 have f0 := HB4.out.1.free 0
 have f1 := HB4.out.1.free 1
 have f2 := HB4.out.1.free 2
 have d0 := HB4.out.1.cell 0
 have d1 := HB4.out.1.cell 1
 have d2 := HB4.out.1.cell 2
 simp only [List.getElem?_toArray, List.getElem?_cons_succ, List.getElem?_cons_zero] at d0 d1 d2
 go_upto_region 5 with fail
 generalize hWn : World.setCell (World.setCell (World.setCell w4 _ _) _ _) _ _ = w5
 obtain ⟨kb, cb⟩ := put33 HB4.out.1 hWn
 have HGO5 := Lib.hid (HGO4.out.side cb (fun t ht => by rw [List.mem_singleton.1 ht]; exact ⟨by have := HS.out; omega, HB4.out.2, by omega, _, _, HB4.out.1, by decide⟩))
 have HB5 : Hid (Blk w5 g 33 #[.slice As4 n4 cs4, .slice At4 m4 ct4, .slice Al4 l4 cl4] ∧ g ∉ blkR L4.rows) := Lib.hid ⟨kb, HB4.out.2⟩
 have HCB5 := Lib.hid cb
 have b0 := kb.cell 0
 have b1 := kb.cell 1
 have b2 := kb.cell 2
 simp only [List.getElem?_toArray, List.getElem?_cons_succ, List.getElem?_cons_zero] at b0 b1 b2
 clear f0 f1 f2 d0 d1 d2 hWn kb cb
 have HM5 : Hid (Blk w5 (g + 2) _ _ ∧ g + 2 ∉ blkR L4.rows) := Lib.hid ⟨(HCB5.out.block (g + 2) HM4.out.1.lt (by simp)).trans HM4.out.1, HM4.out.2⟩
 have p0 := HM5.out.1.cell 0
 have p1 := HM5.out.1.cell 1
 have p2 := HM5.out.1.cell 2
 have p3 := HM5.out.1.cell 3
 have p4 := HM5.out.1.cell 4
 simp only [List.getElem?_toArray, List.getElem?_cons_succ, List.getElem?_cons_zero] at p0 p1 p2 p3 p4
 obtain ⟨s, hs⟩ := site_at (L := L4) a (by rw [HSH4.out.n]; exact han4)
 obtain ⟨gs, cc, hsv, hcs⟩ := HGO5.out.ow.cellsS hs
 rw [HSH4.out.sv, HSH4.out.n] at hsv
 injection hsv with hAs _ hcc
 subst hAs
 subst hcc
 obtain ⟨-, c1, -⟩ := hcs w5 HGO5.out.ow
 have HSI := Lib.hid hs
 have hai : (a : Int) < (n4 : Int) := by omega
 have ha0 : (0 : Int) ≤ (a : Int) := by omega
 clear hs hcs
 obtain ⟨dn, hdn⟩ : ∃ dn, s.down = dn := ⟨_, rfl⟩
 rw [hdn] at c1
 have HDN : Hid ((xSite L.era (a : Int)).down = dn) := Lib.hid (by
  have := era_site HSI.out
  rw [HERA4.out, HERA3.out] at this
  have h2 := congrArg XS.down this
  rw [← hdn]
  exact h2)
 clear hdn
 cases dn with
 | true =>
   have HX2 : Hid (xDeliver L.era k = xWithout L.era k) := Lib.hid (by rw [HDV.out, HDN.out, if_pos rfl])
   have f0 := HGO5.out.b2.free 0
   have f1 := HGO5.out.b2.free 1
   have f2 := HGO5.out.b2.free 2
   have d0 := HGO5.out.b2.cell 0
   have d1 := HGO5.out.b2.cell 1
   have d2 := HGO5.out.b2.cell 2
   simp only [List.getElem?_toArray, List.getElem?_cons_succ, List.getElem?_cons_zero] at d0 d1 d2
   go_wp2_with fail
   generalize hW : World.setCell (World.setCell (World.setCell w5 _ _) _ _) _ _ = W
   obtain ⟨kW, -⟩ := put33 HGO5.out.b2 hW
   have u0 := kW.cell 0
   have u1 := kW.cell 1
   have u2 := kW.cell 2
   refine bodyPost_ret (v := .tuple #[.agg #[.slice (some ⟨gs, 0, none⟩) n4 cs4, .slice At4 m4 ct4, .slice Al4 l4 cl4], .int .i64 0]) ?_ ?_ ?_
   ·simp [results, Tryz.results33, go_sem, u0, u1, u2]
   ·rfl
   ·rw [← HM.out, HX.out.1, HX.out.2]
    exact HGO5.out.done HS0.out (by rw [HX2.out, HERA4.out, HERA3.out]) HSH4.out hW
 | false =>
   have HX2 : Hid (xDeliver L.era k = xHandle (xWithout L.era k) (f, (a : Int), kd, (q : Int) + 1, ch)) := Lib.hid (by rw [HDV.out, HDN.out, if_neg (by decide)])
   go_wp2_with fail
   refine (xhandleV HGO5.out.ow (by rw [HERA4.out, HERA3.out]; exact HL.out.mail _ (by have := HL.out.ml; rw [List.length_eraseIdx]; split <;> omega)) (by rw [HERA4.out, HERA3.out]; exact HRG.out) HSH4.out f a kd q ch han4 hqm4 HKD.out HCH.out).mono ?_
   intro e w6 hst
   obtain ⟨L6, rfl, HGO6, HERA6, HFR6⟩ := HGO5.out.step hst
   replace HGO6 := Lib.hid HGO6
   replace HERA6 := Lib.hid HERA6
   replace HFR6 := Lib.hid HFR6
   obtain ⟨As6, At6, Al6, n6, m6, l6, cs6, ct6, cl6, HSH6⟩ := HGO6.out.ow.rd0.shp
   replace HSH6 := Lib.hid HSH6
   rw [HSH6.out.v]
   clear hst
   have f0 := HGO6.out.b2.free 0
   have f1 := HGO6.out.b2.free 1
   have f2 := HGO6.out.b2.free 2
   have d0 := HGO6.out.b2.cell 0
   have d1 := HGO6.out.b2.cell 1
   have d2 := HGO6.out.b2.cell 2
   simp only [List.getElem?_toArray, List.getElem?_cons_succ, List.getElem?_cons_zero] at d0 d1 d2
   go_wp2_with fail
   generalize hW : World.setCell (World.setCell (World.setCell w6 _ _) _ _) _ _ = W
   obtain ⟨kW, -⟩ := put33 HGO6.out.b2 hW
   have u0 := kW.cell 0
   have u1 := kW.cell 1
   have u2 := kW.cell 2
   refine bodyPost_ret (v := .tuple #[.agg #[.slice As6 n6 cs6, .slice At6 m6 ct6, .slice Al6 l6 cl6], .int .i64 0]) ?_ ?_ ?_
   ·simp [results, Tryz.results33, go_sem, u0, u1, u2]
   ·rfl
   ·rw [← HM.out, HX.out.1, HX.out.2]
    exact HGO6.out.done HS0.out (by rw [HX2.out, HERA6.out, HERA4.out, HERA3.out]) HSH6.out hW
theorem xrepeat_any (S : List Nat) (w : World) (L : LN) (h : XAt S w L) (hS : ∀ g ∈ S, g < w.heap.size) (hl : XLe L.era) (i : Int) (hr : XRg L.era) (hm : ∀ x ∈ L.mail, OkM L.era.sites.length (L.era.txs.length : Int) x) :
 Calls Tryz.prog 34 #[L.v, .int .i64 i] w (EndX S w (xRepeatO L.era i) (xErrL L.era i)) := by
 obtain ⟨As, At, Al, n, m, l, cs, ct, cl, hsh⟩ := h.rd.shp
 have h8 : n ≤ 8 := by have := hl.s8; rw [lens_era.1, hsh.n] at this; exact this
 have h256 : m ≤ 256 := by have := hl.tx; rw [lens_era.2.1, hsh.m] at this; exact this
 have hml : l ≤ 1024 := by have := hl.ml; rw [lens_era.2.2, hsh.l] at this; exact this
 have HSH := Lib.hid hsh
 have HA := Lib.hid h
 have HS0 := Lib.hid hS
 have HL := Lib.hid hl
 have HRG := Lib.hid hr
 have HMO := Lib.hid hm
 clear hr hm
 rw [hsh.v]
 obtain ⟨M, hM⟩ : ∃ M, EndX S w (xRepeatO L.era i) (xErrL L.era i) = M := ⟨_, rfl⟩
 rw [hM]
 have HM := Lib.hid hM
 clear h hS hl hsh hM
 go_enter Tryz.func34, Tryz.ntmps34
 go_upto_region 1 with fail
 generalize hW1 : World.alloc (World.alloc w _) _ = w1
 obtain ⟨g, hg⟩ : ∃ g, w.heap.size = g := ⟨_, rfl⟩
 obtain ⟨hg1, k1, k2, hs1⟩ := box33 hg hW1
 have HG := Lib.hid hg1
 have HS := Lib.hid hg
 have HS1 := Lib.hid hs1
 have HK1 := Lib.hid k1
 have HK2 := Lib.hid k2
 have b0 := k1.cell 0
 have b1 := k1.cell 1
 have b2 := k1.cell 2
 simp only [List.getElem?_toArray, List.getElem?_cons_succ, List.getElem?_cons_zero] at b0 b1 b2
 have f0 := k2.free 0
 have f1 := k2.free 1
 have f2 := k2.free 2
 have d0 := k2.cell 0
 have d1 := k2.cell 1
 have d2 := k2.cell 2
 simp only [List.getElem?_toArray, List.getElem?_cons_succ, List.getElem?_cons_zero] at d0 d1 d2
 rw [hg]
 clear hg1 hW1 hg k1 k2 hs1
 by_cases hi0 : i < 0
 ·have HX : Hid (xRepeatO L.era i = L.era ∧ xErrL L.era i = 3) := Lib.hid (by
   have e : xErrL L.era i = 3 := by rw [xErrL_of HSH.out, if_neg (by omega)]
   exact ⟨by unfold xRepeatO; rw [e]; rfl, e⟩)
  go_wp2_with fail
  generalize hW : World.setCell (World.setCell (World.setCell w1 _ _) _ _) _ _ = W
  obtain ⟨kW, cW⟩ := put33 (HK2.out) hW
  have u0 := kW.cell 0
  have u1 := kW.cell 1
  have u2 := kW.cell 2
  refine bodyPost_ret (v := .tuple #[.agg #[.slice As n cs, .slice At m ct, .slice Al l cl], .int .i64 3]) ?_ ?_ ?_
  ·simp [results, Tryz.results34, go_sem, u0, u1, u2]
  ·rfl
  ·rw [← HM.out, HX.out.1, HX.out.2]
   exact EndX.err HA.out (cW.up (HG.out) (fun t ht => by have := HS.out; simp at ht; omega)) rfl HSH.out
 by_cases hi1 : (l : Int) ≤ i
 ·have HX : Hid (xRepeatO L.era i = L.era ∧ xErrL L.era i = 3) := Lib.hid (by
   have e : xErrL L.era i = 3 := by rw [xErrL_of HSH.out, if_neg (by omega)]
   exact ⟨by unfold xRepeatO; rw [e]; rfl, e⟩)
  go_wp2_with fail
  generalize hW : World.setCell (World.setCell (World.setCell w1 _ _) _ _) _ _ = W
  obtain ⟨kW, cW⟩ := put33 (HK2.out) hW
  have u0 := kW.cell 0
  have u1 := kW.cell 1
  have u2 := kW.cell 2
  refine bodyPost_ret (v := .tuple #[.agg #[.slice As n cs, .slice At m ct, .slice Al l cl], .int .i64 3]) ?_ ?_ ?_
  ·simp [results, Tryz.results34, go_sem, u0, u1, u2]
  ·rfl
  ·rw [← HM.out, HX.out.1, HX.out.2]
   exact EndX.err HA.out (cW.up (HG.out) (fun t ht => by have := HS.out; simp at ht; omega)) rfl HSH.out
 obtain ⟨k, rfl⟩ : ∃ k : Nat, i = (k : Int) := ⟨i.toNat, by omega⟩
 have hk : k < l := by omega
 have hki : (k : Int) < (l : Int) := by omega
 have HX : Hid (xRepeatO L.era (k : Int) = xRepeat L.era k ∧ xErrL L.era (k : Int) = 0) := Lib.hid (by
  have e : xErrL L.era (k : Int) = 0 := by rw [xErrL_of HSH.out, if_pos (by omega)]
  exact ⟨by unfold xRepeatO; rw [e, if_pos rfl]; rfl, e⟩)
 obtain ⟨md, hmd⟩ : ∃ md, L.mail[k]? = some md := ⟨_, List.getElem?_eq_getElem (by rw [HSH.out.l]; exact hk)⟩
 have hok := HMO.out md (List.mem_of_getElem? hmd)
 have HMD := Lib.hid hmd
 obtain ⟨Ab, cb', eb, -, -, hrl⟩ := HA.out.rd.lv
 rw [HSH.out.lv, HSH.out.l] at eb
 injection eb with eb _ ec
 subst eb
 subst ec
 obtain ⟨f, dst, kd, tx, ch⟩ := md
 obtain ⟨hf, hd, hkd, htx, hch⟩ := hok
 dsimp only at hf hd hkd htx hch
 rw [lens_era.1, HSH.out.n] at hd
 rw [lens_era.2.1, HSH.out.m] at htx
 obtain ⟨a, rfl⟩ : ∃ a : Nat, dst = (a : Int) := ⟨dst.toNat, by omega⟩
 obtain ⟨q, rfl⟩ : ∃ q : Nat, tx = (q : Int) + 1 := ⟨(tx - 1).toNat, by omega⟩
 have ha : a < n := by omega
 have hq : q < m := by omega
 have HKD := Lib.hid hkd
 have HCH := Lib.hid hch
 have HRL := Lib.hid hrl
 clear hf hd hkd htx hch hrl hmd
 have HDV : Hid (xRepeat L.era k = if (xSite L.era (a : Int)).down then L.era else xHandle L.era (f, (a : Int), kd, (q : Int) + 1, ch)) := Lib.hid (by
  unfold xRepeat
  rw [show L.era.mail = L.mail from rfl, HMD.out])
 clear f0 f1 f2 d0 d1 d2
 go_wp2_with fail
 refine (xcopyV HA.out (HG.out) HL.out HSH.out).mono ?_
 rintro e w3 ⟨L3, rfl, hc1, hc2, HERA3, hc3⟩
 have HGO3 := Lib.hid (Out5.start ⟨hc1, hc2, hc3⟩ (by have := HS.out; omega) (HK2.out))
 replace HERA3 := Lib.hid HERA3
 have HGC3 := Lib.hid hc3
 have HYG3 := Lib.hid hc2
 obtain ⟨As3, At3, Al3, n3, m3, l3, cs3, ct3, cl3, HSH3⟩ := hc1.rd0.shp
 replace HSH3 := Lib.hid HSH3
 rw [HSH3.out.v]
 have HB3 : Hid (Blk w3 g 33 #[.slice As n cs, .slice At m ct, .slice Al l cl] ∧ g ∉ blkR L3.rows) := Lib.hid ⟨(HK1.out).keep hc3, fun hm => by have := hc2 g hm; have := (HK1.out).lt; omega⟩
 have HN3 : Hid (n3 = n ∧ m3 = m ∧ l3 = l) := Lib.hid (by
  have e := HERA3.out
  refine ⟨?_, ?_, ?_⟩
  ·have := congrArg (fun X => X.sites.length) e
   simp only [lens_era.1] at this
   rw [HSH3.out.n, HSH.out.n] at this
   exact this
  ·have := congrArg (fun X => X.txs.length) e
   simp only [lens_era.2.1] at this
   rw [HSH3.out.m, HSH.out.m] at this
   exact this
  ·have := congrArg (fun X => X.mail.length) e
   simp only [lens_era.2.2] at this
   rw [HSH3.out.l, HSH.out.l] at this
   exact this)
 clear hc1 hc2 hc3
 have f0 := HB3.out.1.free 0
 have f1 := HB3.out.1.free 1
 have f2 := HB3.out.1.free 2
 have d0 := HB3.out.1.cell 0
 have d1 := HB3.out.1.cell 1
 have d2 := HB3.out.1.cell 2
 simp only [List.getElem?_toArray, List.getElem?_cons_succ, List.getElem?_cons_zero] at d0 d1 d2
 go_upto_region 4 with fail
 generalize hWn : World.setCell (World.setCell (World.setCell w3 _ _) _ _) _ _ = w4
 obtain ⟨kb, cb⟩ := put33 HB3.out.1 hWn
 have HGO4 := Lib.hid (HGO3.out.side cb (fun t ht => by rw [List.mem_singleton.1 ht]; exact ⟨by have := HS.out; omega, HB3.out.2, by omega, _, _, HB3.out.1, by decide⟩))
 have HB4 : Hid (Blk w4 g 33 #[.slice As3 n3 cs3, .slice At3 m3 ct3, .slice Al3 l3 cl3] ∧ g ∉ blkR L3.rows) := Lib.hid ⟨kb, HB3.out.2⟩
 have HCB4 := Lib.hid cb
 have b0 := kb.cell 0
 have b1 := kb.cell 1
 have b2 := kb.cell 2
 simp only [List.getElem?_toArray, List.getElem?_cons_succ, List.getElem?_cons_zero] at b0 b1 b2
 clear f0 f1 f2 d0 d1 d2 hWn kb cb
 have hmail3 : L3.mail = L.mail := congrArg XN.mail HERA3.out
 have han3 : a < n3 := by have := HN3.out.1; omega
 have hqm3 : q < m3 := by have := HN3.out.2.1; omega
 have hkl3 : k < l3 := by have := HN3.out.2.2; omega
 obtain ⟨s, hs⟩ := site_at (L := L3) a (by rw [HSH3.out.n]; exact han3)
 obtain ⟨gs, cc, hsv, hcs⟩ := HGO4.out.ow.cellsS hs
 rw [HSH3.out.sv, HSH3.out.n] at hsv
 injection hsv with hAs _ hcc
 subst hAs
 subst hcc
 obtain ⟨-, c1, -⟩ := hcs w4 HGO4.out.ow
 have HSI := Lib.hid hs
 have hai : (a : Int) < (n3 : Int) := by omega
 have ha0 : (0 : Int) ≤ (a : Int) := by omega
 clear hs hcs
 obtain ⟨A5, c5, e5, -, -, hr5⟩ := HGO4.out.ow.rd0.lv
 rw [HSH3.out.lv, HSH3.out.l] at e5
 injection e5 with e5 _ ec5
 obtain ⟨bm, om, eA, hcl⟩ := hr5 k _ (by rw [hmail3]; exact HMD.out)
 rw [eA] at e5
 subst e5
 clear eA hr5 ec5
 have p0 := hcl 0 _ rfl
 have p1 := hcl 1 _ rfl
 have p2 := hcl 2 _ rfl
 have p3 := hcl 3 _ rfl
 have p4 := hcl 4 _ rfl
 rw [Nat.add_zero] at p0
 have HP := Lib.hid (And.intro p0 (And.intro p1 (And.intro p2 (And.intro p3 p4))))
 have hki3 : (k : Int) < (l3 : Int) := by omega
 have hk0 : (0 : Int) ≤ (k : Int) := by omega
 obtain ⟨dn, hdn⟩ : ∃ dn, s.down = dn := ⟨_, rfl⟩
 rw [hdn] at c1
 have HDN : Hid ((xSite L.era (a : Int)).down = dn) := Lib.hid (by
  have := era_site HSI.out
  rw [HERA3.out] at this
  have h2 := congrArg XS.down this
  rw [← hdn]
  exact h2)
 clear hdn hcl hmail3 p0 p2 p3 p4 b1 b2
 have b2 := HB4.out.1.cell 2
 simp only [List.getElem?_toArray, List.getElem?_cons_succ, List.getElem?_cons_zero] at b2
 go_quiet (fail)
 generalize hWq : World.drewN w4 _ = w5
 have hgq : Gr w4 w5 := by rw [← hWq]; exact Gr.drewN (Gr.refl _) _
 have HGO5 := Lib.hid (HGO4.out.keep hgq)
 have HB5 := Lib.hid (HB4.out.1.keep hgq)
 obtain ⟨p0, p1, p2, p3, p4⟩ := HP.out
 replace p0 := hgq.keep p0
 replace p1 := hgq.keep p1
 replace p2 := hgq.keep p2
 replace p3 := hgq.keep p3
 replace p4 := hgq.keep p4
 clear b0 b2 c1 hWq hgq
 have b0 := HB5.out.cell 0
 have b1 := HB5.out.cell 1
 have b2 := HB5.out.cell 2
 simp only [List.getElem?_toArray, List.getElem?_cons_succ, List.getElem?_cons_zero] at b0 b1 b2
 cases dn with
 | true =>
   have HX2 : Hid (xRepeat L.era k = L.era) := Lib.hid (by rw [HDV.out, HDN.out, if_pos rfl])
   clear p0 p1 p2 p3 p4
   have f0 := HGO5.out.b2.free 0
   have f1 := HGO5.out.b2.free 1
   have f2 := HGO5.out.b2.free 2
   have d0 := HGO5.out.b2.cell 0
   have d1 := HGO5.out.b2.cell 1
   have d2 := HGO5.out.b2.cell 2
   simp only [List.getElem?_toArray, List.getElem?_cons_succ, List.getElem?_cons_zero] at d0 d1 d2
   go_wp2_with fail
   generalize hW : World.setCell (World.setCell (World.setCell w5 _ _) _ _) _ _ = W
   obtain ⟨kW, -⟩ := put33 HGO5.out.b2 hW
   have u0 := kW.cell 0
   have u1 := kW.cell 1
   have u2 := kW.cell 2
   refine bodyPost_ret (v := .tuple #[.agg #[.slice (some ⟨gs, 0, none⟩) n3 cs3, .slice At3 m3 ct3, .slice (some ⟨bm, om, none⟩) l3 cl3], .int .i64 0]) ?_ ?_ ?_
   ·simp [results, Tryz.results34, go_sem, u0, u1, u2]
   ·rfl
   ·rw [← HM.out, HX.out.1, HX.out.2]
    exact HGO5.out.done HS0.out (by rw [HX2.out, HERA3.out]) HSH3.out hW
 | false =>
   have HX2 : Hid (xRepeat L.era k = xHandle L.era (f, (a : Int), kd, (q : Int) + 1, ch)) := Lib.hid (by rw [HDV.out, HDN.out, if_neg (by decide)])
   go_wp2_with fail
   go_still_tail 6, (by kernel_rfl)
   change wpList _ _ _ _ _ w5.drew
   have HGO6 := Lib.hid (HGO5.out.keep (Gr.drew (Gr.refl w5)))
   generalize w5.drew = w6 at HGO6 ⊢
   clear b0 b1 b2 p0 p1 p2 p3 p4
   go_wp2_with fail
   refine (xhandleV HGO6.out.ow (by rw [HERA3.out]; exact HL.out) (by rw [HERA3.out]; exact HRG.out) HSH3.out f a kd q ch han3 hqm3 HKD.out HCH.out).mono ?_
   intro e w7 hst
   obtain ⟨L7, rfl, HGO7, HERA7, HFR7⟩ := HGO6.out.step hst
   replace HGO7 := Lib.hid HGO7
   replace HERA7 := Lib.hid HERA7
   replace HFR7 := Lib.hid HFR7
   obtain ⟨As7, At7, Al7, n7, m7, l7, cs7, ct7, cl7, HSH7⟩ := HGO7.out.ow.rd0.shp
   replace HSH7 := Lib.hid HSH7
   rw [HSH7.out.v]
   clear hst
   have f0 := HGO7.out.b2.free 0
   have f1 := HGO7.out.b2.free 1
   have f2 := HGO7.out.b2.free 2
   have d0 := HGO7.out.b2.cell 0
   have d1 := HGO7.out.b2.cell 1
   have d2 := HGO7.out.b2.cell 2
   simp only [List.getElem?_toArray, List.getElem?_cons_succ, List.getElem?_cons_zero] at d0 d1 d2
   go_wp2_with fail
   generalize hW : World.setCell (World.setCell (World.setCell w7 _ _) _ _) _ _ = W
   obtain ⟨kW, -⟩ := put33 HGO7.out.b2 hW
   have u0 := kW.cell 0
   have u1 := kW.cell 1
   have u2 := kW.cell 2
   refine bodyPost_ret (v := .tuple #[.agg #[.slice As7 n7 cs7, .slice At7 m7 ct7, .slice Al7 l7 cl7], .int .i64 0]) ?_ ?_ ?_
   ·simp [results, Tryz.results34, go_sem, u0, u1, u2]
   ·rfl
   ·rw [← HM.out, HX.out.1, HX.out.2]
    exact HGO7.out.done HS0.out (by rw [HX2.out, HERA7.out, HERA3.out]) HSH7.out hW

end Go.Proofs.YtnoeiocbmhkmeaaGreat
