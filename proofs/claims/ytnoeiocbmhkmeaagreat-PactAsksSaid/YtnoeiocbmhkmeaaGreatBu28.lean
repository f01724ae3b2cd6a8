/- Layer 5: the reference handles a letter. -/
import Derived.Test.YtnoeiocbmhkmeaaGreatBu27
namespace Go.Proofs.YtnoeiocbmhkmeaaGreat
open Go.RowKit
set_option linter.unusedSimpArgs false
set_option maxRecDepth 100000
set_option maxHeartbeats 80000000

theorem box353 {w W : World} {t t' : TypeId} {a b c x0 x1 x2 x3 x4 a' b' c' : Value} {g : Nat} (hg : w.heap.size = g) (hW : ((w.alloc (.cells #[a, b, c] t)).alloc (.cells #[x0, x1, x2, x3, x4] t')).alloc (.cells #[a', b', c'] t) = W) : Gr w W ∧ Blk W g t #[a, b, c] ∧ Blk W (g + 1) t' #[x0, x1, x2, x3, x4] ∧ Blk W (g + 2) t #[a', b', c'] ∧ W.heap.size = g + 3 := by
 subst hW hg
 have h1 : (w.alloc (.cells #[a, b, c] t)).heap.size = w.heap.size + 1 := by simp
 have h2 : ((w.alloc (.cells #[a, b, c] t)).alloc (.cells #[x0, x1, x2, x3, x4] t')).heap.size = w.heap.size + 2 := by simp
 exact ⟨(((Gr.refl _).alloc _).alloc _).alloc _, (Blk.new _ _ _ rfl).keep (((Gr.refl _).alloc _).alloc _), (Blk.new _ _ _ h1).keep ((Gr.refl _).alloc _), Blk.new _ _ _ h2, by simp⟩
theorem xMindAt_era {L : LN} {a k : Nat} {s : LS} (hs : L.sites[a]? = some s) : xMindAt L.era (a : Int) ((k : Int) + 1) = s.minds.getD k (0, (0, 0)) := by
 unfold xMindAt
 rw [era_site hs, show ((k : Int) + 1 - 1).toNat = k by omega]
 rfl
theorem xhandle_any (S : List Nat) (w0 w : World) (L : LN) (h : XOw S w0 w L) (hl : XLe L.era) (hr : XRg L.era) (f : Int) (a : Nat) (kd : Int) (k : Nat) (ch : Int) (ha : a < L.sites.length) (hk : k < L.txs.length) (hkd : 1 ≤ kd ∧ kd ≤ 7) (hch : -1099511627776 ≤ ch ∧ ch ≤ 1099511627776) :
 Calls Tryz.prog 65 #[L.v, .agg #[.int .i64 f, .int .i64 (a : Int), .int .i64 kd, .int .i64 ((k : Int) + 1), .int .i64 ch]] w (StepX S w0 w L (xHandle L.era (f, (a : Int), kd, (k : Int) + 1, ch))) := by
 obtain ⟨s, hs⟩ := site_at a ha
 obtain ⟨x, hx⟩ := tx_at k hk
 have hmn := hl.minds hs
 have hpp := hl.parts hx
 have h256 : L.txs.length ≤ 256 := by have := hl.tx; rw [lens_era.2.1] at this; exact this
 have h8 : L.sites.length ≤ 8 := by have := hl.s8; rw [lens_era.1] at this; exact this
 have hsr := hr s.era (List.mem_map_of_mem (List.mem_of_getElem? hs))
 have HX : Hid (∀ X, X = xHandle L.era (f, (a : Int), kd, (k : Int) + 1, ch) → ∀ e w', StepX S w0 w L X e w' → StepX S w0 w L (xHandle L.era (f, (a : Int), kd, (k : Int) + 1, ch)) e w') := Lib.hid (fun X hX e w' hs => by rw [← hX]; exact hs)
 have HSTA : Hid (∀ W, XOw S w0 W L → Calls Tryz.prog 61 #[L.v, .int .i64 (a : Int), .int .i64 ((k : Int) + 1)] W fun e w' => e = .returned (.int .i64 (xState L.era (a : Int) ((k : Int) + 1))) ∧ Gr W w') := Lib.hid (fun W hW => xstate_any L (a : Int) k x W hW.rd0 hx h256)
 have HPAR : Hid (∀ W, XOw S w0 W L → Calls Tryz.prog 77 #[.agg #[.int .i64 x.at5, .int .i64 x.is, x.pv, x.hv], .int .i64 f] W fun e w' => e = .returned (.int .i64 (xPart (xTx L.era ((k : Int) + 1)).parts f)) ∧ Gr W w') := Lib.hid (fun W hW => by
  have hr := hW.rd0
  obtain ⟨A, c, e, -⟩ := hr.hv x (List.mem_of_getElem? hx)
  rw [era_tx rfl hx]
  exact xpart_any x f W (hr.pv x (List.mem_of_getElem? hx)) ⟨A, _, c, e⟩ hpp.1)
 have HPOS : Hid (∀ W, XOw S w0 W L → Calls Tryz.prog 78 #[.agg #[.int .i64 s.stock, .bool s.down, s.mv], .int .i64 ch] W fun e w' => e = .returned (.bool (xPoss (xSite L.era (a : Int)) ch)) ∧ Gr W w') := Lib.hid (fun W hW => by
  rw [era_site hs]
  exact xposs_any s ch W (hW.rd0.mv s (List.mem_of_getElem? hs)) (by omega) hsr.1 hch hsr.2)
 -- what is read of the site and the transaction
 obtain ⟨gs, cs, hsv, hcs⟩ := h.cellsS hs
 obtain ⟨gm, cm, hmv, hcm⟩ := h.cellsM hs (by omega)
 obtain ⟨gt, ct, htv, hct⟩ := h.cellsT hx
 obtain ⟨Al, cl, hlv, -⟩ := h.rd0.lv
 obtain ⟨Ap, cp, hpv, -⟩ := h.rd0.pv x (List.mem_of_getElem? hx)
 obtain ⟨Ah, ch', hhv, -⟩ := h.rd0.hv x (List.mem_of_getElem? hx)
 have HCH : Hid (∀ W, XOw S w0 W L → ∀ j, j < x.heard.length → ∃ gh, Ah = some ⟨gh, 0, none⟩ ∧ W.cell? ⟨gh, j, none⟩ = some (.bool (x.heard.getD j false))) := Lib.hid (fun W hW j hj => by
  obtain ⟨gh, c2, e, hc⟩ := h.cellsH hx (by omega)
  rw [hhv] at e
  injection e with e
  exact ⟨gh, e, hc W hW j hj⟩)
 have HMA : Hid (xMindAt L.era (a : Int) ((k : Int) + 1) = s.minds.getD k (0, (0, 0))) := Lib.hid (xMindAt_era hs)
 obtain ⟨own, how⟩ : ∃ own, s.minds.getD k (0, (0, 0)) = own := ⟨_, rfl⟩
 rw [how] at HMA
 have hown : -1099511627776 ≤ own.2.2 ∧ own.2.2 ≤ 1099511627776 := by
  rw [← how]
  have := hsr.2 (s.minds.getD k (0, (0, 0))) (List.mem_of_getElem? (getD_of (0, (0, 0)) (by show k < s.minds.length; omega)))
  exact this
 have HCM : Hid (∀ W, XOw S w0 W L → W.cell? ⟨gm, k * 3, none⟩ = some (.int .i64 own.1) ∧ W.cell? ⟨gm, k * 3 + 1, none⟩ = some (.int .i64 own.2.1) ∧ W.cell? ⟨gm, k * 3 + 2, none⟩ = some (.int .i64 own.2.2)) := Lib.hid (fun W hW => by have := hcm W hW k (by omega); rw [how] at this; exact this)
 have HXS : Hid (xSite L.era (a : Int) = s.era) := Lib.hid (era_site hs)
 have HXT : Hid (xTx L.era ((k : Int) + 1) = x.era) := Lib.hid (era_tx rfl hx)
 obtain ⟨n, hn⟩ : ∃ n, L.sites.length = n := ⟨_, rfl⟩
 obtain ⟨m, hm⟩ : ∃ m, L.txs.length = m := ⟨_, rfl⟩
 obtain ⟨q, hq⟩ : ∃ q, x.parts.length = q := ⟨_, rfl⟩
 obtain ⟨l, hll⟩ : ∃ l, L.mail.length = l := ⟨_, rfl⟩
 rw [hn] at hsv ha h8
 rw [hm] at htv hk hmn h256
 rw [hmn] at hmv
 rw [hpp.2, hq] at hhv
 rw [hq] at hpv hpp
 rw [hll] at hlv
 have hvv : L.v = .agg #[.slice (some ⟨gs, 0, none⟩) n cs, .slice (some ⟨gt, 0, none⟩) m ct, .slice Al l cl] := by
  unfold LN.v
  rw [hsv, htv, hlv]
 have HVV := Lib.hid hvv
 have HN := Lib.hid (And.intro hn (And.intro hm (And.intro hq hll)))
 have HSH : Hid (Shp L (some ⟨gs, 0, none⟩) (some ⟨gt, 0, none⟩) Al n m l cs ct cl) := Lib.hid ⟨hsv, htv, hlv, hn, hm, hll⟩
 have HPV := Lib.hid (And.intro hpv (And.intro hhv hmv))
 have HH := Lib.hid h
 have HL := Lib.hid hl
 have HPP := Lib.hid hpp
 have HS8 := Lib.hid (And.intro hs hx)
 have HSR := Lib.hid hsr
 have HLE := Lib.hid h.rws.le
 have HCS := Lib.hid hcs
 have HCT := Lib.hid hct
 rw [hvv]
 have hai : (a : Int) < (n : Int) := by omega
 have ha0 : (0 : Int) ≤ (a : Int) := by omega
 have hki : (k : Int) < (m : Int) := by omega
 have hk0 : (0 : Int) ≤ (k : Int) := by omega
 obtain ⟨st, hst⟩ : ∃ st, xState L.era (a : Int) ((k : Int) + 1) = st := ⟨_, rfl⟩
 obtain ⟨pp, hpt⟩ : ∃ pp, xPart (xTx L.era ((k : Int) + 1)).parts f = pp := ⟨_, rfl⟩
 rw [hst] at HSTA
 rw [hpt] at HPAR
 rw [hvv] at HSTA
 rw [hpv, hhv] at HPAR
 rw [hmv] at HPOS
 have HST := Lib.hid hst
 have HPT := Lib.hid hpt
 obtain ⟨M, hM⟩ : ∃ M, StepX S w0 w L (xHandle L.era (f, (a : Int), kd, (k : Int) + 1, ch)) = M := ⟨_, rfl⟩
 rw [hM]
 have HM := Lib.hid hM
 clear h hl hr hs hx hmn hpp hsr hsv hcs hmv hcm htv hct hlv hpv hhv hst hpt hM hvv hn hm hq hll how
 go_enter Tryz.func65, Tryz.ntmps65
 go_upto_region 1 with fail
 generalize hW1 : World.alloc (World.alloc (World.alloc w _) _) _ = w1
 obtain ⟨g, hg⟩ : ∃ g, w.heap.size = g := ⟨_, rfl⟩
 obtain ⟨hg1, k1, k2, k3, hs1⟩ := box353 hg hW1
 have HG1 := Lib.hid hg1
 have HS := Lib.hid hg
 have HS1 := Lib.hid hs1
 have HK1 := Lib.hid k1
 have HK2 := Lib.hid k2
 have HK3 := Lib.hid k3
 have m0 := k2.cell 0
 have m1 := k2.cell 1
 have m3 := k2.cell 3
 simp only [List.getElem?_toArray, List.getElem?_cons_succ, List.getElem?_cons_zero] at m0 m1 m3
 rw [hg]
 clear hW1 hg hg1 k1 k2 k3 hs1
 go_upto_region 1 with fail
 go_quiet (fail)
 go_upto_region 2 with fail
 generalize hWq : World.drewN w1 _ = wq
 have hgq : Gr w1 wq := by rw [← hWq]; exact Gr.drewN (Gr.refl _) _
 have hsq : wq.heap.size = g + 3 := by rw [← hWq]; exact HS1.out
 have hgw := HG1.out.trans hgq
 have HGW := Lib.hid hgw
 have HSQ := Lib.hid hsq
 have k1 := HK1.out.keep hgq
 have HK1' := Lib.hid k1
 have HK2' := Lib.hid (HK2.out.keep hgq)
 have HK3' := Lib.hid (HK3.out.keep hgq)
 have b0 := k1.cell 0
 simp only [List.getElem?_toArray, List.getElem?_cons_succ, List.getElem?_cons_zero] at b0
 have HO1 := Lib.hid (HH.out.keep hgw)
 obtain ⟨-, -, c2⟩ := HCS.out wq HO1.out
 rw [HPV.out.2.2] at c2
 obtain ⟨o0, o1, o2⟩ := HCM.out wq HO1.out
 have hal := (Gr.refl wq).alloc (.cells #[.int .i64 0, .int .i64 0, .int .i64 0] 102)
 clear hWq hgq hsq hgw k1 m0 m1 m3
 go_upto_region 3 with fail
 generalize hW2 : World.alloc wq _ = w2
 rw [HSQ.out]
 have k4 : Blk w2 (g + 3) 102 #[.int .i64 own.1, .int .i64 own.2.1, .int .i64 own.2.2] := by rw [← hW2]; exact Blk.new _ _ _ HSQ.out
 have hg2 : Gr wq w2 := by rw [← hW2]; exact (Gr.refl wq).alloc _
 have hgw2 := HGW.out.trans hg2
 have HGW2 := Lib.hid hgw2
 have HK4 := Lib.hid k4
 have k1 := HK1'.out.keep hg2
 have k2 := HK2'.out.keep hg2
 have k3 := HK3'.out.keep hg2
 have HKA := Lib.hid (And.intro k1 (And.intro k2 (And.intro k3 k4)))
 have HO2 := Lib.hid (HH.out.keep hgw2)
 have b0 := k1.cell 0
 have b1 := k1.cell 1
 have b2 := k1.cell 2
 simp only [List.getElem?_toArray, List.getElem?_cons_succ, List.getElem?_cons_zero] at b0 b1 b2
 clear hW2 hg2 hgw2 k1 k2 k3 k4 hal o0 o1 o2 c2
 go_wp2_with fail
 refine (HSTA.out _ HO2.out).mono ?_
 rintro e w3 ⟨rfl, hg3⟩
 have HG3 := Lib.hid hg3
 have HO3 := Lib.hid (HO2.out.keep hg3)
 have k1 := HKA.out.1.keep hg3
 have b1 := k1.cell 1
 simp only [List.getElem?_toArray, List.getElem?_cons_succ, List.getElem?_cons_zero] at b1
 obtain ⟨t0, t1, t2, t3⟩ := HCT.out w3 HO3.out
 rw [HPV.out.1] at t2
 rw [HPV.out.2.1] at t3
 clear b0 b2 hg3 k1
 go_wp2_with fail
 refine (HPAR.out _ HO3.out).mono ?_
 rintro e w4 ⟨rfl, hg4⟩
 have hgz := HG3.out.trans hg4
 have HGO : Hid (Go5 S w0 w L (g + 2) L w4) := Lib.hid ⟨HO2.out.keep hgz, ⟨Ch.of (HGW2.out.trans hgz), fun t ht => Or.inl ht⟩, HH.out.young (by have := HS.out; omega), by have := HS.out; omega, HLE.out, HKA.out.2.2.1.keep hgz⟩
 have k1 := HKA.out.1.keep hgz
 have k2 := HKA.out.2.1.keep hgz
 have k4 := HKA.out.2.2.2.keep hgz
 have HKB := Lib.hid (And.intro k1 (And.intro k2 k4))
 have b0 := k1.cell 0
 have b1 := k1.cell 1
 have b2 := k1.cell 2
 have m2 := k2.cell 2
 have m4 := k2.cell 4
 have o0 := k4.cell 0
 have o1 := k4.cell 1
 have o2 := k4.cell 2
 simp only [List.getElem?_toArray, List.getElem?_cons_succ, List.getElem?_cons_zero] at b0 b1 b2 m2 m4 o0 o1 o2
 clear t0 t1 t2 t3 hg4 hgz k1 k2 k4
 go_upto_region 5 with fail
 obtain hk7 : kd = 1 ∨ kd = 2 ∨ kd = 3 ∨ kd = 4 ∨ kd = 5 ∨ kd = 6 ∨ kd = 7 := by omega
 clear hkd
 rcases hk7 with rfl | rfl | rfl | rfl | rfl | rfl | rfl
 ·obtain ⟨ow1, ow2, ow3⟩ := own
  dsimp only at o0 o1 o2 hown
  by_cases ho1 : ow1 = 1
  ·subst ho1
   have HE : Hid (xHandle L.era (f, (a : Int), 1, (k : Int) + 1, ch) = xSend L.era ((a : Int), f, 2, (k : Int) + 1, 0)) := Lib.hid (by
    unfold xHandle
    dsimp only
    rw [if_pos rfl, HMA.out, if_pos rfl])
   go_wp2_with fail
   refine (xsendV HGO.out.ow HL.out HSH.out (a : Int) f 2 ((k : Int) + 1) 0).mono ?_
   intro e w5 hst
   obtain ⟨L5, rfl, HGO5, HERA5, HFR5⟩ := HGO.out.step hst
   replace HGO5 := Lib.hid HGO5
   replace HERA5 := Lib.hid HERA5
   replace HFR5 := Lib.hid HFR5
   obtain ⟨As5, At5, Al5, n5, m5, l5, cs5, ct5, cl5, HSH5⟩ := HGO5.out.ow.rd0.shp
   replace HSH5 := Lib.hid HSH5
   rw [HSH5.out.v]
   clear hst
   have f0 := HGO5.out.b2.free 0
   have f1 := HGO5.out.b2.free 1
   have f2 := HGO5.out.b2.free 2
   have d0 := HGO5.out.b2.cell 0
   have d1 := HGO5.out.b2.cell 1
   have d2 := HGO5.out.b2.cell 2
   simp only [List.getElem?_toArray, List.getElem?_cons_succ, List.getElem?_cons_zero] at d0 d1 d2
   go_wp2_with fail
   generalize hW : World.setCell (World.setCell (World.setCell w5 _ _) _ _) _ _ = W
   obtain ⟨kW, -⟩ := put33 HGO5.out.b2 hW
   have u0 := kW.cell 0
   have u1 := kW.cell 1
   have u2 := kW.cell 2
   refine bodyPost_ret (v := .agg #[.slice As5 n5 cs5, .slice At5 m5 ct5, .slice Al5 l5 cl5]) ?_ ?_ ?_
   ·simp [results, Tryz.results65, go_sem, u0, u1, u2]
   ·rfl
   ·rw [← HM.out, HE.out]
    exact HGO5.out.done (HERA5.out) HSH5.out hW
  by_cases ho3 : ow1 = 3
  ·subst ho3
   have HE : Hid (xHandle L.era (f, (a : Int), 1, (k : Int) + 1, ch) = xSend L.era ((a : Int), f, 3, (k : Int) + 1, 0)) := Lib.hid (by
    unfold xHandle
    dsimp only
    rw [if_pos rfl, HMA.out, if_neg (show ¬ (3 : Int) = 1 by decide), if_pos rfl])
   go_wp2_with fail
   refine (xsendV HGO.out.ow HL.out HSH.out (a : Int) f 3 ((k : Int) + 1) 0).mono ?_
   intro e w5 hst
   obtain ⟨L5, rfl, HGO5, HERA5, HFR5⟩ := HGO.out.step hst
   replace HGO5 := Lib.hid HGO5
   replace HERA5 := Lib.hid HERA5
   replace HFR5 := Lib.hid HFR5
   obtain ⟨As5, At5, Al5, n5, m5, l5, cs5, ct5, cl5, HSH5⟩ := HGO5.out.ow.rd0.shp
   replace HSH5 := Lib.hid HSH5
   rw [HSH5.out.v]
   clear hst
   have f0 := HGO5.out.b2.free 0
   have f1 := HGO5.out.b2.free 1
   have f2 := HGO5.out.b2.free 2
   have d0 := HGO5.out.b2.cell 0
   have d1 := HGO5.out.b2.cell 1
   have d2 := HGO5.out.b2.cell 2
   simp only [List.getElem?_toArray, List.getElem?_cons_succ, List.getElem?_cons_zero] at d0 d1 d2
   go_wp2_with fail
   generalize hW : World.setCell (World.setCell (World.setCell w5 _ _) _ _) _ _ = W
   obtain ⟨kW, -⟩ := put33 HGO5.out.b2 hW
   have u0 := kW.cell 0
   have u1 := kW.cell 1
   have u2 := kW.cell 2
   refine bodyPost_ret (v := .agg #[.slice As5 n5 cs5, .slice At5 m5 ct5, .slice Al5 l5 cl5]) ?_ ?_ ?_
   ·simp [results, Tryz.results65, go_sem, u0, u1, u2]
   ·rfl
   ·rw [← HM.out, HE.out]
    exact HGO5.out.done (HERA5.out) HSH5.out hW
  by_cases ho2 : ow1 = 2
  ·subst ho2
   have HE : Hid (xHandle L.era (f, (a : Int), 1, (k : Int) + 1, ch) = L.era) := Lib.hid (by
    unfold xHandle
    dsimp only
    rw [if_pos rfl, HMA.out, if_neg (show ¬ (2 : Int) = 1 by decide), if_neg (show ¬ (2 : Int) = 3 by decide), if_pos rfl])
   have f0 := HGO.out.b2.free 0
   have f1 := HGO.out.b2.free 1
   have f2 := HGO.out.b2.free 2
   have d0 := HGO.out.b2.cell 0
   have d1 := HGO.out.b2.cell 1
   have d2 := HGO.out.b2.cell 2
   simp only [List.getElem?_toArray, List.getElem?_cons_succ, List.getElem?_cons_zero] at d0 d1 d2
   go_wp2_with fail
   generalize hW : World.setCell (World.setCell (World.setCell w4 _ _) _ _) _ _ = W
   obtain ⟨kW, -⟩ := put33 HGO.out.b2 hW
   have u0 := kW.cell 0
   have u1 := kW.cell 1
   have u2 := kW.cell 2
   refine bodyPost_ret (v := .agg #[.slice (some ⟨gs, 0, none⟩) n cs, .slice (some ⟨gt, 0, none⟩) m ct, .slice Al l cl]) ?_ ?_ ?_
   ·simp [results, Tryz.results65, go_sem, u0, u1, u2]
   ·rfl
   ·rw [← HM.out, HE.out]
    exact HGO.out.done (rfl) HSH.out hW
  ·have e1 : (ow1 == 1) = false := by simpa using ho1
   have e2 : (ow1 == 2) = false := by simpa using ho2
   have e3 : (ow1 == 3) = false := by simpa using ho3
   obtain ⟨c0, c1, c2⟩ := HCS.out w4 HGO.out.ow
   rw [HPV.out.2.2] at c2
   have HEP : ∀ v, xPoss (xSite L.era (a : Int)) ch = v → Hid (xHandle L.era (f, (a : Int), 1, (k : Int) + 1, ch) = if v = true then xSend (xMind L.era (a : Int) ((k : Int) + 1) (1, (f, ch))) ((a : Int), f, 2, (k : Int) + 1, 0) else xSend (xMind L.era (a : Int) ((k : Int) + 1) (3, (0, 0))) ((a : Int), f, 3, (k : Int) + 1, 0)) := fun v hv => Lib.hid (by
    unfold xHandle
    dsimp only
    rw [if_pos rfl, HMA.out, if_neg ho1, if_neg ho3, if_neg ho2, hv])
   obtain ⟨v, hv⟩ : ∃ v, xPoss (xSite L.era (a : Int)) ch = v := ⟨_, rfl⟩
   replace HEP := HEP v hv
   rw [hv] at HPOS
   clear hv ho1 ho2 ho3
   go_upto_region 13 with fail
   have hgo := HGO.out.ow
   refine wp_region_held_drew (S := (fun W' => Gr w4 W' ∧ W'.cell? ⟨g, 0, none⟩ = some (.slice (some ⟨gs, 0, none⟩) n cs) ∧ W'.cell? ⟨gs, a * 3, none⟩ = some (.int .i64 s.stock) ∧ W'.cell? ⟨gs, a * 3 + 1, none⟩ = some (.bool s.down) ∧ W'.cell? ⟨gs, a * 3 + 2, none⟩ = some (.slice (some ⟨gm, 0, none⟩) m cm) ∧ W'.cell? ⟨g + 1, 4, none⟩ = some (.int .i64 ch))) ?_ ?_ (fun hHeld => ?_)
   ·kernel_rfl
   ·((try dsimp only); (try go_split_ands); (repeat' apply And.intro) <;> repeat first | assumption | exact Gr.refl _ | refine Gr.drew ?_ | refine Gr.alloc ?_ _ | refine alloc_old ?_ | refine Gr.keep (by assumption) ?_ | refine Gr.trans ?_ (by assumption))
   refine ti 0 (some 69) rfl rfl ?_; try simp only [Act.put, lA, lB, lC]
   refine ti 1 (some 70) rfl rfl ?_; try simp only [Act.put, lA, lB, lC]
   refine ti 2 (some 71) rfl rfl ?_; try simp only [Act.put, lA, lB, lC]
   refine ti 3 (some 72) rfl rfl ?_; try simp only [Act.put, lA, lB, lC]
   refine ti 4 (some 73) rfl rfl ?_; try simp only [Act.put, lA, lB, lC]
   refine ti 5 (some 74) rfl rfl ?_; try simp only [Act.put, lA, lB, lC]
   refine ti 6 (some 75) rfl rfl ?_; try simp only [Act.put, lA, lB, lC]
   refine tr [7] (.cons rfl (fun K hK => ?_) .nil)
   go_simp
   first | (go_at_call 78; (with_reducible refine (HPOS.out _ (hgo.keep hHeld.1)).mono ?_); rintro e w9 ⟨rfl, hg9⟩)
   refine hK.out _ _ ?_ (fun hHeld => ?_)
   ·((try dsimp only); (try go_split_ands); (repeat' apply And.intro) <;> repeat first | assumption | exact Gr.refl _ | refine Gr.drew ?_ | refine Gr.alloc ?_ _ | refine alloc_old ?_ | refine Gr.keep (by assumption) ?_ | refine Gr.trans ?_ (by assumption))
   clear hK K; try simp only [Act.put, lA, lB, lC]
   refine wpAnyH_done ?_ ?_ _
   ·kernel_rfl
   rotate_left
   all_goals
    have hgz := hHeld.1
    clear hHeld c0 c1 c2 b0 b1 b2 m2 m4 o0 o1 o2 hgo hg9
    have k1 := HKB.out.1.keep hgz
    have k2 := HKB.out.2.1.keep hgz
    have k4 := HKB.out.2.2.keep hgz
    have b0 := k1.cell 0
    have b1 := k1.cell 1
    have b2 := k1.cell 2
    have m4 := k2.cell 4
    have o0 := k4.cell 0
    simp only [List.getElem?_toArray, List.getElem?_cons_succ, List.getElem?_cons_zero] at b0 b1 b2 m4 o0
    clear k1 k2 k4
    have HGO9 := Lib.hid (HGO.out.keep hgz)
    clear hgz
    have hac := ha
    have hkc := hk
    cases v with
    | true =>
      have HE : Hid (xHandle L.era (f, (a : Int), 1, (k : Int) + 1, ch) = xSend (xMind L.era (a : Int) ((k : Int) + 1) (1, (f, ch))) ((a : Int), f, 2, (k : Int) + 1, 0)) := Lib.hid (by rw [HEP.out, if_pos rfl])
      go_wp2_with fail
      refine (xmindV HGO9.out.ow HL.out HSH.out a k hac hkc 1 f ch).mono ?_
      intro e w5 hst
      obtain ⟨L5, rfl, HGO5, HERA5, HFR5⟩ := HGO9.out.step hst
      replace HGO5 := Lib.hid HGO5
      replace HERA5 := Lib.hid HERA5
      replace HFR5 := Lib.hid HFR5
      obtain ⟨As5, At5, Al5, n5, m5, l5, cs5, ct5, cl5, HSH5⟩ := HGO5.out.ow.rd0.shp
      replace HSH5 := Lib.hid HSH5
      rw [HSH5.out.v]
      clear hst
      go_wp2_with fail
      refine (xsendV HGO5.out.ow (by rw [HERA5.out]; exact HL.out.mind _ _ _) HSH5.out (a : Int) f 2 ((k : Int) + 1) 0).mono ?_
      intro e w6 hst
      obtain ⟨L6, rfl, HGO6, HERA6, HFR6⟩ := HGO5.out.step hst
      replace HGO6 := Lib.hid HGO6
      replace HERA6 := Lib.hid HERA6
      replace HFR6 := Lib.hid HFR6
      obtain ⟨As6, At6, Al6, n6, m6, l6, cs6, ct6, cl6, HSH6⟩ := HGO6.out.ow.rd0.shp
      replace HSH6 := Lib.hid HSH6
      rw [HSH6.out.v]
      clear hst
      have f0 := HGO6.out.b2.free 0
      have f1 := HGO6.out.b2.free 1
      have f2 := HGO6.out.b2.free 2
      have d0 := HGO6.out.b2.cell 0
      have d1 := HGO6.out.b2.cell 1
      have d2 := HGO6.out.b2.cell 2
      simp only [List.getElem?_toArray, List.getElem?_cons_succ, List.getElem?_cons_zero] at d0 d1 d2
      go_wp2_with fail
      generalize hW : World.setCell (World.setCell (World.setCell w6 _ _) _ _) _ _ = W
      obtain ⟨kW, -⟩ := put33 HGO6.out.b2 hW
      have u0 := kW.cell 0
      have u1 := kW.cell 1
      have u2 := kW.cell 2
      refine bodyPost_ret (v := .agg #[.slice As6 n6 cs6, .slice At6 m6 ct6, .slice Al6 l6 cl6]) ?_ ?_ ?_
      ·simp [results, Tryz.results65, go_sem, u0, u1, u2]
      ·rfl
      ·rw [← HM.out, HE.out]
       exact HGO6.out.done (by rw [HERA6.out, HERA5.out]) HSH6.out hW
    | false =>
      have HE : Hid (xHandle L.era (f, (a : Int), 1, (k : Int) + 1, ch) = xSend (xMind L.era (a : Int) ((k : Int) + 1) (3, (0, 0))) ((a : Int), f, 3, (k : Int) + 1, 0)) := Lib.hid (by rw [HEP.out, if_neg (by decide)])
      go_wp2_with fail
      refine (xmindV HGO9.out.ow HL.out HSH.out a k hac hkc 3 0 0).mono ?_
      intro e w5 hst
      obtain ⟨L5, rfl, HGO5, HERA5, HFR5⟩ := HGO9.out.step hst
      replace HGO5 := Lib.hid HGO5
      replace HERA5 := Lib.hid HERA5
      replace HFR5 := Lib.hid HFR5
      obtain ⟨As5, At5, Al5, n5, m5, l5, cs5, ct5, cl5, HSH5⟩ := HGO5.out.ow.rd0.shp
      replace HSH5 := Lib.hid HSH5
      rw [HSH5.out.v]
      clear hst
      go_wp2_with fail
      refine (xsendV HGO5.out.ow (by rw [HERA5.out]; exact HL.out.mind _ _ _) HSH5.out (a : Int) f 3 ((k : Int) + 1) 0).mono ?_
      intro e w6 hst
      obtain ⟨L6, rfl, HGO6, HERA6, HFR6⟩ := HGO5.out.step hst
      replace HGO6 := Lib.hid HGO6
      replace HERA6 := Lib.hid HERA6
      replace HFR6 := Lib.hid HFR6
      obtain ⟨As6, At6, Al6, n6, m6, l6, cs6, ct6, cl6, HSH6⟩ := HGO6.out.ow.rd0.shp
      replace HSH6 := Lib.hid HSH6
      rw [HSH6.out.v]
      clear hst
      have f0 := HGO6.out.b2.free 0
      have f1 := HGO6.out.b2.free 1
      have f2 := HGO6.out.b2.free 2
      have d0 := HGO6.out.b2.cell 0
      have d1 := HGO6.out.b2.cell 1
      have d2 := HGO6.out.b2.cell 2
      simp only [List.getElem?_toArray, List.getElem?_cons_succ, List.getElem?_cons_zero] at d0 d1 d2
      go_wp2_with fail
      generalize hW : World.setCell (World.setCell (World.setCell w6 _ _) _ _) _ _ = W
      obtain ⟨kW, -⟩ := put33 HGO6.out.b2 hW
      have u0 := kW.cell 0
      have u1 := kW.cell 1
      have u2 := kW.cell 2
      refine bodyPost_ret (v := .agg #[.slice As6 n6 cs6, .slice At6 m6 ct6, .slice Al6 l6 cl6]) ?_ ?_ ?_
      ·simp [results, Tryz.results65, go_sem, u0, u1, u2]
      ·rfl
      ·rw [← HM.out, HE.out]
       exact HGO6.out.done (by rw [HERA6.out, HERA5.out]) HSH6.out hW
 ·by_cases hs0 : st = 0
  ·subst hs0
   have HE : Hid (xHandle L.era (f, (a : Int), 2, (k : Int) + 1, ch) = xSend L.era ((a : Int), f, 5, (k : Int) + 1, 0)) := Lib.hid (by
    unfold xHandle
    dsimp only
    rw [if_neg (by decide), if_pos rfl, HST.out, if_pos rfl])
   go_wp2_with fail
   refine (xsendV HGO.out.ow HL.out HSH.out (a : Int) f 5 ((k : Int) + 1) 0).mono ?_
   intro e w5 hst
   obtain ⟨L5, rfl, HGO5, HERA5, HFR5⟩ := HGO.out.step hst
   replace HGO5 := Lib.hid HGO5
   replace HERA5 := Lib.hid HERA5
   replace HFR5 := Lib.hid HFR5
   obtain ⟨As5, At5, Al5, n5, m5, l5, cs5, ct5, cl5, HSH5⟩ := HGO5.out.ow.rd0.shp
   replace HSH5 := Lib.hid HSH5
   rw [HSH5.out.v]
   clear hst
   have f0 := HGO5.out.b2.free 0
   have f1 := HGO5.out.b2.free 1
   have f2 := HGO5.out.b2.free 2
   have d0 := HGO5.out.b2.cell 0
   have d1 := HGO5.out.b2.cell 1
   have d2 := HGO5.out.b2.cell 2
   simp only [List.getElem?_toArray, List.getElem?_cons_succ, List.getElem?_cons_zero] at d0 d1 d2
   go_wp2_with fail
   generalize hW : World.setCell (World.setCell (World.setCell w5 _ _) _ _) _ _ = W
   obtain ⟨kW, -⟩ := put33 HGO5.out.b2 hW
   have u0 := kW.cell 0
   have u1 := kW.cell 1
   have u2 := kW.cell 2
   refine bodyPost_ret (v := .agg #[.slice As5 n5 cs5, .slice At5 m5 ct5, .slice Al5 l5 cl5]) ?_ ?_ ?_
   ·simp [results, Tryz.results65, go_sem, u0, u1, u2]
   ·rfl
   ·rw [← HM.out, HE.out]
    exact HGO5.out.done (HERA5.out) HSH5.out hW
  have e0 : (st == 0) = false := by simpa using hs0
  by_cases hp0 : pp < 0
  ·have HE : Hid (xHandle L.era (f, (a : Int), 2, (k : Int) + 1, ch) = L.era) := Lib.hid (by
    unfold xHandle
    dsimp only
    rw [if_neg (by decide), if_pos rfl, HST.out, if_neg hs0, HPT.out, if_pos hp0])
   have f0 := HGO.out.b2.free 0
   have f1 := HGO.out.b2.free 1
   have f2 := HGO.out.b2.free 2
   have d0 := HGO.out.b2.cell 0
   have d1 := HGO.out.b2.cell 1
   have d2 := HGO.out.b2.cell 2
   simp only [List.getElem?_toArray, List.getElem?_cons_succ, List.getElem?_cons_zero] at d0 d1 d2
   go_wp2_with fail
   generalize hW : World.setCell (World.setCell (World.setCell w4 _ _) _ _) _ _ = W
   obtain ⟨kW, -⟩ := put33 HGO.out.b2 hW
   have u0 := kW.cell 0
   have u1 := kW.cell 1
   have u2 := kW.cell 2
   refine bodyPost_ret (v := .agg #[.slice (some ⟨gs, 0, none⟩) n cs, .slice (some ⟨gt, 0, none⟩) m ct, .slice Al l cl]) ?_ ?_ ?_
   ·simp [results, Tryz.results65, go_sem, u0, u1, u2]
   ·rfl
   ·rw [← HM.out, HE.out]
    exact HGO.out.done (rfl) HSH.out hW
  have hpj : ∃ j : Nat, pp = (j : Int) ∧ j < q := by
   rcases xPart_rng (xTx L.era ((k : Int) + 1)).parts f with h | ⟨j, h, hj⟩
   ·rw [HPT.out] at h; omega
   ·rw [HPT.out] at h
    rw [HXT.out] at hj
    have hj' : j < x.parts.length := hj
    rw [HN.out.2.2.1] at hj'
    exact ⟨j, h, hj'⟩
  obtain ⟨j, rfl, hj⟩ := hpj
  have hj1 : j < (xTx L.era ((k : Int) + 1)).heard.length := by
   rw [HXT.out]
   show j < x.heard.length
   rw [HPP.out.2]
   exact hj
  have HJ1 := Lib.hid hj1
  clear hj1
  by_cases hs2 : st = 2
  ·subst hs2
   have HCT4 := HCT.out w4 HGO.out.ow
   obtain ⟨-, -, -, t3⟩ := HCT4
   rw [HPV.out.2.1] at t3
   obtain ⟨gh, hAh, yc⟩ := HCH.out w4 HGO.out.ow j (by rw [HPP.out.2]; exact hj)
   subst hAh
   obtain ⟨v, hv⟩ : ∃ v, x.heard.getD j false = v := ⟨_, rfl⟩
   rw [hv] at yc
   have HGD : Hid ((xTx L.era ((k : Int) + 1)).heard.getD ((j : Int)).toNat false = v) := Lib.hid (by rw [HXT.out]; exact hv)
   have hji : (j : Int) < (q : Int) := by omega
   have hj0 : (0 : Int) ≤ (j : Int) := by omega
   clear hv
   cases v with
   | true =>
     have HE : Hid (xHandle L.era (f, (a : Int), 2, (k : Int) + 1, ch) = L.era) := Lib.hid (by
      unfold xHandle
      dsimp only
      rw [if_neg (by decide), if_pos rfl, HST.out, if_neg (show ¬ (2 : Int) = 0 by decide), HPT.out, if_neg (show ¬ (j : Int) < 0 by omega), if_pos rfl, HGD.out, if_pos rfl])
     have f0 := HGO.out.b2.free 0
     have f1 := HGO.out.b2.free 1
     have f2 := HGO.out.b2.free 2
     have d0 := HGO.out.b2.cell 0
     have d1 := HGO.out.b2.cell 1
     have d2 := HGO.out.b2.cell 2
     simp only [List.getElem?_toArray, List.getElem?_cons_succ, List.getElem?_cons_zero] at d0 d1 d2
     go_wp2_with fail
     generalize hW : World.setCell (World.setCell (World.setCell w4 _ _) _ _) _ _ = W
     obtain ⟨kW, -⟩ := put33 HGO.out.b2 hW
     have u0 := kW.cell 0
     have u1 := kW.cell 1
     have u2 := kW.cell 2
     refine bodyPost_ret (v := .agg #[.slice (some ⟨gs, 0, none⟩) n cs, .slice (some ⟨gt, 0, none⟩) m ct, .slice Al l cl]) ?_ ?_ ?_
     ·simp [results, Tryz.results65, go_sem, u0, u1, u2]
     ·rfl
     ·rw [← HM.out, HE.out]
      exact HGO.out.done (rfl) HSH.out hW
   | false =>
     have HE : Hid (xHandle L.era (f, (a : Int), 2, (k : Int) + 1, ch) = xSend L.era ((a : Int), f, 4, (k : Int) + 1, 0)) := Lib.hid (by
      unfold xHandle
      dsimp only
      rw [if_neg (by decide), if_pos rfl, HST.out, if_neg (show ¬ (2 : Int) = 0 by decide), HPT.out, if_neg (show ¬ (j : Int) < 0 by omega), if_pos rfl, HGD.out, if_neg (by decide)])
     go_wp2_with fail
     refine (xsendV HGO.out.ow HL.out HSH.out (a : Int) f 4 ((k : Int) + 1) 0).mono ?_
     intro e w5 hst
     obtain ⟨L5, rfl, HGO5, HERA5, HFR5⟩ := HGO.out.step hst
     replace HGO5 := Lib.hid HGO5
     replace HERA5 := Lib.hid HERA5
     replace HFR5 := Lib.hid HFR5
     obtain ⟨As5, At5, Al5, n5, m5, l5, cs5, ct5, cl5, HSH5⟩ := HGO5.out.ow.rd0.shp
     replace HSH5 := Lib.hid HSH5
     rw [HSH5.out.v]
     clear hst
     have f0 := HGO5.out.b2.free 0
     have f1 := HGO5.out.b2.free 1
     have f2 := HGO5.out.b2.free 2
     have d0 := HGO5.out.b2.cell 0
     have d1 := HGO5.out.b2.cell 1
     have d2 := HGO5.out.b2.cell 2
     simp only [List.getElem?_toArray, List.getElem?_cons_succ, List.getElem?_cons_zero] at d0 d1 d2
     go_wp2_with fail
     generalize hW : World.setCell (World.setCell (World.setCell w5 _ _) _ _) _ _ = W
     obtain ⟨kW, -⟩ := put33 HGO5.out.b2 hW
     have u0 := kW.cell 0
     have u1 := kW.cell 1
     have u2 := kW.cell 2
     refine bodyPost_ret (v := .agg #[.slice As5 n5 cs5, .slice At5 m5 ct5, .slice Al5 l5 cl5]) ?_ ?_ ?_
     ·simp [results, Tryz.results65, go_sem, u0, u1, u2]
     ·rfl
     ·rw [← HM.out, HE.out]
      exact HGO5.out.done (HERA5.out) HSH5.out hW
  ·have e2 : (st == 2) = false := by simpa using hs2
   obtain ⟨b, hb⟩ : ∃ b, ((xTx L.era ((k : Int) + 1)).heard.set j true).all id = b := ⟨_, rfl⟩
   have HHE : Hid (Calls Tryz.prog 80 #[.agg #[.slice (some ⟨gs, 0, none⟩) n cs, .slice (some ⟨gt, 0, none⟩) m ct, .slice Al l cl], .int .i64 ((k : Int) + 1), .int .i64 (j : Int)] w4 (StepB S w0 w4 L (xHear L.era ((k : Int) + 1) (j : Int)) b)) := Lib.hid (by
    have := xhearV HGO.out.ow HL.out HSH.out k hk j HJ1.out
    rw [hb] at this
    exact this)
   have HB := Lib.hid hb
   clear hb
   go_wp2_with fail
   refine (HHE.out).mono ?_
   intro e w5 hst
   obtain ⟨L5, rfl, HGO5, HERA5, HFR5⟩ := HGO.out.stepB hst
   replace HGO5 := Lib.hid HGO5
   replace HERA5 := Lib.hid HERA5
   replace HFR5 := Lib.hid HFR5
   obtain ⟨As5, At5, Al5, n5, m5, l5, cs5, ct5, cl5, HSH5⟩ := HGO5.out.ow.rd0.shp
   replace HSH5 := Lib.hid HSH5
   rw [HSH5.out.v]
   clear hst
   have hk5 : k < m5 := by have := (len_of HERA5.out (xHear_len _ _ _)).2; rw [HSH5.out.m, HSH.out.m] at this; omega
   have hal := (Gr.refl w5).alloc (.cells #[.slice none 0 0, .slice none 0 0, .slice none 0 0] 33)
   clear b0 b1 b2 m2 m4 o0 o1 o2
   go_upto_region 26 with fail
   generalize hW6 : World.alloc w5 _ = w6
   obtain ⟨gx, hgx⟩ : ∃ gx, w5.heap.size = gx := ⟨_, rfl⟩
   have kx : Blk w6 gx 33 #[.slice As5 n5 cs5, .slice At5 m5 ct5, .slice Al5 l5 cl5] := by rw [← hW6]; exact Blk.new _ _ _ hgx
   have hg6 : Gr w5 w6 := by rw [← hW6]; exact (Gr.refl w5).alloc _
   have HGO6 := Lib.hid (HGO5.out.keep hg6)
   rw [hgx]
   have x0 := kx.cell 0
   have x1 := kx.cell 1
   have x2 := kx.cell 2
   simp only [List.getElem?_toArray, List.getElem?_cons_succ, List.getElem?_cons_zero] at x0 x1 x2
   clear hal hW6 hgx hg6 kx
   cases b with
   | true =>
     have HE : Hid (xHandle L.era (f, (a : Int), 2, (k : Int) + 1, ch) = xTell (xTurn (xHear L.era ((k : Int) + 1) (j : Int)) ((k : Int) + 1) 2) (a : Int) 4 ((k : Int) + 1) (-1) false) := Lib.hid (by
      unfold xHandle
      dsimp only
      rw [if_neg (by decide), if_pos rfl, HST.out, if_neg hs0, HPT.out, if_neg (show ¬ (j : Int) < 0 by omega), if_neg hs2, show ((j : Int)).toNat = j from rfl, HB.out, if_pos rfl])
     go_wp2_with fail
     refine (xturnV HGO6.out.ow (by rw [HERA5.out]; exact HL.out.hear _ _) HSH5.out 2 k hk5).mono ?_
     intro e w7 hst
     obtain ⟨L7, rfl, HGO7, HERA7, HFR7⟩ := HGO6.out.step hst
     replace HGO7 := Lib.hid HGO7
     replace HERA7 := Lib.hid HERA7
     replace HFR7 := Lib.hid HFR7
     obtain ⟨As7, At7, Al7, n7, m7, l7, cs7, ct7, cl7, HSH7⟩ := HGO7.out.ow.rd0.shp
     replace HSH7 := Lib.hid HSH7
     rw [HSH7.out.v]
     clear hst
     have hk7 : k < m7 := by have := (len_of (L := L5) HERA7.out (xTurn_len _ _ _)).2; rw [HSH7.out.m, HSH5.out.m] at this; omega
     go_wp2_with fail
     refine (xtellV HGO7.out.ow (by rw [HERA7.out, HERA5.out]; exact (HL.out.hear _ _).turn _ _) HSH7.out (a : Int) 4 (-1) false k hk7).mono ?_
     intro e w8 hst
     obtain ⟨L8, rfl, HGO8, HERA8, HFR8⟩ := HGO7.out.step hst
     replace HGO8 := Lib.hid HGO8
     replace HERA8 := Lib.hid HERA8
     replace HFR8 := Lib.hid HFR8
     obtain ⟨As8, At8, Al8, n8, m8, l8, cs8, ct8, cl8, HSH8⟩ := HGO8.out.ow.rd0.shp
     replace HSH8 := Lib.hid HSH8
     rw [HSH8.out.v]
     clear hst
     have f0 := HGO8.out.b2.free 0
     have f1 := HGO8.out.b2.free 1
     have f2 := HGO8.out.b2.free 2
     have d0 := HGO8.out.b2.cell 0
     have d1 := HGO8.out.b2.cell 1
     have d2 := HGO8.out.b2.cell 2
     simp only [List.getElem?_toArray, List.getElem?_cons_succ, List.getElem?_cons_zero] at d0 d1 d2
     go_wp2_with fail
     generalize hW : World.setCell (World.setCell (World.setCell w8 _ _) _ _) _ _ = W
     obtain ⟨kW, -⟩ := put33 HGO8.out.b2 hW
     have u0 := kW.cell 0
     have u1 := kW.cell 1
     have u2 := kW.cell 2
     refine bodyPost_ret (v := .agg #[.slice As8 n8 cs8, .slice At8 m8 ct8, .slice Al8 l8 cl8]) ?_ ?_ ?_
     ·simp [results, Tryz.results65, go_sem, u0, u1, u2]
     ·rfl
     ·rw [← HM.out, HE.out]
      exact HGO8.out.done (by rw [HERA8.out, HERA7.out, HERA5.out]) HSH8.out hW
   | false =>
     have HE : Hid (xHandle L.era (f, (a : Int), 2, (k : Int) + 1, ch) = xHear L.era ((k : Int) + 1) (j : Int)) := Lib.hid (by
      unfold xHandle
      dsimp only
      rw [if_neg (by decide), if_pos rfl, HST.out, if_neg hs0, HPT.out, if_neg (show ¬ (j : Int) < 0 by omega), if_neg hs2, show ((j : Int)).toNat = j from rfl, HB.out, if_neg (by decide)])
     have f0 := HGO6.out.b2.free 0
     have f1 := HGO6.out.b2.free 1
     have f2 := HGO6.out.b2.free 2
     have d0 := HGO6.out.b2.cell 0
     have d1 := HGO6.out.b2.cell 1
     have d2 := HGO6.out.b2.cell 2
     simp only [List.getElem?_toArray, List.getElem?_cons_succ, List.getElem?_cons_zero] at d0 d1 d2
     go_wp2_with fail
     generalize hW : World.setCell (World.setCell (World.setCell w6 _ _) _ _) _ _ = W
     obtain ⟨kW, -⟩ := put33 HGO6.out.b2 hW
     have u0 := kW.cell 0
     have u1 := kW.cell 1
     have u2 := kW.cell 2
     refine bodyPost_ret (v := .agg #[.slice As5 n5 cs5, .slice At5 m5 ct5, .slice Al5 l5 cl5]) ?_ ?_ ?_
     ·simp [results, Tryz.results65, go_sem, u0, u1, u2]
     ·rfl
     ·rw [← HM.out, HE.out]
      exact HGO6.out.done (HERA5.out) HSH5.out hW
 ·by_cases hs1 : st = 1
  ·subst hs1
   have HE : Hid (xHandle L.era (f, (a : Int), 3, (k : Int) + 1, ch) = xTell (xTurn L.era ((k : Int) + 1) 0) (a : Int) 5 ((k : Int) + 1) f false) := Lib.hid (by
    unfold xHandle
    dsimp only
    rw [if_neg (by decide), if_neg (by decide), if_pos rfl, HST.out, if_pos rfl])
   go_wp2_with fail
   refine (xturnV HGO.out.ow HL.out HSH.out 0 k hk).mono ?_
   intro e w5 hst
   obtain ⟨L5, rfl, HGO5, HERA5, HFR5⟩ := HGO.out.step hst
   replace HGO5 := Lib.hid HGO5
   replace HERA5 := Lib.hid HERA5
   replace HFR5 := Lib.hid HFR5
   obtain ⟨As5, At5, Al5, n5, m5, l5, cs5, ct5, cl5, HSH5⟩ := HGO5.out.ow.rd0.shp
   replace HSH5 := Lib.hid HSH5
   rw [HSH5.out.v]
   clear hst
   have hk5 : k < m5 := by have := (len_of HERA5.out (xTurn_len _ _ _)).2; rw [HSH5.out.m, HSH.out.m] at this; omega
   go_wp2_with fail
   refine (xtellV HGO5.out.ow (by rw [HERA5.out]; exact HL.out.turn _ _) HSH5.out (a : Int) 5 f false k hk5).mono ?_
   intro e w6 hst
   obtain ⟨L6, rfl, HGO6, HERA6, HFR6⟩ := HGO5.out.step hst
   replace HGO6 := Lib.hid HGO6
   replace HERA6 := Lib.hid HERA6
   replace HFR6 := Lib.hid HFR6
   obtain ⟨As6, At6, Al6, n6, m6, l6, cs6, ct6, cl6, HSH6⟩ := HGO6.out.ow.rd0.shp
   replace HSH6 := Lib.hid HSH6
   rw [HSH6.out.v]
   clear hst
   have f0 := HGO6.out.b2.free 0
   have f1 := HGO6.out.b2.free 1
   have f2 := HGO6.out.b2.free 2
   have d0 := HGO6.out.b2.cell 0
   have d1 := HGO6.out.b2.cell 1
   have d2 := HGO6.out.b2.cell 2
   simp only [List.getElem?_toArray, List.getElem?_cons_succ, List.getElem?_cons_zero] at d0 d1 d2
   go_wp2_with fail
   generalize hW : World.setCell (World.setCell (World.setCell w6 _ _) _ _) _ _ = W
   obtain ⟨kW, -⟩ := put33 HGO6.out.b2 hW
   have u0 := kW.cell 0
   have u1 := kW.cell 1
   have u2 := kW.cell 2
   refine bodyPost_ret (v := .agg #[.slice As6 n6 cs6, .slice At6 m6 ct6, .slice Al6 l6 cl6]) ?_ ?_ ?_
   ·simp [results, Tryz.results65, go_sem, u0, u1, u2]
   ·rfl
   ·rw [← HM.out, HE.out]
    exact HGO6.out.done (by rw [HERA6.out, HERA5.out]) HSH6.out hW
  ·have e1 : (st == 1) = false := by simpa using hs1
   have HE : Hid (xHandle L.era (f, (a : Int), 3, (k : Int) + 1, ch) = L.era) := Lib.hid (by
    unfold xHandle
    dsimp only
    rw [if_neg (by decide), if_neg (by decide), if_pos rfl, HST.out, if_neg hs1])
   have f0 := HGO.out.b2.free 0
   have f1 := HGO.out.b2.free 1
   have f2 := HGO.out.b2.free 2
   have d0 := HGO.out.b2.cell 0
   have d1 := HGO.out.b2.cell 1
   have d2 := HGO.out.b2.cell 2
   simp only [List.getElem?_toArray, List.getElem?_cons_succ, List.getElem?_cons_zero] at d0 d1 d2
   go_wp2_with fail
   generalize hW : World.setCell (World.setCell (World.setCell w4 _ _) _ _) _ _ = W
   obtain ⟨kW, -⟩ := put33 HGO.out.b2 hW
   have u0 := kW.cell 0
   have u1 := kW.cell 1
   have u2 := kW.cell 2
   refine bodyPost_ret (v := .agg #[.slice (some ⟨gs, 0, none⟩) n cs, .slice (some ⟨gt, 0, none⟩) m ct, .slice Al l cl]) ?_ ?_ ?_
   ·simp [results, Tryz.results65, go_sem, u0, u1, u2]
   ·rfl
   ·rw [← HM.out, HE.out]
    exact HGO.out.done (rfl) HSH.out hW
 ·obtain ⟨ow1, ow2, ow3⟩ := own
  dsimp only at o0 o1 o2 hown
  by_cases ho1 : ow1 = 1
  ·subst ho1
   have HE : Hid (xHandle L.era (f, (a : Int), 4, (k : Int) + 1, ch) = xSend (xMind (xAdd L.era (a : Int) ow3) (a : Int) ((k : Int) + 1) (2, (0, 0))) ((a : Int), f, 6, (k : Int) + 1, 0)) := Lib.hid (by
    unfold xHandle
    dsimp only
    rw [if_neg (by decide), if_neg (by decide), if_neg (by decide), if_pos rfl, HMA.out, if_pos rfl])
   obtain ⟨c0, c1, c2⟩ := HCS.out w4 HGO.out.ow
   rw [HPV.out.2.2] at c2
   have hsk : 0 ≤ s.stock ∧ s.stock ≤ 1099511627776 := HSR.out.1
   obtain ⟨hsk0, hsk1⟩ := hsk
   have hal := (Gr.refl w4).alloc (.cells #[.int .i64 0, .bool false, .slice none 0 0] 73)
   go_upto_region 36 with fail
   generalize hW5 : World.alloc w4 _ = w5
   obtain ⟨gy, hgy⟩ : ∃ gy, w4.heap.size = gy := ⟨_, rfl⟩
   have ky : Blk w5 gy 73 #[.int .i64 s.stock, .bool s.down, .slice (some ⟨gm, 0, none⟩) m cm] := by rw [← hW5]; exact Blk.new _ _ _ hgy
   have hg5 : Gr w4 w5 := by rw [← hW5]; exact (Gr.refl w4).alloc _
   have HGY : Hid (gy ∉ blkR L.rows ∧ g + 3 < gy) := Lib.hid ⟨HGO.out.ow.young (by omega), by have := HKB.out.2.2.lt; omega⟩
   have HGO5 := Lib.hid (HGO.out.keep hg5)
   have HG5 := Lib.hid hg5
   have HKY := Lib.hid ky
   rw [hgy]
   clear b0 b1 b2 m2 m4 o0 o1 o2 c0 c1 c2 hal hW5 hgy
   have k4 := HKB.out.2.2.keep hg5
   have o2 := k4.cell 2
   have y0 := ky.cell 0
   have fy := ky.free 0
   simp only [List.getElem?_toArray, List.getElem?_cons_succ, List.getElem?_cons_zero] at o2 y0
   clear k4 ky hg5
   have hso : -1099511627776 ≤ s.stock + ow3 ∧ s.stock + ow3 ≤ 2199023255552 := by omega
   obtain ⟨hso0, hso1⟩ := hso
   go_upto_region 37 with fail
   generalize hW6 : World.setCell w5 _ _ = w6
   have ky6 : Blk w6 gy 73 #[.int .i64 (s.stock + ow3), .bool s.down, .slice (some ⟨gm, 0, none⟩) m cm] := by rw [← hW6]; exact HKY.out.put 0 _
   have hc6 : Ch [gy] w5 w6 := by rw [← hW6]; exact Ch.refl.set (p := ⟨gy, 0, none⟩) (by simp) _
   have HGO6 := Lib.hid (HGO5.out.side hc6 (fun t ht => by rw [List.mem_singleton.1 ht]; exact ⟨by have := HGY.out.2; have := HS.out; omega, HGY.out.1, by have := HGY.out.2; omega, _, _, HKY.out, by decide⟩))
   obtain ⟨c0, c1, c2⟩ := HCS.out w6 HGO6.out.ow
   rw [HPV.out.2.2] at c2
   have e0 := HGO6.out.ow.freeS HSH.out.sv HSH.out.n (a * 3)
   have e1 := HGO6.out.ow.freeS HSH.out.sv HSH.out.n (a * 3 + 1)
   have e2 := HGO6.out.ow.freeS HSH.out.sv HSH.out.n (a * 3 + 2)
   have y0 := ky6.cell 0
   have y1 := ky6.cell 1
   have y2 := ky6.cell 2
   simp only [List.getElem?_toArray, List.getElem?_cons_succ, List.getElem?_cons_zero] at y0 y1 y2
   have HC6 := Lib.hid hc6
   clear hW6 ky6 hc6 fy o2
   go_upto_region 38 with fail
   generalize hW7 : World.setCell (World.setCell (World.setCell w6 _ _) _ _) _ _ = w7
   obtain ⟨HGO7, HFR7⟩ := HGO6.out.put (a := a) (s := s) (s' := { s with stock := s.stock + ow3 }) HS8.out.1 ⟨rfl, rfl⟩ (q := gs) (c := cs) (by rw [HSH.out.n]; exact HSH.out.sv) (by show World.setCell (World.setCell (World.setCell w6 _ _) _ _) _ s.mv = w7; rw [HPV.out.2.2]; exact hW7)
   obtain ⟨L7, hL7⟩ : ∃ L7, { L with sites := L.sites.set a { s with stock := s.stock + ow3 } } = L7 := ⟨_, rfl⟩
   have HERA7 : Hid (L7.era = xAdd L.era (a : Int) ow3) := Lib.hid (by
    rw [← hL7, era_setSite]
    unfold xAdd
    rw [HXS.out]
    rfl)
   have HSH7 : Hid (Shp L7 (some ⟨gs, 0, none⟩) (some ⟨gt, 0, none⟩) Al n m l cs ct cl) := Lib.hid (by
    rw [← hL7]
    exact ⟨HSH.out.sv, HSH.out.tv, HSH.out.lv, by show (L.sites.set a _).length = n; rw [List.length_set]; exact HSH.out.n, HSH.out.m, HSH.out.l⟩)
   rw [hL7] at HGO7 HFR7
   replace HGO7 := Lib.hid HGO7
   have hb6 : Blk w6 g _ _ := (HC6.out.block g (HKB.out.1.keep HG5.out).lt (by have := HGY.out.2; simp; omega)).trans (HKB.out.1.keep HG5.out)
   have ho6 : Blk w6 (g + 3) _ _ := (HC6.out.block (g + 3) (HKB.out.2.2.keep HG5.out).lt (by have := HGY.out.2; simp; omega)).trans (HKB.out.2.2.keep HG5.out)
   have hb7 := HFR7.stay hb6 (HGO6.out.ow.netBox hb6)
   have ho7 := HFR7.stay ho6 (HH.out.young (by have := HS.out; omega))
   have HB7 := Lib.hid hb7
   have HO7 := Lib.hid ho7
   have b0 := hb7.1.cell 0
   have b1 := hb7.1.cell 1
   have b2 := hb7.1.cell 2
   simp only [List.getElem?_toArray, List.getElem?_cons_succ, List.getElem?_cons_zero] at b0 b1 b2
   clear hW7 hL7 HFR7 hb6 ho6 hb7 ho7 c0 c1 c2 e0 e1 e2 y0 y1 y2
   go_wp2_with fail
   refine (xmindV HGO7.out.ow (by rw [HERA7.out]; exact HL.out.add _ _) HSH7.out a k ha hk 2 0 0).mono ?_
   intro e w8 hst
   obtain ⟨L8, rfl, HGO8, HERA8, HFR8⟩ := HGO7.out.step hst
   replace HGO8 := Lib.hid HGO8
   replace HERA8 := Lib.hid HERA8
   replace HFR8 := Lib.hid HFR8
   obtain ⟨As8, At8, Al8, n8, m8, l8, cs8, ct8, cl8, HSH8⟩ := HGO8.out.ow.rd0.shp
   replace HSH8 := Lib.hid HSH8
   rw [HSH8.out.v]
   clear hst
   have hb8 := HFR8.out.stay HB7.out.1 HB7.out.2
   have ho8 := HFR8.out.stay HO7.out.1 HO7.out.2
   have HB8 := Lib.hid hb8
   have HO8 := Lib.hid ho8
   have b0 := hb8.1.cell 0
   have b1 := hb8.1.cell 1
   have b2 := hb8.1.cell 2
   have f0 := hb8.1.free 0
   have f1 := hb8.1.free 1
   have f2 := hb8.1.free 2
   simp only [List.getElem?_toArray, List.getElem?_cons_succ, List.getElem?_cons_zero] at b0 b1 b2
   clear hb8 ho8
   go_upto_region 39 with fail
   generalize hW9 : World.setCell (World.setCell (World.setCell w8 _ _) _ _) _ _ = w9
   obtain ⟨kb, cb⟩ := put33 HB8.out.1 hW9
   have HGO9 := Lib.hid (HGO8.out.side cb (fun t ht => by rw [List.mem_singleton.1 ht]; exact ⟨by have := HS.out; omega, HB8.out.2, by omega, _, _, HB8.out.1, by decide⟩))
   have ko : Blk w9 (g + 3) _ _ := (cb.block (g + 3) HO8.out.1.lt (by simp)).trans HO8.out.1
   have b0 := kb.cell 0
   have b1 := kb.cell 1
   have b2 := kb.cell 2
   have o0 := ko.cell 0
   simp only [List.getElem?_toArray, List.getElem?_cons_succ, List.getElem?_cons_zero] at b0 b1 b2 o0
   clear f0 f1 f2 hW9 kb cb ko
   go_wp2_with fail
   refine (xsendV HGO9.out.ow (by rw [HERA8.out, HERA7.out]; exact (HL.out.add _ _).mind _ _ _) HSH8.out (a : Int) f 6 ((k : Int) + 1) 0).mono ?_
   intro e w10 hst
   obtain ⟨L10, rfl, HGO10, HERA10, HFR10⟩ := HGO9.out.step hst
   replace HGO10 := Lib.hid HGO10
   replace HERA10 := Lib.hid HERA10
   replace HFR10 := Lib.hid HFR10
   obtain ⟨As10, At10, Al10, n10, m10, l10, cs10, ct10, cl10, HSH10⟩ := HGO10.out.ow.rd0.shp
   replace HSH10 := Lib.hid HSH10
   rw [HSH10.out.v]
   clear hst
   have f0 := HGO10.out.b2.free 0
   have f1 := HGO10.out.b2.free 1
   have f2 := HGO10.out.b2.free 2
   have d0 := HGO10.out.b2.cell 0
   have d1 := HGO10.out.b2.cell 1
   have d2 := HGO10.out.b2.cell 2
   simp only [List.getElem?_toArray, List.getElem?_cons_succ, List.getElem?_cons_zero] at d0 d1 d2
   go_wp2_with fail
   generalize hW : World.setCell (World.setCell (World.setCell w10 _ _) _ _) _ _ = W
   obtain ⟨kW, -⟩ := put33 HGO10.out.b2 hW
   have u0 := kW.cell 0
   have u1 := kW.cell 1
   have u2 := kW.cell 2
   refine bodyPost_ret (v := .agg #[.slice As10 n10 cs10, .slice At10 m10 ct10, .slice Al10 l10 cl10]) ?_ ?_ ?_
   ·simp [results, Tryz.results65, go_sem, u0, u1, u2]
   ·rfl
   ·rw [← HM.out, HE.out]
    exact HGO10.out.done (by rw [HERA10.out, HERA8.out, HERA7.out]) HSH10.out hW
  by_cases ho2 : ow1 = 2
  ·subst ho2
   have HE : Hid (xHandle L.era (f, (a : Int), 4, (k : Int) + 1, ch) = xSend L.era ((a : Int), f, 6, (k : Int) + 1, 0)) := Lib.hid (by
    unfold xHandle
    dsimp only
    rw [if_neg (by decide), if_neg (by decide), if_neg (by decide), if_pos rfl, HMA.out, if_neg (show ¬ (2 : Int) = 1 by decide), if_pos rfl])
   go_wp2_with fail
   refine (xsendV HGO.out.ow HL.out HSH.out (a : Int) f 6 ((k : Int) + 1) 0).mono ?_
   intro e w5 hst
   obtain ⟨L5, rfl, HGO5, HERA5, HFR5⟩ := HGO.out.step hst
   replace HGO5 := Lib.hid HGO5
   replace HERA5 := Lib.hid HERA5
   replace HFR5 := Lib.hid HFR5
   obtain ⟨As5, At5, Al5, n5, m5, l5, cs5, ct5, cl5, HSH5⟩ := HGO5.out.ow.rd0.shp
   replace HSH5 := Lib.hid HSH5
   rw [HSH5.out.v]
   clear hst
   have f0 := HGO5.out.b2.free 0
   have f1 := HGO5.out.b2.free 1
   have f2 := HGO5.out.b2.free 2
   have d0 := HGO5.out.b2.cell 0
   have d1 := HGO5.out.b2.cell 1
   have d2 := HGO5.out.b2.cell 2
   simp only [List.getElem?_toArray, List.getElem?_cons_succ, List.getElem?_cons_zero] at d0 d1 d2
   go_wp2_with fail
   generalize hW : World.setCell (World.setCell (World.setCell w5 _ _) _ _) _ _ = W
   obtain ⟨kW, -⟩ := put33 HGO5.out.b2 hW
   have u0 := kW.cell 0
   have u1 := kW.cell 1
   have u2 := kW.cell 2
   refine bodyPost_ret (v := .agg #[.slice As5 n5 cs5, .slice At5 m5 ct5, .slice Al5 l5 cl5]) ?_ ?_ ?_
   ·simp [results, Tryz.results65, go_sem, u0, u1, u2]
   ·rfl
   ·rw [← HM.out, HE.out]
    exact HGO5.out.done (HERA5.out) HSH5.out hW
  ·have e1 : (ow1 == 1) = false := by simpa using ho1
   have e2 : (ow1 == 2) = false := by simpa using ho2
   have HE : Hid (xHandle L.era (f, (a : Int), 4, (k : Int) + 1, ch) = L.era) := Lib.hid (by
    unfold xHandle
    dsimp only
    rw [if_neg (by decide), if_neg (by decide), if_neg (by decide), if_pos rfl, HMA.out, if_neg ho1, if_neg ho2])
   have f0 := HGO.out.b2.free 0
   have f1 := HGO.out.b2.free 1
   have f2 := HGO.out.b2.free 2
   have d0 := HGO.out.b2.cell 0
   have d1 := HGO.out.b2.cell 1
   have d2 := HGO.out.b2.cell 2
   simp only [List.getElem?_toArray, List.getElem?_cons_succ, List.getElem?_cons_zero] at d0 d1 d2
   go_wp2_with fail
   generalize hW : World.setCell (World.setCell (World.setCell w4 _ _) _ _) _ _ = W
   obtain ⟨kW, -⟩ := put33 HGO.out.b2 hW
   have u0 := kW.cell 0
   have u1 := kW.cell 1
   have u2 := kW.cell 2
   refine bodyPost_ret (v := .agg #[.slice (some ⟨gs, 0, none⟩) n cs, .slice (some ⟨gt, 0, none⟩) m ct, .slice Al l cl]) ?_ ?_ ?_
   ·simp [results, Tryz.results65, go_sem, u0, u1, u2]
   ·rfl
   ·rw [← HM.out, HE.out]
    exact HGO.out.done (rfl) HSH.out hW
 ·obtain ⟨ow1, ow2, ow3⟩ := own
  dsimp only at o0 o1 o2 hown
  by_cases ho1 : ow1 = 1
  ·subst ho1
   have HE : Hid (xHandle L.era (f, (a : Int), 5, (k : Int) + 1, ch) = xMind L.era (a : Int) ((k : Int) + 1) (3, (0, 0))) := Lib.hid (by
    unfold xHandle
    dsimp only
    rw [if_neg (by decide), if_neg (by decide), if_neg (by decide), if_neg (by decide), if_pos rfl, HMA.out, if_pos rfl])
   go_wp2_with fail
   refine (xmindV HGO.out.ow HL.out HSH.out a k ha hk 3 0 0).mono ?_
   intro e w5 hst
   obtain ⟨L5, rfl, HGO5, HERA5, HFR5⟩ := HGO.out.step hst
   replace HGO5 := Lib.hid HGO5
   replace HERA5 := Lib.hid HERA5
   replace HFR5 := Lib.hid HFR5
   obtain ⟨As5, At5, Al5, n5, m5, l5, cs5, ct5, cl5, HSH5⟩ := HGO5.out.ow.rd0.shp
   replace HSH5 := Lib.hid HSH5
   rw [HSH5.out.v]
   clear hst
   have f0 := HGO5.out.b2.free 0
   have f1 := HGO5.out.b2.free 1
   have f2 := HGO5.out.b2.free 2
   have d0 := HGO5.out.b2.cell 0
   have d1 := HGO5.out.b2.cell 1
   have d2 := HGO5.out.b2.cell 2
   simp only [List.getElem?_toArray, List.getElem?_cons_succ, List.getElem?_cons_zero] at d0 d1 d2
   go_wp2_with fail
   generalize hW : World.setCell (World.setCell (World.setCell w5 _ _) _ _) _ _ = W
   obtain ⟨kW, -⟩ := put33 HGO5.out.b2 hW
   have u0 := kW.cell 0
   have u1 := kW.cell 1
   have u2 := kW.cell 2
   refine bodyPost_ret (v := .agg #[.slice As5 n5 cs5, .slice At5 m5 ct5, .slice Al5 l5 cl5]) ?_ ?_ ?_
   ·simp [results, Tryz.results65, go_sem, u0, u1, u2]
   ·rfl
   ·rw [← HM.out, HE.out]
    exact HGO5.out.done (HERA5.out) HSH5.out hW
  ·have e1 : (ow1 == 1) = false := by simpa using ho1
   have HE : Hid (xHandle L.era (f, (a : Int), 5, (k : Int) + 1, ch) = L.era) := Lib.hid (by
    unfold xHandle
    dsimp only
    rw [if_neg (by decide), if_neg (by decide), if_neg (by decide), if_neg (by decide), if_pos rfl, HMA.out, if_neg ho1])
   have f0 := HGO.out.b2.free 0
   have f1 := HGO.out.b2.free 1
   have f2 := HGO.out.b2.free 2
   have d0 := HGO.out.b2.cell 0
   have d1 := HGO.out.b2.cell 1
   have d2 := HGO.out.b2.cell 2
   simp only [List.getElem?_toArray, List.getElem?_cons_succ, List.getElem?_cons_zero] at d0 d1 d2
   go_wp2_with fail
   generalize hW : World.setCell (World.setCell (World.setCell w4 _ _) _ _) _ _ = W
   obtain ⟨kW, -⟩ := put33 HGO.out.b2 hW
   have u0 := kW.cell 0
   have u1 := kW.cell 1
   have u2 := kW.cell 2
   refine bodyPost_ret (v := .agg #[.slice (some ⟨gs, 0, none⟩) n cs, .slice (some ⟨gt, 0, none⟩) m ct, .slice Al l cl]) ?_ ?_ ?_
   ·simp [results, Tryz.results65, go_sem, u0, u1, u2]
   ·rfl
   ·rw [← HM.out, HE.out]
    exact HGO.out.done (rfl) HSH.out hW
 ·by_cases hs2 : st = 2
  ·by_cases hp0 : 0 ≤ pp
   ·subst hs2
    have hpj : ∃ j : Nat, pp = (j : Int) ∧ j < q := by
     rcases xPart_rng (xTx L.era ((k : Int) + 1)).parts f with h | ⟨j, h, hj⟩
     ·rw [HPT.out] at h; omega
     ·rw [HPT.out] at h
      rw [HXT.out] at hj
      have hj' : j < x.parts.length := hj
      rw [HN.out.2.2.1] at hj'
      exact ⟨j, h, hj'⟩
    obtain ⟨j, rfl, hj⟩ := hpj
    have hj1 : j < (xTx L.era ((k : Int) + 1)).heard.length := by
     rw [HXT.out]
     show j < x.heard.length
     rw [HPP.out.2]
     exact hj
    have HJ1 := Lib.hid hj1
    clear hj1
    obtain ⟨b, hb⟩ : ∃ b, ((xTx L.era ((k : Int) + 1)).heard.set j true).all id = b := ⟨_, rfl⟩
    have HHE : Hid (Calls Tryz.prog 80 #[.agg #[.slice (some ⟨gs, 0, none⟩) n cs, .slice (some ⟨gt, 0, none⟩) m ct, .slice Al l cl], .int .i64 ((k : Int) + 1), .int .i64 (j : Int)] w4 (StepB S w0 w4 L (xHear L.era ((k : Int) + 1) (j : Int)) b)) := Lib.hid (by
     have := xhearV HGO.out.ow HL.out HSH.out k hk j HJ1.out
     rw [hb] at this
     exact this)
    have HB := Lib.hid hb
    clear hb
    go_wp2_with fail
    refine (HHE.out).mono ?_
    intro e w5 hst
    obtain ⟨L5, rfl, HGO5, HERA5, HFR5⟩ := HGO.out.stepB hst
    replace HGO5 := Lib.hid HGO5
    replace HERA5 := Lib.hid HERA5
    replace HFR5 := Lib.hid HFR5
    obtain ⟨As5, At5, Al5, n5, m5, l5, cs5, ct5, cl5, HSH5⟩ := HGO5.out.ow.rd0.shp
    replace HSH5 := Lib.hid HSH5
    rw [HSH5.out.v]
    clear hst
    have hk5 : k < m5 := by have := (len_of HERA5.out (xHear_len _ _ _)).2; rw [HSH5.out.m, HSH.out.m] at this; omega
    have hal := (Gr.refl w5).alloc (.cells #[.slice none 0 0, .slice none 0 0, .slice none 0 0] 33)
    clear b0 b1 b2 m2 m4 o0 o1 o2
    go_upto_region 47 with fail
    generalize hW6 : World.alloc w5 _ = w6
    obtain ⟨gx, hgx⟩ : ∃ gx, w5.heap.size = gx := ⟨_, rfl⟩
    have kx : Blk w6 gx 33 #[.slice As5 n5 cs5, .slice At5 m5 ct5, .slice Al5 l5 cl5] := by rw [← hW6]; exact Blk.new _ _ _ hgx
    have hg6 : Gr w5 w6 := by rw [← hW6]; exact (Gr.refl w5).alloc _
    have HGO6 := Lib.hid (HGO5.out.keep hg6)
    rw [hgx]
    have x0 := kx.cell 0
    have x1 := kx.cell 1
    have x2 := kx.cell 2
    simp only [List.getElem?_toArray, List.getElem?_cons_succ, List.getElem?_cons_zero] at x0 x1 x2
    clear hal hW6 hgx hg6 kx
    cases b with
    | true =>
      have HE : Hid (xHandle L.era (f, (a : Int), 6, (k : Int) + 1, ch) = xTurn (xHear L.era ((k : Int) + 1) (j : Int)) ((k : Int) + 1) 0) := Lib.hid (by
       unfold xHandle
       dsimp only
       rw [if_neg (by decide), if_neg (by decide), if_neg (by decide), if_neg (by decide), if_neg (by decide), if_pos rfl, HST.out, HPT.out, if_pos ⟨rfl, by omega⟩, show ((j : Int)).toNat = j from rfl, HB.out, if_pos rfl])
      go_wp2_with fail
      refine (xturnV HGO6.out.ow (by rw [HERA5.out]; exact HL.out.hear _ _) HSH5.out 0 k hk5).mono ?_
      intro e w7 hst
      obtain ⟨L7, rfl, HGO7, HERA7, HFR7⟩ := HGO6.out.step hst
      replace HGO7 := Lib.hid HGO7
      replace HERA7 := Lib.hid HERA7
      replace HFR7 := Lib.hid HFR7
      obtain ⟨As7, At7, Al7, n7, m7, l7, cs7, ct7, cl7, HSH7⟩ := HGO7.out.ow.rd0.shp
      replace HSH7 := Lib.hid HSH7
      rw [HSH7.out.v]
      clear hst
      have f0 := HGO7.out.b2.free 0
      have f1 := HGO7.out.b2.free 1
      have f2 := HGO7.out.b2.free 2
      have d0 := HGO7.out.b2.cell 0
      have d1 := HGO7.out.b2.cell 1
      have d2 := HGO7.out.b2.cell 2
      simp only [List.getElem?_toArray, List.getElem?_cons_succ, List.getElem?_cons_zero] at d0 d1 d2
      go_wp2_with fail
      generalize hW : World.setCell (World.setCell (World.setCell w7 _ _) _ _) _ _ = W
      obtain ⟨kW, -⟩ := put33 HGO7.out.b2 hW
      have u0 := kW.cell 0
      have u1 := kW.cell 1
      have u2 := kW.cell 2
      refine bodyPost_ret (v := .agg #[.slice As7 n7 cs7, .slice At7 m7 ct7, .slice Al7 l7 cl7]) ?_ ?_ ?_
      ·simp [results, Tryz.results65, go_sem, u0, u1, u2]
      ·rfl
      ·rw [← HM.out, HE.out]
       exact HGO7.out.done (by rw [HERA7.out, HERA5.out]) HSH7.out hW
    | false =>
      have HE : Hid (xHandle L.era (f, (a : Int), 6, (k : Int) + 1, ch) = xHear L.era ((k : Int) + 1) (j : Int)) := Lib.hid (by
       unfold xHandle
       dsimp only
       rw [if_neg (by decide), if_neg (by decide), if_neg (by decide), if_neg (by decide), if_neg (by decide), if_pos rfl, HST.out, HPT.out, if_pos ⟨rfl, by omega⟩, show ((j : Int)).toNat = j from rfl, HB.out, if_neg (by decide)])
      have f0 := HGO6.out.b2.free 0
      have f1 := HGO6.out.b2.free 1
      have f2 := HGO6.out.b2.free 2
      have d0 := HGO6.out.b2.cell 0
      have d1 := HGO6.out.b2.cell 1
      have d2 := HGO6.out.b2.cell 2
      simp only [List.getElem?_toArray, List.getElem?_cons_succ, List.getElem?_cons_zero] at d0 d1 d2
      go_wp2_with fail
      generalize hW : World.setCell (World.setCell (World.setCell w6 _ _) _ _) _ _ = W
      obtain ⟨kW, -⟩ := put33 HGO6.out.b2 hW
      have u0 := kW.cell 0
      have u1 := kW.cell 1
      have u2 := kW.cell 2
      refine bodyPost_ret (v := .agg #[.slice As5 n5 cs5, .slice At5 m5 ct5, .slice Al5 l5 cl5]) ?_ ?_ ?_
      ·simp [results, Tryz.results65, go_sem, u0, u1, u2]
      ·rfl
      ·rw [← HM.out, HE.out]
       exact HGO6.out.done (HERA5.out) HSH5.out hW
   ·subst hs2
    have HE : Hid (xHandle L.era (f, (a : Int), 6, (k : Int) + 1, ch) = L.era) := Lib.hid (by
     unfold xHandle
     dsimp only
     rw [if_neg (by decide), if_neg (by decide), if_neg (by decide), if_neg (by decide), if_neg (by decide), if_pos rfl, HST.out, HPT.out, if_neg (fun hc => hp0 hc.2)])
    have f0 := HGO.out.b2.free 0
    have f1 := HGO.out.b2.free 1
    have f2 := HGO.out.b2.free 2
    have d0 := HGO.out.b2.cell 0
    have d1 := HGO.out.b2.cell 1
    have d2 := HGO.out.b2.cell 2
    simp only [List.getElem?_toArray, List.getElem?_cons_succ, List.getElem?_cons_zero] at d0 d1 d2
    go_wp2_with fail
    generalize hW : World.setCell (World.setCell (World.setCell w4 _ _) _ _) _ _ = W
    obtain ⟨kW, -⟩ := put33 HGO.out.b2 hW
    have u0 := kW.cell 0
    have u1 := kW.cell 1
    have u2 := kW.cell 2
    refine bodyPost_ret (v := .agg #[.slice (some ⟨gs, 0, none⟩) n cs, .slice (some ⟨gt, 0, none⟩) m ct, .slice Al l cl]) ?_ ?_ ?_
    ·simp [results, Tryz.results65, go_sem, u0, u1, u2]
    ·rfl
    ·rw [← HM.out, HE.out]
     exact HGO.out.done (rfl) HSH.out hW
  ·have e2 : (st == 2) = false := by simpa using hs2
   have HE : Hid (xHandle L.era (f, (a : Int), 6, (k : Int) + 1, ch) = L.era) := Lib.hid (by
    unfold xHandle
    dsimp only
    rw [if_neg (by decide), if_neg (by decide), if_neg (by decide), if_neg (by decide), if_neg (by decide), if_pos rfl, HST.out, HPT.out, if_neg (fun hc => hs2 hc.1)])
   have f0 := HGO.out.b2.free 0
   have f1 := HGO.out.b2.free 1
   have f2 := HGO.out.b2.free 2
   have d0 := HGO.out.b2.cell 0
   have d1 := HGO.out.b2.cell 1
   have d2 := HGO.out.b2.cell 2
   simp only [List.getElem?_toArray, List.getElem?_cons_succ, List.getElem?_cons_zero] at d0 d1 d2
   go_wp2_with fail
   generalize hW : World.setCell (World.setCell (World.setCell w4 _ _) _ _) _ _ = W
   obtain ⟨kW, -⟩ := put33 HGO.out.b2 hW
   have u0 := kW.cell 0
   have u1 := kW.cell 1
   have u2 := kW.cell 2
   refine bodyPost_ret (v := .agg #[.slice (some ⟨gs, 0, none⟩) n cs, .slice (some ⟨gt, 0, none⟩) m ct, .slice Al l cl]) ?_ ?_ ?_
   ·simp [results, Tryz.results65, go_sem, u0, u1, u2]
   ·rfl
   ·rw [← HM.out, HE.out]
    exact HGO.out.done (rfl) HSH.out hW
 ·by_cases hs2 : st = 2
  ·subst hs2
   have HE : Hid (xHandle L.era (f, (a : Int), 7, (k : Int) + 1, ch) = xSend L.era ((a : Int), f, 4, (k : Int) + 1, 0)) := Lib.hid (by
    unfold xHandle
    dsimp only
    rw [if_neg (by decide), if_neg (by decide), if_neg (by decide), if_neg (by decide), if_neg (by decide), if_neg (by decide), if_pos rfl, HST.out, if_pos rfl])
   go_wp2_with fail
   refine (xsendV HGO.out.ow HL.out HSH.out (a : Int) f 4 ((k : Int) + 1) 0).mono ?_
   intro e w5 hst
   obtain ⟨L5, rfl, HGO5, HERA5, HFR5⟩ := HGO.out.step hst
   replace HGO5 := Lib.hid HGO5
   replace HERA5 := Lib.hid HERA5
   replace HFR5 := Lib.hid HFR5
   obtain ⟨As5, At5, Al5, n5, m5, l5, cs5, ct5, cl5, HSH5⟩ := HGO5.out.ow.rd0.shp
   replace HSH5 := Lib.hid HSH5
   rw [HSH5.out.v]
   clear hst
   have f0 := HGO5.out.b2.free 0
   have f1 := HGO5.out.b2.free 1
   have f2 := HGO5.out.b2.free 2
   have d0 := HGO5.out.b2.cell 0
   have d1 := HGO5.out.b2.cell 1
   have d2 := HGO5.out.b2.cell 2
   simp only [List.getElem?_toArray, List.getElem?_cons_succ, List.getElem?_cons_zero] at d0 d1 d2
   go_wp2_with fail
   generalize hW : World.setCell (World.setCell (World.setCell w5 _ _) _ _) _ _ = W
   obtain ⟨kW, -⟩ := put33 HGO5.out.b2 hW
   have u0 := kW.cell 0
   have u1 := kW.cell 1
   have u2 := kW.cell 2
   refine bodyPost_ret (v := .agg #[.slice As5 n5 cs5, .slice At5 m5 ct5, .slice Al5 l5 cl5]) ?_ ?_ ?_
   ·simp [results, Tryz.results65, go_sem, u0, u1, u2]
   ·rfl
   ·rw [← HM.out, HE.out]
    exact HGO5.out.done (HERA5.out) HSH5.out hW
  by_cases hs0 : st = 0
  ·subst hs0
   have HE : Hid (xHandle L.era (f, (a : Int), 7, (k : Int) + 1, ch) = xSend L.era ((a : Int), f, 5, (k : Int) + 1, 0)) := Lib.hid (by
    unfold xHandle
    dsimp only
    rw [if_neg (by decide), if_neg (by decide), if_neg (by decide), if_neg (by decide), if_neg (by decide), if_neg (by decide), if_pos rfl, HST.out, if_neg (show ¬ (0 : Int) = 2 by decide), if_pos rfl])
   go_wp2_with fail
   refine (xsendV HGO.out.ow HL.out HSH.out (a : Int) f 5 ((k : Int) + 1) 0).mono ?_
   intro e w5 hst
   obtain ⟨L5, rfl, HGO5, HERA5, HFR5⟩ := HGO.out.step hst
   replace HGO5 := Lib.hid HGO5
   replace HERA5 := Lib.hid HERA5
   replace HFR5 := Lib.hid HFR5
   obtain ⟨As5, At5, Al5, n5, m5, l5, cs5, ct5, cl5, HSH5⟩ := HGO5.out.ow.rd0.shp
   replace HSH5 := Lib.hid HSH5
   rw [HSH5.out.v]
   clear hst
   have f0 := HGO5.out.b2.free 0
   have f1 := HGO5.out.b2.free 1
   have f2 := HGO5.out.b2.free 2
   have d0 := HGO5.out.b2.cell 0
   have d1 := HGO5.out.b2.cell 1
   have d2 := HGO5.out.b2.cell 2
   simp only [List.getElem?_toArray, List.getElem?_cons_succ, List.getElem?_cons_zero] at d0 d1 d2
   go_wp2_with fail
   generalize hW : World.setCell (World.setCell (World.setCell w5 _ _) _ _) _ _ = W
   obtain ⟨kW, -⟩ := put33 HGO5.out.b2 hW
   have u0 := kW.cell 0
   have u1 := kW.cell 1
   have u2 := kW.cell 2
   refine bodyPost_ret (v := .agg #[.slice As5 n5 cs5, .slice At5 m5 ct5, .slice Al5 l5 cl5]) ?_ ?_ ?_
   ·simp [results, Tryz.results65, go_sem, u0, u1, u2]
   ·rfl
   ·rw [← HM.out, HE.out]
    exact HGO5.out.done (HERA5.out) HSH5.out hW
  ·have e2 : (st == 2) = false := by simpa using hs2
   have e0 : (st == 0) = false := by simpa using hs0
   have HE : Hid (xHandle L.era (f, (a : Int), 7, (k : Int) + 1, ch) = L.era) := Lib.hid (by
    unfold xHandle
    dsimp only
    rw [if_neg (by decide), if_neg (by decide), if_neg (by decide), if_neg (by decide), if_neg (by decide), if_neg (by decide), if_pos rfl, HST.out, if_neg hs2, if_neg hs0])
   have f0 := HGO.out.b2.free 0
   have f1 := HGO.out.b2.free 1
   have f2 := HGO.out.b2.free 2
   have d0 := HGO.out.b2.cell 0
   have d1 := HGO.out.b2.cell 1
   have d2 := HGO.out.b2.cell 2
   simp only [List.getElem?_toArray, List.getElem?_cons_succ, List.getElem?_cons_zero] at d0 d1 d2
   go_wp2_with fail
   generalize hW : World.setCell (World.setCell (World.setCell w4 _ _) _ _) _ _ = W
   obtain ⟨kW, -⟩ := put33 HGO.out.b2 hW
   have u0 := kW.cell 0
   have u1 := kW.cell 1
   have u2 := kW.cell 2
   refine bodyPost_ret (v := .agg #[.slice (some ⟨gs, 0, none⟩) n cs, .slice (some ⟨gt, 0, none⟩) m ct, .slice Al l cl]) ?_ ?_ ?_
   ·simp [results, Tryz.results65, go_sem, u0, u1, u2]
   ·rfl
   ·rw [← HM.out, HE.out]
    exact HGO.out.done (rfl) HSH.out hW
end Go.Proofs.YtnoeiocbmhkmeaaGreat
