/- Layer 5: the reference begins. -/
import Derived.Test.YtnoeiocbmhkmeaaGreatBu37
namespace Go.Proofs.YtnoeiocbmhkmeaaGreat
open Go.RowKit
set_option linter.unusedSimpArgs false
set_option maxRecDepth 100000
set_option maxHeartbeats 80000000

theorem xbegin_any (S : List Nat) (w : World) (L : LN) (h : XAt S w L) (hS : ∀ g ∈ S, g < w.heap.size) (hl : XLe L.era) (i : Int) (Ap : Option Addr) (np cp : Nat) (ps : List Mv) (hnp : ps.length = np) (hnp9 : np ≤ 512) (hpr : Pts w Ap ps) :
 Calls Tryz.prog 28 #[L.v, .int .i64 i, .slice Ap np cp] w (BegX S w L.txs.length (xBeginO L.era i ps) (xErrB L.era i ps)) := by
 obtain ⟨As, At, Al, n, m, l, cs, ct, cl, hsh⟩ := h.rd.shp
 have h8 : n ≤ 8 := by have := hl.s8; rw [lens_era.1, hsh.n] at this; exact this
 have h256 : m ≤ 256 := by have := hl.tx; rw [lens_era.2.1, hsh.m] at this; exact this
 have hml : l ≤ 1024 := by have := hl.ml; rw [lens_era.2.2, hsh.l] at this; exact this
 have HSH := Lib.hid hsh
 have HA := Lib.hid h
 have HS0 := Lib.hid hS
 have HL := Lib.hid hl
 have HNP := Lib.hid hnp
 have HNP9 := Lib.hid hnp9
 have HPR : Hid (∀ W, Gr w W → Pts W Ap ps) := Lib.hid (fun W hW => hpr.keep hW)
 clear hnp hnp9 hpr
 rw [hsh.v]
 obtain ⟨M, hM⟩ : ∃ M, BegX S w L.txs.length (xBeginO L.era i ps) (xErrB L.era i ps) = M := ⟨_, rfl⟩
 rw [hM]
 have HM := Lib.hid hM
 clear h hS hl hsh hM
 go_enter Tryz.func28, Tryz.ntmps28
 go_upto_region 1 with fail
 generalize hW1 : World.alloc (World.alloc w _) _ = w1
 obtain ⟨g, hg⟩ : ∃ g, w.heap.size = g := ⟨_, rfl⟩
 obtain ⟨hg1, k1, k2, hs1⟩ := box33 hg hW1
 have HG := Lib.hid hg1
 have HS := Lib.hid hg
 have HS1 := Lib.hid hs1
 have HK1 := Lib.hid k1
 have HK2 := Lib.hid k2
 have b0 := k1.cell 0
 have b1 := k1.cell 1
 have b2 := k1.cell 2
 simp only [List.getElem?_toArray, List.getElem?_cons_succ, List.getElem?_cons_zero] at b0 b1 b2
 have f0 := k2.free 0
 have f1 := k2.free 1
 have f2 := k2.free 2
 have d0 := k2.cell 0
 have d1 := k2.cell 1
 have d2 := k2.cell 2
 simp only [List.getElem?_toArray, List.getElem?_cons_succ, List.getElem?_cons_zero] at d0 d1 d2
 rw [hg]
 clear hg1 hW1 hg k1 k2 hs1
 by_cases hi : 0 ≤ i ∧ i < (n : Int)
 ·obtain ⟨a, rfl⟩ : ∃ a : Nat, i = (a : Int) := ⟨i.toNat, by omega⟩
  have ha : a < n := by omega
  obtain ⟨s0, hs0⟩ := site_at (L := L) a (by rw [HSH.out.n]; exact ha)
  have hEd := xErrD_of HSH.out hs0
  have hEu := xErrU_of HSH.out hs0
  have HE := Lib.hid (And.intro hEd hEu)
  have HS00 := Lib.hid hs0
  have HSITE : Hid (∀ W, Calls Tryz.prog 58 #[.agg #[.slice As n cs, .slice At m ct, .slice Al l cl], .int .i64 (a : Int)] W fun e w' => e = .returned (.bool true) ∧ Gr W w') := Lib.hid (fun W => by
   have := xsite_any As n cs (.slice At m ct) (.slice Al l cl) (a : Int) W
   rw [decide_eq_true (by omega)] at this
   exact this)
  obtain ⟨b, off, c', hsv, -, -, c1, -⟩ := (HA.out.gr HG.out).rd.site3 hs0
  rw [HSH.out.sv, HSH.out.n] at hsv
  injection hsv with hAs _ hcc
  subst hAs
  subst hcc
  obtain ⟨dn, hdn⟩ : ∃ dn, s0.down = dn := ⟨_, rfl⟩
  rw [hdn] at c1
  have HDN := Lib.hid hdn
  have hai : (a : Int) < (n : Int) := by omega
  have ha0 : (0 : Int) ≤ (a : Int) := by omega
  clear hs0 hEd hEu hdn hi
  go_wp2_with fail
  refine (HSITE.out _).mono ?_
  rintro e w2 ⟨rfl, hg2⟩
  have HG2 := Lib.hid (HG.out.trans hg2)
  have HK12 := Lib.hid (HK1.out.keep hg2)
  have HK22 := Lib.hid (HK2.out.keep hg2)
  replace c1 := hg2.keep c1
  clear b0 b1 b2 f0 f1 f2 d0 d1 d2 hg2
  have b0 := HK12.out.cell 0
  have b1 := HK12.out.cell 1
  have b2 := HK12.out.cell 2
  simp only [List.getElem?_toArray, List.getElem?_cons_succ, List.getElem?_cons_zero] at b0 b1 b2
  cases dn with
  | true =>
    have HX : Hid (xBeginO L.era (a : Int) ps = L.era ∧ xErrB L.era (a : Int) ps = 7) := Lib.hid (by
     have e : xErrB L.era (a : Int) ps = 7 := by
      have e0 : xErrD L.era (a : Int) = 7 := by first | exact HOUT.out.1 | (rw [HE.out.1, HDN.out]; rfl)
      unfold xErrB
      rw [e0, if_pos (by decide)]
     exact ⟨by unfold xBeginO; rw [e]; rfl, e⟩)
    have f0 := HK22.out.free 0
    have f1 := HK22.out.free 1
    have f2 := HK22.out.free 2
    have d0 := HK22.out.cell 0
    have d1 := HK22.out.cell 1
    have d2 := HK22.out.cell 2
    simp only [List.getElem?_toArray, List.getElem?_cons_succ, List.getElem?_cons_zero] at d0 d1 d2
    go_wp2_with fail
    generalize hW : World.setCell (World.setCell (World.setCell w2 _ _) _ _) _ _ = W
    obtain ⟨kW, cW⟩ := put33 (HK22.out) hW
    have u0 := kW.cell 0
    have u1 := kW.cell 1
    have u2 := kW.cell 2
    refine bodyPost_ret (v := .tuple #[.agg #[.slice (some ⟨b, off, none⟩) n cs, .slice At m ct, .slice Al l cl], .int .i64 0, .int .i64 7]) ?_ ?_ ?_
    ·simp [results, Tryz.results28, go_sem, u0, u1, u2]
    ·rfl
    ·rw [← HM.out, HX.out.1, HX.out.2]
     exact BegX.err (by decide) HA.out (cW.up (HG2.out) (fun t ht => by have := HS.out; simp at ht; omega)) rfl HSH.out
  | false =>
    by_cases hnp : np = 0
    ·have hnz : ((np : Int) == 0) = true := by simp; omega
     have HX : Hid (xBeginO L.era (a : Int) ps = L.era ∧ xErrB L.era (a : Int) ps = 2) := Lib.hid (by
      have e0 : xErrD L.era (a : Int) = 0 := by rw [HE.out.1, HDN.out]; rfl
      have e : xErrB L.era (a : Int) ps = 2 := by
       unfold xErrB
       rw [e0, if_neg (by decide), lens_era.1, HSH.out.n, if_neg (fun ho => by have := ho.lo; rw [HNP.out] at this; omega)]
      exact ⟨by unfold xBeginO; rw [e]; rfl, e⟩)
     have hnn : ¬ (0 : Int) < (np : Int) := by omega
     go_wp2_with fail
     go_loopw [9, 10, 11] (fun v s z wr => v = .bool true ∧ s = .int .i64 0 ∧ z = .int .i64 0 ∧ wr = w2) (fun _ _ _ _ => 0)
     case atStart => exact ⟨rfl, rfl, rfl, rfl⟩
     case round =>
      obtain ⟨rfl, rfl, rfl, rfl⟩ := hrel
      have f0 := HK22.out.free 0
      have f1 := HK22.out.free 1
      have f2 := HK22.out.free 2
      have d0 := HK22.out.cell 0
      have d1 := HK22.out.cell 1
      have d2 := HK22.out.cell 2
      simp only [List.getElem?_toArray, List.getElem?_cons_succ, List.getElem?_cons_zero] at d0 d1 d2
      go_wp2_with fail
      generalize hW : World.setCell (World.setCell (World.setCell wr _ _) _ _) _ _ = W
      obtain ⟨kW, cW⟩ := put33 (HK22.out) hW
      have u0 := kW.cell 0
      have u1 := kW.cell 1
      have u2 := kW.cell 2
      refine bodyPost_ret (v := .tuple #[.agg #[.slice (some ⟨b, off, none⟩) n cs, .slice At m ct, .slice Al l cl], .int .i64 0, .int .i64 2]) ?_ ?_ ?_
      ·simp [results, Tryz.results28, go_sem, u0, u1, u2]
      ·rfl
      ·rw [← HM.out, HX.out.1, HX.out.2]
       exact BegX.err (by decide) HA.out (cW.up (HG2.out) (fun t ht => by have := HS.out; simp at ht; omega)) rfl HSH.out
    have hnz : ((np : Int) == 0) = false := by simp; omega
    go_wp2_with fail
    clear b0 b1 b2 c1
    go_loopw [9, 10, 11] (fun v s z wr => ∃ (i : Nat) (bb : Bool) (sm : Int), i ≤ np ∧ v = .bool bb ∧ s = .int .i64 sm ∧ z = .int .i64 (i : Int) ∧ Hid (BegI n ps i bb sm) ∧ Hid (Gr w2 wr)) (fun _ _ z _ => np - (intOf z).toNat)
    case atStart => exact ⟨0, false, 0, Nat.zero_le _, rfl, rfl, rfl, Lib.hid BegI.zero, Lib.hid (Gr.refl _)⟩
    case round =>
     obtain ⟨i, bb, sm, hi, rfl, rfl, rfl, HBI, HGR⟩ := hrel
     have hnb := HNP9.out
     have HK1r := Lib.hid (HK12.out.keep HGR.out)
     have HK2r := Lib.hid (HK22.out.keep HGR.out)
     have b0 := HK1r.out.cell 0
     have b1 := HK1r.out.cell 1
     have b2 := HK1r.out.cell 2
     simp only [List.getElem?_toArray, List.getElem?_cons_succ, List.getElem?_cons_zero] at b0 b1 b2
     cases bb with
     | true =>
       have HX : Hid (xBeginO L.era (a : Int) ps = L.era ∧ xErrB L.era (a : Int) ps = 2) := Lib.hid (by
        have e0 : xErrD L.era (a : Int) = 0 := by rw [HE.out.1, HDN.out]; rfl
        have e : xErrB L.era (a : Int) ps = 2 := by
         unfold xErrB
         rw [e0, if_neg (by decide), lens_era.1, HSH.out.n, if_neg (HBI.out.2 rfl)]
        exact ⟨by unfold xBeginO; rw [e]; rfl, e⟩)
       by_cases hlt : i < np
       ·have hii : (i : Int) < (np : Int) := by omega
        have f0 := HK2r.out.free 0
        have f1 := HK2r.out.free 1
        have f2 := HK2r.out.free 2
        have d0 := HK2r.out.cell 0
        have d1 := HK2r.out.cell 1
        have d2 := HK2r.out.cell 2
        simp only [List.getElem?_toArray, List.getElem?_cons_succ, List.getElem?_cons_zero] at d0 d1 d2
        go_wp2_with fail
        generalize hW : World.setCell (World.setCell (World.setCell wr _ _) _ _) _ _ = W
        obtain ⟨kW, cW⟩ := put33 (HK2r.out) hW
        have u0 := kW.cell 0
        have u1 := kW.cell 1
        have u2 := kW.cell 2
        refine bodyPost_ret (v := .tuple #[.agg #[.slice (some ⟨b, off, none⟩) n cs, .slice At m ct, .slice Al l cl], .int .i64 0, .int .i64 2]) ?_ ?_ ?_
        ·simp [results, Tryz.results28, go_sem, u0, u1, u2]
        ·rfl
        ·rw [← HM.out, HX.out.1, HX.out.2]
         exact BegX.err (by decide) HA.out (cW.up (HG2.out.trans HGR.out) (fun t ht => by have := HS.out; simp at ht; omega)) rfl HSH.out
       ·obtain rfl : np = i := by omega
        have f0 := HK2r.out.free 0
        have f1 := HK2r.out.free 1
        have f2 := HK2r.out.free 2
        have d0 := HK2r.out.cell 0
        have d1 := HK2r.out.cell 1
        have d2 := HK2r.out.cell 2
        simp only [List.getElem?_toArray, List.getElem?_cons_succ, List.getElem?_cons_zero] at d0 d1 d2
        go_wp2_with fail
        generalize hW : World.setCell (World.setCell (World.setCell wr _ _) _ _) _ _ = W
        obtain ⟨kW, cW⟩ := put33 (HK2r.out) hW
        have u0 := kW.cell 0
        have u1 := kW.cell 1
        have u2 := kW.cell 2
        refine bodyPost_ret (v := .tuple #[.agg #[.slice (some ⟨b, off, none⟩) n cs, .slice At m ct, .slice Al l cl], .int .i64 0, .int .i64 2]) ?_ ?_ ?_
        ·simp [results, Tryz.results28, go_sem, u0, u1, u2]
        ·rfl
        ·rw [← HM.out, HX.out.1, HX.out.2]
         exact BegX.err (by decide) HA.out (cW.up (HG2.out.trans HGR.out) (fun t ht => by have := HS.out; simp at ht; omega)) rfl HSH.out
     | false =>
       by_cases hlt : i < np
       ·have hii : (i : Int) < (np : Int) := by omega
        have hi0 : (0 : Int) ≤ (i : Int) := by omega
        obtain ⟨bp, op, rfl, x0, x1⟩ := Pts_at (HPR.out wr (HG2.out.trans HGR.out)) (k := i) (by rw [HNP.out]; exact hlt)
        have hpi := getD_of (0, 0) (show i < ps.length by rw [HNP.out]; exact hlt)
        obtain ⟨p, hp⟩ : ∃ p, ps.getD i (0, 0) = p := ⟨_, rfl⟩
        rw [hp] at x0 x1 hpi
        have HPI := Lib.hid hpi
        obtain ⟨q1, q2⟩ := p
        dsimp only at x0 x1
        have hal := (Gr.refl wr).alloc (.cells #[.int .i64 0, .int .i64 0] 61)
        clear hp hpi
        go_upto_region 11 with fail
        generalize hWa : World.alloc wr _ = wa
        obtain ⟨gm, hgm⟩ : ∃ gm, wr.heap.size = gm := ⟨_, rfl⟩
        have km : Blk wa gm 61 #[.int .i64 q1, .int .i64 q2] := by rw [← hWa]; exact Blk.new _ _ _ hgm
        have hga : Gr wr wa := by rw [← hWa]; exact (Gr.refl wr).alloc _
        rw [hgm]
        have HKM := Lib.hid km
        have HGA := Lib.hid (HGR.out.trans hga)
        have HPA := Lib.hid (HPR.out wa (HG2.out.trans HGA.out))
        clear b0 b1 b2 x0 x1 hal hWa hgm km hga
        obtain ⟨c0, hc0⟩ : ∃ c0 : Bool, c0 = !decide (0 ≤ q1 ∧ q1 < (n : Int) ∧ q2 ≠ 0 ∧ -1099511627776 ≤ q2 ∧ q2 ≤ 1099511627776) := ⟨_, rfl⟩
        have HC0 : Hid ((¬ (0 ≤ q1 ∧ q1 < (n : Int) ∧ q2 ≠ 0 ∧ -1099511627776 ≤ q2 ∧ q2 ≤ 1099511627776) → c0 = true) ∧ ((0 ≤ q1 ∧ q1 < (n : Int) ∧ q2 ≠ 0 ∧ -1099511627776 ≤ q2 ∧ q2 ≤ 1099511627776) → c0 = false)) := Lib.hid ⟨fun h => by rw [hc0, decide_eq_false h]; rfl, fun h => by rw [hc0, decide_eq_true h]; rfl⟩
        have HCB := Lib.hid hc0
        clear hc0
        have m0 := HKM.out.cell 0
        have m1 := HKM.out.cell 1
        simp only [List.getElem?_toArray, List.getElem?_cons_succ, List.getElem?_cons_zero] at m0 m1
        have ka := HK12.out.keep HGA.out
        have b0 := ka.cell 0
        have b1 := ka.cell 1
        have b2 := ka.cell 2
        simp only [List.getElem?_toArray, List.getElem?_cons_succ, List.getElem?_cons_zero] at b0 b1 b2
        clear ka
        have HSI2 : ∀ v, decide (0 ≤ q1 ∧ q1 < (n : Int)) = v → ∀ W, Calls Tryz.prog 58 #[.agg #[.slice (some ⟨b, off, none⟩) n cs, .slice At m ct, .slice Al l cl], .int .i64 q1] W fun e w' => e = .returned (.bool v) ∧ Gr W w' := fun v hv W => by
         have := xsite_any (some ⟨b, off, none⟩) n cs (.slice At m ct) (.slice Al l cl) q1 W
         rw [hv] at this
         exact this
        have HSI := Lib.hid HSI2
        clear HSI2
        go_cut [9] from 34 to 89 (fun v wx => v = .bool c0 ∧ Hid (Gr wa wx))
        case first =>
         by_cases h1 : 0 ≤ q1 ∧ q1 < (n : Int)
         ·have HS1' := Lib.hid (HSI.out true (decide_eq_true h1))
          have HH1 := Lib.hid h1
          clear h1
          by_cases h2 : q2 = 0
          ·have hr := Lib.hid (HC0.out.1 (fun h => h.2.2.1 h2))
           have hq : (q2 == 0) = true := by simpa using h2
           subst h2
           go_wp2_with fail
           refine (HS1'.out _).mono ?_
           rintro e wx ⟨rfl, hgx⟩
           replace m1 := hgx.keep m1
           have HGX := Lib.hid hgx
           clear hgx b0 b1 b2 m0
           go_wp2_with fail
           go_meet
           exact ⟨by rw [hr.out], HGX⟩
          have hq : (q2 == 0) = false := by simpa using h2
          by_cases h3 : q2 < -1099511627776
          ·have hr := Lib.hid (HC0.out.1 (fun h => by omega))
           go_wp2_with fail
           refine (HS1'.out _).mono ?_
           rintro e wx ⟨rfl, hgx⟩
           replace m1 := hgx.keep m1
           have HGX := Lib.hid hgx
           clear hgx b0 b1 b2 m0
           go_wp2_with fail
           go_meet
           exact ⟨by rw [hr.out], HGX⟩
          by_cases h4 : 1099511627776 < q2
          ·have hr := Lib.hid (HC0.out.1 (fun h => by omega))
           go_wp2_with fail
           refine (HS1'.out _).mono ?_
           rintro e wx ⟨rfl, hgx⟩
           replace m1 := hgx.keep m1
           have HGX := Lib.hid hgx
           clear hgx b0 b1 b2 m0
           go_wp2_with fail
           go_meet
           exact ⟨by rw [hr.out], HGX⟩
          ·have hr := Lib.hid (HC0.out.2 ⟨HH1.out.1, HH1.out.2, h2, by omega, by omega⟩)
           have hd3 : decide (q2 < -1099511627776) = false := decide_eq_false h3
           have hd4 : decide (1099511627776 < q2) = false := decide_eq_false h4
           go_wp2_with fail
           refine (HS1'.out _).mono ?_
           rintro e wx ⟨rfl, hgx⟩
           replace m1 := hgx.keep m1
           have HGX := Lib.hid hgx
           clear hgx b0 b1 b2 m0
           go_wp2_with fail
           go_meet
           exact ⟨by rw [hr.out], HGX⟩
         ·have HS1' := Lib.hid (HSI.out false (decide_eq_false h1))
          have hr := Lib.hid (HC0.out.1 (fun h => h1 ⟨h.1, h.2.1⟩))
          clear h1
          go_wp2_with fail
          refine (HS1'.out _).mono ?_
          rintro e wx ⟨rfl, hgx⟩
          have HGX := Lib.hid hgx
          clear hgx b0 b1 b2 m0 m1
          go_wp2_with fail
          go_meet
          exact ⟨by rw [hr.out], HGX⟩
        case rest =>
         obtain ⟨rfl, HGX⟩ := hcut
         clear b0 b1 b2 m0 m1
         go_wp2_with fail
         go_loopw [9, 13] (fun v z wx => ∃ (k : Nat) (c : Bool), k ≤ i ∧ z = .int .i64 (k : Int) ∧ v = .bool c ∧ Hid (c = (c0 || (ps.take k).any (fun q => q.1 == q1))) ∧ Hid (Gr wa wx)) (fun _ z _ => i - (intOf z).toNat)
         case atStart => exact ⟨0, c0, Nat.zero_le _, rfl, rfl, Lib.hid (by simp), HGX⟩
         case round =>
          obtain ⟨k, c, hk, rfl, rfl, HC, HGK⟩ := hrel
          clear HGX
          by_cases hlk : k < i
          ·have hki : (k : Int) < (i : Int) := by omega
           have hk0 : (0 : Int) ≤ (k : Int) := by omega
           have hkn : (k : Int) < (np : Int) := by omega
           have HNX : Hid ((c0 || (ps.take (k + 1)).any (fun q => q.1 == q1)) = (c || ((ps.getD k (0, 0)).1 == q1))) := Lib.hid (by
            rw [HC.out, List.take_add_one, show ps[k]? = some (ps.getD k (0, 0)) from getD_of (0, 0) (by rw [HNP.out]; omega), Option.toList_some, List.any_append]
            simp [Bool.or_assoc])
           cases c with
           | true =>
             go_upto_region 15 with fail
             go_quiet (fail)
             go_wp2_with fail
             go_roundw
             case rel => exact ⟨k + 1, true, by omega, by go_num, rfl, Lib.hid (by rw [HNX.out]; rfl), Lib.hid (by have := HGK.out; (repeat (first | exact Gr.refl _ | assumption | (refine Gr.drew ?_) | (refine Gr.drewN ?_ _) | (refine Gr.alloc ?_ _) | (refine Gr.trans ?_ (by assumption)))))⟩
             case measure => simp [intOf]; omega
           | false =>
             obtain ⟨bp2, op2, e2, y0, -⟩ := Pts_at (HPA.out.keep HGK.out) (k := k) (by rw [HNP.out]; omega)
             injection e2 with e2
             injection e2 with e2 e3 _
             subst e2
             subst e3
             have m0 := HKM.out.cell 0
             simp only [List.getElem?_toArray, List.getElem?_cons_succ, List.getElem?_cons_zero] at m0
             replace m0 := HGK.out.keep m0
             generalize (ps.getD k (0, 0)).1 = r1 at y0 HNX
             by_cases hr1 : r1 = q1
             ·have hrb : (r1 == q1) = true := by simpa using hr1
              rw [hrb] at HNX
              subst hr1
              go_upto_region 15 with fail
              go_quiet (fail)
              go_wp2_with fail
              go_roundw
              case rel => exact ⟨k + 1, true, by omega, by go_num, rfl, Lib.hid (by rw [HNX.out]; rfl), Lib.hid (by have := HGK.out; (repeat (first | exact Gr.refl _ | assumption | (refine Gr.drew ?_) | (refine Gr.drewN ?_ _) | (refine Gr.alloc ?_ _) | (refine Gr.trans ?_ (by assumption)))))⟩
              case measure => simp [intOf]; omega
             ·have hrb : (r1 == q1) = false := by simpa using hr1
              rw [hrb] at HNX
              go_upto_region 15 with fail
              go_quiet (fail)
              go_wp2_with fail
              go_roundw
              case rel => exact ⟨k + 1, false, by omega, by go_num, rfl, Lib.hid (by rw [HNX.out]; rfl), Lib.hid (by have := HGK.out; (repeat (first | exact Gr.refl _ | assumption | (refine Gr.drew ?_) | (refine Gr.drewN ?_ _) | (refine Gr.alloc ?_ _) | (refine Gr.trans ?_ (by assumption)))))⟩
              case measure => simp [intOf]; omega
          ·obtain rfl : i = k := by omega
           have m1 := HKM.out.cell 1
           simp only [List.getElem?_toArray, List.getElem?_cons_succ, List.getElem?_cons_zero] at m1
           replace m1 := HGK.out.keep m1
           cases c with
           | true =>
             have HB9 : Hid (BegI n ps (i + 1) true sm) := Lib.hid (BegI.bad HPI.out (by
              have h5 := HC.out
              rw [HCB.out] at h5
              by_cases h6 : 0 ≤ q1 ∧ q1 < (n : Int) ∧ q2 ≠ 0 ∧ -1099511627776 ≤ q2 ∧ q2 ≤ 1099511627776
              ·rw [decide_eq_true h6] at h5
               exact Or.inr (by simpa using h5.symm)
              ·exact Or.inl h6))
             go_wp2_with fail
             go_roundw
             case rel => exact ⟨i + 1, true, sm, by omega, rfl, rfl, by go_num, HB9, Lib.hid (HGA.out.trans HGK.out)⟩
             case measure => simp [intOf]; omega
           | false =>
             have h6 : 0 ≤ q1 ∧ q1 < (n : Int) ∧ q2 ≠ 0 ∧ -1099511627776 ≤ q2 ∧ q2 ≤ 1099511627776 := by
              have h5 := HC.out
              rw [HCB.out] at h5
              by_cases h6 : 0 ≤ q1 ∧ q1 < (n : Int) ∧ q2 ≠ 0 ∧ -1099511627776 ≤ q2 ∧ q2 ≤ 1099511627776
              ·exact h6
              ·rw [decide_eq_false h6] at h5; simp at h5
             have h7 : (ps.take i).any (fun q => q.1 == q1) = false := by
              have h5 := HC.out
              cases h8 : (ps.take i).any (fun q => q.1 == q1)
              ·rfl
              ·rw [h8] at h5; simp at h5
             have HB9 : Hid (BegI n ps (i + 1) false (sm + q2)) := Lib.hid (BegI.step HBI.out HPI.out h6 h7)
             obtain ⟨-, -, hs1, hs2⟩ := HBI.out.1 rfl
             obtain ⟨-, -, -, hq2, hq3⟩ := h6
             have hsb : -9223372036854775808 ≤ sm + q2 ∧ sm + q2 ≤ 9223372036854775807 := by omega
             obtain ⟨hsb1, hsb2⟩ := hsb
             clear h7
             go_wp2_with fail
             go_roundw
             case rel => exact ⟨i + 1, false, sm + q2, by omega, rfl, rfl, by go_num, HB9, Lib.hid (HGA.out.trans HGK.out)⟩
             case measure => simp [intOf]; omega
       ·obtain rfl : np = i := by omega
        have HOI := Lib.hid (BegI.ok (by rw [HNP.out]; exact HBI.out) (by rw [HNP.out]; omega))
        by_cases hsm : sm = 0
        ·subst hsm
         by_cases hm6 : 256 ≤ m
         ·have hmi : (256 : Int) ≤ (m : Int) := by omega
          have HX : Hid (xBeginO L.era (a : Int) ps = L.era ∧ xErrB L.era (a : Int) ps = 5) := Lib.hid (by
           have e0 : xErrD L.era (a : Int) = 0 := by rw [HE.out.1, HDN.out]; rfl
           have e : xErrB L.era (a : Int) ps = 5 := by
            unfold xErrB
            rw [e0, if_neg (by decide), lens_era.1, HSH.out.n, if_pos (HOI.out.2 rfl), lens_era.2.1, HSH.out.m, if_pos hm6]
           exact ⟨by unfold xBeginO; rw [e]; rfl, e⟩)
          have f0 := HK2r.out.free 0
          have f1 := HK2r.out.free 1
          have f2 := HK2r.out.free 2
          have d0 := HK2r.out.cell 0
          have d1 := HK2r.out.cell 1
          have d2 := HK2r.out.cell 2
          simp only [List.getElem?_toArray, List.getElem?_cons_succ, List.getElem?_cons_zero] at d0 d1 d2
          go_wp2_with fail
          generalize hW : World.setCell (World.setCell (World.setCell wr _ _) _ _) _ _ = W
          obtain ⟨kW, cW⟩ := put33 (HK2r.out) hW
          have u0 := kW.cell 0
          have u1 := kW.cell 1
          have u2 := kW.cell 2
          refine bodyPost_ret (v := .tuple #[.agg #[.slice (some ⟨b, off, none⟩) n cs, .slice At m ct, .slice Al l cl], .int .i64 0, .int .i64 5]) ?_ ?_ ?_
          ·simp [results, Tryz.results28, go_sem, u0, u1, u2]
          ·rfl
          ·rw [← HM.out, HX.out.1, HX.out.2]
           exact BegX.err (by decide) HA.out (cW.up (HG2.out.trans HGR.out) (fun t ht => by have := HS.out; simp at ht; omega)) rfl HSH.out
         ·have hmi : ¬ (256 : Int) ≤ (m : Int) := by omega
          have ho : OkP n ps := HOI.out.2 rfl
          have hfew := ho.few
          rw [HNP.out] at hfew
          have HX : Hid (xBeginO L.era (a : Int) ps = xBeg L.era (a : Int) ps ∧ xErrB L.era (a : Int) ps = 0) := Lib.hid (by
           have e0 : xErrD L.era (a : Int) = 0 := by rw [HE.out.1, HDN.out]; rfl
           have e : xErrB L.era (a : Int) ps = 0 := by
            unfold xErrB
            rw [e0, if_neg (by decide), lens_era.1, HSH.out.n, if_pos ho, lens_era.2.1, HSH.out.m, if_neg hm6]
           exact ⟨by unfold xBeginO; rw [e, if_pos rfl], e⟩)
          clear ho HBI
          go_wp2_with fail
          refine (xcopyV HA.out (HG2.out.trans HGR.out) HL.out HSH.out).mono ?_
          rintro e w3 ⟨L3, rfl, hc1, hc2, HERA3, hc3⟩
          have HGO3 := Lib.hid (Out5.start ⟨hc1, hc2, hc3⟩ (by have := HS.out; omega) (HK2r.out))
          replace HERA3 := Lib.hid HERA3
          have HGC3 := Lib.hid hc3
          have HYG3 := Lib.hid hc2
          obtain ⟨As3, At3, Al3, n3, m3, l3, cs3, ct3, cl3, HSH3⟩ := hc1.rd0.shp
          replace HSH3 := Lib.hid HSH3
          rw [HSH3.out.v]
          have HB3 : Hid (Blk w3 g 33 #[.slice (some ⟨b, off, none⟩) n cs, .slice At m ct, .slice Al l cl] ∧ g ∉ blkR L3.rows) := Lib.hid ⟨(HK1r.out).keep hc3, fun hm => by have := hc2 g hm; have := (HK1r.out).lt; omega⟩
          have HN3 : Hid (n3 = n ∧ m3 = m ∧ l3 = l) := Lib.hid (by
           have e := HERA3.out
           refine ⟨?_, ?_, ?_⟩
           ·have := congrArg (fun X => X.sites.length) e
            simp only [lens_era.1] at this
            rw [HSH3.out.n, HSH.out.n] at this
            exact this
           ·have := congrArg (fun X => X.txs.length) e
            simp only [lens_era.2.1] at this
            rw [HSH3.out.m, HSH.out.m] at this
            exact this
           ·have := congrArg (fun X => X.mail.length) e
            simp only [lens_era.2.2] at this
            rw [HSH3.out.l, HSH.out.l] at this
            exact this)
          clear hc1 hc2 hc3
          clear b0 b1 b2
          have f0 := HB3.out.1.free 0
          have f1 := HB3.out.1.free 1
          have f2 := HB3.out.1.free 2
          have d0 := HB3.out.1.cell 0
          have d1 := HB3.out.1.cell 1
          have d2 := HB3.out.1.cell 2
          simp only [List.getElem?_toArray, List.getElem?_cons_succ, List.getElem?_cons_zero] at d0 d1 d2
          go_upto_region 23 with fail
          generalize hWn : World.setCell (World.setCell (World.setCell w3 _ _) _ _) _ _ = w4
          obtain ⟨kb, cb⟩ := put33 HB3.out.1 hWn
          have HGO4 := Lib.hid (HGO3.out.side cb (fun t ht => by rw [List.mem_singleton.1 ht]; exact ⟨by have := HS.out; omega, HB3.out.2, by omega, _, _, HB3.out.1, by decide⟩))
          have HB4 : Hid (Blk w4 g 33 #[.slice As3 n3 cs3, .slice At3 m3 ct3, .slice Al3 l3 cl3] ∧ g ∉ blkR L3.rows) := Lib.hid ⟨kb, HB3.out.2⟩
          have HCB4 := Lib.hid cb
          have b0 := kb.cell 0
          have b1 := kb.cell 1
          have b2 := kb.cell 2
          simp only [List.getElem?_toArray, List.getElem?_cons_succ, List.getElem?_cons_zero] at b0 b1 b2
          clear f0 f1 f2 d0 d1 d2 hWn kb cb
          have HPP := Lib.hid (HPR.out w4 HGO4.out.ow.gr)
          obtain ⟨i0, hi', hz0, hz1, hz2⟩ := info_parts Tryz.infoPtM
          clear b0 b2
          go_wp2_with (at_builtin; refine step_app (by rfl) (.tmp 103) (.tmp 104) 38 (by rfl) w4.heap.size 61 i0 _ 16 Tryz.underlying38 hi' hz0 hz1 hz2 rfl (by decide) enc2p_len enc2p_one (.slice none 0 0) 0 [] rfl (by rfl) (World.ownsRow_nil w4 _ _ _) (Nat.le_refl _) Ap np cp ps (by rfl) HNP.out HPP.out (by unfold maxLen; omega) (by omega) ?_)
          intro A' c2' wb hown' hgrow
          try simp only [List.nil_append, Nat.zero_add] at hown' ⊢
          have hgbb : Gr w4 wb := (Below.refl _ w4).grown hgrow (Nat.le_refl _) (fun t ht => by simp [Value.ownBlock] at ht)
          have HOW := Lib.hid hown'
          have HGB := Lib.hid hgbb
          have hmk := fun W => mk_bo5 np (by omega) W
          have HB4b := Lib.hid (HB4.out.1.keep hgbb)
          have HTR : Hid (wb.ownsRow w.heap.size 100 4 (.slice At3 m3 ct3) m3 (flatE encLT L3.txs)) := Lib.hid (owns_gr (by
           have := HGO4.out.ow.rws.all L3.tRow (by simp [LN.rows])
           change w4.ownsRow _ _ 4 L3.tv L3.txs.length _ at this
           rw [HSH3.out.tv, HSH3.out.m] at this
           exact this) hgbb)
          have hm3 : m3 ≤ 256 := by have := HN3.out.2.1; omega
          replace b1 := hgbb.keep b1
          have hbase : w.heap.size ≤ wb.heap.size := Nat.le_trans HGO4.out.ow.gr.size hgbb.size
          clear hown' hgrow hgbb hi' hz0 hz1 hz2
          obtain ⟨i1, hj', jz0, jz1, jz2⟩ := info_parts Tryz.infoXTx
          go_wp2_with (at_builtin; refine wpList_append_own_at _ rfl _ _ 30 rfl w.heap.size 100 i1 _ 4 64 Tryz.underlying30 hj' jz0 jz1 jz2 rfl (by decide) _ _ _ rfl ((HTR.out.alloc _).alloc _) _ 1 1 [.int .i64 (a : Int), .int .i64 1, .slice A' np c2', .slice (some ⟨wb.heap.size, 0, none⟩) np np] rfl rfl ?q1 ?q2 ?q3 ?q4 ?q5 ?_)
          case q1 => intro j u hu; rw [Addr.add_lit]; exact alloc_new (by simp) (by rw [Nat.zero_add]; simpa using hu)
          case q2 => intro u hu; simp at hu; rcases hu with rfl | rfl | rfl | rfl <;> rfl
          case q3 => unfold maxLen; omega
          case q4 => omega
          case q5 => simp; omega
          intro v' wc hown2 hgrow2 _ hat
          obtain ⟨g3, c3, rfl, -⟩ := owns_shape hown2 (by omega)
          have HO2 := Lib.hid hown2
          have HG2' := Lib.hid hgrow2
          have HAT := Lib.hid hat
          clear hown2 hgrow2 hat hj' jz0 jz1 jz2 b1 hmk
          obtain ⟨w3b, hw3b⟩ : ∃ w3b, (wb.alloc (.cells (bo5 np) 4)).alloc (.cells #[.int .i64 (a : Int), .int .i64 1, .slice A' np c2', .slice (some ⟨wb.heap.size, 0, none⟩) np np] 100) = w3b := ⟨_, rfl⟩
          have HW3 : Hid (Gr wb w3b ∧ w3b.heap.size = wb.heap.size + 1 + 1 ∧ Blk w3b wb.heap.size 4 (bo5 np)) := Lib.hid (by
           rw [← hw3b]
           exact ⟨((Gr.refl wb).alloc _).alloc _, by simp, (Blk.new wb _ _ rfl).keep ((Gr.refl _).alloc _)⟩)
          have HG3 : Hid (Ch L3.tv.ownBlock.toList w3b wc) := Lib.hid (by rw [← hw3b]; exact Ch.row HG2'.out (fun t ht => by rw [HSH3.out.tv]; simp [ht]))
          clear hw3b HG2'
          obtain ⟨x, hx⟩ : ∃ x : LT, (⟨(a : Int), 1, ps, List.replicate np false, .slice A' np c2', .slice (some ⟨wb.heap.size, 0, none⟩) np np⟩ : LT) = x := ⟨_, rfl⟩
          have hmt := HGO4.out.ow.moreTx (x := x) (tv := .slice (some ⟨g3, 0, none⟩) (m3 + 1) c3) (wb := w3b) (we := wc) (HGB.out.trans HW3.out.1) (by
           rw [← hx]
           show w3b.ownsRow _ _ 1 (.slice (some ⟨wb.heap.size, 0, none⟩) np np) (List.replicate np false).length (flatE encBo5 (List.replicate np false))
           rw [List.length_replicate]
           exact owns_bo5 HW3.out.2.2 (by have := HGB.out.size; omega) (by omega)) (by
           rw [← hx]
           show w3b.ownsRow _ _ 2 (.slice A' np c2') ps.length (flatE enc2 ps)
           rw [HNP.out]
           exact owns_gr HOW.out HW3.out.1) (by
           rw [HSH3.out.m, flatE_snoc, ← hx]
           exact HO2.out) HG3.out (by
           rw [HSH3.out.tv, HW3.out.2.1]
           exact HAT.out)
          obtain ⟨Lt, hLt⟩ : ∃ Lt, { L3 with txs := L3.txs ++ [x], tv := .slice (some ⟨g3, 0, none⟩) (m3 + 1) c3 } = Lt := ⟨_, rfl⟩
          rw [hLt] at hmt
          have HMT := Lib.hid hmt
          have HSHt : Hid (Lt.sv = .slice As3 n3 cs3 ∧ Lt.tv = .slice (some ⟨g3, 0, none⟩) (m3 + 1) c3 ∧ Lt.lv = .slice Al3 l3 cl3 ∧ Lt.sites.length = n ∧ Lt.txs.length = m + 1) := Lib.hid (by
           rw [← hLt]
           refine ⟨HSH3.out.sv, rfl, HSH3.out.lv, by show L3.sites.length = n; rw [HSH3.out.n]; exact HN3.out.1, ?_⟩
           show (L3.txs ++ [x]).length = m + 1
           rw [List.length_append, HSH3.out.m, HN3.out.2.1]
           rfl)
          have HERAt : Hid (Lt.era = xPre L.era (a : Int) ps 0) := Lib.hid (by
           rw [xPre_zero, ← HERA3.out, ← hLt]
           unfold LN.era
           dsimp only
           rw [List.map_append, ← hx, HNP.out]
           rfl)
          have a1 := HMT.out.2.stay HB4.out.1 HB4.out.2
          have a2 := HMT.out.2.stay HGO4.out.b2 HGO4.out.far
          have HGOt : Hid (Out5 S w (g + 1) Lt wc) := Lib.hid ⟨HMT.out.1, a2.2, HGO4.out.low, a2.1⟩
          have HBt := Lib.hid a1
          have b1 := a1.1.cell 1
          have f1 := a1.1.free 1
          simp only [List.getElem?_toArray, List.getElem?_cons_succ, List.getElem?_cons_zero] at b1
          clear hmt hx hLt a1 a2
          go_upto_region 28 with fail
          generalize hWd : World.setCell wc _ _ = wd
          have hkd : Blk wd g 33 #[.slice As3 n3 cs3, .slice (some ⟨g3, 0, none⟩) (m3 + 1) c3, .slice Al3 l3 cl3] := by rw [← hWd]; exact HBt.out.1.put 1 _
          have hcd : Ch [g] wc wd := by rw [← hWd]; exact Ch.refl.set (p := ⟨g, 1, none⟩) (by simp) _
          have HGOd := Lib.hid (HGOt.out.side hcd (fun t ht => by rw [List.mem_singleton.1 ht]; exact ⟨by have := HS.out; omega, HBt.out.2, by omega, _, _, HBt.out.1, by decide⟩))
          have HBd : Hid (Blk wd g 33 #[Lt.sv, Lt.tv, Lt.lv] ∧ g ∉ blkR Lt.rows) := Lib.hid ⟨by rw [HSHt.out.1, HSHt.out.2.1, HSHt.out.2.2.1]; exact hkd, HBt.out.2⟩
          have HLNt : Hid (Lt.sites.length = n ∧ Lt.txs.length = m + 1) := Lib.hid HSHt.out.2.2.2
          have hm31 : m3 = m := HN3.out.2.1
          subst hm31
          clear b1 f1 hWd hkd hcd hm3
          go_wp2_with fail
          go_loopw [16] (fun z wr => ∃ (j : Nat) (Lj : LN), j ≤ n ∧ z = .int .i64 (j : Int) ∧ Hid (Out5 S w (g + 1) Lj wr) ∧ Hid (Blk wr g 33 #[Lj.sv, Lj.tv, Lj.lv] ∧ g ∉ blkR Lj.rows) ∧ Hid (Lj.sites.length = n ∧ Lj.txs.length = m3 + 1) ∧ Hid (Lj.era = xPre L.era (a : Int) ps j)) (fun z _ => n - (intOf z).toNat)
          case atStart => exact ⟨0, Lt, Nat.zero_le _, rfl, HGOd, HBd, HLNt, HERAt⟩
          case round =>
           obtain ⟨j, Lj, hj, rfl, HGOj, HBj, HLNj, HERAj⟩ := hrel
           obtain ⟨As5, At5, Al5, n5, m5, l5, cs5, ct5, cl5, hsh5⟩ := HGOj.out.ow.rd0.shp
           have hbj := HBj.out.1
           rw [hsh5.sv, hsh5.tv, hsh5.lv] at hbj
           have hnn : n = n5 := by rw [← hsh5.n]; exact HLNj.out.1.symm
           have hmm : m3 + 1 = m5 := by rw [← hsh5.m]; exact HLNj.out.2.symm
           rw [← hnn, ← hmm] at hsh5 hbj
           have HSH5 := Lib.hid hsh5
           have HB5 : Hid (Blk wr g 33 #[.slice As5 n cs5, .slice At5 (m3 + 1) ct5, .slice Al5 l5 cl5] ∧ g ∉ blkR Lj.rows) := Lib.hid ⟨hbj, HBj.out.2⟩
           clear hbj hsh5 hnn hmm
           have b0 := HB5.out.1.cell 0
           have b1 := HB5.out.1.cell 1
           have b2 := HB5.out.1.cell 2
           simp only [List.getElem?_toArray, List.getElem?_cons_succ, List.getElem?_cons_zero] at b0 b1 b2
           by_cases hlt : j < n
           ·have hji : (j : Int) < (n : Int) := by omega
            have hj0 : (0 : Int) ≤ (j : Int) := by omega
            obtain ⟨s, hs⟩ := site_at (L := Lj) j (by rw [HSH5.out.n]; exact hlt)
            obtain ⟨s0, hs0'⟩ : ∃ s0, L.era.sites[j]? = some s0 := ⟨_, List.getElem?_eq_getElem (by rw [lens_era.1, HSH.out.n]; exact hlt)⟩
            have hse : s.era = s0 := by
             have h1 := (xPre_step (a := (a : Int)) (ps := ps) hs0').2
             rw [← HERAj.out] at h1
             have h2 : Lj.era.sites[j]? = some s.era := by unfold LN.era; dsimp only; rw [List.getElem?_map, hs]; rfl
             rw [h1] at h2
             injection h2 with h2
             exact h2.symm
            have hml9 : s.minds.length = m3 := by
             have h1 := HL.out.mi s0 (List.mem_of_getElem? hs0')
             rw [← hse, lens_era.2.1, HSH.out.m] at h1
             exact h1
            have HSE := Lib.hid (And.intro hs0' hse)
            obtain ⟨gs, cc, hsv, hcs⟩ := HGOj.out.ow.cellsS hs
            rw [HSH5.out.sv, HSH5.out.n] at hsv
            injection hsv with hAs5 _ hcc5
            subst hAs5
            subst hcc5
            obtain ⟨c0, c1, c2⟩ := hcs wr HGOj.out.ow
            have hrow : wr.ownsRow w.heap.size 102 3 s.mv s.minds.length (flatE encMi s.minds) := HGOj.out.ow.rws.all s.row (by
             simp only [LN.rows, List.mem_cons, List.mem_append, List.mem_map]
             exact Or.inr (Or.inr (Or.inr (Or.inl ⟨s, List.mem_of_getElem? hs, rfl⟩))))
            obtain ⟨Am, cm, hmv, -⟩ := RdV.of encMi_len hrow
            replace hmv : s.mv = .slice Am s.minds.length cm := hmv
            rw [hml9] at hmv hrow
            rw [hmv] at c2 hrow
            have HROW := Lib.hid hrow
            have HMV := Lib.hid (And.intro hmv hml9)
            have HSI := Lib.hid hs
            obtain ⟨⟨cur, hcur, hcz⟩, hne, hgin⟩ := HGOj.out.ow.sBlk hs HSH5.out.sv HSH5.out.n
            rw [hmv] at hne
            have HCUR := Lib.hid (And.intro hcur (And.intro hne hgin))
            have hal := (Gr.refl wr).alloc (.cells #[.int .i64 0, .bool false, .slice none 0 0] 73)
            clear hs hs0' hse hml9 hcs hmv hrow hcur hne hgin
            go_upto_region 32 with fail
            generalize hW6 : World.alloc wr _ = w6
            obtain ⟨gb, hgb⟩ : ∃ gb, wr.heap.size = gb := ⟨_, rfl⟩
            have kb : Blk w6 gb 73 #[.int .i64 s.stock, .bool s.down, .slice Am m3 cm] := by rw [← hW6]; exact Blk.new _ _ _ hgb
            have hg6 : Gr wr w6 := by rw [← hW6]; exact (Gr.refl wr).alloc _
            rw [hgb]
            have HKB := Lib.hid kb
            have HG6 := Lib.hid hg6
            have HGBf : Hid (gb ∉ blkR Lj.rows ∧ w.heap.size ≤ gb ∧ g + 1 < gb) := Lib.hid ⟨HGOj.out.ow.young (by omega), by have := HGOj.out.ow.gr.size; omega, by have := HGOj.out.b2.lt; omega⟩
            have y2 := kb.cell 2
            simp only [List.getElem?_toArray, List.getElem?_cons_succ, List.getElem?_cons_zero] at y2
            have HRO6 := Lib.hid (owns_gr HROW.out hg6)
            have hb6 : w.heap.size ≤ w6.heap.size := Nat.le_trans HGOj.out.ow.gr.size hg6.size
            obtain ⟨i1, hj', jz0, jz1, jz2⟩ := info_parts Tryz.infoXMi
            clear b0 b1 b2 c0 c1 c2 hal hW6 hgb kb hg6
            go_wp2_with (at_builtin; refine wpList_append_own_at _ rfl _ _ 71 rfl w.heap.size 102 i1 _ 3 24 Tryz.underlying71 hj' jz0 jz1 jz2 rfl (by decide) _ _ _ rfl (HRO6.out.alloc _) ⟨w6.heap.size, 0, none⟩ 1 1 (encMi (0, (0, 0))) rfl rfl ?q1 ?q2 ?q3 ?q4 ?q5 ?_)
            case q1 => intro j u hu; first | (rw [Addr.add_lit]; exact alloc_new rfl (by rw [Nat.zero_add]; simpa [encMi] using hu)) | (simpa [encMi] using hu)
            case q2 => exact fun u hu => encMi_one _ u hu
            case q3 => unfold maxLen; omega
            case q4 => omega
            case q5 => first | omega | (simp; omega)
            intro v' w7 hown2 hgrow2 _ hat
            obtain ⟨g4, c4, rfl, -⟩ := owns_shape hown2 (by omega)
            obtain ⟨w6b, hw6b⟩ : ∃ w6b, w6.alloc (.cells #[.int .i64 0, .int .i64 0, .int .i64 0] 102) = w6b := ⟨_, rfl⟩
            have HG6b : Hid (Gr w6 w6b ∧ w6b.heap.size = w6.heap.size + 1) := Lib.hid (by rw [← hw6b]; exact ⟨(Gr.refl w6).alloc _, by simp⟩)
            have HO2 := Lib.hid hown2
            have HAT := Lib.hid hat
            have HC7 : Hid (Ch s.mv.ownBlock.toList w6b w7) := Lib.hid (by rw [← hw6b]; exact Ch.row hgrow2 (fun t ht => by rw [HMV.out.1]; simp [ht]))
            have hkb7 : Blk w7 gb _ _ := (HC7.out.block gb (HKB.out.keep HG6b.out.1).lt (fun hm => HGBf.out.1 (blk_mem (r := s.row) (by
             simp only [LN.rows, List.mem_cons, List.mem_append, List.mem_map]
             exact Or.inr (Or.inr (Or.inr (Or.inl ⟨s, List.mem_of_getElem? HSI.out, rfl⟩)))) (show s.mv.ownBlock = some gb by simpa using hm)))).trans (HKB.out.keep HG6b.out.1)
            have hcu7 : Blk w7 gs _ _ := (HC7.out.block gs ((HCUR.out.1.keep HG6.out).keep HG6b.out.1).lt (fun hm => by rw [HMV.out.1] at hm; exact HCUR.out.2.1 (by simpa using hm))).trans ((HCUR.out.1.keep HG6.out).keep HG6b.out.1)
            have hbx7 : Blk w7 g _ _ := (HC7.out.block g (((HB5.out.1.keep HG6.out).keep HG6b.out.1)).lt (fun hm => HB5.out.2 (blk_mem (r := s.row) (by
             simp only [LN.rows, List.mem_cons, List.mem_append, List.mem_map]
             exact Or.inr (Or.inr (Or.inr (Or.inl ⟨s, List.mem_of_getElem? HSI.out, rfl⟩)))) (show s.mv.ownBlock = some g by simpa using hm)))).trans ((HB5.out.1.keep HG6.out).keep HG6b.out.1)
            have HKB7 := Lib.hid hkb7
            have HCU7 := Lib.hid hcu7
            have HBX7 := Lib.hid hbx7
            have y2 := hkb7.cell 2
            have fy := hkb7.free 2
            simp only [List.getElem?_toArray, List.getElem?_cons_succ, List.getElem?_cons_zero] at y2
            clear hown2 hgrow2 hat hj' jz0 jz1 jz2 hb6 hw6b hkb7 hcu7 hbx7
            go_upto_region 35 with fail
            generalize hW8 : World.setCell w7 _ _ = w8
            obtain ⟨k8, c8⟩ := put1of3 HKB7.out hW8
            have hcu8 : Blk w8 gs _ _ := (c8.block gs HCU7.out.lt (fun hm => HGBf.out.1 (by rw [← List.mem_singleton.1 hm]; exact HCUR.out.2.2))).trans HCU7.out
            have hbx8 : Blk w8 g _ _ := (c8.block g HBX7.out.lt (by have := HGBf.out.2.2; simp; omega)).trans HBX7.out
            have HC8 := Lib.hid c8
            have HCU8 := Lib.hid hcu8
            have HBX8 := Lib.hid hbx8
            have b0 := hbx8.cell 0
            have y0 := k8.cell 0
            have y1 := k8.cell 1
            have y2 := k8.cell 2
            simp only [List.getElem?_toArray, List.getElem?_cons_succ, List.getElem?_cons_zero] at b0 y0 y1 y2
            obtain ⟨_, c0⟩ := hcu8.get (i := j * 3) (by omega)
            obtain ⟨_, c1⟩ := hcu8.get (i := j * 3 + 1) (by omega)
            obtain ⟨_, c2⟩ := hcu8.get (i := j * 3 + 2) (by omega)
            have e0 := hcu8.free (j * 3)
            have e1 := hcu8.free (j * 3 + 1)
            have e2 := hcu8.free (j * 3 + 2)
            have HGG : Hid (gs ∈ blkR Lj.rows ∧ g ∉ blkR Lj.rows ∧ g + 1 ∉ blkR Lj.rows) := Lib.hid ⟨HCUR.out.2.2, HB5.out.2, HGOj.out.far⟩
            clear fy hW8 k8 c8 hcu8 hbx8
            go_wp2_with fail
            generalize hW9 : World.setCell (World.setCell (World.setCell w8 _ _) _ _) _ _ = w9
            obtain ⟨s', hs'⟩ : ∃ s' : LS, { s with minds := s.minds ++ [(0, (0, 0))], mv := .slice (some ⟨g4, 0, none⟩) (m3 + 1) c4 } = s' := ⟨_, rfl⟩
            have hmo := (HGOj.out.ow.keep (HG6.out.trans HG6b.out.1)).moreMind (s' := s') (wc := w7) (wd := w8) (we := w9) (gb := gb) (g := gs) (c := cs5) HSI.out HC7.out (by
             rw [← hs']
             show w7.ownsRow _ _ 3 _ (s.minds ++ [_]).length (flatE encMi (s.minds ++ [_]))
             rw [List.length_append, HMV.out.2, flatE_snoc]
             exact HO2.out) (by
             rw [← hs', HMV.out.1, HG6b.out.2]
             exact HAT.out) (HKB.out.keep HG6b.out.1) HGBf.out.1 HGBf.out.2.1 (by decide) HC8.out (by rw [HSH5.out.n]; exact HSH5.out.sv) (by rw [← hs']; exact hW9)
            obtain ⟨m1, m2, m4⟩ := hmo
            have hlw : wr.heap.size < w6b.heap.size := by have := HKB.out.lt; have := HG6b.out.2; have := HG6.out.size; omega
            have stay : ∀ q ty cs, Blk w6b q ty cs → q < wr.heap.size → q ∉ blkR Lj.rows → q < gb → Blk w9 q ty cs ∧ q ∉ blkR (LN.rows { Lj with sites := Lj.sites.set j s' }) := fun q ty cs hb hq hn hqg => by
             refine ⟨(m4.block q hb.lt (fun hm => ?_)).trans hb, fun hm => ?_⟩
             ·rcases List.mem_cons.1 hm with h1 | h1
              ·omega
              ·exact hn h1
             ·rcases m2 q hm with h1 | h1
              ·exact hn h1
              ·omega
            have z1 := stay g _ _ ((HB5.out.1.keep HG6.out).keep HG6b.out.1) HB5.out.1.lt HB5.out.2 (by have := HGBf.out.2.2; omega)
            have z2 := stay (g + 1) _ _ ((HGOj.out.b2.keep HG6.out).keep HG6b.out.1) HGOj.out.b2.lt HGOj.out.far HGBf.out.2.2
            have HGO9 : Hid (Out5 S w (g + 1) { Lj with sites := Lj.sites.set j s' } w9) := Lib.hid ⟨m1, z2.2, HGOj.out.low, z2.1⟩
            have HB9 : Hid (Blk w9 g 33 #[Lj.sv, Lj.tv, Lj.lv] ∧ g ∉ blkR (LN.rows { Lj with sites := Lj.sites.set j s' })) := Lib.hid ⟨by rw [HSH5.out.sv, HSH5.out.tv, HSH5.out.lv]; exact z1.1, z1.2⟩
            have HLN9 : Hid ((Lj.sites.set j s').length = n ∧ Lj.txs.length = m3 + 1) := Lib.hid ⟨by rw [List.length_set]; exact HLNj.out.1, HLNj.out.2⟩
            have HE9 : Hid (LN.era { Lj with sites := Lj.sites.set j s' } = xPre L.era (a : Int) ps (j + 1)) := Lib.hid (by
             rw [era_setSite, (xPre_step (a := (a : Int)) (ps := ps) HSE.out.1).1, ← HERAj.out, ← HSE.out.2, ← hs']
             rfl)
            clear hs' m1 m2 m4 hlw stay z1 z2
            go_roundw
            case rel => exact ⟨j + 1, { Lj with sites := Lj.sites.set j s' }, by omega, by go_num, HGO9, HB9, HLN9, HE9⟩
            case measure => simp [intOf]; omega
           ·obtain rfl : n = j := by omega
            have hxl : XLe Lj.era := by rw [HERAj.out]; exact xPre_le HL.out (by rw [lens_era.2.1, HSH.out.m]; omega) (by rw [HNP.out]; omega) (by rw [lens_era.1, HSH.out.n]; exact Nat.le_refl _)
            have HXL := Lib.hid hxl
            clear hxl
            go_wp2_with fail
            refine (xtellV HGOj.out.ow HXL.out HSH5.out (a : Int) 1 (-1) false m3 (by omega)).mono ?_
            intro e w8 hst
            obtain ⟨L8, rfl, HGO8, HERA8, HFR8⟩ := HGOj.out.step hst
            replace HGO8 := Lib.hid HGO8
            replace HERA8 := Lib.hid HERA8
            replace HFR8 := Lib.hid HFR8
            obtain ⟨As8, At8, Al8, n8, m8, l8, cs8, ct8, cl8, HSH8⟩ := HGO8.out.ow.rd0.shp
            replace HSH8 := Lib.hid HSH8
            rw [HSH8.out.v]
            clear hst
            clear b0 b1 b2
            have f0 := HGO8.out.b2.free 0
            have f1 := HGO8.out.b2.free 1
            have f2 := HGO8.out.b2.free 2
            have d0 := HGO8.out.b2.cell 0
            have d1 := HGO8.out.b2.cell 1
            have d2 := HGO8.out.b2.cell 2
            simp only [List.getElem?_toArray, List.getElem?_cons_succ, List.getElem?_cons_zero] at d0 d1 d2
            go_wp2_with fail
            generalize hW : World.setCell (World.setCell (World.setCell w8 _ _) _ _) _ _ = W
            obtain ⟨kW, -⟩ := put33 HGO8.out.b2 hW
            have u0 := kW.cell 0
            have u1 := kW.cell 1
            have u2 := kW.cell 2
            refine bodyPost_ret (v := .tuple #[.agg #[.slice As8 n8 cs8, .slice At8 m8 ct8, .slice Al8 l8 cl8], .int .i64 ((m3 : Int) + 1), .int .i64 0]) ?_ ?_ ?_
            ·simp [results, Tryz.results28, go_sem, u0, u1, u2]
            ·rfl
            ·rw [← HM.out, HX.out.1, HX.out.2, HSH.out.m]
             exact HGO8.out.doneB HS0.out (by rw [HERA8.out, HERAj.out, xPre_all (i := n) (by rw [lens_era.1, HSH.out.n]; exact Nat.le_refl _), lens_era.2.1, HSH.out.m]) HSH8.out hW
        ·have hsb : (sm == 0) = false := by simpa using hsm
         have hsb2 : (sm != 0) = true := by simpa using hsm
         have HX : Hid (xBeginO L.era (a : Int) ps = L.era ∧ xErrB L.era (a : Int) ps = 2) := Lib.hid (by
          have e0 : xErrD L.era (a : Int) = 0 := by rw [HE.out.1, HDN.out]; rfl
          have e : xErrB L.era (a : Int) ps = 2 := by
           unfold xErrB
           rw [e0, if_neg (by decide), lens_era.1, HSH.out.n, if_neg (fun ho => hsm (HOI.out.1 ho))]
          exact ⟨by unfold xBeginO; rw [e]; rfl, e⟩)
         have f0 := HK2r.out.free 0
         have f1 := HK2r.out.free 1
         have f2 := HK2r.out.free 2
         have d0 := HK2r.out.cell 0
         have d1 := HK2r.out.cell 1
         have d2 := HK2r.out.cell 2
         simp only [List.getElem?_toArray, List.getElem?_cons_succ, List.getElem?_cons_zero] at d0 d1 d2
         go_wp2_with fail
         generalize hW : World.setCell (World.setCell (World.setCell wr _ _) _ _) _ _ = W
         obtain ⟨kW, cW⟩ := put33 (HK2r.out) hW
         have u0 := kW.cell 0
         have u1 := kW.cell 1
         have u2 := kW.cell 2
         refine bodyPost_ret (v := .tuple #[.agg #[.slice (some ⟨b, off, none⟩) n cs, .slice At m ct, .slice Al l cl], .int .i64 0, .int .i64 2]) ?_ ?_ ?_
         ·simp [results, Tryz.results28, go_sem, u0, u1, u2]
         ·rfl
         ·rw [← HM.out, HX.out.1, HX.out.2]
          exact BegX.err (by decide) HA.out (cW.up (HG2.out.trans HGR.out) (fun t ht => by have := HS.out; simp at ht; omega)) rfl HSH.out
 ·have HSITE : Hid (∀ W, Calls Tryz.prog 58 #[.agg #[.slice As n cs, .slice At m ct, .slice Al l cl], .int .i64 i] W fun e w' => e = .returned (.bool false) ∧ Gr W w') := Lib.hid (fun W => by
   have := xsite_any As n cs (.slice At m ct) (.slice Al l cl) i W
   rw [decide_eq_false hi] at this
   exact this)
  have HOUT := Lib.hid (xErr_out HSH.out hi)
  clear hi f0 f1 f2 d0 d1 d2
  go_wp2_with fail
  refine (HSITE.out _).mono ?_
  rintro e w2 ⟨rfl, hg2⟩
  have HG2 := Lib.hid (HG.out.trans hg2)
  have HK12 := Lib.hid (HK1.out.keep hg2)
  have HK22 := Lib.hid (HK2.out.keep hg2)
  clear b0 b1 b2 hg2
  have b0 := HK12.out.cell 0
  have b1 := HK12.out.cell 1
  have b2 := HK12.out.cell 2
  simp only [List.getElem?_toArray, List.getElem?_cons_succ, List.getElem?_cons_zero] at b0 b1 b2
  have HX : Hid (xBeginO L.era i ps = L.era ∧ xErrB L.era i ps = 3) := Lib.hid (by
   have e : xErrB L.era i ps = 3 := by
    have e0 : xErrD L.era i = 3 := by first | exact HOUT.out.1 | (rw [HE.out.1, HDN.out]; rfl)
    unfold xErrB
    rw [e0, if_pos (by decide)]
   exact ⟨by unfold xBeginO; rw [e]; rfl, e⟩)
  have f0 := HK22.out.free 0
  have f1 := HK22.out.free 1
  have f2 := HK22.out.free 2
  have d0 := HK22.out.cell 0
  have d1 := HK22.out.cell 1
  have d2 := HK22.out.cell 2
  simp only [List.getElem?_toArray, List.getElem?_cons_succ, List.getElem?_cons_zero] at d0 d1 d2
  go_wp2_with fail
  generalize hW : World.setCell (World.setCell (World.setCell w2 _ _) _ _) _ _ = W
  obtain ⟨kW, cW⟩ := put33 (HK22.out) hW
  have u0 := kW.cell 0
  have u1 := kW.cell 1
  have u2 := kW.cell 2
  refine bodyPost_ret (v := .tuple #[.agg #[.slice As n cs, .slice At m ct, .slice Al l cl], .int .i64 0, .int .i64 3]) ?_ ?_ ?_
  ·simp [results, Tryz.results28, go_sem, u0, u1, u2]
  ·rfl
  ·rw [← HM.out, HX.out.1, HX.out.2]
   exact BegX.err (by decide) HA.out (cW.up (HG2.out) (fun t ht => by have := HS.out; simp at ht; omega)) rfl HSH.out

end Go.Proofs.YtnoeiocbmhkmeaaGreat
