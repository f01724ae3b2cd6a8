/- Layer 3: the mended word.
Layer 3: whether all numbers are positions.
Layer 3: Decode.
Layer 3: the law's helper awake; inverses.
Layer 3: at most the first 300 bytes.
The law LabelEncodes as a walk.
Layer 3: valid parameters out of any.
The law LabelApart as a walk. -/
import Derived.Test.YtpnkpejnahhajaaGreatBc10
import Derived.Test.YtpnkpejnahhajaaGreatBc3
import Derived.Test.YtpnkpejnahhajaaGreatBc6
import Derived.Test.YtpnkpejnahhajaaGreatBc2
import Derived.Laws.IdiomStrings
namespace Go.Proofs.YtpnkpejnahhajaaGreat
open Go.RowKit
set_option linter.unusedSimpArgs false

theorem Rd.gbo {α : Type} {k g : Nat} {enc : α → List Value} {w w' : World} {B : Option Addr} {xs : List α} (h : Rd k enc w B xs) (hg : Gb g w w') (hne : ∀ b o, B = some ⟨b, o, none⟩ → b ≠ g) : Rd k enc w' B xs := fun i x hx => by
  obtain ⟨b, off, e, hc⟩ := h i x hx
  exact ⟨b, off, e, fun j v hv => by have h1 := hc j v hv; exact (hg.cell (World.block_lt_of_cell? w _ h1) (hne b off e)).trans h1⟩

set_option maxRecDepth 100000 in
set_option maxHeartbeats 80000000 in
theorem mended_any {D T : Nat} {Aw As : Option Addr} {n wc p sc : Nat} {ws : List G} {L : Nat → Bool} {k : Nat} (w : World) (h : Dmg w D T Aw As n wc p sc ws (synL ws p) L k) (hk : (posL n L).length = k) :
    Calls Tryz.prog 65 #[.pointer (some ⟨D, 0, none⟩)] w fun e w' => ∃ g c, e = .returned (.slice (some ⟨g, 0, none⟩) n c) ∧ n ≤ c ∧ Row w' g 0 (mendL n p k L ws) ∧ Gr w w' := by
  obtain ⟨b0, o0, rfl, -⟩ := Byts_at h.word (i := 0) (by have := h.wl; have := h.n1; omega)
  have HCL := Lib.hid (cloneG_any b0 o0 n wc ws w h.wl (by have := h.n2; omega) h.n1 h.word)
  have c0 := h.c0
  have c1 := h.c1
  have c2 := h.c2
  have c4 := h.c4
  have hn2 := h.n2
  have hn1 := h.n1
  have hp2 := h.p2
  have hk2 := h.k2
  have HD := Lib.hid h
  have HK := Lib.hid hk
  clear h hk
  by_cases hkp : p < k
  · have HM : Hid (mendL n p k L ws = ws) := Lib.hid (by unfold mendL; rw [if_pos hkp])
    have hkp' : (p : Int) < (k : Int) := by omega
    go_enter Tryz.func65, Tryz.ntmps65
    go_wp2_with fail
    refine HCL.out.mono ?_
    rintro e w1 ⟨g, c, rfl, hc, hg1, hR, hgr⟩
    rw [HD.out.wl] at hc ⊢
    have d2 := hgr.keep c2
    have d4 := hgr.keep c4
    have HG := Lib.hid hgr
    have HR := Lib.hid hR
    clear hgr hR HCL
    go_wp2_with fail
    go_quiet (fail)
    go_wp2_with fail
    go_ret
    rw [HM.out]
    exact ⟨_, _, rfl, hc, HR.out.keep ((Gr.refl _).drewN _), HG.out.drewN _⟩
  · have hkp' : ¬ ((p : Int) < (k : Int)) := by omega
    have HSF := Lib.hid (sus_few (p := p) (ss := synL ws p) hn2 HK.out (by omega))
    have HM : Hid (mendL n p k L ws = putS (fixV n (susF n p k L (synL ws p)) (synL ws p)) ws (posL n (susF n p k L (synL ws p)))) := Lib.hid (by unfold mendL; rw [if_neg hkp])
    have HSU := Lib.hid (fun W (hg : Gr w W) => suspects_any W (HD.out.keep hg) HK.out (by omega))
    generalize susF n p k L (synL ws p) = f at HSF HM HSU
    go_enter Tryz.func65, Tryz.ntmps65
    go_wp2_with fail
    refine HCL.out.mono ?_
    rintro e w1 ⟨g, c, rfl, hc, hg1, hR, hgr⟩
    rw [HD.out.wl] at hc ⊢
    have d2 := hgr.keep c2
    have d4 := hgr.keep c4
    have HG := Lib.hid hgr
    have HR := Lib.hid hR
    have hgl := hR.lt (by have := HD.out.wl; omega)
    have hgw : w.heap.size ≤ g := hg1
    clear hgr hR HCL c1 c4
    go_wp2_with fail
    go_quiet (fail)
    go_wp2_with fail
    refine (HSU.out _ (HG.out.drewN _)).mono ?_
    rintro e w2 ⟨B, m, cB, rfl, hm, hI, hnew, hg2⟩
    have hmp : m ≤ p := by rw [← hm]; exact HSF.out
    have HML := Lib.hid hm
    have hg2' : Gr w1 w2 := ((Gr.refl w1).drewN _).trans hg2
    have HGW := Lib.hid (HG.out.trans hg2')
    have HRW := Lib.hid (HR.out.keep hg2')
    have HI := Lib.hid hI
    have HNE : Hid (∀ b o, B = some ⟨b, o, none⟩ → b ≠ g) := Lib.hid (fun b o e => by have := hnew b o e; simp at this; omega)
    have hgl2 : g < w2.heap.size := Nat.lt_of_lt_of_le hgl hg2'.size
    clear hm hI hnew hg2 hg2' HSU d2 d4 HR HG hgl
    obtain ⟨v, hv⟩ : ∃ v, fixV n f (synL ws p) = v := ⟨_, rfl⟩
    rw [hv] at HM
    have HV := Lib.hid hv
    clear hv
    have d0 := HGW.out.keep c0
    have HPL := Lib.hid (fun W (hg : Gr w2 W) => places_any B m cB (posL n f) W (HD.out.keep (HGW.out.trans hg)) HML.out (by omega) posL_lt (HI.out.keep hg))
    have HWR := Lib.hid (fun W (hg : Gr w2 W) (A : Option Addr) (cc : Nat) (hA : Byts W A ((posL n f).map (plc n))) => withRoots_any T A m cc ((posL n f).map (plc n)) W (HD.out.keep (HGW.out.trans hg)).tabs (by rw [List.length_map, HML.out]) (by omega) hA)
    go_wp2_with fail
    go_cut [5] from 5 to 35 (fun v wx => ∃ ga, v = .slice (some ⟨ga, 0, none⟩) (m + 1) (m + 1) ∧ ga ≠ g ∧ Hid (Row wx ga 0 (rootP ((posL n f).map (plc n)))) ∧ Hid (Gr w2 wx))
    case first =>
      go_region_law (first | (go_simp; go_at_call 104; refine (HPL.out _ (by first | exact (Gr.refl _).drew | exact Gr.refl _)).mono ?_; rintro e w3 ⟨B2, c2, rfl, hB2, hg3⟩; have d1 := hg3.keep d0) | (go_simp; go_at_call 94; refine (HWR.out _ ((Gr.refl _).drew.trans hg3) _ _ hB2).mono ?_; rintro e w4 ⟨g4, rfl, hg4', hR4, hg4⟩))
      all_goals
        go_wp2_with fail
        go_meet
        exact ⟨g4, rfl, by have := hg3.size; simp at this; omega, Lib.hid hR4, Lib.hid (((Gr.refl _).drew.trans hg3).trans hg4)⟩
    case rest =>
      obtain ⟨ga, rfl, hga, HRA, hgx⟩ := hcut
      have HGX := Lib.hid (HGW.out.trans hgx.out)
      have HRX := Lib.hid (HRW.out.keep hgx.out)
      have HIX := Lib.hid (HI.out.keep hgx.out)
      clear HPL HWR d0 HRW HI HGW hgl2 hgx
      go_wp2_with fail
      go_loopw [38] (fun z wr => ∃ j : Nat, j ≤ m ∧ z = .int .i64 j ∧ Hid (Row wr g 0 (putS v ws ((posL n f).take j))) ∧ Hid (Gb g wc wr)) (fun z _ => m - (intOf z).toNat)
      case atStart => exact ⟨0, Nat.zero_le _, rfl, HRX, Lib.hid (Gb.refl _ _)⟩
      case round =>
        obtain ⟨j, hj, rfl, hRw, hG⟩ := hrel
        by_cases hlt : j < m
        · have hjl : j < (posL n f).length := by have := HML.out; omega
          obtain ⟨b, off, rfl, e0⟩ := Ints_at (HIX.out.gbo hG.out HNE.out) (i := j) (by rw [nats_len]; exact hjl)
          rw [nats_at hjl] at e0
          have him : (posL n f).getD j 0 ∈ posL n f := by rw [List.getD_eq_getElem?_getD, List.getElem?_eq_getElem hjl]; exact List.getElem_mem hjl
          have HTK : Hid ((posL n f).take (j + 1) = (posL n f).take j ++ [(posL n f).getD j 0]) := Lib.hid (by rw [List.take_add_one, getD_of 0 hjl]; rfl)
          generalize (posL n f).getD j 0 = i at e0 him HTK
          have hin := posL_lt i him
          have HIM := Lib.hid him
          have HST := Lib.hid (putS_snoc v ws ((posL n f).take j) i)
          rw [← HTK.out] at HST
          have hrl : (putS v ws ((posL n f).take j)).length = n := by rw [putS_len]; exact HD.out.wl
          generalize putS v ws ((posL n f).take j) = rs at hRw HST hrl
          obtain ⟨r1, r2⟩ := hRw.out i (by omega)
          rw [Nat.zero_add] at r1 r2
          generalize hx : rs.getD i g0 = x at r1 HST
          have HRL := Lib.hid hrl
          have hgw2 := hG.out.gr HGX.out hgw
          have HGR := Lib.hid hgw2
          have d0 := hgw2.keep c0
          have HPC := Lib.hid (fun W (hg : Gr wr W) => place_any i W (HD.out.keep (hgw2.trans hg)) hin)
          have HWO : Hid (∀ W, Gr wr W → Calls Tryz.prog 105 #[.pointer (some ⟨T, 0, none⟩), .slice (some ⟨ga, 0, none⟩) (m + 1) (m + 1), .int .u8 ((plc n i).v : Int)] W fun e w' => ∃ g c', e = .returned (.slice (some ⟨g, 0, none⟩) m c') ∧ W.heap.size ≤ g ∧ Row w' g 0 (othL n f i) ∧ Gr W w') := Lib.hid (fun W hg => (withoutRoot_any T ga 0 (m + 1) (m + 1) (rootP ((posL n f).map (plc n))) (plc n i) W (HD.out.keep (hgw2.trans hg)).tabs (by rw [rootP_len, List.length_map, HML.out]) (by omega) (Nat.le_refl _) (by omega) ((HRA.out.gb hG.out hga).keep hg).pts).mono (by
            rintro e w' ⟨g, c', he, _, h2, h3, h4⟩
            refine ⟨g, c', he, h2, ?_, h4⟩
            unfold othL
            rw [HML.out]; exact h3))
          clear hx hrl him hgw2
          go_wp2_with fail
          go_cut [8] from 42 to 50 (fun v wx => ∃ go co, v = .slice (some ⟨go, 0, none⟩) m co ∧ Hid (Row wx go 0 (othL n f i)) ∧ Hid (Gr wr wx))
          case first =>
            go_region_law (first | (go_simp; go_at_call 106; refine (HPC.out _ (by first | exact (Gr.refl _).drew | exact Gr.refl _)).mono ?_; rintro e w3 ⟨rfl, hg3⟩; have d1 := hg3.keep d0) | (go_simp; go_at_call 105; refine (HWO.out _ ((Gr.refl _).drew.trans hg3)).mono ?_; rintro e w4 ⟨g4, c4, rfl, hg4', hR4, hg4⟩))
            all_goals
              go_wp2_with fail
              go_meet
              exact ⟨g4, c4, rfl, Lib.hid hR4, Lib.hid (((Gr.refl _).drew.trans hg3).trans hg4)⟩
          case rest =>
            obtain ⟨go, co, rfl, HRO, HGO⟩ := hcut
            obtain ⟨q, hq⟩ : ∃ q : Nat, m - 1 = q := ⟨_, rfl⟩
            have e1 := HGO.out.keep d0
            have e2 := HGO.out.keep (HGR.out.keep c2)
            have HOL : Hid ((othL n f i).length = m) := Lib.hid (by rw [othL_len]; exact HML.out)
            have HFV : Hid (v i = dsum (othL n f i) (sq (synL ws p)) q * ginv (val (othL n f i) (plc n i))) := Lib.hid (by rw [← HV.out]; unfold fixV; rw [HML.out, hq])
            have HZ := Lib.hid (othL_pos hn2 HIM.out)
            have HCB := Lib.hid (fun W (hg : Gr wc W) => combine_any T (some ⟨go, 0, none⟩) As m co p sc (othL n f i) (synL ws p) q W (HD.out.keep ((HGR.out.trans HGO.out).trans hg)).tabs HOL.out HD.out.sl (HRO.out.keep hg).pts (HD.out.keep ((HGR.out.trans HGO.out).trans hg)).syns (by omega) (by omega) (by omega))
            have HVA := Lib.hid (fun W (hg : Gr wc W) => value_any T (some ⟨go, 0, none⟩) m co (othL n f i) (plc n i) W (HD.out.keep ((HGR.out.trans HGO.out).trans hg)).tabs HOL.out (by omega) (HRO.out.keep hg).pts)
            have HPC2 := Lib.hid (fun W (hg : Gr wc W) => place_any i W (HD.out.keep ((HGR.out.trans HGO.out).trans hg)) hin)
            have HQU := Lib.hid (fun (a : G) W (hg : Gr wc W) => quotient_any T a (val (othL n f i) (plc n i)) W (HD.out.keep ((HGR.out.trans HGO.out).trans hg)).tabs HZ.out)
            generalize dsum (othL n f i) (sq (synL ws p)) q = y at HCB HFV
            generalize val (othL n f i) (plc n i) = u at HVA HQU HFV
            have hw1 : IntKind.i64.wrap ((m : Int) - 1) = (q : Int) := by rw [IntWalk.i64_in _ (by omega)]; omega
            have s1 := HGO.out.keep r1
            have s2 := (frozen_gr HGO.out (World.block_lt_of_cell? _ _ r1)).trans r2
            clear hq HZ HPC HWO r1 r2 d0
            go_wp2_with fail
            go_cut [9] from 51 to 63 (fun v wx => v = .int .u8 (y.v : Int) ∧ Hid (Gr wc wx))
            case first =>
              go_region_law (first | (go_simp; go_at_call 107; refine (HCB.out _ (by first | exact (Gr.refl _).drew | exact Gr.refl _)).mono ?_; rintro e w3 ⟨rfl, hg3⟩))
              all_goals
                go_wp2_with fail
                go_meet
                exact ⟨rfl, Lib.hid ((Gr.refl _).drew.trans hg3)⟩
            case rest =>
              obtain ⟨rfl, hgy⟩ := hcut
              have t1 := hgy.out.keep s1
              have t2 := (frozen_gr hgy.out (World.block_lt_of_cell? _ _ s1)).trans s2
              have t0 := hgy.out.keep e1
              have HGY := Lib.hid (HGO.out.trans hgy.out)
              have HGZ := hgy
              have hx := xor8 x (y * ginv u)
              clear s1 s2 e1 e2 HCB hw1
              go_wp2_with fail
              go_region_law (first | (go_simp; go_at_call 106; refine (HPC2.out _ (HGZ.out.trans (by first | exact (Gr.refl _).drew | exact Gr.refl _))).mono ?_; rintro e w3 ⟨rfl, hg3⟩; have t01 := hg3.keep t0; have t11 := hg3.keep t1; have t21 := (frozen_gr hg3 (World.block_lt_of_cell? _ _ t1)).trans t2) | (go_simp; go_at_call 109; refine (HVA.out _ (HGZ.out.trans ((Gr.refl _).drew.trans hg3))).mono ?_; rintro e w4 ⟨rfl, hg4⟩; have t02 := hg4.keep t01; have t12 := hg4.keep t11; have t22 := (frozen_gr hg4 (World.block_lt_of_cell? _ _ t11)).trans t21) | (go_simp; go_at_call 108; refine (HQU.out y _ (HGZ.out.trans (((Gr.refl _).drew.trans hg3).trans hg4))).mono ?_; rintro e w5 ⟨rfl, hg5⟩; have t13 := hg5.keep t12; have t23 := (frozen_gr hg5 (World.block_lt_of_cell? _ _ t12)).trans t22))
              all_goals
                go_wp2_with fail
                go_roundw
                case rel =>
                  have hgd : Gr wr w5 := HGY.out.trans ((((Gr.refl _).drew.trans hg3).trans hg4).trans hg5)
                  refine ⟨j + 1, by omega, by go_num, Lib.hid ?_, Lib.hid ((hG.out.trans (Gb.of hgd g)).put i _)⟩
                  rw [HST.out, HFV.out]
                  have := (hRw.out.keep hgd).put (k := i) (by rw [HRL.out]; exact hin) (x + y * ginv u)
                  rwa [Nat.zero_add] at this
                case measure => simp [intOf] <;> omega
        · have hjm : j = m := by omega
          have hlt' : ¬ ((j : Int) < (m : Int)) := by omega
          have HF : Hid ((posL n f).take j = posL n f) := Lib.hid (List.take_of_length_le (by rw [HML.out]; omega))
          rw [HF.out, ← HM.out] at hRw
          clear hjm
          go_wp2_with fail
          try rw [Exit.noGoto_ret]
          go_ret
          exact ⟨_, _, rfl, hc, hRw.out, hG.out.gr HGX.out hgw⟩
end Go.Proofs.YtpnkpejnahhajaaGreat

namespace Go.Proofs.YtpnkpejnahhajaaGreat
open Go.RowKit
set_option linter.unusedSimpArgs false

def isPos (n : Nat) (x : Int) : Bool := decide (0 ≤ x) && decide (x < (n : Int))
theorem posFn_any (S n : Nat) (x : Int) (w : World) (hs : w.cell? ⟨S, 0, none⟩ = some (.int .i64 (n : Int))) (r : Bool) (hr : (!isPos n x) = r) : Calls Tryz.prog 100 #[.int .i64 x, .pointer (some ⟨S, 0, none⟩)] w fun e w' => e = .returned (.bool r) ∧ w' = w := by
  by_cases h1 : x < 0
  · have hd : decide (x < 0) = true := decide_eq_true h1
    have HR : Hid (r = true) := Lib.hid (by rw [← hr]; unfold isPos; rw [decide_eq_false (by omega)]; rfl)
    clear hr
    go_enter Tryz.func100, Tryz.ntmps100
    go_wp2_with fail
    go_ret
    exact ⟨by rw [HR.out]; rfl, rfl⟩
  · have hd : decide (x < 0) = false := decide_eq_false h1
    have hge : decide ((n : Int) ≤ x) = r := by rw [← hr, Bool.eq_iff_iff]; simp [isPos]; omega
    clear hr
    go_enter Tryz.func100, Tryz.ntmps100
    go_wp2_with fail
    go_ret
    exact ⟨by first | rfl | rw [hge], rfl⟩

set_option maxRecDepth 100000 in
set_option maxHeartbeats 1000000 in
theorem index_pos (S N : Nat) (A : Option Addr) (n c : Nat) (q : List Int) (w : World) (hs : w.cell? ⟨S, 0, none⟩ = some (.int .i64 (N : Int))) (hn : q.length = n) (hl : n ≤ 1048576) (hp : Ints w A q) (r : Bool) (hr : q.all (isPos N) = r) :
    Calls Tryz.prog 130 #[.slice A n c, .func (.func 100) #[] #[.pointer (some ⟨S, 0, none⟩)]] w fun e w' => (∃ z, e = .returned (.int .i64 z) ∧ Hid ((0 ≤ z ↔ r = false) ∧ -1 ≤ z ∧ z ≤ n)) ∧ w' = w := by
  have HN := Lib.hid hn
  have HP := Lib.hid hp
  have HR := Lib.hid hr
  have HS := Lib.hid hs
  clear hn hp hr hs
  go_enter Tryz.func130, Tryz.ntmps130
  go_wp2_with fail
  go_loop [8] (fun z => ∃ k : Nat, k ≤ n ∧ z = .int .i64 k ∧ Hid ((q.take k).all (isPos N) = true)) (fun z => n - (intOf z).toNat)
  case atStart => exact ⟨0, Nat.zero_le _, rfl, Lib.hid rfl⟩
  case round =>
    obtain ⟨k, hk, rfl, hA⟩ := hrel
    by_cases hlt : k < n
    · have hkl : k < q.length := by have := HN.out; omega
      obtain ⟨b, off, rfl, c0⟩ := Ints_at HP.out hkl
      have HT := Lib.hid (all_take_succ (isPos N) q 0 k hkl)
      have HF := Lib.hid (all_false (isPos N) q 0 k hkl)
      generalize q.getD k 0 = x at c0 HT HF
      rcases hx : isPos N x with _ | _
      · have hz := posFn_any S N x w HS.out true (by simp [hx])
        have HQ : Hid (r = false) := Lib.hid (by rw [← HR.out]; exact HF.out (by simp [hx]))
        clear hx HT HF
        go_wp2_with fail
        refine hz.mono ?_
        rintro e w1 ⟨rfl, rfl⟩
        go_wp2_with fail
        try rw [Exit.noGoto_ret]
        go_ret
        exact ⟨⟨_, rfl, Lib.hid ⟨⟨fun _ => HQ.out, fun _ => by omega⟩, by omega, by omega⟩⟩, rfl⟩
      · have hz := posFn_any S N x w HS.out false (by simp [hx])
        have HS' : Hid ((q.take (k + 1)).all (isPos N) = true) := Lib.hid (by rw [HT.out, hA.out]; simp [hx])
        clear hx HT HF
        go_wp2_with fail
        refine hz.mono ?_
        rintro e w1 ⟨rfl, rfl⟩
        go_wp2_with fail
        go_round
        case rel => exact ⟨k + 1, by omega, by go_num, HS'⟩
        case measure => simp [intOf] <;> omega
    · obtain rfl : k = n := by omega
      have HQ : Hid (r = true) := Lib.hid (by rw [← HR.out]; have := hA.out; rwa [List.take_of_length_le (by have := HN.out; omega)] at this)
      go_wp2_with fail
      try rw [Exit.noGoto_ret]
      go_ret
      exact ⟨⟨_, rfl, Lib.hid ⟨⟨fun h => by omega, fun h => by rw [HQ.out] at h; cases h⟩, by omega, by omega⟩⟩, rfl⟩

set_option maxRecDepth 100000 in
theorem arePositions_any (A : Option Addr) (n c N : Nat) (q : List Int) (w : World) (hn : q.length = n) (hl : n ≤ 255) (hp : Ints w A q) (r : Bool) (hr : q.all (isPos N) = r) :
    Calls Tryz.prog 63 #[.slice A n c, .int .i64 (N : Int)] w fun e w' => e = .returned (.bool r) ∧ Gr w w' := by
  obtain ⟨w0, hw0⟩ : ∃ w0, w.alloc (.cells #[.int .i64 (N : Int)] 3) = w0 := ⟨_, rfl⟩
  have hg0 : Gr w w0 := by rw [← hw0]; exact (Gr.refl _).alloc _
  have hs0 : w0.cell? ⟨w.heap.size, 0, none⟩ = some (.int .i64 (N : Int)) := by rw [← hw0]; exact alloc_new rfl rfl
  have HC : Calls Tryz.prog 99 #[.slice A n c, .func (.func 100) #[] #[.pointer (some ⟨w.heap.size, 0, none⟩)]] w0 fun e w' => e = .returned (.bool (!r)) ∧ w' = w0 := by
    have HI := Lib.hid (index_pos w.heap.size N A n c q w0 hs0 hn (by omega) (hp.keep hg0) r hr)
    clear hr hn hp hw0 hg0 hs0
    go_enter Tryz.func99, Tryz.ntmps99
    go_wp2_with fail
    refine HI.out.mono ?_
    rintro e w1 ⟨⟨z, rfl, hz⟩, rfl⟩
    have hd : Hid (decide (0 ≤ z) = !r) := Lib.hid (by
      cases r
      · exact decide_eq_true (hz.out.1.2 rfl)
      · exact decide_eq_false (fun h => by have := hz.out.1.1 h; cases this))
    cases r
    · have h2 : decide (0 ≤ z) = true := hd.out
      go_wp2_with fail
      go_ret
      exact ⟨rfl, rfl⟩
    · have h2 : decide (0 ≤ z) = false := hd.out
      go_wp2_with fail
      go_ret
      exact ⟨rfl, rfl⟩
  have HC' := Lib.hid HC
  have HG0 := Lib.hid hg0
  have hlt : ¬ ((255 : Int) < (n : Int)) := by omega
  clear HC hr hp hn hs0 hg0
  go_enter Tryz.func63, Tryz.ntmps63
  go_wp2_with fail
  refine HC'.out.mono ?_
  rintro e w1 ⟨rfl, rfl⟩
  cases r
  all_goals
    go_wp2_with fail
    go_ret
    exact ⟨rfl, HG0.out⟩
end Go.Proofs.YtpnkpejnahhajaaGreat

namespace Go.Proofs.YtpnkpejnahhajaaGreat
open Go.RowKit
set_option linter.unusedSimpArgs false

theorem isPos_iff {n : Nat} {x : Int} : isPos n x = true ↔ 0 ≤ x ∧ x < (n : Int) := by simp [isPos]
theorem nats_pos {is : List Nat} {n : Nat} (h : ∀ i ∈ is, i < n) : (nats is).all (isPos n) = true := by
  rw [List.all_eq_true]
  intro x hx
  obtain ⟨i, hi, rfl⟩ := List.mem_map.1 hx
  have := h i hi
  exact isPos_iff.2 ⟨by omega, by omega⟩
def decL (s : ByteArray) (p : Nat) (is : List Nat) : List G := mendL s.size p (cnt (lostB is) s.size) (lostB is) (gs s)
def decB (s : ByteArray) (p : Nat) (is : List Nat) : Bool := cmpB s.size p (cnt (lostB is) s.size) (gs s) (decL s p is) (lostB is)
theorem decL_len (s : ByteArray) (p : Nat) (is : List Nat) : (decL s p is).length = s.size := by unfold decL; rw [mendL_len, gs_len]
def decN (s : ByteArray) (p : Nat) (is : List Nat) : Nat := cnt (difB (gs s) (decL s p is)) s.size

set_option maxRecDepth 100000 in
set_option maxHeartbeats 2000000 in
theorem Decode_any (s : ByteArray) (p : Nat) (A : Option Addr) (m mc : Nat) (is : List Nat) (w : World) (hr : okB (s.size : Int) (p : Int) = true) (hm : is.length = m) (hl : m ≤ 255) (hi : ∀ i ∈ is, i < s.size) (hA : Ints w A (nats is)) (b : Bool) (hb : decB s p is = b) :
    Calls Tryz.prog 32 #[.string s, .int .i64 (p : Int), .slice A m mc] w fun e w' => e = .returned (bif b then .tuple #[.string (txt ((decL s p is).take (s.size - p))), .int .i64 (decN s p is : Int), .int .i64 0] else .tuple #[.string ⟨#[]⟩, .int .i64 0, .int .i64 6]) ∧ Gr w w' := by
  have HV := Lib.hid (fun W' => areValid_any (s.size : Int) p W' true hr)
  have hok := (okB_iff _ _).1 hr
  have hs : s.size ≤ 255 := by omega
  have hp : p ≤ 64 := by omega
  have hps : p + 1 ≤ s.size := by omega
  have HP := Lib.hid (arePositions_any A m mc s.size (nats is) w (by rw [nats_len]; exact hm) hl hA true (nats_pos hi))
  have HND := Lib.hid (fun W (hg : Gr w W) => newDamage_any s p A m mc is W hp (by omega) hs hm hl hi (hA.keep hg))
  have HB := Lib.hid hb
  obtain ⟨dn, hdn⟩ : ∃ dn, decN s p is = dn := ⟨_, rfl⟩
  obtain ⟨t, ht⟩ : ∃ t, s.size - p = t := ⟨_, rfl⟩
  rw [hdn, ht]
  have HDN := Lib.hid hdn
  have HTT := Lib.hid ht
  clear hr hok hm hl hi hA hb hdn ht
  go_enter Tryz.func32, Tryz.ntmps32
  go_wp2_with fail
  refine (HV.out _).mono ?_
  rintro e w1 ⟨rfl, rfl⟩
  go_wp2_with fail
  refine HP.out.mono ?_
  rintro e w2 ⟨rfl, hg2⟩
  go_wp2_with fail
  refine (HND.out _ hg2).mono ?_
  rintro e w3 ⟨D, T, Aw, As, wc, sc, rfl, hD, hg3⟩
  have HD := Lib.hid hD
  have HG3 := Lib.hid (hg2.trans hg3)
  clear hD hg2 hg3 HP HND
  go_wp2_with fail
  refine (mended_any w3 HD.out rfl).mono ?_
  rintro e w4 ⟨g, c, rfl, hc, hR, hg4⟩
  have HR : Hid (Row w4 g 0 (decL s p is)) := Lib.hid hR
  have HG4 := Lib.hid (HG3.out.trans hg4)
  have HD4 := Lib.hid (HD.out.keep hg4)
  clear hR hg4 HD HG3
  go_wp2_with fail
  refine (compareL_any (some ⟨g, 0, none⟩) c (decL s p is) w4 HD4.out (decL_len s p is) HR.out.pts).mono ?_
  rintro e w5 ⟨rfl, hg5⟩
  have hdb : cmpB s.size p (cnt (lostB is) s.size) (gs s) (decL s p is) (lostB is) = b := HB.out
  rw [hdb]
  have hdn : cnt (difB (gs s) (decL s p is)) s.size = dn := HDN.out
  rw [hdn]
  have HG5 := Lib.hid (HG4.out.trans hg5)
  have HR5 := Lib.hid (HR.out.keep hg5)
  clear hdb hdn hg5 HR
  cases b
  · go_wp2_with fail
    go_ret3
    exact ⟨rfl, HG5.out⟩
  · have ht := HTT.out
    have hw1 : IntKind.i64.wrap ((s.size : Int) - (p : Int)) = (t : Int) := by rw [IntWalk.i64_in _ (by omega)]; omega
    have hsub : (s.size : Int) - (p : Int) = (t : Int) := by omega
    have htc : t ≤ c := by omega
    have hcv := back_any (some ⟨g, 0, none⟩) t c ((decL s p is).take t) (by rw [List.length_take, decL_len]; omega) w5 (Rd_take HR5.out.pts t)
    clear ht
    go_wp2_with (simp only [hcv])
    go_ret3
    exact ⟨rfl, HG5.out⟩
end Go.Proofs.YtpnkpejnahhajaaGreat

namespace Go.Proofs.YtpnkpejnahhajaaGreat
open Go.RowKit
set_option linter.unusedSimpArgs false

end Go.Proofs.YtpnkpejnahhajaaGreat

namespace Go.Proofs.YtpnkpejnahhajaaGreat
open Go.RowKit
set_option linter.unusedSimpArgs false

def ShortPost (w : World) (e : Ending) (w' : World) : Prop := ∃ t : ByteArray, e = .returned (.string t) ∧ t.size ≤ 300 ∧ w' = w
end Go.Proofs.YtpnkpejnahhajaaGreat

namespace Go.Proofs.YtpnkpejnahhajaaGreat
open Go.RowKit
set_option linter.unusedSimpArgs false

theorem u8_gs (b : UInt8) : u8 ⟨b.toNat, b.toNat_lt⟩ = b := by
  unfold u8; simp
theorem txt_gs (s : ByteArray) : txt (gs s) = s := by
  obtain ⟨a⟩ := s
  unfold txt gs
  congr 1
  apply Array.ext'
  simp only [List.map_map]
  refine (List.map_congr_left (fun x _ => ?_)).trans (List.map_id _)
  exact u8_gs x
theorem txt_app (a b : List G) : txt (a ++ b) = txt a ++ txt b := by
  apply ByteArray.ext
  apply Array.ext'
  simp [txt]
theorem gs_txt (xs : List G) : gs (txt xs) = xs := by
  unfold gs txt
  simp only [List.map_map]
  refine (List.map_congr_left (fun x _ => ?_)).trans (List.map_id _)
  exact G.eq (u8_nat x)
theorem txt_code (s : ByteArray) (p : Nat) : txt (codeL (gs s) p) = encL s p := by
  unfold codeL encL; rw [txt_app, txt_gs]
end Go.Proofs.YtpnkpejnahhajaaGreat

namespace Go.Proofs.YtpnkpejnahhajaaGreat
open Go.RowKit
set_option linter.unusedSimpArgs false

/-- the laws' remainder of any number by a positive one -/
def modL (x n : Int) : Int := wrap64 ((IntKind.u64.wrap x).tmod n)
/-- The remainder as a position. -/
def modP (x : Int) (n : Nat) : Nat := (modL x n).toNat
def FitPost (m : Nat) (w : World) (e : Ending) (w' : World) : Prop := ∃ (t : ByteArray) (q : Nat), e = .returned (.tuple #[.string t, .int .i64 (q : Int)]) ∧ 1 ≤ t.size ∧ t.size ≤ m ∧ t.size + q ≤ 255 ∧ q ≤ 64 ∧ w' = w
end Go.Proofs.YtpnkpejnahhajaaGreat

namespace Go.Proofs.YtpnkpejnahhajaaGreat
open Go.RowKit
set_option linter.unusedSimpArgs false

theorem gs_enc (t : ByteArray) (q : Nat) : gs (encL t q) = codeL (gs t) q := by rw [← txt_code, gs_txt]
theorem encL_size (t : ByteArray) (q : Nat) : (encL t q).size = t.size + q := by rw [← gs_len, gs_enc, codeL_len', gs_len]
theorem okB_of {n q : Nat} (h1 : 1 ≤ n) (h2 : n + q ≤ 255) (h3 : q ≤ 64) : okB ((n : Int) + (q : Int)) (q : Int) = true := (okB_iff _ _).2 (by omega)

end Go.Proofs.YtpnkpejnahhajaaGreat
