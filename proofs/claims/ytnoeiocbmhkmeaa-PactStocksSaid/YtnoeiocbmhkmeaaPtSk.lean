/- Layer 5: the law Stocks. -/
import Derived.Test.YtnoeiocbmhkmeaaPtAl
namespace Go.Proofs.Ytnoeiocbmhkmeaa
open Go.RowKit
set_option linter.unusedSimpArgs false

theorem paA_at {all : List (List Mv)} {t : Nat} {ps : List Mv} (hj : all[t]? = some ps) : paA all ((t : Int) + 1) = ps := by
  unfold paA
  rw [show ((t : Int) + 1).toNat - 1 = t by omega, List.getD_eq_getElem?_getD, hj]
  rfl
theorem Cm.owR {N : Nx} {own : List Int} {all : List (List Mv)} (h : Cm N own all (fun _ => True)) (hv : ∀ x ∈ own, 0 ≤ x ∧ x ≤ 1099511627776) (h60 : all.length ≤ 60) {t : Nat} {ps : List Mv} (hj : all[t]? = some ps) (j k : Nat) :
    -659706976665600 ≤ (addK (fun i => (atN N ((t : Int) + 1) i).kp) (owT N (paA all) own t) (ps.take j)).getD k 0 ∧ (addK (fun i => (atN N ((t : Int) + 1) i).kp) (owT N (paA all) own t) (ps.take j)).getD k 0 ≤ 659706976665600 := by
  have hl := (List.getElem?_eq_some_iff.1 hj).1
  have hb := h.len
  have h8 := h.ok.hi
  have hP : ∀ r : Nat, r < all.length → (paA all ((r : Int) + 1)).length ≤ 8 ∧ ∀ p ∈ paA all ((r : Int) + 1), -1099511627776 ≤ p.2 ∧ p.2 ≤ 1099511627776 := fun r hr => by
    have h1 := h.part (t := (r : Int) + 1) (by omega) (by omega)
    have h2 := h1.few
    exact ⟨by omega, fun p hp => by have := h1.part p hp; omega⟩
  have h1 := owT_rng N (paA all) own (fun k => by
    rw [List.getD_eq_getElem?_getD]
    cases hk : own[k]? with
    | none => simp
    | some x => exact hv x (List.mem_of_getElem? hk)) t (fun r hr => hP r (by omega))
  have h2 := hP t hl
  rw [paA_at hj] at h2
  have h3 := addK_rng (fun i => (atN N ((t : Int) + 1) i).kp) 1099511627776 (ps.take j) (owT N (paA all) own t) ((8 * (t : Int) + 1) * 1099511627776) (by omega) (fun p hp => h2.2 p (List.mem_of_mem_take hp)) h1 (by omega) k
  have h4 : (ps.take j).length ≤ 8 := by have := h2.1; rw [List.length_take]; omega
  omega
theorem Cm.owE {N : Nx} {own : List Int} {all : List (List Mv)} (h : Cm N own all (fun _ => True)) {k : Nat} {s : Sx} (hk : N.sites[k]? = some s) : s.stock = (owT N (paA all) own all.length).getD k 0 := by
  have hb := h.len
  have hkl := (List.getElem?_eq_some_iff.1 hk).1
  rw [h.stk.2 k s hk, owT_at N (paA all) own k (by rw [h.stk.1]; exact hkl) all.length (fun r hr p hp => ((h.part (t := (r : Int) + 1) (by omega) (by omega)).part p hp).1), show N.begun.toNat = all.length by omega]
theorem Cm.partR {N : Nx} {own : List Int} {all : List (List Mv)} (h : Cm N own all (fun _ => True)) {t : Nat} {ps : List Mv} (hj : all[t]? = some ps) : OkP N.sites.length ps := by
  have hl := (List.getElem?_eq_some_iff.1 hj).1
  have hb := h.len
  have hP := h.part (t := (t : Int) + 1) (by omega) (by omega)
  rw [paA_at hj] at hP
  exact hP

set_option maxRecDepth 100000 in
set_option maxHeartbeats 80000000 in
theorem lawStocks_any (A : Option Addr) (n c : Nat) (l : List Int) (AA : Option Addr) (an ac : Nat) (acts : List Ac) (OA : Option Addr) (on oc : Nat) (ol : List Int) (w : World) (hn : l.length = n) (hl : n ≤ 9223372036854775807) (hp : Ints w A l) (han : acts.length = an) (_hac : an ≤ ac) (_ham : ac ≤ 9223372036854775807) (har : Rd 4 encA w AA acts) (hok : ∀ a ∈ acts, AcOk w a) (hon : ol.length = on) (hol : on ≤ 9223372036854775807) (hop : Ints w OA ol) :
    Calls Try.prog 7 #[.slice A n c, .slice AA an ac, .slice OA on oc] w fun e w' => e = .returned (.bool true) ∧ Gr w w' := by
  have HTA := Lib.hid (tame5_any A n c l w hn hl hp)
  have HAW := Lib.hid (fun W => awake5_any W)
  have HAN := Lib.hid han
  have HAR := Lib.hid har
  have HOK := Lib.hid hok
  have HON := Lib.hid (And.intro hon (And.intro hol hop))
  obtain ⟨i0, hi, hz0, hz1, hz2⟩ := info_parts Try.infoPtP
  have HI := Lib.hid (And.intro hi (And.intro hz0 (And.intro hz1 hz2)))
  clear hn hl hp han har hok hi hz0 hz1 hz2 hon hol hop
  go_enter Try.func7, Try.ntmps7
  go_wp2_with fail
  refine HTA.out.mono ?_
  rintro e w1 ⟨tl, k, A1, c1, rfl, hlen, hk1, hk5, hval, hrow, hg1⟩
  obtain ⟨g, cap, e1, hgl, hgs⟩ : ∃ g cap, Value.slice A1 k c1 = .slice (some ⟨g, 0, none⟩) k cap ∧ w.heap.size ≤ g ∧ g < w1.heap.size := by
    rcases hrow.2 with ⟨-, h2⟩ | ⟨g, cap, cur, h1, h2, h3, -⟩
    · omega
    · exact ⟨g, cap, h1, h2, (Array.getElem?_eq_some_iff.1 h3).1⟩
  rw [e1] at hrow ⊢
  have hst : okStocks tl = true := (okStocks_iff tl).2 ⟨by omega, by omega, hval⟩
  have HLT := Lib.hid hlen
  have hrd : Ints w1 (some ⟨g, 0, none⟩) tl := Rd_of_owns enc1p_len hlen hrow
  have HRW := Lib.hid hrow
  have HGG := Lib.hid (And.intro hgl hgs)
  have HST := Lib.hid hst
  have HRD := Lib.hid hrd
  have HVAL := Lib.hid hval
  clear hlen hval hrow e1 hgl hgs hst hrd
  go_wp2_with fail
  refine (New_any (some ⟨g, 0, none⟩) k cap tl w1 HLT.out (by omega) HRD.out).mono ?_
  rintro e w2 (⟨hno, -⟩ | ⟨-, N, rfl, hnet, hnl, hml, hbg, hg2⟩)
  · rw [HST.out] at hno; cases hno
  have hnz := newN_of hnl hml hbg
  obtain ⟨B, hB⟩ : ∃ B, w1.heap.size = B := ⟨_, rfl⟩
  obtain ⟨p, hpp⟩ : ∃ p, N.p = p := ⟨_, rfl⟩
  have HS0 : Hid (AllSt w B g cap p k tl (.slice none 0 0) [] [] N w2) := Lib.hid ⟨⟨by rw [← hB]; exact hnet, hpp, owns_gr HRW.out hg2, HLT.out, hg1.trans hg2, by rw [← hB]; exact ⟨HGG.out.2, HGG.out.1⟩⟩, World.ownsRow_nil _ _ _ _, fun x hx => by simp [Value.ownBlock] at hx, fun j ps u h1 h2 => by simp at h1⟩
  have HC0 : Hid (Cm (nzN N) tl [] (fun _ => False)) := Lib.hid (by rw [hnz]; exact cm_new HST.out)
  have hlen2 : N.sites.length = k := by rw [← nz_len, hnz, newN_len, HLT.out]
  have HSI := Lib.hid (Sites_any hnet)
  rw [hlen2] at HSI
  rw [hpp] at HSI ⊢
  have hkk : ((k : Int) != (k : Int)) = false := by simp
  have HWB : Hid (w.heap.size ≤ B) := Lib.hid (by rw [← hB]; exact hg1.size)
  clear hnet hnl hml hbg hg2 hnz hg1 hlen2 HRD HRW hB hpp
  go_wp2_with fail
  refine HSI.out.mono ?_
  rintro e w3 ⟨rfl, rfl⟩
  go_wp2_with fail
  go_loopw [10, 11, 12] (fun y vz z wr => ∃ (i T : Nat) (N : Nx) (v : Value) (vs : List Value) (all : List (List Mv)), i ≤ an ∧ i ≤ 60 ∧ T ≤ i ∧ z = .int .i64 (i : Int) ∧ y = .int .i64 (T : Int) ∧ v = vz ∧ Hid (all.length = T) ∧ Hid (AllSt w B g cap p k tl v vs all N wr) ∧ Hid (Cm (nzN N) tl all (fun _ => False))) (fun _ _ z _ => an - (intOf z).toNat)
  case atStart => exact ⟨0, 0, N, _, [], [], Nat.zero_le _, by omega, by omega, rfl, rfl, rfl, Lib.hid rfl, HS0, HC0⟩
  case round =>
    obtain ⟨i, T, M, v, vs, all, hi, hi60, hTi, rfl, rfl, rfl, hT, hS, hC⟩ := hrel
    clear HS0 HC0 HSI hkk
    by_cases hlt : i < an ∧ i < 60
    · have hlt1 := hlt.1
      have hlt2 := hlt.2
      have hii : (i : Int) < (an : Int) := by omega
      have hi12 : (i : Int) < 60 := by omega
      have hi00 : (0 : Int) ≤ (i : Int) := by omega
      have hxi : acts[i]? = some (acts[i]'(by rw [HAN.out]; exact hlt1)) := List.getElem?_eq_getElem _
      generalize acts[i]'_ = a at hxi
      have hao := HOK.out a (List.mem_of_getElem? hxi)
      have HXC := Lib.hid (fun W (hW : Gr w W) => (HAR.out.keep hW) i a hxi)
      obtain ⟨b, off, rfl, hcell⟩ := HXC.out wr hS.out.pay.gr
      have x0 : wr.cell? ⟨b, off + i * 4, none⟩ = some (.int .i64 a.kd) := hcell 0 _ rfl
      have x1 : wr.cell? ⟨b, off + i * 4 + 1, none⟩ = some (.int .i64 a.st) := hcell 1 _ rfl
      have x2 : wr.cell? ⟨b, off + i * 4 + 2, none⟩ = some (.int .i64 a.nn) := hcell 2 _ rfl
      have x3 : wr.cell? ⟨b, off + i * 4 + 3, none⟩ = some (.slice a.A a.n a.c) := hcell 3 _ rfl
      have hbT : M.begun = (T : Int) := by rw [← hT.out]; exact hC.out.len
      have HAC := Lib.hid (act_any a wr hS.out.pay.net hC.out.good (hao.keep2 hS.out.pay.gr))
      rw [hS.out.pay.p5, hbT] at HAC
      have HPA := Lib.hid (fun W (hW : Gr w W) => parts_any a.A a.n a.c a.bs W hao.parts.len hao.parts.le hao.parts.max hao.parts.nil (hao.parts.rd.keep hW))
      obtain ⟨ps, hps⟩ : ∃ ps, a.bs.take 9 = ps := ⟨_, rfl⟩
      have hm : min a.n 9 = ps.length := by rw [← hps, List.length_take, hao.parts.len]; omega
      rw [hm, hps] at HPA
      rw [hps] at HAC
      have hps9 : ps.length ≤ 9 := by omega
      have hw1 : IntKind.i64.wrap ((T : Int) + 1) = (T : Int) + 1 := IntWalk.i64_in _ (by omega)
      have hT0 : ((T : Int) == (T : Int) + 1) = false := by simp; omega
      have hT1 : ((T : Int) + 1 == (T : Int) + 1) = true := by simp
      have HXD : Hid (∀ W, Gr w W → W.cell? ⟨b, off + i * 4 + 3, none⟩ = some (.slice a.A a.n a.c)) := Lib.hid (fun W hW => by
        obtain ⟨b', off', e', hc'⟩ := HXC.out W hW
        injection e' with e'
        injection e' with e1 e2
        subst e1 e2
        exact hc' 3 _ rfl)
      clear hxi hcell hao hlt hps hm HXC
      go_wp2_with fail
      refine HAC.out.mono ?_
      rintro e w5 ⟨N', rfl, hact, hto⟩
      have HS5 := Lib.hid (hS.out.to hto)
      have hbb : N'.begun = (nzN N').begun := rfl
      have hbb2 : (nzN M).begun = (T : Int) := hbT
      have x5 := HXD.out w5 HS5.out.pay.gr
      rcases hC.out.act hact with ⟨hb, hc⟩ | ⟨hb, hc⟩
      · have hN : N'.begun = (T : Int) := by omega
        have HC5 := Lib.hid hc
        rw [hN]
        clear hact hto hbb hbb2 hb hc hN hbT x0 x1 x2 x3 x5 hS hC HAC HPA
        go_wp2_with fail
        go_roundw
        case rel => exact ⟨i + 1, T, N', _, vs, all, by omega, by omega, by omega, by go_num, rfl, rfl, hT, HS5, HC5⟩
        case measure => simp [intOf]; omega
      · have hN : N'.begun = (T : Int) + 1 := by omega
        have HC5 := Lib.hid hc
        rw [hN]
        clear hact hto hbb hbb2 hb hc hN hbT x0 x1 x2 x3 hS hC HAC
        go_wp2_with fail
        refine (HPA.out _ HS5.out.pay.gr).mono ?_
        rintro e w6 ⟨A4, c4, rfl, hcp⟩
        obtain ⟨hi0, hz0, hz1, hz2⟩ := HI.out
        have HS6 := Lib.hid (HS5.out.keep hcp.gr)
        have HRW := Lib.hid HS6.out.row
        rw [hT.out] at HRW
        have HBS : Hid (B ≤ w6.heap.size) := Lib.hid HS6.out.pay.net.le
        have HAW2 : Hid (∀ X, Ch (v.ownBlock.toList ++ g :: ownB N') w6 X → Pts X A4 ps) := Lib.hid (hcp.away (fun y hy => by
          rcases List.mem_append.1 hy with h4 | h4
          · exact (owns_block HS5.out.row (by simpa using h4)).1
          · rcases List.mem_cons.1 h4 with h5 | h5
            · have h6 := HS5.out.pay.gB.1
              have h7 := HS5.out.pay.net.le
              omega
            · exact (HS5.out.pay.net.own y h5).2))
        have hle4 := hcp.le
        clear hcp x5
        go_wp2_with (at_builtin; refine wpList_append_own_at _ rfl _ _ 61 rfl B 38 i0 _ 1 24 Try.underlying61 hi0 hz0 hz1 hz2 rfl (by decide) _ _ _ rfl (HRW.out.alloc _) ⟨w6.heap.size, 0, none⟩ 1 1 [.slice A4 ps.length c4] rfl rfl ?q1 ?q2 ?q3 ?q4 ?q5 ?_)
        case q1 => intro j u hu; rw [Addr.add_lit]; exact alloc_new rfl (by rw [Nat.zero_add]; simpa using hu)
        case q2 => intro u hu; rw [List.mem_singleton.1 hu]; rfl
        case q3 => unfold maxLen; omega
        case q4 => omega
        case q5 => have := HBS.out; simp; omega
        intro v' w10 hown' hgrow hnv hfr
        have HS7 := Lib.hid (HS6.out.keep ((Gr.refl w6).alloc (.cells #[.slice A4 ps.length c4] 38)))
        have HS8 : Hid (AllSt w B g cap p k tl v' (vs ++ [.slice A4 ps.length c4]) (all ++ [ps]) N' w10) := Lib.hid (HS7.out.grow (ps := ps) (by rw [hT.out]; exact hown') hgrow (hfr.imp id (fun h => ⟨w6.heap.size + 1, by simp, by simp [h]⟩)) ⟨A4, c4, rfl, hle4, stay_gr HAW2.out ((Gr.refl w6).alloc _)⟩)
        have HT8 : Hid ((all ++ [ps]).length = T + 1) := Lib.hid (by rw [List.length_append, hT.out]; rfl)
        clear hown' hgrow hnv hfr hi0 hz0 hz1 hz2 hle4
        go_wp2_with fail
        go_roundw
        case rel => exact ⟨i + 1, T + 1, N', _, _, _, by omega, by omega, by omega, by go_num, by go_num, rfl, HT8, HS8, HC5⟩
        case measure => simp [intOf]; omega
    · have hex : (i < an ∧ ¬ i < 60) ∨ i = an := by omega
      have HCM := Lib.hid (calm_any OA on oc ol tl all wr hS.out.pay.net hC.out (by rw [hT.out]; omega) HON.out.1 HON.out.2.1 (fun X hX => HON.out.2.2.keep (hX.up hS.out.pay.gr (fun x hx => by have := (hS.out.pay.net.own x hx).1; have := HWB.out; omega))))
      rw [hS.out.pay.p5] at HCM
      have hT60 : T ≤ 60 := by omega
      clear hTi hC
      rcases hex with ⟨hi1, hi2⟩ | hi1
      all_goals
        first
        | (have hii : (i : Int) < (an : Int) := by omega
           have hi12 : ¬ (i : Int) < 60 := by omega)
        | (have hii : ¬ (i : Int) < (an : Int) := by omega)
        clear hlt hi1
        go_wp2_with fail
        refine HCM.out.mono ?_
        rintro e w5 ⟨N', b1, b2, rfl, hto, hcase⟩
        have HS5 := Lib.hid (hS.out.to hto)
        clear hto hS HCM
        obtain ⟨Av, cv, rfl, hcv⟩ := HS5.out.shape
        rw [hT.out] at hcv HS5 ⊢
        rcases hcase with rfl | ⟨rfl, rfl, hm0, hcm⟩
        · have HGR := Lib.hid HS5.out.pay.gr
          go_wp2_with fail
          refine (HAW.out _).mono ?_
          rintro e w9 ⟨rfl, hg9⟩
          have HF := Lib.hid (HGR.out.trans hg9)
          clear hg9
          go_wp2_with fail
          go_ret
          exact ⟨rfl, HF.out⟩
        · have HM0 : Hid ((nzN N').mail = []) := Lib.hid hm0
          have HCM := Lib.hid hcm
          have hTT : ((T : Int) != (T : Int)) = false := by simp
          clear hm0 hcm
          go_wp2_with fail
          go_loopw [16] (fun z wr => ∃ t : Nat, t ≤ T ∧ z = .int .i64 ((t + 1 : Nat) : Int) ∧ Hid (AllSt w B g cap p k (owT (nzN N') (paA all) tl t) (.slice Av T cv) vs all N' wr)) (fun z _ => T + 1 - (intOf z).toNat)
          case atStart => exact ⟨0, Nat.zero_le _, rfl, HS5⟩
          case round =>
            obtain ⟨t, htT, rfl, hS⟩ := hrel
            clear HS5
            by_cases htl : t < T
            · obtain ⟨X, hX⟩ : ∃ X : Int, ((t + 1 : Nat) : Int) = X := ⟨_, rfl⟩
              rw [hX]
              have hX1 : X ≤ (T : Int) := by omega
              have HX : Hid (X = (t : Int) + 1) := Lib.hid (by omega)
              have hX64 : I64 X := by unfold I64; omega
              have HXI := Lib.hid hX64
              have hXw : IntKind.i64.wrap (X - 1) = (t : Int) := by rw [HX.out, show (t : Int) + 1 - 1 = (t : Int) by omega]; exact IntWalk.i64_in _ (by omega)
              have hXs : X - 1 = (t : Int) := by have := HX.out; omega
              have ht0 : (0 : Int) ≤ (t : Int) := by omega
              have htT2 : (t : Int) < (T : Int) := by omega
              have hal : all[t]? = some (all[t]'(by rw [hT.out]; exact htl)) := List.getElem?_eq_getElem _
              generalize all[t]'_ = ps at hal
              have HAL := Lib.hid hal
              obtain ⟨gv, cv', A5, c5, e, -⟩ := hS.out.get hal
              injection e with e1 e2 e3
              clear e2
              subst e1
              have HPP : Hid (OkP k ps) := Lib.hid (by
                have h1 := HCM.out.partR hal
                have h2 := HCM.out.stk.1
                rw [HLT.out] at h2
                rw [h2]; exact h1)
              have HLK : Hid (N'.sites.length = k) := Lib.hid (HCM.out.len5 HLT.out)
              obtain ⟨cf, hcf0⟩ : ∃ cf : Int → Bool, (fun i => (atN (nzN N') ((t : Int) + 1) i).kp) = cf := ⟨_, rfl⟩
              have HBB : Hid (∀ i : Int, 0 ≤ i → i < (k : Int) → (outN N' i X == 2) = cf i) := Lib.hid (fun i h0 h1 => by
                rw [out_at ⟨h0, by rw [HLK.out]; exact h1⟩, HX.out, ← hcf0]
                exact HCM.out.out2 HM0.out _ _)
              have HRG : Hid (∀ j i, -659706976665600 ≤ (addK (fun i => (atN (nzN N') ((t : Int) + 1) i).kp) (owT (nzN N') (paA all) tl t) (ps.take j)).getD i 0 ∧ (addK (fun i => (atN (nzN N') ((t : Int) + 1) i).kp) (owT (nzN N') (paA all) tl t) (ps.take j)).getD i 0 ≤ 659706976665600) := Lib.hid (fun j i => HCM.out.owR HVAL.out (by rw [hT.out]; exact hT60) hal j i)
              have HNX : Hid (addK (fun i => (atN (nzN N') ((t : Int) + 1) i).kp) (owT (nzN N') (paA all) tl t) ps = owT (nzN N') (paA all) tl (t + 1)) := Lib.hid (by
                show _ = addK (fun i => (atN (nzN N') ((t : Int) + 1) i).kp) (owT (nzN N') (paA all) tl t) (paA all ((t : Int) + 1))
                rw [paA_at hal])
              have HS1 : Hid (AllSt w B g cap p k (addK (fun i => (atN (nzN N') ((t : Int) + 1) i).kp) (owT (nzN N') (paA all) tl t) (ps.take 0)) (.slice (some ⟨gv, 0, none⟩) T cv) vs all N' wr) := Lib.hid hS.out
              obtain ⟨m, hm⟩ : ∃ m, ps.length = m := ⟨_, rfl⟩
              have HML := Lib.hid hm
              have hm1 : 1 ≤ m ∧ m ≤ 8 := by
                have h1 := HPP.out.lo
                have h2 := HPP.out.few
                omega
              simp only [hcf0] at HRG HNX HS1
              clear hcf0
              generalize owT (nzN N') (paA all) tl t = ow at HRG HNX HS1
              clear hX hal e3 hm hX64 hS
              go_wp2_with fail
              go_loopw [17] (fun z wr => ∃ j : Nat, j ≤ m ∧ z = .int .i64 (j : Int) ∧ Hid (AllSt w B g cap p k (addK cf ow (ps.take j)) (.slice (some ⟨gv, 0, none⟩) T cv) vs all N' wr)) (fun z _ => m - (intOf z).toNat)
              case atStart => exact ⟨0, Nat.zero_le _, rfl, HS1⟩
              case round =>
                obtain ⟨j, hj, rfl, hS'⟩ := hrel
                clear HS1
                obtain ⟨A5, c5, hcl, hlc, hpt, hTc⟩ := hS'.out.get2 hT.out HAL.out
                rw [HML.out] at hcl hlc
                by_cases hjm : j < m
                · have hji : (j : Int) < (m : Int) := by omega
                  have hj00 : (0 : Int) ≤ (j : Int) := by omega
                  have hpj : ps[j]? = some (ps.getD j (0, 0)) := getD_of (0, 0) (by rw [HML.out]; exact hjm)
                  obtain ⟨b4, o4, rfl, y0, y1⟩ := Pts_at hpt (k := j) (by rw [HML.out]; exact hjm)
                  generalize ps.getD j (0, 0) = pj at hpj y0 y1
                  obtain ⟨ps0, px⟩ := pj
                  have hpart := HPP.out.part _ (List.mem_of_getElem? hpj)
                  dsimp only at hpart y0 y1
                  obtain ⟨sj, rfl⟩ : ∃ sj : Nat, ps0 = (sj : Int) := ⟨ps0.toNat, by omega⟩
                  have hsk : sj < k := by omega
                  have hsi : (sj : Int) < (k : Int) := by omega
                  have hs0 : (0 : Int) ≤ (sj : Int) := by omega
                  have hs1 : ¬ ((sj : Int) < 0) := by omega
                  have hs2 : ¬ ((k : Int) ≤ (sj : Int)) := by omega
                  have hob := HBB.out (sj : Int) hs0 hsi
                  have HOU : Hid (∀ X', Gr wr X' → Calls Try.prog 20 #[.pointer (some ⟨p, 0, none⟩), .int .i64 (sj : Int), .int .i64 X] X' fun e w' => e = .returned (.int .i64 (outN N' (sj : Int) X)) ∧ Gr X' w') := Lib.hid (fun X' hX' => by
                    have h1 := Outcome_any (hS'.out.pay.net.keep hX') (sj : Int) X HXI.out
                    rw [hS'.out.pay.p5] at h1
                    exact h1)
                  generalize outN N' (sj : Int) X = o at hob HOU
                  have HSN : Hid (addK cf ow (ps.take (j + 1)) = if cf (sj : Int) then (addK cf ow (ps.take j)).set sj ((addK cf ow (ps.take j)).getD sj 0 + px) else addK cf ow (ps.take j)) := Lib.hid (by
                    rw [List.take_add_one, hpj, Option.toList_some, addK_snoc]
                    rfl)
                  have hrg := HRG.out j sj
                  have hcap := hS'.out.pay.capLe
                  have hgA : Gr wr (wr.alloc (.cells #[.int .i64 (sj : Int), .int .i64 px] 66)) := (Gr.refl _).alloc _
                  have HGA := Lib.hid hgA
                  have HSA := Lib.hid (hS'.out.keep hgA)
                  have HZL : Hid (g < wr.heap.size) := Lib.hid (by have h1 := hS'.out.pay.gB.1; have h2 := hS'.out.pay.net.le; omega)
                  clear hpj hpt hgA
                  go_upto_region 26 with fail
                  generalize hWA : World.alloc wr _ = wA at HGA HSA ⊢
                  obtain ⟨Z, hZ⟩ : ∃ Z, wr.heap.size = Z := ⟨_, rfl⟩
                  have z0 : wA.cell? ⟨Z, 0, none⟩ = some (.int .i64 (sj : Int)) := by rw [← hWA, ← hZ]; exact alloc_new rfl rfl
                  have z1 : wA.cell? ⟨Z, 1, none⟩ = some (.int .i64 px) := by rw [← hWA, ← hZ]; exact alloc_new rfl rfl
                  have HZG : Hid (g ≠ Z) := Lib.hid (by have := HZL.out; omega)
                  rw [hZ]
                  clear hWA hZ hcl y0 y1
                  go_wp2_with fail
                  refine (HOU.out _ HGA.out).mono ?_
                  rintro e w9 ⟨rfl, hg9⟩
                  have HS9 := Lib.hid (HSA.out.keep hg9)
                  replace z0 := hg9.keep z0
                  replace z1 := hg9.keep z1
                  clear hg9 HSA HOU HGA
                  cases hcf : cf (sj : Int) with
                  | false =>
                    rw [hcf] at hob HSN
                    have HS10 : Hid (AllSt w B g cap p k (addK cf ow (ps.take (j + 1))) (.slice (some ⟨gv, 0, none⟩) T cv) vs all N' w9) := Lib.hid (by rw [HSN.out]; exact HS9.out)
                    clear hcf hpart hsi hs0 hs1 hs2 z0 z1
                    go_wp2_with fail
                    go_roundw
                    case rel => exact ⟨j + 1, by omega, by go_num, HS10⟩
                    case measure => simp [intOf]; omega
                  | true =>
                    rw [hcf] at hob HSN
                    have hSS := HS9.out
                    obtain ⟨hown, hfr⟩ := hSS.pay.at (j := sj) hsk
                    generalize hov : (addK cf ow (ps.take j)).getD sj 0 = ov at hown hrg HSN
                    obtain ⟨r, hr⟩ : ∃ r, ov + px = r := ⟨_, rfl⟩
                    have hwr : IntKind.i64.wrap (ov + px) = r := by rw [← hr]; exact IntWalk.i64_in _ (by omega)
                    have HS10 : Hid (AllSt w B g cap p k (addK cf ow (ps.take (j + 1))) (.slice (some ⟨gv, 0, none⟩) T cv) vs all N' (w9.drew.setCell ⟨g, sj, none⟩ (.int .i64 r))) := Lib.hid (by
                      have h1 := (hSS.keep (Gr.refl w9).drew).put sj r
                      rw [HSN.out, if_pos rfl, hr]
                      exact h1)
                    have zz0 := (Gr.refl w9).drew.keep z0
                    have zz1 := (Gr.refl w9).drew.keep z1
                    have zo := (Gr.refl w9).drew.keep hown
                    have zf : w9.drew.frozen? ⟨g, sj, none⟩ = false := ((hSS.pay.keep (Gr.refl w9).drew).at (j := sj) hsk).2
                    have hbg := HZG.out.symm
                    clear hcf hpart hov hr hSS hrg
                    go_upto_region 29 with fail
                    refine wp_region_held_drew (S := (fun W' => W'.cell? ⟨Z, 0, none⟩ = some (.int .i64 (sj : Int)) ∧ W'.cell? ⟨Z, 1, none⟩ = some (.int .i64 px))) ?_ ?_ (fun hHeld => ?_)
                    · kernel_rfl
                    · ((try dsimp only); (first | exact ⟨zz0, zz1⟩ | exact hHeld | exact ⟨cell_other zz0 hbg, cell_other zz1 hbg⟩))
                    refine take_in (i := 0) (v := ?_) (d := (some 128)) rfl rfl ?_ ?_ ?_ ?_ ?_ ?_ ?_ ?_
                    rotate_left
                    · kernel_rfl
                    · kernel_rfl
                    · kernel_rfl
                    · (intro _ _ _ hq; exact hq)
                    · rfl
                    · (intro _w hSw; (try dsimp only at hSw); go_simp; try with_reducible rfl)
                    · assumption
                    try simp only [Act.put, List.setIfInBounds_toArray, List.set_cons_zero, List.set_cons_succ]
                    refine take_in (i := 1) (v := ?_) (d := (some 129)) rfl rfl ?_ ?_ ?_ ?_ ?_ ?_ ?_ ?_
                    rotate_left
                    · kernel_rfl
                    · kernel_rfl
                    · kernel_rfl
                    · (intro _ _ _ hq; exact hq)
                    · rfl
                    · (intro _w hSw; (try dsimp only at hSw); go_simp; try with_reducible rfl)
                    · assumption
                    try simp only [Act.put, List.setIfInBounds_toArray, List.set_cons_zero, List.set_cons_succ]
                    refine take_in (i := 2) (v := ?_) (d := (some 130)) rfl rfl ?_ ?_ ?_ ?_ ?_ ?_ ?_ ?_
                    rotate_left
                    · kernel_rfl
                    · kernel_rfl
                    · kernel_rfl
                    · (intro _ _ _ hq; exact hq)
                    · rfl
                    · (intro _w hSw; (try dsimp only at hSw); go_simp; try with_reducible rfl)
                    · assumption
                    try simp only [Act.put, List.setIfInBounds_toArray, List.set_cons_zero, List.set_cons_succ]
                    refine take_in (i := 3) (v := ?_) (d := (some 131)) rfl rfl ?_ ?_ ?_ ?_ ?_ ?_ ?_ ?_
                    rotate_left
                    · kernel_rfl
                    · kernel_rfl
                    · kernel_rfl
                    · (intro _ _ _ hq; exact hq)
                    · rfl
                    · (intro _w hSw; (try dsimp only at hSw); go_simp; try with_reducible rfl)
                    · assumption
                    try simp only [Act.put, List.setIfInBounds_toArray, List.set_cons_zero, List.set_cons_succ]
                    refine take_in (i := 4) (v := ?_) (d := (some 132)) rfl rfl ?_ ?_ ?_ ?_ ?_ ?_ ?_ ?_
                    rotate_left
                    · kernel_rfl
                    · kernel_rfl
                    · kernel_rfl
                    · (intro _ _ _ hq; exact hq)
                    · rfl
                    · (intro _w hSw; (try dsimp only at hSw); go_simp; try with_reducible rfl)
                    · assumption
                    try simp only [Act.put, List.setIfInBounds_toArray, List.set_cons_zero, List.set_cons_succ]
                    refine take_in (i := 5) (v := ?_) (d := (some 133)) rfl rfl ?_ ?_ ?_ ?_ ?_ ?_ ?_ ?_
                    rotate_left
                    · kernel_rfl
                    · kernel_rfl
                    · kernel_rfl
                    · (intro _ _ _ hq; exact hq)
                    · rfl
                    · (intro _w hSw; (try dsimp only at hSw); go_simp; try with_reducible rfl)
                    · assumption
                    try simp only [Act.put, List.setIfInBounds_toArray, List.set_cons_zero, List.set_cons_succ]
                    refine take_in (i := 6) (v := ?_) (d := (some 134)) rfl rfl ?_ ?_ ?_ ?_ ?_ ?_ ?_ ?_
                    rotate_left
                    · kernel_rfl
                    · kernel_rfl
                    · kernel_rfl
                    · (intro _ _ _ hq; exact hq)
                    · rfl
                    · (intro _w hSw; (try dsimp only at hSw); go_simp; try with_reducible rfl)
                    · assumption
                    try simp only [Act.put, List.setIfInBounds_toArray, List.set_cons_zero, List.set_cons_succ]
                    refine take_in (i := 8) (v := ?_) (d := (some 136)) rfl rfl ?_ ?_ ?_ ?_ ?_ ?_ ?_ ?_
                    rotate_left
                    · kernel_rfl
                    · kernel_rfl
                    · kernel_rfl
                    · (intro _ _ _ hq; exact hq)
                    · rfl
                    · (intro _w hSw; (try dsimp only at hSw); go_simp; try with_reducible rfl)
                    · assumption
                    try simp only [Act.put, List.setIfInBounds_toArray, List.set_cons_zero, List.set_cons_succ]
                    refine take_in (i := 9) (v := ?_) (d := (some 137)) rfl rfl ?_ ?_ ?_ ?_ ?_ ?_ ?_ ?_
                    rotate_left
                    · kernel_rfl
                    · kernel_rfl
                    · kernel_rfl
                    · (intro _ _ _ hq; exact hq)
                    · rfl
                    · (intro _w hSw; (try dsimp only at hSw); go_simp; try with_reducible rfl)
                    · assumption
                    try simp only [Act.put, List.setIfInBounds_toArray, List.set_cons_zero, List.set_cons_succ]
                    refine wpAnyH_ready (rs := [7]) ?_ ?_ ?_
                    · kernel_rfl
                    · simp
                    refine (AllReadyH.cons rfl (fun K hK => ?_) AllReadyH.nil)
                    go_simp
                    refine hK.out _ _ ?_ (fun hHeld => ?_)
                    · ((try dsimp only); (first | exact ⟨zz0, zz1⟩ | exact hHeld | exact ⟨cell_other zz0 hbg, cell_other zz1 hbg⟩))
                    clear hK K
                    try simp only [Act.put, List.setIfInBounds_toArray, List.set_cons_zero, List.set_cons_succ]
                    refine take_in (i := 10) (v := ?_) (d := (some 138)) rfl rfl ?_ ?_ ?_ ?_ ?_ ?_ ?_ ?_
                    rotate_left
                    · kernel_rfl
                    · kernel_rfl
                    · kernel_rfl
                    · (intro _ _ _ hq; exact hq)
                    · rfl
                    · (intro _w hSw; (try dsimp only at hSw); go_simp; try with_reducible rfl)
                    · assumption
                    try simp only [Act.put, List.setIfInBounds_toArray, List.set_cons_zero, List.set_cons_succ]
                    refine take_in (i := 11) (v := ?_) (d := (some 139)) rfl rfl ?_ ?_ ?_ ?_ ?_ ?_ ?_ ?_
                    rotate_left
                    · kernel_rfl
                    · kernel_rfl
                    · kernel_rfl
                    · (intro _ _ _ hq; exact hq)
                    · rfl
                    · (intro _w hSw; (try dsimp only at hSw); go_simp; try with_reducible rfl)
                    · assumption
                    try simp only [Act.put, List.setIfInBounds_toArray, List.set_cons_zero, List.set_cons_succ]
                    refine wpAnyH_ready (rs := [12]) ?_ ?_ ?_
                    · kernel_rfl
                    · simp
                    refine (AllReadyH.cons rfl (fun K hK => ?_) AllReadyH.nil)
                    go_simp
                    refine hK.out _ _ ?_ (fun hHeld => ?_)
                    · ((try dsimp only); (first | exact ⟨zz0, zz1⟩ | exact hHeld | exact ⟨cell_other zz0 hbg, cell_other zz1 hbg⟩))
                    clear hK K
                    try simp only [Act.put, List.setIfInBounds_toArray, List.set_cons_zero, List.set_cons_succ]
                    refine wpAnyH_done ?_ ?_ _
                    · kernel_rfl
                    rotate_left
                    all_goals
                      clear hHeld zz0 zz1 zo zf z0 z1 hown hfr hwr
                      go_wp2_with fail
                      go_roundw
                      case rel => exact ⟨j + 1, by omega, by go_num, HS10⟩
                      case measure => simp [intOf]; omega
                · obtain rfl : j = m := by omega
                  have htk : ps.take j = ps := List.take_of_length_le (by rw [HML.out]; exact Nat.le_refl _)
                  have HSW : Hid (AllSt w B g cap p k (owT (nzN N') (paA all) tl (t + 1)) (.slice (some ⟨gv, 0, none⟩) T cv) vs all N' wr) := Lib.hid (by
                    have h1 := hS'.out
                    rw [htk, HNX.out] at h1
                    exact h1)
                  have HXQ : Hid (IntKind.i64.wrap (X + 1) = ((t + 1 + 1 : Nat) : Int)) := Lib.hid (by rw [show X + 1 = ((t + 1 + 1 : Nat) : Int) by have := HX.out; omega]; exact IntWalk.i64_in _ (by omega))
                  have HXP : Hid (X + 1 = ((t + 1 + 1 : Nat) : Int)) := Lib.hid (by have := HX.out; omega)
                  clear hS' htk hpt
                  go_wp2_with fail
                  go_roundw
                  case rel => exact ⟨t + 1, by omega, by first | rfl | (rw [HXQ.out]) | (rw [HXP.out]) | go_num, HSW⟩
                  case measure => have := HX.out; simp [intOf]; omega
            · obtain rfl : t = T := by omega
              have hX1 : ¬ (((t + 1 : Nat) : Int) ≤ (t : Int)) := by omega
              have HSTK : Hid (∀ j, j < k → ∀ X, Gr wr X → Calls Try.prog 14 #[.pointer (some ⟨p, 0, none⟩), .int .i64 (j : Int)] X fun e w' => e = .returned (.tuple #[.int .i64 ((owT (nzN N') (paA all) tl t).getD j 0), .int .i64 0]) ∧ w' = X) := Lib.hid (fun j hj X hX => by
                have h1 := Stock_any (hS.out.pay.net.keep hX) (j : Int)
                have hjn : j < (nzN N').sites.length := by rw [nz_len, HCM.out.len5 HLT.out]; exact hj
                have hs : (nzN N').sites[j]? = some ((nzN N').sites[j]'hjn) := List.getElem?_eq_getElem _
                generalize (nzN N').sites[j]'hjn = s at hs
                have h2 := HCM.out.owE hs
                have h3 : refS (nzN N') (j : Int) = 0 := by unfold refS; rw [if_neg (by omega), if_neg (by omega)]
                have h4 : stockN (nzN N') (j : Int) = (owT (nzN N') (paA all) tl t).getD j 0 := by
                  unfold stockN
                  rw [h3, show ((j : Int)).toNat = j from rfl, hs, ← hT.out, ← h2]
                  rfl
                rw [hS.out.pay.p5, ← refS_nz, ← stockN_nz, h3, h4] at h1
                exact h1)
              have hcap := hS.out.pay.capLe
              generalize owT (nzN N') (paA all) tl t = ow at hS HSTK
              go_wp2_with fail
              go_loopw [19] (fun z wr' => ∃ j : Nat, j ≤ k ∧ z = .int .i64 (j : Int) ∧ wr' = wr) (fun z _ => k - (intOf z).toNat)
              case atStart => exact ⟨0, Nat.zero_le _, rfl, rfl⟩
              case round =>
                obtain ⟨j, hj, rfl, rfl⟩ := hrel
                by_cases hjk : j < k
                · have hji : (j : Int) < (k : Int) := by omega
                  have hown := (hS.out.pay.at (j := j) hjk).1
                  have HSJ := Lib.hid (HSTK.out j hjk)
                  generalize ow.getD j 0 = o at hown HSJ
                  have hoo : (o != o) = false := by simp
                  go_wp2_with fail
                  refine (HSJ.out _ (Gr.refl _)).mono ?_
                  rintro e w9 ⟨rfl, rfl⟩
                  go_wp2_with fail
                  go_roundw
                  case rel => exact ⟨j + 1, by omega, by go_num, by first | rfl | trivial⟩
                  case measure => simp [intOf]; omega
                · obtain rfl : j = k := by omega
                  have HGR := Lib.hid hS.out.pay.gr
                  go_wp2_with fail
                  refine (HAW.out _).mono ?_
                  rintro e w9 ⟨rfl, hg9⟩
                  have HF := Lib.hid (HGR.out.trans hg9)
                  clear hg9
                  go_wp2_with fail
                  go_ret
                  exact ⟨rfl, HF.out⟩

end Go.Proofs.Ytnoeiocbmhkmeaa
