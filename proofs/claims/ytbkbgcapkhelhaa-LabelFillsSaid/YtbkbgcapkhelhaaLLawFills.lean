/- The law LabelFills as a walk. -/
import Derived.Test.YtbkbgcapkhelhaaLLawMends
import Derived.Deep.CutRange
namespace Go.Proofs.Ytbkbgcapkhelhaa
open Go.RowKit
set_option linter.unusedSimpArgs false

theorem Try.infoCh : (Try.prog.info? 57).map (fun i => (i.zero, i.size, i.bytes)) = some (some (.agg #[.int .i64 0, .int .u8 0]), 2, 16) := by kernel_rfl
theorem cnt_two {f g : Nat → Bool} : ∀ n, (∀ i, i < n → g i = true → f i = false) → cnt (fun i => f i || g i) n = cnt f n + cnt g n
  | 0, _ => by simp [cnt]
  | n + 1, h => by
    have ih := cnt_two n (fun i hi => h i (by omega))
    have hn := h n (by omega)
    rw [cnt_succ, cnt_succ, cnt_succ, ih]
    cases hf : f n <;> cases hg : g n <;> simp_all <;> omega
theorem fills_math {t : ByteArray} {q most : Nat} {bs1 bs2 : List G} {lost at_ named : List Nat} {l free : List (Int × G)} (h1 : Spoil (gs (encL t q)) bs1 lost q l) (h2 : Spoil bs1 bs2 at_ most free)
    (hf : ∀ c ∈ free, lost.contains (modP c.1 (encL t q).size) = false) (hm : lost.length + 2 * most ≤ q) (hn : t.size + q ≤ 255) (hnm : ∀ i, named.contains i = lost.contains i) :
    decB (txt bs2) q named = true ∧ txt ((decL (txt bs2) q named).take ((txt bs2).size - q)) = t ∧ decN (txt bs2) q named = lost.length + at_.length := by
  have hcs : (gs (encL t q)).length = t.size + q := by rw [gs_len, encL_size]
  have hb1 : bs1.length = t.size + q := by rw [h1.len, hcs]
  have hsz : (txt bs2).size = t.size + q := by rw [txt_size, h2.len, hb1]
  have hdj : ∀ i, i < t.size + q → at_.contains i = true → lost.contains i = false := fun i _ ha => by
    rw [List.contains_eq_mem, decide_eq_true_eq] at ha
    obtain ⟨c, hc, e⟩ := h2.src i ha
    rw [e, hb1, ← encL_size]
    exact hf c hc
  have hd : ∀ i, i < t.size + q → difB bs2 (gs (encL t q)) i = (lost.contains i || at_.contains i) := fun i hi => by
    have e1 := h1.dif i (by rw [hcs]; exact hi)
    have e2 := h2.dif i (by rw [hb1]; exact hi)
    have e3 := hdj i hi
    unfold difB at e1 e2 ⊢
    generalize (gs (encL t q)).getD i g0 = c at e1 ⊢
    generalize bs1.getD i g0 = x at e1 e2
    generalize bs2.getD i g0 = y at e2 ⊢
    cases ha : at_.contains i with
    | true =>
      rw [e3 ha] at e1
      rw [ha] at e2
      have e1' : x = c := by simpa using e1
      have e2' : y ≠ x := by simpa using e2
      rw [Bool.or_true, Bool.not_eq_true', decide_eq_false_iff_not]
      intro e; exact e2' (e ▸ e1'.symm)
    | false =>
      rw [ha] at e2
      have e2' : y = x := by simpa using e2
      rw [Bool.or_false, ← e1, e2']
      congr 1; rw [decide_eq_decide]; exact ⟨Eq.symm, Eq.symm⟩
  have hlc : cnt (fun i => lost.contains i) (t.size + q) = lost.length := cnt_list h1.nodup (fun i hi => by rw [← hcs]; exact h1.ins i hi)
  have hac : cnt (fun i => at_.contains i) (t.size + q) = at_.length := cnt_list h2.nodup (fun i hi => by rw [← hb1]; exact h2.ins i hi)
  have hdif : cnt (difB bs2 (gs (encL t q))) (t.size + q) = lost.length + at_.length := by
    rw [cnt_congr hd, cnt_two _ hdj, hlc, hac]
  have hls : cnt (lostB named) (t.size + q) = lost.length := by
    rw [← hlc]; exact cnt_congr (fun i _ => hnm i)
  have herr : cnt (errB bs2 (gs (encL t q)) (lostB named)) (t.size + q) = at_.length := by
    rw [← hac]
    refine cnt_congr (fun i hi => ?_)
    unfold errB lostB
    rw [hd i hi, hnm]
    have := hdj i hi
    cases ha : at_.contains i <;> cases hl : lost.contains i <;> simp_all
  obtain ⟨d1, d2, d3⟩ := dec_near (s := txt bs2) (p := q) (is := named) (cs := gs (encL t q)) (by omega) (by rw [hcs, hsz]) (by rw [gs_enc]; exact codeL_isB _ _) (by rw [gs_txt, hsz, herr, hls]; have := h2.few; omega)
  refine ⟨d2, ?_, ?_⟩
  · rw [d1, hsz, show t.size + q - q = t.size by omega]; exact dec_take
  · rw [d3, gs_txt, hsz, hdif]
/-- The changes that are not at a lost position. -/
def freeL (lost : List Nat) (n : Nat) (m : List (Int × G)) : List (Int × G) := m.filter fun c => !lost.contains (modP c.1 n)
theorem freeL_snoc (lost : List Nat) (n : Nat) (m : List (Int × G)) (c : Int × G) : freeL lost n (m ++ [c]) = freeL lost n m ++ if lost.contains (modP c.1 n) then [] else [c] := by
  unfold freeL
  rw [List.filter_append]
  congr 1
  generalize hb : lost.contains (modP c.1 n) = b
  cases b
  · rw [List.filter_cons, hb]; rfl
  · rw [List.filter_cons, hb]; rfl

set_option maxRecDepth 100000 in
set_option maxHeartbeats 8000000 in
theorem lawFills_any (s0 : ByteArray) (p : Int) (A : Option Addr) (n c : Nat) (cs : List (Int × G)) (A2 : Option Addr) (n2 c2 : Nat) (cs2 : List (Int × G)) (w : World) (_ : -9223372036854775808 ≤ p ∧ p ≤ 9223372036854775807)
    (hn : cs.length = n) (hl : n ≤ 8796093022208) (_ : n ≤ c) (_ : A = none → c = 0) (hA : Chgs w A cs) (hn2 : cs2.length = n2) (hl2 : n2 ≤ 8796093022208) (_ : n2 ≤ c2) (_ : A2 = none → c2 = 0) (hA2 : Chgs w A2 cs2) :
    Calls Try.prog 9 #[.string s0, .int .i64 p, .slice A n c, .slice A2 n2 c2] w fun e w' => e = .returned (.bool true) ∧ Gr w w' := by
  obtain ⟨i0, hi0, hz0, hz1, hz2⟩ := info_parts Try.infoInt
  obtain ⟨k0, hk0, hk1, hk2, hk3⟩ := info_parts Try.infoCh
  have HF := Lib.hid (fun W => fit_any s0 p 200 (by decide) (by decide) W)
  have HA := Lib.hid hA
  have HN := Lib.hid hn
  have HA2 := Lib.hid hA2
  have HN2 := Lib.hid hn2
  clear hA hn hA2 hn2
  go_enter Try.func9, Try.ntmps9
  go_wp2_with fail
  refine (HF.out _).mono ?_
  rintro e w1 ⟨t, q, rfl, ht1, ht2, ht3, hq, rfl⟩
  clear HF
  have HE := Lib.hid (fun W => Encode_yes t q W (okB_of ht1 ht3 hq))
  have hsz := encL_size t q
  have HM := Lib.hid (fun bs1 bs2 lost at_ named most l free h1 h2 hf hm hnm => fills_math (t := t) (q := q) (most := most) (bs1 := bs1) (bs2 := bs2) (lost := lost) (at_ := at_) (named := named) (l := l) (free := free) h1 h2 hf hm ht3 hnm)
  generalize encL t q = a at HE hsz HM
  have HS := Lib.hid (fun W (hg : Gr w1 W) => spoilt_any a A n c cs q W (by omega) (by omega) (by omega) HN.out (by omega) (HA.out.keep hg))
  have has1 : 1 ≤ a.size := by omega
  have has2 : a.size ≤ 255 := by omega
  go_wp2_with fail
  refine (HE.out _).mono ?_
  rintro e w2 ⟨rfl, hg2⟩
  go_wp2_with fail
  refine (HS.out _ hg2).mono ?_
  rintro e w3 ⟨bs1, lost, B, m, cB, rfl, hm, hLI, hSp1, hnil1, hg3⟩
  have HSP1 := Lib.hid hSp1
  have HML := Lib.hid hm
  have HLI := Lib.hid hLI
  have HNIL := Lib.hid hnil1
  have hmq : m ≤ q := by rw [← hm]; exact hSp1.few
  have HG3 := Lib.hid (hg2.trans hg3)
  have HB1 : Hid (bs1.length = a.size) := Lib.hid (by rw [hSp1.len, gs_len])
  have HSZ := Lib.hid hsz
  clear hm hSp1 hLI hnil1 hg2 hg3 HS hsz
  go_wp2_with fail
  go_loopw [13, 14] (fun v z wr => ∃ j k : Nat, j ≤ n2 ∧ z = .int .i64 j ∧ k ≤ j ∧ Hid ((freeL lost a.size (cs2.take j)).length = k) ∧ Hid (wr.ownsRow w3.heap.size 57 2 v k (flatE encC (freeL lost a.size (cs2.take j)))) ∧ Hid (Gr w3 wr)) (fun _ z _ => n2 - (intOf z).toNat)
  case atStart => exact ⟨0, 0, Nat.zero_le _, rfl, Nat.zero_le _, Lib.hid rfl, Lib.hid (World.ownsRow_nil _ _ _ _), Lib.hid (Gr.refl _)⟩
  case round =>
    obtain ⟨j, k, hj, rfl, hkj, hkl, hown, hg⟩ := hrel
    by_cases hlt : j < n2
    · have hjl : j < cs2.length := by have := HN2.out; omega
      obtain ⟨b, off, rfl, e0, e1⟩ := Chgs_at (HA2.out.keep (HG3.out.trans hg.out)) hjl
      have HTK : Hid (cs2.take (j + 1) = cs2.take j ++ [cs2.getD j (0, g0)]) := Lib.hid (by rw [List.take_add_one, getD_of (0, g0) hjl]; rfl)
      generalize cs2.getD j (0, g0) = ch at e0 e1 HTK
      have HFS := Lib.hid (freeL_snoc lost a.size (cs2.take j) ch)
      rw [← HTK.out] at HFS
      obtain ⟨x, y⟩ := ch
      have HMD := Lib.hid (fun W => modP_any x a.size W has1 (by omega))
      have HHA := Lib.hid (fun W (hgw : Gr w3 W) => rHas_any B m cB lost (modP x a.size) W HML.out (by omega) (HLI.out.keep hgw))
      generalize modP x a.size = K at HMD HHA HFS
      generalize freeL lost a.size (cs2.take j) = fl at HFS hown hkl
      have hown2 := hown
      have hsz := hg.out.size
      rcases hc : lost.contains K with _ | _
      · have HH := Lib.hid (HHA.out wr hg.out false hc)
        have HFS' : Hid (freeL lost a.size (cs2.take (j + 1)) = fl ++ [(x, y)]) := Lib.hid (by rw [HFS.out, hc]; rfl)
        clear hc
        go_wp2_with fail
        refine (HMD.out _).mono ?_
        rintro e w4 ⟨rfl, rfl⟩
        go_wp2_with fail
        refine HH.out.mono ?_
        rintro e w4 ⟨rfl, rfl⟩
        go_wp2_with (at_builtin; refine wpList_append_own _ rfl _ _ 50 rfl w3.heap.size 57 k0 _ 2 16 Try.underlying50 hk0 hk1 hk2 hk3 rfl (by decide) _ _ _ rfl (hown2.out.alloc _) ⟨w4.heap.size, 0, none⟩ 1 1 (encC (x, y)) rfl rfl ?a1 ?a2 ?a3 ?a4 ?a5 ?_)
        case a1 =>
          intro t u ht
          rw [Addr.add_lit]
          exact alloc_new rfl (by rw [Nat.zero_add]; simpa [encC] using ht)
        case a2 => exact fun u hu => encC_one _ u hu
        case a3 => unfold maxLen; omega
        case a4 => omega
        case a5 => simp; omega
        intro v' w5 hown' hgrow _
        have hga : Gr w3 (w4.alloc _) := hg.out.alloc (.cells #[.int .i64 x, .int .u8 (y.v : Int)] 57)
        have hgb : Gr w3 w5 := Below.grown hga hgrow hga.size (fun t ht => (hown2.out.lt t ht).1)
        have HO2 := Lib.hid hown'
        clear hown' hgrow hga
        go_wp2_with fail
        go_roundw
        case rel => exact ⟨j + 1, k + 1, by omega, by go_num, by omega, Lib.hid (by rw [HFS'.out, List.length_append, hkl.out]; rfl), Lib.hid (by
          rw [HFS'.out, flatE_snoc]
          exact HO2.out), Lib.hid hgb⟩
        case measure => simp [intOf]; omega
      · have HH := Lib.hid (HHA.out wr hg.out true hc)
        have HFS' : Hid (freeL lost a.size (cs2.take (j + 1)) = fl) := Lib.hid (by rw [HFS.out, hc]; exact List.append_nil _)
        clear hc
        go_wp2_with fail
        refine (HMD.out _).mono ?_
        rintro e w4 ⟨rfl, rfl⟩
        go_wp2_with fail
        refine HH.out.mono ?_
        rintro e w4 ⟨rfl, rfl⟩
        go_wp2_with fail
        go_roundw
        case rel => exact ⟨j + 1, k, by omega, by go_num, by omega, by rw [HFS'.out]; exact hkl, by rw [HFS'.out]; exact hown, hg⟩
        case measure => simp [intOf]; omega
    · have hjn : j = n2 := by omega
      have hlt' : ¬ ((j : Int) < (n2 : Int)) := by omega
      rw [hjn, List.take_of_length_le (by rw [HN2.out]; exact Nat.le_refl _)] at hown hkl
      obtain ⟨Bf, cf, hv, -, hrd, -⟩ := own_row encC_len hkl.out hown.out
      have HRF := Lib.hid hrd
      subst hv
      have hkn : k ≤ 8796093022208 := by omega
      clear hjn hown hrd
      obtain ⟨mo, hmo⟩ : ∃ mo, (q - m) / 2 = mo := ⟨_, rfl⟩
      have hmo2 : ((q : Int) - (m : Int)) / 2 = (mo : Int) := by omega
      have hmo3 : m + 2 * mo ≤ q := by omega
      have HS2 := Lib.hid (spoilt_any (txt bs1) Bf k cf (freeL lost a.size cs2) mo wr (by rw [txt_size, HB1.out]; exact has1) (by rw [txt_size, HB1.out]; exact has2) (by omega) hkl.out (by omega) HRF.out)
      clear hmo
      go_wp2_with fail
      refine HS2.out.mono ?_
      rintro e w6 ⟨bs2, at_, B3, m3, cB3, rfl, hm3, -, hSp2, -, hg6⟩
      have HSP2 := Lib.hid hSp2
      have HM3 := Lib.hid hm3
      have HG6 := Lib.hid ((HG3.out.trans hg.out).trans hg6)
      have HL6 := Lib.hid (HLI.out.keep (hg.out.trans hg6))
      clear hm3 hSp2 hg6 HS2
      have HRES := Lib.hid (HM.out bs1 bs2 lost at_)
      clear HM
      go_upto_region 14 with fail
      go_cut [17] from 87 to 89 (fun v wx => Hid (wx.ownsRow w6.heap.size 3 1 v m (flatE enc1 (nats lost))) ∧ Hid (Gr w6 wx))
      case first =>
        rcases B with _ | ad
        · obtain rfl : cB = 0 := HNIL.out rfl
          have hm0 : m = 0 := by
            rcases Nat.eq_zero_or_pos m with h | h
            · exact h
            · obtain ⟨b, o, e, -⟩ := Ints_at HL6.out (i := 0) (by rw [nats_len, HML.out]; exact h)
              cases e
          subst hm0
          have HLE : Hid (lost = []) := Lib.hid (List.eq_nil_of_length_eq_zero HML.out)
          go_wp2_with (at_builtin; refine wpList_append_own_none rfl _ _ 34 rfl w6.heap.size 3 i0 1 Try.underlying34 hi0 _ 0 [] rfl (World.ownsRow_nil w6 _ _ _) rfl ?_)
          go_wp2_with fail
          go_meet
          exact ⟨by rw [HLE.out]; exact Lib.hid (World.ownsRow_nil w6 _ _ _), Lib.hid (Gr.refl _)⟩
        · have HNW := Lib.hid (Rd_news enc1_len (by decide) HL6.out)
          have HFL : Hid ((flatE enc1 (nats lost)).length = m * 1) := Lib.hid (by rw [flatE_len enc1_len, nats_len, HML.out])
          go_wp2_with (at_builtin; refine wpList_append_own _ rfl _ _ 34 rfl w6.heap.size 3 i0 _ 1 8 Try.underlying34 hi0 hz0 hz1 hz2 rfl (by decide) _ _ _ rfl (World.ownsRow_nil w6 _ _ _) ad m cB (flatE enc1 (nats lost)) rfl ?b1 ?b2 ?b3 ?b4 ?b5 ?b6 ?_)
          case b1 => exact HFL.out
          case b2 => exact HNW.out
          case b3 => exact oneCell_flat enc1_one _
          case b4 => unfold maxLen; omega
          case b5 => omega
          case b6 => exact Nat.le_refl _
          intro v' w7 hown7 hgrow7 _
          have HO7 := Lib.hid hown7
          have HG7 := Lib.hid hgrow7
          clear hown7 hgrow7
          go_wp2_with fail
          go_meet
          exact ⟨Lib.hid (by simpa using HO7.out), Lib.hid (Below.grown (Gr.refl w6) HG7.out (Nat.le_refl _) (fun t ht => by cases ht))⟩
      case rest =>
        obtain ⟨HO7, HG7⟩ := hcut
        have HSPB : Hid (Spoil bs1 bs2 at_ mo (freeL lost a.size cs2)) := Lib.hid (by have h := HSP2.out; rw [gs_txt] at h; exact h)
        have HFF : Hid (∀ c ∈ freeL lost a.size cs2, lost.contains (modP c.1 a.size) = false) := Lib.hid (fun c hc => by
          have h := (List.mem_filter.1 hc).2
          rw [Bool.not_eq_true'] at h
          exact h)
        have HB2 : Hid ((txt bs2).size = a.size) := Lib.hid (by rw [txt_size, HSPB.out.len, HB1.out])
        have HLT : Hid (∀ i ∈ lost, i < a.size) := Lib.hid (fun i hi => by have h := HSP1.out.ins i hi; rw [gs_len] at h; exact h)
        clear HSP2
        go_wp2_with fail
        go_loopw [17, 18] (fun v z wr2 => ∃ (j mm : Nat) (l' : List Nat), j ≤ m ∧ z = .int .i64 j ∧ mm ≤ m + j ∧ Hid (l'.length = mm) ∧ Hid (∀ i, l'.contains i = lost.contains i) ∧ Hid (wr2.ownsRow w6.heap.size 3 1 v mm (flatE enc1 (nats l'))) ∧ Hid (Gr w6 wr2)) (fun _ z _ => m - (intOf z).toNat)
        case atStart => exact ⟨0, m, lost, Nat.zero_le _, rfl, Nat.le_refl _, HML, Lib.hid (fun _ => rfl), HO7, HG7⟩
        case round =>
          clear HO7 HG7
          obtain ⟨j, mm, l', hj, rfl, hmm, hll, hcc, hown, hgr⟩ := hrel
          obtain ⟨B7, c7, hv7, -, hrd7, -⟩ := own_row (k := 1) (fun _ => rfl) (by rw [nats_len, hll.out]) hown.out
          have HRD := Lib.hid hrd7
          subst hv7
          clear hrd7
          by_cases hlt2 : j < m
          · obtain ⟨r, hr⟩ : ∃ r, m - 1 - j = r := ⟨_, rfl⟩
            have hrm : r < m := by omega
            have jr : (m : Int) - 1 - (j : Int) = (r : Int) := by omega
            obtain ⟨b, off, rfl, e0⟩ := Ints_at (HL6.out.keep hgr.out) (i := r) (by rw [nats_len, HML.out]; exact hrm)
            rw [nats_at (by rw [HML.out]; exact hrm)] at e0
            have HIN : Hid (lost.getD r 0 ∈ lost) := Lib.hid (List.mem_of_getElem? (getD_of 0 (by rw [HML.out]; exact hrm)))
            generalize lost.getD r 0 = x at e0 HIN
            have HCN : Hid (∀ i, (l' ++ [x]).contains i = lost.contains i) := Lib.hid (fun i => by
              have h := hcc.out i
              rw [List.contains_eq_mem, List.contains_eq_mem, decide_eq_decide] at h ⊢
              rw [List.mem_append, List.mem_singleton]
              exact ⟨fun e => by rcases e with e | e; exact h.1 e; exact e ▸ HIN.out, fun e => Or.inl (h.2 e)⟩)
            have hown2 := hown
            have hsz := hgr.out.size
            have hm255 : mm < 255 := by omega
            clear hr
            go_wp2_with (at_builtin; refine wpList_append_own _ rfl _ _ 34 rfl w6.heap.size 3 i0 _ 1 8 Try.underlying34 hi0 hz0 hz1 hz2 rfl (by decide) _ _ _ rfl (hown2.out.alloc _) ⟨wr.heap.size, 0, none⟩ 1 1 [.int .i64 (x : Int)] rfl rfl ?a1 ?a2 ?a3 ?a4 ?a5 ?_)
            case a1 =>
              intro t u ht
              rw [Addr.add_lit]
              exact alloc_new rfl (by rw [Nat.zero_add]; simpa using ht)
            case a2 => intro u hu; obtain rfl := List.mem_singleton.1 hu; rfl
            case a3 => unfold maxLen; omega
            case a4 => omega
            case a5 => simp; omega
            intro v' w8 hown' hgrow _
            have hga : Gr w6 (wr.alloc _) := hgr.out.alloc (.cells #[.int .i64 (x : Int)] 3)
            have hgb : Gr w6 w8 := Below.grown hga hgrow hga.size (fun t ht => (hown2.out.lt t ht).1)
            have HO2 := Lib.hid hown'
            clear hown' hgrow hga
            go_wp2_with fail
            go_roundw
            case rel => exact ⟨j + 1, mm + 1, l' ++ [x], by omega, by go_num, by omega, Lib.hid (by rw [List.length_append, hll.out]; rfl), HCN, Lib.hid (by
              rw [flat_nats_snoc]
              exact HO2.out), Lib.hid hgb⟩
            case measure => simp [intOf]; omega
          · have hlt3 : ¬ ((j : Int) < (m : Int)) := by omega
            obtain ⟨m1, m2, m3'⟩ := HRES.out l' mo cs (freeL lost a.size cs2) HSP1.out HSPB.out HFF.out (by rw [HML.out]; exact hmo3) hcc.out
            rw [HML.out, HM3.out] at m3'
            have hszz := HSZ.out
            have HD := Lib.hid (fun W (hg : Gr wr W) => Decode_any (txt bs2) q B7 mm c7 l' W (by rw [HB2.out]; exact (okB_iff _ _).2 (by omega)) hll.out (by omega) (fun i hi => by
              rw [HB2.out]
              refine HLT.out i ?_
              have h := hcc.out i
              rw [List.contains_eq_mem, List.contains_eq_mem, decide_eq_decide] at h
              exact h.1 hi) (HRD.out.keep hg) true m1)
            rw [m2, m3'] at HD
            have hm3b : m3 ≤ 64 := by have h := HSPB.out.few; rw [HM3.out] at h; omega
            have hwm : IntKind.i64.wrap ((m : Int) + (m3 : Int)) = (m : Int) + (m3 : Int) := IntWalk.i64_in _ (by omega)
            clear m1 m2 m3' hszz hmo2 hmo3 hmm hj hlt hlt2
            go_wp2_with fail
            refine (HD.out _ (Gr.refl _)).mono ?_
            rintro e w9 ⟨rfl, hg9⟩
            go_wp2_with fail
            refine (awake_any _).mono ?_
            rintro e w10 ⟨rfl, hg10⟩
            go_wp2_with fail
            try rw [Exit.noGoto_ret]
            go_ret
            exact ⟨rfl, ((HG6.out.trans hgr.out).trans hg9).trans hg10⟩
end Go.Proofs.Ytbkbgcapkhelhaa
