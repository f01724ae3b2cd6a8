/- The law CarveBounded as a walk. -/
import Derived.Test.YtcojionipffanabCTwo
import Derived.Test.YtcojionipffanabCEach
import Derived.Test.YtcojionipffanabCMost
namespace Go.Proofs.Ytcojionipffanab
open Go.RowKit
set_option linter.unusedSimpArgs false

/-- What a plan is worth to the law: nothing if it is wrong. -/
theorem worth_ways {W H : Nat} {qs : List Bl} {pl : List St} (h1 : 1 ≤ W) (h2 : 1 ≤ H) (ht : taskB W H qs = true) :
    worthL W H qs pl = (0, 20) ∨ ∃ v, worthL W H qs pl = (v, 0) ∧ 0 ≤ v ∧ v ≤ mst qs W H := by
  obtain ⟨R, hR⟩ : ∃ R, readL qs W H pl = R := ⟨_, rfl⟩
  cases R with
  | none => exact Or.inl (worthL_ans ht hR)
  | some m =>
    refine Or.inr ⟨sumV m, worthL_ans ht hR, ?_, ?_⟩
    · exact ((readL_made hR).bd ((taskB_iff _ _ _).1 ht).2.2.2).1.1
    · unfold readL at hR
      split at hR
      · unfold allOf at hR
        split at hR
        · rename_i m' h
          obtain rfl := Option.some.inj hR
          exact rd_le qs _ W H pl _ _ h1 h2 h
        · cases hR
      · cases hR

theorem Rw.congr {w : World} {base g H : Nat} {f f' : Nat → Int} (h : Rw w base g H f) (e : ∀ b, b ≤ H → f' b = f b) : Rw w base g H f' := by
  obtain ⟨h0, cs, h1, h2, h3⟩ := h
  exact ⟨h0, cs, h1, h2, fun b hb => by rw [e b hb]; exact h3 b hb⟩
/-- Rows of a function's values read as its table. -/
theorem rows_rd {w : World} {base W H : Nat} {F : Nat → Nat → Int} {G : Nat → Nat} {g c : Nat} (h : ∀ x, x < W + 1 → Rw w base (G x) H (F x)) (ho : w.ownsRow base 41 1 (.slice (some ⟨g, 0, none⟩) (W + 1) c) (W + 1) (slv H G (W + 1))) : RdRows w (some ⟨g, 0, none⟩) (fTb F W H) := fun i row hr => by
  have hi : i < W + 1 := by have := (List.getElem?_eq_some_iff.1 hr).1; rwa [fTb_len] at this
  have e : row = (List.range (H + 1)).map (F i) := by
    have h4 := fTb_row F W H (a := i) (by omega)
    rw [List.getD_eq_getElem?_getD, hr] at h4
    exact h4
  subst e
  refine ⟨g, 0, some ⟨G i, 0, none⟩, H + 1, rfl, ?_, ?_⟩
  · rw [Nat.zero_add, List.length_map, List.length_range]
    exact (ho.cellAt i (by omega)).trans (slv_at hi)
  · refine Rd_of_cells enc1_len fun j u hu => ?_
    obtain ⟨x, hx, hxu⟩ := flatE_inv enc1_len (by decide) hu
    rw [Nat.div_one] at hx
    rw [Nat.mod_one] at hxu
    have hj : j ≤ H := by have := (List.getElem?_eq_some_iff.1 hx).1; simp at this; omega
    have e : x = F i j := by
      rw [List.getElem?_map, List.getElem?_range (by omega)] at hx
      simpa using hx.symm
    have e2 : u = .int .i64 x := by simpa [enc1] using hxu.symm
    rw [e2, e, Nat.zero_add]
    exact (h i hi).at hj
theorem check_raise {bs : List Bl} {e W H : Nat} (he : e ≤ 16) (ht : taskB W H bs = true) : checkL W H bs (fTb (raise bs e) W H) = 0 := by
  obtain ⟨⟨h1, h2⟩, ⟨h3, h4⟩, -, hbs⟩ := (taskB_iff _ _ _).1 ht
  unfold checkL
  rw [if_pos ht, if_pos]
  rw [Bool.and_eq_true]
  exact ⟨(formB_iff _ _ _).2 (raise_frm hbs he (by omega) (by omega)), (boundB_iff _ _ _ _).2 (raise_bound hbs e _ _)⟩

set_option maxRecDepth 100000 in
set_option maxHeartbeats 4000000 in
theorem lawBounded_any (W0 H0 : Int) (A : Option Addr) (n c : Nat) (bs : List Bl) (PA : Option Addr) (pn pc : Nat) (ps : List St) (MA : Option Addr) (mn mc : Nat) (ms : List Int) (w : World) (hn : bs.length = n) (hl : n ≤ 9223372036854775807) (_hc : n ≤ c) (_h0 : A = none → c = 0) (hp : Tris w A bs)
    (hpn : ps.length = pn) (hpl : pn ≤ 9223372036854775807) (hpc : pn ≤ pc) (hp0 : PA = none → pc = 0) (hpp : Pts w PA ps) (hmn : ms.length = mn) (_hml : mn ≤ 9223372036854775807) (_hmc : mn ≤ mc) (_hm0 : MA = none → mc = 0) (hmp : Ints w MA ms) :
    Calls Try.prog 5 #[.agg #[.int .i64 W0, .int .i64 H0, .slice A n c], .slice PA pn pc, .slice MA mn mc] w fun e w' => e = .returned (.bool true) ∧ Gr w w' := by
  have HTM := Lib.hid (fun W' (g : Gr w W') => tame_any W0 H0 A n c bs 14 W' (by omega) (by omega) hn hl (hp.keep g))
  have HST := Lib.hid (fun W' (g : Gr w W') => steps_any PA pn pc ps W' hpn hpl hpc hp0 (hpp.keep g))
  have HMM := Lib.hid hmp
  have HMN := Lib.hid hmn
  obtain ⟨W, H, e1, e2, hW, hH, h16, hbl⟩ := tame_task 14 (by omega) (by omega) W0 H0 bs
  rw [show ((14 : Nat) : Int) = 14 from rfl] at e1 e2
  rw [e1, e2] at HTM
  generalize tameL bs = qs at HTM h16 hbl
  obtain ⟨q, hq⟩ : ∃ q, qs.length = q := ⟨_, rfl⟩
  have HQ := Lib.hid hq
  rw [hq] at h16
  have HT := Lib.hid (task_ok (W := W) (H := H) (by omega) (by omega) (by omega) hbl)
  have HBL := Lib.hid hbl
  generalize ps.take 8193 = rs at HST
  obtain ⟨rn, hrn⟩ : ∃ rn, rs.length = rn := ⟨_, rfl⟩
  have HRN := Lib.hid hrn
  clear hn hl hp hq e1 e2 hpn hpl hpc hp0 hpp hmn hmp hbl hrn
  go_enter Try.func5, Try.ntmps5
  go_wp2_with fail
  generalize hW1 : World.alloc w _ = W1
  obtain ⟨hg, k1, k2, k3⟩ := task_box hW1
  clear hW1
  go_wp2_with fail
  refine (HTM.out _ hg).mono ?_
  rintro e w1 ⟨A1, c1, rfl, hc1, hT1, h01, -, hg1⟩
  rw [HQ.out]
  rw [HQ.out] at hc1
  replace hg := hg.trans hg1
  clear k1 k2 k3 hg1
  have HT1 := Lib.hid hT1
  clear hT1
  go_wp2_with fail
  generalize hW2 : World.alloc w1 _ = w2
  obtain ⟨hg2, k1, k2, k3⟩ := task_box hW2
  generalize hS : w1.heap.size = S at k1 k2 k3 ⊢
  have HT2 := Lib.hid (HT1.out.keep hg2)
  replace hg := hg.trans hg2
  clear hW2 hS hg2 HT1 HTM
  refine (HST.out _ hg).mono ?_
  rintro e w3 ⟨A5, c5, rfl, hc5, hT5, h05, -, hg3⟩
  rw [HRN.out]
  rw [HRN.out] at hc5
  have HT3 := Lib.hid (HT2.out.keep hg3)
  have HP5 := Lib.hid hT5
  replace hg := hg.trans hg3
  replace k1 := hg3.keep k1
  replace k2 := hg3.keep k2
  replace k3 := hg3.keep k3
  clear hT5 hg3 HT2 HST
  go_upto_region 3 with fail
  go_cut [8] from 8 to 25 (fun p8 wx => ∃ A6 r c6, p8 = .slice A6 r c6 ∧ r ≤ 400 ∧ Hid ((rs.take 400).length = r) ∧ Hid (Pts w3 A6 (rs.take 400)) ∧ wx = w3)
  case first =>
    have HP6 := Lib.hid (Rd_take HP5.out 400)
    have HL6 : Hid ((rs.take 400).length = min rn 400) := Lib.hid (by rw [List.length_take, HRN.out]; omega)
    rcases A5 with _ | ad
    · obtain rfl : c5 = 0 := h05 rfl
      obtain rfl : rn = 0 := by omega
      have t1 : (if (0 : Int) < 400 then (0 : Int) else 400) = 0 := by simp
      have t2 : (if (400 : Int) < 0 then (400 : Int) else 0) = 0 := by simp
      go_wp2_with fail
      go_meet
      exact ⟨_, _, _, rfl, by omega, by simpa using HL6, HP6, rfl⟩
    · by_cases h4 : rn ≤ 400
      · have t1 : (if (400 : Int) < (rn : Int) then (400 : Int) else (rn : Int)) = (rn : Int) := by rw [if_neg (by omega)]
        have t2 : min rn 400 = rn := by omega
        rw [t2] at HL6
        clear t2
        go_wp2_with fail
        go_meet
        exact ⟨_, _, _, rfl, h4, HL6, HP6, rfl⟩
      · have t1 : (if (400 : Int) < (rn : Int) then (400 : Int) else (rn : Int)) = 400 := by rw [if_pos (by omega)]
        have t2 : min rn 400 = 400 := by omega
        rw [t2] at HL6
        clear t2
        go_wp2_with fail
        go_meet
        exact ⟨_, _, _, rfl, by omega, HL6, HP6, rfl⟩
  case rest =>
    obtain ⟨A6, r, c6, rfl, hr, HRL, HP6, rfl⟩ := hcut
    generalize rs.take 400 = pl at HRL HP6
    clear hc5 HRN HP5
    go_wp2_with fail
    refine (Worth_any W H A1 A6 q c1 r c6 qs pl _ HQ.out (by omega) HRL.out (by omega) HT3.out HP6.out).mono ?_
    rintro e w4 ⟨rfl, hg4⟩
    have HT4 := Lib.hid (HT3.out.keep hg4)
    replace hg := hg.trans hg4
    replace k1 := hg4.keep k1
    replace k2 := hg4.keep k2
    replace k3 := hg4.keep k3
    have HWW := Lib.hid (worth_ways (pl := pl) hW.1 hH.1 HT.out)
    generalize worthL (W : Int) (H : Int) qs pl = wo at HWW ⊢
    clear hg4 HT3
    go_upto_if 38 with fail
    go_cut [9] from 9 to 38 (fun p9 wx => ∃ v, p9 = .int .i64 v ∧ 0 ≤ v ∧ v ≤ mst qs W H ∧ wx = w4)
    case first =>
      rcases HWW.out with h | ⟨v, h, h1, h2⟩
      · subst h
        have t1 : ((20 : Int) != 0) = true := by simp
        go_wp2_with fail
        go_meet
        exact ⟨0, rfl, Int.le_refl _, mst_nonneg _ _ _, rfl⟩
      · subst h
        have t1 : ((0 : Int) != 0) = false := by simp
        go_wp2_with fail
        go_meet
        exact ⟨v, rfl, h1, h2, rfl⟩
    case rest =>
      obtain ⟨v, rfl, hv0, hv1, hwc⟩ := hcut
      obtain rfl : w4 = wc := hwc.symm
      clear hwc
      clear HWW
      go_wp2_with fail
      refine (Most_own W H (by omega) (by omega) A1 q c1 qs _ HQ.out h16 HBL.out HT4.out).mono ?_
      rintro e w5 ⟨g, cg, G, rfl, hown, hmade, hinj, hg5⟩
      have HB4 := hg5.size
      generalize hbase : w4.heap.size = B at hown hmade HB4
      have HOWN := Lib.hid hown
      have HMADE := Lib.hid hmade
      have HINJ := Lib.hid hinj
      have HT5 := Lib.hid (HT4.out.keep hg5)
      have HBASE := Lib.hid hbase
      have HG5 := Lib.hid hg5
      have HK4 := Lib.hid (fun W' (h : Gr w4 W') => And.intro (h.keep k1) (And.intro (h.keep k2) (h.keep k3)))
      have hgw4 := hg
      replace hg := hg.trans hg5
      have HM5 := Lib.hid (HMM.out.keep hg)
      clear hown hmade hinj hbase hg5 k1 k2 k3
      go_wp2_with fail
      go_loopw [12, 13] (fun e z wr => ∃ i a : Nat, i ≤ mn ∧ i ≤ 4 ∧ a ≤ 4 * i ∧ z = .int .i64 i ∧ e = .int .i64 a ∧ wr = w5) (fun _ z _ => mn - (intOf z).toNat)
      case atStart => exact ⟨0, 0, Nat.zero_le _, Nat.zero_le _, Nat.zero_le _, rfl, rfl, rfl⟩
      case round =>
        obtain ⟨i, a, hi, hi4, ha, rfl, rfl, rfl⟩ := hrel
        go_upto_region 10 with fail
        obtain ⟨w5, hw5⟩ : ∃ w5, w5 = wr := ⟨_, rfl⟩
        go_cut [53] from 46 to 53 (fun t wx => t = .bool (decide (i < mn ∧ i < 4)) ∧ wx = w5)
        case first =>
          by_cases h1 : i < mn
          · have d1 : decide ((i : Int) < (mn : Int)) = true := decide_eq_true (by omega)
            by_cases h2 : i < 4
            · have d2 : decide ((i : Int) < 4) = true := decide_eq_true (by omega)
              go_wp2_with fail
              go_meet
              exact ⟨congrArg Value.bool (by rw [decide_eq_true ⟨h1, h2⟩]), hw5.symm⟩
            · have d2 : decide ((i : Int) < 4) = false := decide_eq_false (by omega)
              go_wp2_with fail
              go_meet
              exact ⟨congrArg Value.bool (by rw [decide_eq_false (fun h => h2 h.2)]), hw5.symm⟩
          · have d1 : decide ((i : Int) < (mn : Int)) = false := decide_eq_false (by omega)
            go_wp2_with fail
            go_meet
            exact ⟨congrArg Value.bool (by rw [decide_eq_false (fun h => h1 h.1)]), hw5.symm⟩
        case rest =>
          obtain ⟨rfl, hwc⟩ := hcut
          subst hw5
          obtain rfl : w5 = wc := hwc.symm
          clear hwc
          by_cases hlt : i < mn ∧ i < 4
          · rw [decide_eq_true hlt]
            obtain ⟨b, off, rfl, x0⟩ := Ints_at HM5.out (show i < ms.length by have := HMN.out; omega)
            generalize ms.getD i 0 = x at x0
            have hm := modL_le (x := x) (n := 5) (by omega) (by omega)
            go_wp2_with fail
            refine (mod_any x 5 _ (by omega) (by omega)).mono ?_
            rintro e w6 ⟨rfl, rfl⟩
            obtain ⟨t, ht⟩ : ∃ t : Nat, modL x 5 = t := ⟨(modL x 5).toNat, by omega⟩
            rw [ht] at hm ⊢
            clear ht
            go_wp2_with fail
            go_roundw
            case rel => exact ⟨i + 1, a + t, by omega, by omega, by omega, by go_num, by go_num, trivial⟩
            case measure => simp [intOf] <;> omega
          · rw [decide_eq_false hlt]
            have ha16 : a ≤ 16 := by omega
            clear hlt hi hi4 ha HM5 HMN HMM
            obtain ⟨wb, hwb⟩ : ∃ wb, wb = w5 := ⟨_, rfl⟩
            go_wp2_with fail
            go_loopw [14] (fun z wr => ∃ i : Nat, i ≤ W + 1 ∧ z = .int .i64 i ∧ Hid (wr.ownsRow B 41 1 (.slice (some ⟨g, 0, none⟩) (W + 1) cg) (W + 1) (slv H G (W + 1))) ∧ Hid (∀ x, x < W + 1 → Rw wr B (G x) H (fun y => if x < i then raise qs a x y else mst qs x y)) ∧ Hid (Gr w4 wr)) (fun z _ => W + 1 - (intOf z).toNat)
            case atStart => exact ⟨0, Nat.zero_le _, rfl, HOWN, Lib.hid (fun x hx => by simpa using HMADE.out x hx), HG5⟩
            case round =>
              clear HOWN HMADE HG5 HT5 hg
              obtain ⟨i2, hi2, rfl, HOWN, HMADE, HG⟩ := hrel
              obtain ⟨o1, o2, o3⟩ := HK4.out _ HG.out
              by_cases hlt : i2 ≤ W
              · have d1 : decide ((i2 : Int) ≤ (W : Int)) = true := decide_eq_true (by omega)
                go_wp2_with fail
                go_loopw [15] (fun z wx => ∃ k : Nat, k ≤ H + 1 ∧ z = .int .i64 k ∧ Hid (wx.ownsRow B 41 1 (.slice (some ⟨g, 0, none⟩) (W + 1) cg) (W + 1) (slv H G (W + 1))) ∧ Hid (∀ x, x < W + 1 → Rw wx B (G x) H (fun y => if x < i2 ∨ (x = i2 ∧ y < k) then raise qs a x y else mst qs x y)) ∧ Hid (Gr w4 wx)) (fun z _ => H + 1 - (intOf z).toNat)
                case atStart => exact ⟨0, Nat.zero_le _, rfl, HOWN, Lib.hid (fun x hx => by simpa using HMADE.out x hx), HG⟩
                case round =>
                  clear HOWN HMADE HG o1 o2 o3
                  obtain ⟨k, hk, rfl, HOWN, HMADE, HG⟩ := hrel
                  obtain ⟨o1, o2, o3⟩ := HK4.out _ HG.out
                  by_cases hlt2 : k ≤ H
                  · have d2 : decide ((k : Int) ≤ (H : Int)) = true := decide_eq_true (by omega)
                    have r1 := (HOWN.out.cellAt i2 (by omega)).trans (slv_at (H := H) (G := G) (by omega : i2 < W + 1))
                    have hrw := HMADE.out i2 (by omega)
                    have r2 := hrw.at hlt2
                    have r3 := hrw.free k
                    rw [if_neg (by omega)] at r2
                    obtain ⟨a1, a2, a3, a4⟩ := area_bd ha16 (show i2 ≤ 48 by omega) (show k ≤ 48 by omega)
                    have hmb := mst_bd HBL.out (w := i2) (h := k) (by omega) (by omega)
                    have hrz : raise qs a i2 k = mst qs i2 k + (a : Int) * (i2 : Int) * (k : Int) := rfl
                    have HPUT := Lib.hid (hrw.put (k := k) (f' := fun y => if i2 < i2 ∨ (i2 = i2 ∧ y < k + 1) then raise qs a i2 y else mst qs i2 y) (mst qs i2 k + (a : Int) * (i2 : Int) * (k : Int)) (by rw [if_pos (by omega)]; exact hrz) (fun y hy => by
                      by_cases e : y < k
                      · rw [if_pos (by omega), if_pos (by omega)]
                      · rw [if_neg (by omega), if_neg (by omega)]))
                    have HREST := Lib.hid (fun (u : Value) (wz : World) (hz : Gr wr wz) => hz)
                    clear hrz HREST
                    generalize mst qs i2 k = m at r2 hmb HPUT
                    have hgk := hrw.1
                    generalize hGi : G i2 = gi at r1 r2 r3 HPUT hgk
                    have HGI := Lib.hid hGi
                    clear hGi hrw
                    have j1 : IntKind.i64.wrap ((a : Int) * (i2 : Int)) = (a : Int) * (i2 : Int) := IntWalk.i64_in _ (by omega)
                    have j2 : IntKind.i64.wrap ((a : Int) * (i2 : Int) * (k : Int)) = (a : Int) * (i2 : Int) * (k : Int) := IntWalk.i64_in _ (by omega)
                    have j3 : IntKind.i64.wrap (m + (a : Int) * (i2 : Int) * (k : Int)) = m + (a : Int) * (i2 : Int) * (k : Int) := IntWalk.i64_in _ (by omega)
                    have j4 : (0 : Int) ≤ (i2 : Int) := by omega
                    have j5 : (i2 : Int) < (W : Int) + 1 := by omega
                    have j6 : (0 : Int) ≤ (k : Int) := by omega
                    have j7 : (k : Int) < (H : Int) + 1 := by omega
                    go_wp2_with fail
                    go_still_tail 19, (by kernel_rfl)
                    go_wp2_with fail
                    go_roundw
                    case rel =>
                      have hne : (Value.slice (some ⟨g, 0, none⟩) (W + 1) cg).ownBlock ≠ some gi := fun e => (HMADE.out i2 (by omega)).apart HOWN.out (by rw [HGI.out]; exact e.symm)
                      refine ⟨k + 1, by omega, by go_num, Lib.hid (owns_gr (ownsRow_setCell_other (a := ⟨gi, k, none⟩) HOWN.out hne _) (Gr.refl _).drew), Lib.hid (fun x hx => ?_), Lib.hid (Gr.setCell (p := ⟨gi, k, none⟩) HG.out (Nat.le_trans (Nat.le_of_eq HBASE.out) hgk) _).drew⟩
                      by_cases e : x = i2
                      · subst e
                        rw [HGI.out]
                        exact (HPUT.out.keep (Gr.refl _).drew).congr (fun y hy => by simp)
                      · have h1 : G x ≠ gi := fun h => e (HINJ.out x i2 hx (by omega) (by rw [h, HGI.out]))
                        exact (((HMADE.out x hx).other (p := ⟨gi, k, none⟩) h1 _).keep (Gr.refl _).drew).congr (fun y hy => by simp [e])
                    case measure => simp [intOf] <;> omega
                  · have d2 : decide ((k : Int) ≤ (H : Int)) = false := decide_eq_false (by omega)
                    go_wp2_with fail
                    go_roundw
                    case rel => exact ⟨i2 + 1, by omega, by go_num, HOWN, Lib.hid (fun x hx => (HMADE.out x hx).congr (fun y hy => by
                      by_cases e : x < i2
                      · rw [if_pos (by omega), if_pos (by omega)]
                      · by_cases e2 : x = i2
                        · rw [if_pos (by omega), if_pos (by omega)]
                        · rw [if_neg (by omega), if_neg (by omega)])), HG⟩
                    case measure => simp [intOf] <;> omega
              · have d1 : decide ((i2 : Int) ≤ (W : Int)) = false := decide_eq_false (by omega)
                have HF : Hid (∀ x, x < W + 1 → Rw wr B (G x) H (raise qs a x)) := Lib.hid (fun x hx => (HMADE.out x hx).congr (fun y hy => by rw [if_pos (by omega)]))
                have HRD := Lib.hid (rows_rd HF.out HOWN.out)
                have HT6 := Lib.hid (HT4.out.keep HG.out)
                have hg := hgw4.trans HG.out
                have r1 := (HOWN.out.cellAt W (by omega)).trans (slv_at (H := H) (G := G) (by omega : W < W + 1))
                have r2 := (HF.out W (by omega)).at (Nat.le_refl H)
                clear HMADE HF
                generalize G W = gi at r1 r2
                go_wp2_with fail
                refine (best_any W H A1 q c1 qs _ HQ.out (by omega) HT6.out HT.out).mono ?_
                rintro e w7 ⟨rfl, hg7⟩
                obtain ⟨o1', o2', o3'⟩ := HK4.out _ (HG.out.trans hg7)
                have r1' := hg7.keep r1
                have r2' := hg7.keep r2
                have HRD7 := Lib.hid (HRD.out.keep hg7)
                have HT7 := Lib.hid (HT6.out.keep hg7)
                have hmr : mst qs W H ≤ raise qs a W H := by have := area_bd ha16 (show W ≤ 48 by omega) (show H ≤ 48 by omega); unfold raise; omega
                have HCK := Lib.hid (check_raise (e := a) ha16 HT.out)
                have HC := Lib.hid (fun W' (h : Gr w7 W') => Check_any W H A1 (some ⟨g, 0, none⟩) q c1 (W + 1) cg qs (fTb (raise qs a) W H) W' HQ.out (by omega) (fTb_len _ _ _) (by omega) (fun row hr => by
                  obtain ⟨z, -, rfl⟩ := List.mem_map.1 hr
                  simp; omega) (HT7.out.keep h) (HRD7.out.keep h))
                rw [HCK.out] at HC
                generalize mst qs W H = m at hv1 hmr ⊢
                generalize raise qs a W H = rz at r2' hmr
                replace hg := hg.trans hg7
                clear r1 r2 o1 o2 o3 HRD HRD7 HT6 HT7 HG hg7
                have e0 : ((0 : Int) == 0) = true := by simp
                have e1 : decide (v ≤ rz) = true := decide_eq_true (by omega)
                have e2 : decide (v ≤ m) = true := decide_eq_true (by omega)
                have e3 : decide (m ≤ rz) = true := decide_eq_true (by omega)
                have j1 : (0 : Int) ≤ (W : Int) := by omega
                have j2 : (W : Int) < (W : Int) + 1 := by omega
                have j3 : (0 : Int) ≤ (H : Int) := by omega
                have j4 : (H : Int) < (H : Int) + 1 := by omega
                have KS := Lib.hid (fun W' (h : Gr w7 W') => And.intro h (And.intro (h.keep o1') (And.intro (h.keep o2') (And.intro (h.keep o3') (And.intro (h.keep r1') (h.keep r2'))))))
                have HAW := Lib.hid (fun W' => cawake_any W')
                go_upto_region 21 with fail
                refine wp_region_held_drew (S := (fun W' => Gr w7 W' ∧ W'.cell? ⟨S, 0, none⟩ = some (.int .i64 (W : Int)) ∧ W'.cell? ⟨S, 1, none⟩ = some (.int .i64 (H : Int)) ∧ W'.cell? ⟨S, 2, none⟩ = some (.slice A1 q c1) ∧ W'.cell? ⟨g, W, none⟩ = some (.slice (some ⟨gi, 0, none⟩) (H + 1) (H + 1)) ∧ W'.cell? ⟨gi, H, none⟩ = some (.int .i64 rz))) ?_ ?_ (fun hHeld => ?_)
                · kernel_rfl
                · ((try dsimp only); (first | exact KS.out _ (Gr.refl _).drew | exact KS.out _ (hHeld.1.trans HG1.out)))
                refine take_in (i := 0) (v := ?_) (d := (some 96)) rfl rfl ?_ ?_ ?_ ?_ ?_ ?_ ?_ ?_
                rotate_left
                · kernel_rfl
                · kernel_rfl
                · kernel_rfl
                · (intro _ _ _ hq; exact hq)
                · rfl
                · (intro _w hSw; (try dsimp only at hSw); go_simp; try with_reducible rfl)
                · assumption
                try simp only [Act.put, List.setIfInBounds_toArray, List.set_cons_zero, List.set_cons_succ]
                refine take_in (i := 1) (v := ?_) (d := (some 97)) rfl rfl ?_ ?_ ?_ ?_ ?_ ?_ ?_ ?_
                rotate_left
                · kernel_rfl
                · kernel_rfl
                · kernel_rfl
                · (intro _ _ _ hq; exact hq)
                · rfl
                · (intro _w hSw; (try dsimp only at hSw); go_simp; try with_reducible rfl)
                · assumption
                try simp only [Act.put, List.setIfInBounds_toArray, List.set_cons_zero, List.set_cons_succ]
                refine take_in (i := 2) (v := ?_) (d := (some 98)) rfl rfl ?_ ?_ ?_ ?_ ?_ ?_ ?_ ?_
                rotate_left
                · kernel_rfl
                · kernel_rfl
                · kernel_rfl
                · (intro _ _ _ hq; exact hq)
                · rfl
                · (intro _w hSw; (try dsimp only at hSw); go_simp; try with_reducible rfl)
                · assumption
                try simp only [Act.put, List.setIfInBounds_toArray, List.set_cons_zero, List.set_cons_succ]
                refine take_in (i := 3) (v := ?_) (d := (some 99)) rfl rfl ?_ ?_ ?_ ?_ ?_ ?_ ?_ ?_
                rotate_left
                · kernel_rfl
                · kernel_rfl
                · kernel_rfl
                · (intro _ _ _ hq; exact hq)
                · rfl
                · (intro _w hSw; (try dsimp only at hSw); go_simp; try with_reducible rfl)
                · assumption
                try simp only [Act.put, List.setIfInBounds_toArray, List.set_cons_zero, List.set_cons_succ]
                refine take_in (i := 4) (v := ?_) (d := (some 100)) rfl rfl ?_ ?_ ?_ ?_ ?_ ?_ ?_ ?_
                rotate_left
                · kernel_rfl
                · kernel_rfl
                · kernel_rfl
                · (intro _ _ _ hq; exact hq)
                · rfl
                · (intro _w hSw; (try dsimp only at hSw); go_simp; try with_reducible rfl)
                · assumption
                try simp only [Act.put, List.setIfInBounds_toArray, List.set_cons_zero, List.set_cons_succ]
                refine take_in (i := 5) (v := ?_) (d := (some 101)) rfl rfl ?_ ?_ ?_ ?_ ?_ ?_ ?_ ?_
                rotate_left
                · kernel_rfl
                · kernel_rfl
                · kernel_rfl
                · (intro _ _ _ hq; exact hq)
                · rfl
                · (intro _w hSw; (try dsimp only at hSw); go_simp; try with_reducible rfl)
                · assumption
                try simp only [Act.put, List.setIfInBounds_toArray, List.set_cons_zero, List.set_cons_succ]
                refine take_in (i := 6) (v := ?_) (d := (some 102)) rfl rfl ?_ ?_ ?_ ?_ ?_ ?_ ?_ ?_
                rotate_left
                · kernel_rfl
                · kernel_rfl
                · kernel_rfl
                · (intro _ _ _ hq; exact hq)
                · rfl
                · (intro _w hSw; (try dsimp only at hSw); go_simp; try with_reducible rfl)
                · assumption
                try simp only [Act.put, List.setIfInBounds_toArray, List.set_cons_zero, List.set_cons_succ]
                refine wpAnyH_ready (rs := [7]) ?_ ?_ ?_
                · kernel_rfl
                · simp
                refine (AllReadyH.cons rfl (fun K hK => ?_) AllReadyH.nil)
                go_simp
                first | (go_at_call 21; ((with_reducible refine (HC.out _ hHeld.1).mono ?_); rintro e w8 ⟨rfl, hgf⟩; have HG1 := Lib.hid hgf; clear hgf)) | (go_at_call 18; ((with_reducible refine (HAW.out _).mono ?_); rintro e w9 ⟨rfl, hgf⟩; have HG1 := Lib.hid hgf; clear hgf))
                refine hK.out _ _ ?_ (fun hHeld => ?_)
                · ((try dsimp only); (first | exact KS.out _ (Gr.refl _).drew | exact KS.out _ (hHeld.1.trans HG1.out)))
                clear hK K
                try simp only [Act.put, List.setIfInBounds_toArray, List.set_cons_zero, List.set_cons_succ]
                refine take_in (i := 8) (v := ?_) (d := (some 104)) rfl rfl ?_ ?_ ?_ ?_ ?_ ?_ ?_ ?_
                rotate_left
                · kernel_rfl
                · kernel_rfl
                · kernel_rfl
                · (intro _ _ _ hq; exact hq)
                · rfl
                · (intro _w hSw; (try dsimp only at hSw); go_simp; try with_reducible rfl)
                · assumption
                try simp only [Act.put, List.setIfInBounds_toArray, List.set_cons_zero, List.set_cons_succ]
                refine take_in (i := 9) (v := ?_) (d := (some 105)) rfl rfl ?_ ?_ ?_ ?_ ?_ ?_ ?_ ?_
                rotate_left
                · kernel_rfl
                · kernel_rfl
                · kernel_rfl
                · (intro _ _ _ hq; exact hq)
                · rfl
                · (intro _w hSw; (try dsimp only at hSw); go_simp; try with_reducible rfl)
                · assumption
                try simp only [Act.put, List.setIfInBounds_toArray, List.set_cons_zero, List.set_cons_succ]
                refine take_in (i := 10) (v := ?_) (d := (some 106)) rfl rfl ?_ ?_ ?_ ?_ ?_ ?_ ?_ ?_
                rotate_left
                · kernel_rfl
                · kernel_rfl
                · kernel_rfl
                · (intro _ _ _ hq; exact hq)
                · rfl
                · (intro _w hSw; (try dsimp only at hSw); go_simp; try with_reducible rfl)
                · assumption
                try simp only [Act.put, List.setIfInBounds_toArray, List.set_cons_zero, List.set_cons_succ]
                refine take_in (i := 11) (v := ?_) (d := (some 107)) rfl rfl ?_ ?_ ?_ ?_ ?_ ?_ ?_ ?_
                rotate_left
                · kernel_rfl
                · kernel_rfl
                · kernel_rfl
                · (intro _ _ _ hq; exact hq)
                · rfl
                · (intro _w hSw; (try dsimp only at hSw); go_simp; try with_reducible rfl)
                · assumption
                try simp only [Act.put, List.setIfInBounds_toArray, List.set_cons_zero, List.set_cons_succ]
                refine take_in (i := 12) (v := ?_) (d := (some 108)) rfl rfl ?_ ?_ ?_ ?_ ?_ ?_ ?_ ?_
                rotate_left
                · kernel_rfl
                · kernel_rfl
                · kernel_rfl
                · (intro _ _ _ hq; exact hq)
                · rfl
                · (intro _w hSw; (try dsimp only at hSw); go_simp; try with_reducible rfl)
                · assumption
                try simp only [Act.put, List.setIfInBounds_toArray, List.set_cons_zero, List.set_cons_succ]
                refine take_in (i := 13) (v := ?_) (d := (some 109)) rfl rfl ?_ ?_ ?_ ?_ ?_ ?_ ?_ ?_
                rotate_left
                · kernel_rfl
                · kernel_rfl
                · kernel_rfl
                · (intro _ _ _ hq; exact hq)
                · rfl
                · (intro _w hSw; (try dsimp only at hSw); go_simp; try with_reducible rfl)
                · assumption
                try simp only [Act.put, List.setIfInBounds_toArray, List.set_cons_zero, List.set_cons_succ]
                refine take_in (i := 14) (v := ?_) (d := (some 110)) rfl rfl ?_ ?_ ?_ ?_ ?_ ?_ ?_ ?_
                rotate_left
                · kernel_rfl
                · kernel_rfl
                · kernel_rfl
                · (intro _ _ _ hq; exact hq)
                · rfl
                · (intro _w hSw; (try dsimp only at hSw); go_simp; try with_reducible rfl)
                · assumption
                try simp only [Act.put, List.setIfInBounds_toArray, List.set_cons_zero, List.set_cons_succ]
                refine take_in (i := 15) (v := ?_) (d := (some 111)) rfl rfl ?_ ?_ ?_ ?_ ?_ ?_ ?_ ?_
                rotate_left
                · kernel_rfl
                · kernel_rfl
                · kernel_rfl
                · (intro _ _ _ hq; exact hq)
                · rfl
                · (intro _w hSw; (try dsimp only at hSw); go_simp; try with_reducible rfl)
                · assumption
                try simp only [Act.put, List.setIfInBounds_toArray, List.set_cons_zero, List.set_cons_succ]
                refine take_in (i := 16) (v := ?_) (d := (some 112)) rfl rfl ?_ ?_ ?_ ?_ ?_ ?_ ?_ ?_
                rotate_left
                · kernel_rfl
                · kernel_rfl
                · kernel_rfl
                · (intro _ _ _ hq; exact hq)
                · rfl
                · (intro _w hSw; (try dsimp only at hSw); go_simp; try with_reducible rfl)
                · assumption
                try simp only [Act.put, List.setIfInBounds_toArray, List.set_cons_zero, List.set_cons_succ]
                refine take_in (i := 17) (v := ?_) (d := (some 113)) rfl rfl ?_ ?_ ?_ ?_ ?_ ?_ ?_ ?_
                rotate_left
                · kernel_rfl
                · kernel_rfl
                · kernel_rfl
                · (intro _ _ _ hq; exact hq)
                · rfl
                · (intro _w hSw; (try dsimp only at hSw); go_simp; try with_reducible rfl)
                · assumption
                try simp only [Act.put, List.setIfInBounds_toArray, List.set_cons_zero, List.set_cons_succ]
                refine take_in (i := 18) (v := ?_) (d := (some 114)) rfl rfl ?_ ?_ ?_ ?_ ?_ ?_ ?_ ?_
                rotate_left
                · kernel_rfl
                · kernel_rfl
                · kernel_rfl
                · (intro _ _ _ hq; exact hq)
                · rfl
                · (intro _w hSw; (try dsimp only at hSw); go_simp; try with_reducible rfl)
                · assumption
                try simp only [Act.put, List.setIfInBounds_toArray, List.set_cons_zero, List.set_cons_succ]
                refine take_in (i := 19) (v := ?_) (d := (some 115)) rfl rfl ?_ ?_ ?_ ?_ ?_ ?_ ?_ ?_
                rotate_left
                · kernel_rfl
                · kernel_rfl
                · kernel_rfl
                · (intro _ _ _ hq; exact hq)
                · rfl
                · (intro _w hSw; (try dsimp only at hSw); go_simp; try with_reducible rfl)
                · assumption
                try simp only [Act.put, List.setIfInBounds_toArray, List.set_cons_zero, List.set_cons_succ]
                refine take_in (i := 20) (v := ?_) (d := (some 116)) rfl rfl ?_ ?_ ?_ ?_ ?_ ?_ ?_ ?_
                rotate_left
                · kernel_rfl
                · kernel_rfl
                · kernel_rfl
                · (intro _ _ _ hq; exact hq)
                · rfl
                · (intro _w hSw; (try dsimp only at hSw); go_simp; try with_reducible rfl)
                · assumption
                try simp only [Act.put, List.setIfInBounds_toArray, List.set_cons_zero, List.set_cons_succ]
                refine take_in (i := 21) (v := ?_) (d := (some 117)) rfl rfl ?_ ?_ ?_ ?_ ?_ ?_ ?_ ?_
                rotate_left
                · kernel_rfl
                · kernel_rfl
                · kernel_rfl
                · (intro _ _ _ hq; exact hq)
                · rfl
                · (intro _w hSw; (try dsimp only at hSw); go_simp; try with_reducible rfl)
                · assumption
                try simp only [Act.put, List.setIfInBounds_toArray, List.set_cons_zero, List.set_cons_succ]
                refine take_in (i := 22) (v := ?_) (d := (some 118)) rfl rfl ?_ ?_ ?_ ?_ ?_ ?_ ?_ ?_
                rotate_left
                · kernel_rfl
                · kernel_rfl
                · kernel_rfl
                · (intro _ _ _ hq; exact hq)
                · rfl
                · (intro _w hSw; (try dsimp only at hSw); go_simp; try with_reducible rfl)
                · assumption
                try simp only [Act.put, List.setIfInBounds_toArray, List.set_cons_zero, List.set_cons_succ]
                refine take_in (i := 23) (v := ?_) (d := (some 119)) rfl rfl ?_ ?_ ?_ ?_ ?_ ?_ ?_ ?_
                rotate_left
                · kernel_rfl
                · kernel_rfl
                · kernel_rfl
                · (intro _ _ _ hq; exact hq)
                · rfl
                · (intro _w hSw; (try dsimp only at hSw); go_simp; try with_reducible rfl)
                · assumption
                try simp only [Act.put, List.setIfInBounds_toArray, List.set_cons_zero, List.set_cons_succ]
                refine take_in (i := 24) (v := ?_) (d := (some 120)) rfl rfl ?_ ?_ ?_ ?_ ?_ ?_ ?_ ?_
                rotate_left
                · kernel_rfl
                · kernel_rfl
                · kernel_rfl
                · (intro _ _ _ hq; exact hq)
                · rfl
                · (intro _w hSw; (try dsimp only at hSw); go_simp; try with_reducible rfl)
                · assumption
                try simp only [Act.put, List.setIfInBounds_toArray, List.set_cons_zero, List.set_cons_succ]
                refine take_in (i := 25) (v := ?_) (d := (some 121)) rfl rfl ?_ ?_ ?_ ?_ ?_ ?_ ?_ ?_
                rotate_left
                · kernel_rfl
                · kernel_rfl
                · kernel_rfl
                · (intro _ _ _ hq; exact hq)
                · rfl
                · (intro _w hSw; (try dsimp only at hSw); go_simp; try with_reducible rfl)
                · assumption
                try simp only [Act.put, List.setIfInBounds_toArray, List.set_cons_zero, List.set_cons_succ]
                refine take_in (i := 26) (v := ?_) (d := (some 122)) rfl rfl ?_ ?_ ?_ ?_ ?_ ?_ ?_ ?_
                rotate_left
                · kernel_rfl
                · kernel_rfl
                · kernel_rfl
                · (intro _ _ _ hq; exact hq)
                · rfl
                · (intro _w hSw; (try dsimp only at hSw); go_simp; try with_reducible rfl)
                · assumption
                try simp only [Act.put, List.setIfInBounds_toArray, List.set_cons_zero, List.set_cons_succ]
                refine take_in (i := 27) (v := ?_) (d := (some 123)) rfl rfl ?_ ?_ ?_ ?_ ?_ ?_ ?_ ?_
                rotate_left
                · kernel_rfl
                · kernel_rfl
                · kernel_rfl
                · (intro _ _ _ hq; exact hq)
                · rfl
                · (intro _w hSw; (try dsimp only at hSw); go_simp; try with_reducible rfl)
                · assumption
                try simp only [Act.put, List.setIfInBounds_toArray, List.set_cons_zero, List.set_cons_succ]
                refine take_in (i := 28) (v := ?_) (d := (some 124)) rfl rfl ?_ ?_ ?_ ?_ ?_ ?_ ?_ ?_
                rotate_left
                · kernel_rfl
                · kernel_rfl
                · kernel_rfl
                · (intro _ _ _ hq; exact hq)
                · rfl
                · (intro _w hSw; (try dsimp only at hSw); go_simp; try with_reducible rfl)
                · assumption
                try simp only [Act.put, List.setIfInBounds_toArray, List.set_cons_zero, List.set_cons_succ]
                refine take_in (i := 29) (v := ?_) (d := (some 125)) rfl rfl ?_ ?_ ?_ ?_ ?_ ?_ ?_ ?_
                rotate_left
                · kernel_rfl
                · kernel_rfl
                · kernel_rfl
                · (intro _ _ _ hq; exact hq)
                · rfl
                · (intro _w hSw; (try dsimp only at hSw); go_simp; try with_reducible rfl)
                · assumption
                try simp only [Act.put, List.setIfInBounds_toArray, List.set_cons_zero, List.set_cons_succ]
                refine take_in (i := 30) (v := ?_) (d := (some 126)) rfl rfl ?_ ?_ ?_ ?_ ?_ ?_ ?_ ?_
                rotate_left
                · kernel_rfl
                · kernel_rfl
                · kernel_rfl
                · (intro _ _ _ hq; exact hq)
                · rfl
                · (intro _w hSw; (try dsimp only at hSw); go_simp; try with_reducible rfl)
                · assumption
                try simp only [Act.put, List.setIfInBounds_toArray, List.set_cons_zero, List.set_cons_succ]
                refine take_in (i := 31) (v := ?_) (d := (some 127)) rfl rfl ?_ ?_ ?_ ?_ ?_ ?_ ?_ ?_
                rotate_left
                · kernel_rfl
                · kernel_rfl
                · kernel_rfl
                · (intro _ _ _ hq; exact hq)
                · rfl
                · (intro _w hSw; (try dsimp only at hSw); go_simp; try with_reducible rfl)
                · assumption
                try simp only [Act.put, List.setIfInBounds_toArray, List.set_cons_zero, List.set_cons_succ]
                refine take_in (i := 32) (v := ?_) (d := (some 128)) rfl rfl ?_ ?_ ?_ ?_ ?_ ?_ ?_ ?_
                rotate_left
                · kernel_rfl
                · kernel_rfl
                · kernel_rfl
                · (intro _ _ _ hq; exact hq)
                · rfl
                · (intro _w hSw; (try dsimp only at hSw); go_simp; try with_reducible rfl)
                · assumption
                try simp only [Act.put, List.setIfInBounds_toArray, List.set_cons_zero, List.set_cons_succ]
                refine take_in (i := 33) (v := ?_) (d := (some 129)) rfl rfl ?_ ?_ ?_ ?_ ?_ ?_ ?_ ?_
                rotate_left
                · kernel_rfl
                · kernel_rfl
                · kernel_rfl
                · (intro _ _ _ hq; exact hq)
                · rfl
                · (intro _w hSw; (try dsimp only at hSw); go_simp; try with_reducible rfl)
                · assumption
                try simp only [Act.put, List.setIfInBounds_toArray, List.set_cons_zero, List.set_cons_succ]
                refine take_in (i := 34) (v := ?_) (d := (some 130)) rfl rfl ?_ ?_ ?_ ?_ ?_ ?_ ?_ ?_
                rotate_left
                · kernel_rfl
                · kernel_rfl
                · kernel_rfl
                · (intro _ _ _ hq; exact hq)
                · rfl
                · (intro _w hSw; (try dsimp only at hSw); go_simp; try with_reducible rfl)
                · assumption
                try simp only [Act.put, List.setIfInBounds_toArray, List.set_cons_zero, List.set_cons_succ]
                refine take_in (i := 35) (v := ?_) (d := (some 131)) rfl rfl ?_ ?_ ?_ ?_ ?_ ?_ ?_ ?_
                rotate_left
                · kernel_rfl
                · kernel_rfl
                · kernel_rfl
                · (intro _ _ _ hq; exact hq)
                · rfl
                · (intro _w hSw; (try dsimp only at hSw); go_simp; try with_reducible rfl)
                · assumption
                try simp only [Act.put, List.setIfInBounds_toArray, List.set_cons_zero, List.set_cons_succ]
                refine take_in (i := 36) (v := ?_) (d := (some 132)) rfl rfl ?_ ?_ ?_ ?_ ?_ ?_ ?_ ?_
                rotate_left
                · kernel_rfl
                · kernel_rfl
                · kernel_rfl
                · (intro _ _ _ hq; exact hq)
                · rfl
                · (intro _w hSw; (try dsimp only at hSw); go_simp; try with_reducible rfl)
                · assumption
                try simp only [Act.put, List.setIfInBounds_toArray, List.set_cons_zero, List.set_cons_succ]
                refine take_in (i := 37) (v := ?_) (d := (some 133)) rfl rfl ?_ ?_ ?_ ?_ ?_ ?_ ?_ ?_
                rotate_left
                · kernel_rfl
                · kernel_rfl
                · kernel_rfl
                · (intro _ _ _ hq; exact hq)
                · rfl
                · (intro _w hSw; (try dsimp only at hSw); go_simp; try with_reducible rfl)
                · assumption
                try simp only [Act.put, List.setIfInBounds_toArray, List.set_cons_zero, List.set_cons_succ]
                refine take_in (i := 38) (v := ?_) (d := (some 134)) rfl rfl ?_ ?_ ?_ ?_ ?_ ?_ ?_ ?_
                rotate_left
                · kernel_rfl
                · kernel_rfl
                · kernel_rfl
                · (intro _ _ _ hq; exact hq)
                · rfl
                · (intro _w hSw; (try dsimp only at hSw); go_simp; try with_reducible rfl)
                · assumption
                try simp only [Act.put, List.setIfInBounds_toArray, List.set_cons_zero, List.set_cons_succ]
                refine take_in (i := 39) (v := ?_) (d := (some 135)) rfl rfl ?_ ?_ ?_ ?_ ?_ ?_ ?_ ?_
                rotate_left
                · kernel_rfl
                · kernel_rfl
                · kernel_rfl
                · (intro _ _ _ hq; exact hq)
                · rfl
                · (intro _w hSw; (try dsimp only at hSw); go_simp; try with_reducible rfl)
                · assumption
                try simp only [Act.put, List.setIfInBounds_toArray, List.set_cons_zero, List.set_cons_succ]
                refine take_in (i := 40) (v := ?_) (d := (some 136)) rfl rfl ?_ ?_ ?_ ?_ ?_ ?_ ?_ ?_
                rotate_left
                · kernel_rfl
                · kernel_rfl
                · kernel_rfl
                · (intro _ _ _ hq; exact hq)
                · rfl
                · (intro _w hSw; (try dsimp only at hSw); go_simp; try with_reducible rfl)
                · assumption
                try simp only [Act.put, List.setIfInBounds_toArray, List.set_cons_zero, List.set_cons_succ]
                refine wpAnyH_ready (rs := [41]) ?_ ?_ ?_
                · kernel_rfl
                · simp
                refine (AllReadyH.cons rfl (fun K hK => ?_) AllReadyH.nil)
                go_simp
                first | (go_at_call 21; ((with_reducible refine (HC.out _ hHeld.1).mono ?_); rintro e w8 ⟨rfl, hgf⟩; have HG1 := Lib.hid hgf; clear hgf)) | (go_at_call 18; ((with_reducible refine (HAW.out _).mono ?_); rintro e w9 ⟨rfl, hgf⟩; have HG1 := Lib.hid hgf; clear hgf))
                refine hK.out _ _ ?_ (fun hHeld => ?_)
                · ((try dsimp only); (first | exact KS.out _ (Gr.refl _).drew | exact KS.out _ (hHeld.1.trans HG1.out)))
                clear hK K
                try simp only [Act.put, List.setIfInBounds_toArray, List.set_cons_zero, List.set_cons_succ]
                refine take_in (i := 42) (v := ?_) (d := (some 138)) rfl rfl ?_ ?_ ?_ ?_ ?_ ?_ ?_ ?_
                rotate_left
                · kernel_rfl
                · kernel_rfl
                · kernel_rfl
                · (intro _ _ _ hq; exact hq)
                · rfl
                · (intro _w hSw; (try dsimp only at hSw); go_simp; try with_reducible rfl)
                · assumption
                try simp only [Act.put, List.setIfInBounds_toArray, List.set_cons_zero, List.set_cons_succ]
                refine take_in (i := 43) (v := ?_) (d := (some 6)) rfl rfl ?_ ?_ ?_ ?_ ?_ ?_ ?_ ?_
                rotate_left
                · kernel_rfl
                · kernel_rfl
                · kernel_rfl
                · (intro _ _ _ hq; exact hq)
                · rfl
                · (intro _w hSw; (try dsimp only at hSw); go_simp; try with_reducible rfl)
                · assumption
                try simp only [Act.put, List.setIfInBounds_toArray, List.set_cons_zero, List.set_cons_succ]
                refine wpAnyH_done ?_ ?_ _
                · kernel_rfl
                rotate_left
                all_goals
                  go_wp2_with fail
                  try rw [Exit.noGoto_ret]
                  go_ret
                  exact ⟨rfl, hg.trans hHeld.1⟩

end Go.Proofs.Ytcojionipffanab
