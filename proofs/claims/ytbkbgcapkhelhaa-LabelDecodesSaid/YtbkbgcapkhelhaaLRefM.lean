/- Layer 3: the reference's Mended. -/
import Derived.Test.YtbkbgcapkhelhaaLTblM
namespace Go.Proofs.Ytbkbgcapkhelhaa
open Go.RowKit
set_option linter.unusedSimpArgs false

/-- Elements as ints at the head of block g, that may be written. -/
def RowI (w : World) (g : Nat) (xs : List G) : Prop := ∀ i, i < xs.length → w.cell? ⟨g, i, none⟩ = some (.int .i64 ((xs.getD i g0).v : Int)) ∧ w.frozen? ⟨g, i, none⟩ = false
theorem RowI.of {w : World} {base g n c : Nat} {xs : List G} (hn : xs.length = n) (h : w.ownsRow base 3 1 (.slice (some ⟨g, 0, none⟩) n c) n (flatE enc1 (gints xs))) : RowI w g xs := fun i hi => by
  rw [h.cellAt i (by omega), flatI, List.getElem?_map, getD_of g0 hi]
  exact ⟨rfl, h.frozenAt _⟩
theorem RowI.keep {w w' : World} {g : Nat} {xs : List G} (h : RowI w g xs) (hg : Gr w w') : RowI w' g xs := fun i hi => by
  obtain ⟨h1, h2⟩ := h i hi
  exact ⟨hg.keep h1, (frozen_gr hg (World.block_lt_of_cell? w _ h1)).trans h2⟩
theorem RowI.put {w : World} {g : Nat} {xs : List G} (h : RowI w g xs) {k : Nat} (hk : k < xs.length) (y : G) : RowI (w.setCell ⟨g, k, none⟩ (.int .i64 (y.v : Int))) g (xs.set k y) := fun i hi => by
  have hi' : i < xs.length := by simpa using hi
  obtain ⟨h1, h2⟩ := h i hi'
  refine ⟨?_, by rw [frozen_put]; exact h2⟩
  by_cases e : i = k
  · subst e
    rw [World.cell?_setCell_same _ _ _ (by rw [h1]), List.getD_eq_getElem?_getD, List.getElem?_set_self hi']; rfl
  · rw [World.cell?_setCell_other _ _ _ _ (fun h => e (by injection h with _ h; omega)), h1, List.getD_eq_getElem?_getD, List.getD_eq_getElem?_getD, List.getElem?_set_ne (Ne.symm e)]
theorem RowI.pts {w : World} {g : Nat} {xs : List G} (h : RowI w g xs) : Ints w (some ⟨g, 0, none⟩) (gints xs) := fun i x hx => by
  have hi : i < xs.length := by have := (List.getElem?_eq_some_iff.1 hx).1; rwa [gints_len] at this
  obtain ⟨h1, -⟩ := h i hi
  have hd : ((xs.getD i g0).v : Int) = x := by
    rw [← gints_at hi, List.getD_eq_getElem?_getD, hx]; rfl
  rw [hd] at h1
  refine ⟨g, 0, rfl, fun j v hv => ?_⟩
  match j, hv with
  | 0, hv => obtain rfl := Option.some.inj hv; rw [Nat.mul_one, Nat.add_zero, Nat.zero_add]; exact h1
  | j + 1, hv => simp [enc1] at hv

def MdPost (ws : List G) (n p : Nat) (al : List Nat) (w : World) (e : Ending) (w' : World) : Prop :=
  ∃ (B : Option Addr) (k c : Nat) (os : List G) (b : Bool), e = .returned (.tuple #[.slice B k c, .bool b]) ∧ Gr w w' ∧ (b = true → k = n ∧ n ≤ c ∧ os.length = n ∧ Ints w' B (gints os)) ∧
    (∀ cs, cs.length = n → isB cs p = true → al.Nodup → (∀ i, i < n → i ∉ al → difB ws cs i = false) → al.length ≤ p → b = true ∧ os = cs)
set_option maxRecDepth 100000 in
set_option maxHeartbeats 20000000 in
theorem rMended_any (A : Option Addr) (n ca p : Nat) (ws : List G) (A2 : Option Addr) (m c2 : Nat) (al : List Nat) (w : World) (hw : ws.length = n) (h1 : 1 ≤ n) (hn : n ≤ 255) (hp : p ≤ 64) (hm : al.length = m) (hl : ∀ i ∈ al, i < n) (hA : Ints w A (gints ws)) (hA2 : Ints w A2 (nats al)) :
    Calls Try.prog 51 #[.slice A n ca, .int .i64 (p : Int), .slice A2 m c2] w (MdPost ws n p al w) := by
  obtain ⟨i0, hi0, hz0, hz1, hz2⟩ := info_parts Try.infoInt
  obtain ⟨k0, hk0, hk1, hk2, hk3⟩ := info_parts Try.infoSl
  have HA := Lib.hid hA
  have HA2 := Lib.hid hA2
  have HW := Lib.hid hw
  have HM := Lib.hid hm
  have HL := Lib.hid hl
  have HS := Lib.hid (rSyndromes_any A n ca p ws w hw (by omega) (by omega) hA)
  clear hA hA2 hw hm hl
  by_cases hmp : p < m
  · have hmp' : (p : Int) < (m : Int) := by omega
    go_enter Try.func51, Try.ntmps51
    go_wp2_with fail
    go_ret2
    exact ⟨none, 0, 0, [], false, rfl, Gr.refl _, (fun e => by cases e), fun cs _ _ _ _ h => by have := HM.out; omega⟩
  · have hmp' : ¬ ((p : Int) < (m : Int)) := by omega
    go_enter Try.func51, Try.ntmps51
    go_wp2_with fail
    refine HS.out.mono ?_
    rintro e w1 ⟨B1, c1, rfl, hB1, -, hg1⟩
    have HB1 := Lib.hid hB1
    have HG1 := Lib.hid hg1
    have HSL := Lib.hid (synL_len ws p)
    obtain ⟨ss, hss⟩ : ∃ ss, synL ws p = ss := ⟨_, rfl⟩
    rw [hss] at HB1 HSL
    have HSS := Lib.hid hss
    clear hB1 hg1 hss HS
    go_wp2_with fail
    go_loopw [9, 10] (fun v z wr => ∃ (i : Nat) (vs : List Value), i ≤ p ∧ z = .int .i64 i ∧ Hid (wr.ownsRow w1.heap.size 34 1 v i vs) ∧ Hid (RowsV wr vs (mdRows n al ss i) (m + 1)) ∧ Hid (Gr w1 wr)) (fun _ z _ => p - (intOf z).toNat)
    case atStart => exact ⟨0, [], Nat.zero_le _, rfl, Lib.hid (World.ownsRow_nil _ _ _ _), Lib.hid (RowsV.start _ _), Lib.hid (Gr.refl _)⟩
    case round =>
      obtain ⟨i, vs, hi, rfl, hown, hRV, hg⟩ := hrel
      by_cases hlt : i < p
      · rename World => wi
        have HRS := Lib.hid (mdRows_snoc n al ss i)
        have HRL : Hid ((al.map fun a => gw (plc n a) i).length = m) := Lib.hid (by rw [List.length_map]; exact HM.out)
        have HRT : Hid (∀ k, k < m → (al.map fun a => gw (plc n a) i).take (k + 1) = (al.map fun a => gw (plc n a) i).take k ++ [gw (plc n (al.getD k 0)) i]) := Lib.hid (fun k hk => by
          rw [List.take_add_one, List.getElem?_map, getD_of 0 (by rw [HM.out]; exact hk)]; rfl)
        have HRW : Hid (mdRow n al ss i = (al.map fun a => gw (plc n a) i) ++ [ss.getD i g0]) := Lib.hid rfl
        have HRWL := Lib.hid (mdRow_len n al ss i)
        generalize (al.map fun a => gw (plc n a) i) = pl at HRL HRT HRW
        go_wp2_with fail
        go_loopw [11, 12] (fun v z wx => ∃ k : Nat, k ≤ m ∧ z = .int .i64 k ∧ Hid (wx.ownsRow wi.heap.size 3 1 v k (flatE enc1 (gints (pl.take k)))) ∧ Hid (Gr wi wx)) (fun _ z _ => m - (intOf z).toNat)
        case atStart => exact ⟨0, Nat.zero_le _, rfl, Lib.hid (World.ownsRow_nil _ _ _ _), Lib.hid (Gr.refl _)⟩
        case round =>
          obtain ⟨k, hk, rfl, hrow, hgx⟩ := hrel
          by_cases hltk : k < m
          · have hkl : k < al.length := by rw [HM.out]; exact hltk
            obtain ⟨b, o, rfl, e0⟩ := Ints_at (HA2.out.keep ((HG1.out.trans hg.out).trans hgx.out)) (i := k) (by rw [nats_len]; exact hkl)
            rw [nats_at hkl] at e0
            have hain := HL.out (al.getD k 0) (List.mem_of_getElem? (getD_of 0 hkl))
            have HTK := Lib.hid (HRT.out k hltk)
            generalize al.getD k 0 = a at e0 hain HTK
            have HPL := Lib.hid (fun W => rplace_any n a hn hain W)
            have HPW := Lib.hid (fun W => rPow_any (plc n a) i (by omega) W)
            generalize gw (plc n a) i = y at HTK HPW
            generalize plc n a = pa at HPL HPW
            have hrow2 := hrow
            have hsz := hgx.out.size
            go_wp2_with fail
            refine (HPL.out _).mono ?_
            rintro e w4 ⟨rfl, rfl⟩
            go_wp2_with fail
            refine (HPW.out _).mono ?_
            rintro e w4 ⟨rfl, rfl⟩
            go_wp2_with (at_builtin; refine wpList_append_own _ rfl _ _ 34 rfl wi.heap.size 3 i0 _ 1 8 Try.underlying34 hi0 hz0 hz1 hz2 rfl (by decide) _ _ _ rfl (hrow2.out.alloc _) ⟨w4.heap.size, 0, none⟩ 1 1 [.int .i64 (y.v : Int)] rfl rfl ?a1 ?a2 ?a3 ?a4 ?a5 ?_)
            case a1 =>
              intro t u ht
              rw [Addr.add_lit]
              exact alloc_new rfl (by rw [Nat.zero_add]; simpa using ht)
            case a2 => intro u hu; obtain rfl := List.mem_singleton.1 hu; rfl
            case a3 => unfold maxLen; omega
            case a4 => omega
            case a5 => simp; omega
            intro v' w5 hown' hgrow _
            have hga : Gr wi (w4.alloc _) := hgx.out.alloc (.cells #[.int .i64 (y.v : Int)] 3)
            have hgb : Gr wi w5 := Below.grown hga hgrow hga.size (fun t ht => (hrow2.out.lt t ht).1)
            have HO2 := Lib.hid hown'
            clear hown' hgrow hga
            go_wp2_with fail
            go_roundw
            case rel => exact ⟨k + 1, by omega, by go_num, Lib.hid (by
              rw [HTK.out, gints_snoc, flat_snoc1]
              exact HO2.out), Lib.hid hgb⟩
            case measure => simp [intOf]; omega
          · have hkm : k = m := by omega
            have hltk' : ¬ ((k : Int) < (m : Int)) := by omega
            rw [hkm, List.take_of_length_le (by rw [HRL.out]; exact Nat.le_refl _)] at hrow
            obtain ⟨b, o, rfl, e0⟩ := Ints_at (HB1.out.keep (hg.out.trans hgx.out)) (i := i) (by rw [gints_len, HSL.out]; exact hlt)
            rw [gints_at (by rw [HSL.out]; exact hlt)] at e0
            generalize ss.getD i g0 = y at e0 HRW
            have hrow2 := hrow
            have hsz := hgx.out.size
            clear hkm
            go_wp2_with (at_builtin; refine wpList_append_own _ rfl _ _ 34 rfl wi.heap.size 3 i0 _ 1 8 Try.underlying34 hi0 hz0 hz1 hz2 rfl (by decide) _ _ _ rfl (hrow2.out.alloc _) ⟨wr.heap.size, 0, none⟩ 1 1 [.int .i64 (y.v : Int)] rfl rfl ?a1 ?a2 ?a3 ?a4 ?a5 ?_)
            case a2 => first | (intro u hu; obtain rfl := List.mem_singleton.1 hu; rfl) | rfl | simp
            case a3 => first | (unfold maxLen; omega) | omega | simp
            case a4 => first | omega
            case a5 => first | (simp; omega) | omega | assumption
            intro v' w5 hown' hgrow _
            have hga : Gr wi (wr.alloc _) := hgx.out.alloc (.cells #[.int .i64 (y.v : Int)] 3)
            have hgb : Gr wi w5 := Below.grown hga hgrow hga.size (fun t ht => (hrow2.out.lt t ht).1)
            have hown2 : w5.ownsRow wi.heap.size 3 1 v' (m + 1) (flatE enc1 (gints (mdRow n al ss i))) := by
              rw [HRW.out, gints_snoc, flat_snoc1]; exact hown'
            have HML1 : Hid ((mdRow n al ss i).length = m + 1) := Lib.hid (by rw [HRWL.out, HM.out])
            obtain ⟨Br, cr, rfl, hrd, hty⟩ := own_row3 (k := 1) (fun _ => rfl) (by rw [gints_len]; exact HML1.out) hown2
            have HRD := Lib.hid hrd
            have HTY := Lib.hid hty
            have HGB := Lib.hid hgb
            have HOW := Lib.hid (owns_gr hown.out hgb)
            have HRV5 := Lib.hid (hRV.out.keep hgb)
            clear hown' hgrow hga hown2 hrd hty hgb
            have hsz5 := HGB.out.size
            have hszi := hg.out.size
            go_wp2_with (at_builtin; refine wpList_append_own _ rfl _ _ 76 rfl w1.heap.size 34 k0 _ 1 24 Try.underlying76 hk0 hk1 hk2 hk3 rfl (by decide) _ _ _ rfl (HOW.out.alloc _) ⟨w5.heap.size, 0, none⟩ 1 1 [.slice Br (m + 1) cr] rfl rfl ?b1 ?b2 ?b3 ?b4 ?b5 ?_)
            case b1 =>
              intro t u ht
              rw [Addr.add_lit]
              exact alloc_new rfl (by rw [Nat.zero_add]; simpa using ht)
            case b2 => intro u hu; obtain rfl := List.mem_singleton.1 hu; rfl
            case b3 => unfold maxLen; omega
            case b4 => omega
            case b5 => simp; omega
            intro v' w6 hown6 hgrow6 _
            have hga6 : Gr w5 (w5.alloc (.cells #[.slice Br (m + 1) cr] 34)) := (Gr.refl _).alloc _
            have HRV6 : Hid (RowsV w6 (vs ++ [.slice Br (m + 1) cr]) (mdRows n al ss (i + 1)) (m + 1)) := Lib.hid (by
              rw [HRS.out]
              exact (HRV5.out.keep hga6).more (HOW.out.alloc _) hgrow6 (HRD.out.keep hga6) HML1.out (fun b o e => by obtain ⟨cur, hB⟩ := HTY.out b o e; exact ⟨cur, hB.keep hga6⟩))
            have hgb6 : Gr w1 w6 := Below.grown ((hg.out.trans HGB.out).trans hga6) hgrow6 (by simp; omega) (fun t ht => (HOW.out.lt t ht).1)
            have HO6 := Lib.hid hown6
            clear hown6 hgrow6 hga6
            go_wp2_with fail
            go_roundw
            case rel => exact ⟨i + 1, _, by omega, by go_num, HO6, HRV6, Lib.hid hgb6⟩
            case measure => simp [intOf]; omega
      · have hip : i = p := by omega
        have hlt' : ¬ ((i : Int) < (p : Int)) := by omega
        rw [hip] at hown hRV
        obtain ⟨A3, cap3, g, rfl, hTb, hbg⟩ := hRV.out.tb hown.out (mdRows_len n al ss p)
        have HSO := Lib.hid (solve_any A3 p cap3 m g (mdRows n al ss p) wr (mdRows_len _ _ _ _) hp (by omega) (by rw [← HM.out]; exact mdRows_wid n al ss p) hTb)
        clear hown hRV hip hTb
        go_wp2_with fail
        refine HSO.out.mono ?_
        rintro e w6 ⟨B, k, c, xs, b, rfl, hgb, hyes, hno⟩
        have HG6 : Hid (Gr w w6) := Lib.hid (HG1.out.trans (hgb.gr hg.out hbg))
        cases b with
        | false =>
          have HNO : Hid (∀ cs, cs.length = n → isB cs p = true → al.Nodup → (∀ i, i < n → i ∉ al → difB ws cs i = false) → al.length ≤ p → False) := Lib.hid (fun cs hc hB hd hf h => by
            have h1 := md_sat HW.out hc hB hd HL.out hf
            have h2 := md_triv (ss := synL ws p) hn hd HL.out h
            rw [HSS.out, HM.out] at h1 h2
            exact hno rfl _ h1 h2)
          clear hyes hno HSO
          go_wp2_with fail
          go_ret2
          exact ⟨none, 0, 0, [], false, rfl, HG6.out, (fun e => by cases e), fun cs hc hB hd hf h => (HNO.out cs hc hB hd hf h).elim⟩
        | true =>
          obtain ⟨rfl, hxl, hxI, hxe⟩ := hyes rfl
          have HXL := Lib.hid hxl
          have HXI := Lib.hid hxI
          have HXE : Hid (∀ cs, cs.length = n → isB cs p = true → al.Nodup → (∀ i, i < n → i ∉ al → difB ws cs i = false) → al.length ≤ p → putK al xs ws k = cs) := Lib.hid (fun cs hc hB hd hf h => by
            have h1 := md_sat HW.out hc hB hd HL.out hf
            have h2 := md_triv (ss := synL ws p) hn hd HL.out h
            rw [HSS.out, HM.out] at h1 h2
            have h3 := hxe _ h1 h2
            rw [← HM.out] at h3 ⊢
            exact md_done HW.out hc hd HL.out hf h3)
          obtain ⟨bw, ow, rfl, -⟩ := Ints_at HA.out (i := 0) (by rw [gints_len, HW.out]; omega)
          have HNW := Lib.hid (Rd_news enc1_len (by decide) (HA.out.keep HG6.out))
          have HFL : Hid ((flatE enc1 (gints ws)).length = n * 1) := Lib.hid (by rw [flatE_len enc1_len, gints_len, HW.out])
          clear hno hyes hxl hxI hxe HSO hgb
          go_wp2_with (at_builtin; refine wpList_append_own _ rfl _ _ 34 rfl w6.heap.size 3 i0 _ 1 8 Try.underlying34 hi0 hz0 hz1 hz2 rfl (by decide) _ _ _ rfl (World.ownsRow_nil w6 _ _ _) ⟨bw, ow, none⟩ n ca (flatE enc1 (gints ws)) rfl ?b1 ?b2 ?b3 ?b4 ?b5 ?b6 ?_)
          case b1 => exact HFL.out
          case b2 => exact HNW.out
          case b3 => exact oneCell_flat enc1_one _
          case b4 => unfold maxLen; omega
          case b5 => omega
          case b6 => exact Nat.le_refl _
          intro v' w7 hown7 hgrow7 _
          have hown7' : w7.ownsRow w6.heap.size 3 1 v' n (flatE enc1 (gints ws)) := by simpa using hown7
          obtain ⟨g2, cg, rfl, hcg⟩ := owns_shape hown7' (by omega)
          have HR7 := Lib.hid (RowI.of HW.out hown7')
          have hg2 : w6.heap.size ≤ g2 := (hown7'.lt g2 rfl).1
          have HG7 : Hid (Gr w6 w7) := Lib.hid (Below.grown (Gr.refl w6) hgrow7 (Nat.le_refl _) (fun t ht => by cases ht))
          clear hown7 hown7' hgrow7
          go_wp2_with fail
          go_loopw [16] (fun z wy => ∃ j : Nat, j ≤ k ∧ z = .int .i64 j ∧ Hid (RowI wy g2 (putK al xs ws j)) ∧ Hid (Gb g2 w7 wy)) (fun z _ => k - (intOf z).toNat)
          case atStart => exact ⟨0, Nat.zero_le _, rfl, HR7, Lib.hid (Gb.refl _ _)⟩
          case round =>
            obtain ⟨j, hj, rfl, hR, hG⟩ := hrel
            by_cases hltj : j < k
            · have hg6y := hG.out.gr HG7.out hg2
              have hjl : j < al.length := by rw [HM.out]; exact hltj
              obtain ⟨b, o, rfl, e0⟩ := Ints_at (HA2.out.keep (HG6.out.trans hg6y)) (i := j) (by rw [nats_len]; exact hjl)
              rw [nats_at hjl] at e0
              obtain ⟨b', o', rfl, e1⟩ := Ints_at (HXI.out.keep hg6y) (i := j) (by rw [gints_len, HXL.out]; exact hltj)
              rw [gints_at (by rw [HXL.out]; exact hltj)] at e1
              have hain := HL.out (al.getD j 0) (List.mem_of_getElem? (getD_of 0 hjl))
              have HST : Hid (putK al xs ws (j + 1) = (putK al xs ws j).set (al.getD j 0) ((putK al xs ws j).getD (al.getD j 0) g0 + xs.getD j g0)) := Lib.hid rfl
              have hpl : (putK al xs ws j).length = n := by rw [putK_len]; exact HW.out
              generalize putK al xs ws j = os at hR HST hpl
              generalize al.getD j 0 = a at e0 hain HST
              generalize xs.getD j g0 = y at e1 HST
              obtain ⟨r1, r2⟩ := hR.out a (by omega)
              have HPL := Lib.hid hpl
              generalize os.getD a g0 = x at r1 HST
              have hx := i64_xor_gg x y
              clear hpl
              go_wp2_with fail
              go_region_law (fail)
              all_goals
                go_wp2_with fail
                go_roundw
                case rel =>
                  refine ⟨j + 1, by omega, by go_num, Lib.hid ?_, Lib.hid ((hG.out.put a _).drew)⟩
                  rw [HST.out]
                  exact (hR.out.put (k := a) (by rw [HPL.out]; exact hain) (x + y)).keep ((Gr.refl _).drew)
                case measure => simp [intOf]; omega
            · have hjk : j = k := by omega
              have hltj' : ¬ ((j : Int) < (k : Int)) := by omega
              rw [hjk] at hR
              have HPL : Hid ((putK al xs ws k).length = n) := Lib.hid (by rw [putK_len]; exact HW.out)
              clear hjk
              go_wp2_with fail
              try rw [Exit.noGoto_ret]
              go_ret2
              exact ⟨some ⟨g2, 0, none⟩, n, cg, putK al xs ws k, true, rfl, HG6.out.trans (hG.out.gr HG7.out hg2), fun _ => ⟨rfl, hcg, HPL.out, hR.out.pts⟩, fun cs hc hB hd hf h => ⟨rfl, HXE.out cs hc hB hd hf h⟩⟩
end Go.Proofs.Ytbkbgcapkhelhaa
