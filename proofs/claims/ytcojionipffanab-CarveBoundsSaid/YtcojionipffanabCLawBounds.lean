/- The law CarveBounds as a walk. -/
import Derived.Test.YtcojionipffanabCLawPlans
import Derived.Test.YtcojionipffanabCRBound
import Derived.Test.YtcojionipffanabCTab
namespace Go.Proofs.Ytcojionipffanab
open Go.RowKit
set_option linter.unusedSimpArgs false

theorem cutTb_len (tb : List (List Int)) : (cutTb tb).length ≤ 50 := by unfold cutTb; rw [List.length_map]; exact List.length_take_le ..
theorem cutTb_short (tb : List (List Int)) : ∀ row ∈ cutTb tb, row.length ≤ 50 := fun row hr => by
  obtain ⟨z, -, rfl⟩ := List.mem_map.1 hr
  exact List.length_take_le ..

set_option maxRecDepth 100000 in
set_option maxHeartbeats 4000000 in
theorem lawBounds_any (W H : Int) (A : Option Addr) (n c : Nat) (bs : List Bl) (TA : Option Addr) (tn tc : Nat) (tb : List (List Int)) (w : World) (hn : bs.length = n) (hl : n ≤ 9223372036854775807) (hc : n ≤ c) (h0 : A = none → c = 0) (hp : Tris w A bs)
    (htn : tb.length = tn) (htl : tn ≤ 9223372036854775807) (htp : RdT w TA tb) :
    Calls Try.prog 4 #[.agg #[.int .i64 W, .int .i64 H, .slice A n c], .slice TA tn tc] w fun e w' => e = .returned (.bool true) ∧ Gr w w' := by
  have HB := Lib.hid (fun W' (g : Gr w W') => blanks_any A n c bs W' hn hl hc h0 (hp.keep g))
  have HTB := Lib.hid (fun W' (g : Gr w W') => table_any TA tn tc tb W' htn htl (htp.keep g))
  have hbl : (bs.take 17).length ≤ 17 := List.length_take_le ..
  have htl50 := cutTb_len tb
  have HSH := Lib.hid (cutTb_short tb)
  generalize bs.take 17 = qs at HB hbl
  generalize cutTb tb = T at HTB htl50 HSH
  obtain ⟨q, hq⟩ : ∃ q, qs.length = q := ⟨_, rfl⟩
  have HQ := Lib.hid hq
  rw [hq] at hbl
  obtain ⟨k, hk⟩ : ∃ k, T.length = k := ⟨_, rfl⟩
  have HK := Lib.hid hk
  rw [hk] at htl50
  clear hn hl hc h0 hp hq htn htl htp hk
  go_enter Try.func4, Try.ntmps4
  go_wp2_with fail
  generalize hW : World.alloc w _ = W0
  obtain ⟨hg, k1, k2, k3⟩ := task_box hW
  clear hW
  go_wp2_with fail
  refine (HB.out _ hg).mono ?_
  rintro e w1 ⟨A1, c1, rfl, hc1, hT1, -, -, hb1⟩
  rw [HQ.out]
  have HT1 := Lib.hid hT1
  replace hg := hg.trans hb1
  replace k1 := hb1.keep k1
  replace k2 := hb1.keep k2
  replace k3 := hb1.keep k3
  clear hT1 hb1 hc1
  go_wp2_with fail
  refine (HTB.out _ hg).mono ?_
  rintro e w2 ⟨A2, c2, rfl, hc2, hR2, hb2⟩
  rw [HK.out]
  have HR2 := Lib.hid hR2
  have HT2 := Lib.hid (HT1.out.keep hb2)
  replace hg := hg.trans hb2
  replace k1 := hb2.keep k1
  replace k2 := hb2.keep k2
  replace k3 := hb2.keep k3
  clear hR2 hb2 hc2 HT1 HTB HB
  go_wp2_with fail
  refine (Check_any W H A1 A2 q c1 k c2 qs T _ HQ.out (by omega) HK.out (by omega) (fun row hr => Nat.le_trans (HSH.out row hr) (by omega)) HT2.out HR2.out).mono ?_
  rintro e w3 ⟨rfl, hb3⟩
  have HR3 := Lib.hid (HR2.out.keep hb3)
  have HT3 := Lib.hid (HT2.out.keep hb3)
  replace hg := hg.trans hb3
  replace k1 := hb3.keep k1
  replace k2 := hb3.keep k2
  replace k3 := hb3.keep k3
  clear hb3 HR2 HT2
  cases ht : taskB W H qs
  · have HCK : Hid (checkL W H qs T = 2) := Lib.hid (by unfold checkL; rw [ht]; rfl)
    have HT := Lib.hid ht
    rw [HCK.out]
    clear ht
    have d1 : ((2 : Int) == 2) = true := by simp
    go_wp2_with fail
    refine (rTask_any W H A1 q c1 qs _ HQ.out (by omega) HT3.out _ HT.out).mono ?_
    rintro e w4 ⟨rfl, hb4⟩
    go_wp2_with fail
    refine (cawake_any _).mono ?_
    rintro e w5 ⟨rfl, hb5⟩
    go_wp2_with fail
    go_ret
    exact ⟨rfl, (hg.trans hb4).trans hb5⟩
  · obtain ⟨⟨hW1, hW2⟩, ⟨hH1, hH2⟩, h16, hbs⟩ := (taskB_iff _ _ _).1 ht
    obtain ⟨W, rfl⟩ : ∃ z : Nat, W = z := ⟨W.toNat, by omega⟩
    obtain ⟨H, rfl⟩ : ∃ z : Nat, H = z := ⟨H.toNat, by omega⟩
    have HT := Lib.hid ht
    have HBS := Lib.hid hbs
    obtain ⟨r, hr⟩ : ∃ r, (formB W H T && boundB qs T W H) = r := ⟨_, rfl⟩
    have HRR := Lib.hid hr
    have HCK : Hid (checkL W H qs T = if r = true then 0 else 21) := Lib.hid (by unfold checkL; rw [ht, if_pos rfl, Int.toNat_natCast, Int.toNat_natCast, hr])
    rw [HCK.out]
    clear ht hbs hr h16 HCK
    have hq16 : q ≤ 16 := by have := ((taskB_iff _ _ _).1 HT.out).2.2.1; have := HQ.out; omega
    cases r
    · rw [if_neg (by simp)]
      have d1 : ((21 : Int) == 21) = true := by simp
      go_wp2_with fail
      refine (rTask_any W H A1 q c1 qs _ HQ.out (by omega) HT3.out _ HT.out).mono ?_
      rintro e w4 ⟨rfl, hb4⟩
      have k1' := hb4.keep k1
      have k2' := hb4.keep k2
      go_wp2_with fail
      refine (rBound_any W H (by omega) (by omega) A1 A2 q c1 k c2 qs T _ HQ.out hq16 HBS.out HK.out (fun row hr => Nat.le_trans (HSH.out row hr) (by omega)) (HT3.out.keep hb4) (HR3.out.keep hb4)).mono ?_
      rintro e w5 ⟨rfl, hb5⟩
      rw [HRR.out]
      go_wp2_with fail
      refine (cawake_any _).mono ?_
      rintro e w6 ⟨rfl, hb6⟩
      go_wp2_with fail
      go_ret
      exact ⟨rfl, ((hg.trans hb4).trans hb5).trans hb6⟩
    · rw [if_pos rfl]
      have d1 : ((0 : Int) == 0) = true := by simp
      go_wp2_with fail
      refine (rTask_any W H A1 q c1 qs _ HQ.out (by omega) HT3.out _ HT.out).mono ?_
      rintro e w4 ⟨rfl, hb4⟩
      have k1' := hb4.keep k1
      have k2' := hb4.keep k2
      go_wp2_with fail
      refine (rBound_any W H (by omega) (by omega) A1 A2 q c1 k c2 qs T _ HQ.out hq16 HBS.out HK.out (fun row hr => Nat.le_trans (HSH.out row hr) (by omega)) (HT3.out.keep hb4) (HR3.out.keep hb4)).mono ?_
      rintro e w5 ⟨rfl, hb5⟩
      rw [HRR.out]
      go_wp2_with fail
      refine (cawake_any _).mono ?_
      rintro e w6 ⟨rfl, hb6⟩
      go_wp2_with fail
      go_ret
      exact ⟨rfl, ((hg.trans hb4).trans hb5).trans hb6⟩

end Go.Proofs.Ytcojionipffanab
