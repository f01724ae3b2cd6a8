/- The law CarveRests as a walk. -/
import Derived.Test.YtcojionipffanabCAll
import Derived.Test.YtcojionipffanabCMade
namespace Go.Proofs.Ytcojionipffanab
open Go.RowKit
set_option linter.unusedSimpArgs false

set_option maxRecDepth 100000 in
set_option maxHeartbeats 4000000 in
theorem lawRests_any (W0 H0 : Int) (A : Option Addr) (n c : Nat) (bs : List Bl) (w : World) (hn : bs.length = n) (hl : n ≤ 9223372036854775807) (_hc : n ≤ c) (_h0 : A = none → c = 0) (hp : Tris w A bs) :
    Calls Try.prog 10 #[.agg #[.int .i64 W0, .int .i64 H0, .slice A n c]] w fun e w' => e = .returned (.bool true) ∧ Gr w w' := by
  have HTM := Lib.hid (fun W' (g : Gr w W') => tame_any W0 H0 A n c bs 20 W' (by omega) (by omega) hn hl (hp.keep g))
  obtain ⟨W, H, e1, e2, hW, hH, h16, hbl⟩ := tame_task 20 (by omega) (by omega) W0 H0 bs
  rw [show ((20 : Nat) : Int) = 20 from rfl] at e1 e2
  rw [e1, e2] at HTM
  generalize tameL bs = qs at HTM h16 hbl
  obtain ⟨q, hq⟩ : ∃ q, qs.length = q := ⟨_, rfl⟩
  have HQ := Lib.hid hq
  rw [hq] at h16
  have HT := Lib.hid (task_ok (W := W) (H := H) (by omega) (by omega) (by omega) hbl)
  have HBL := Lib.hid hbl
  have hWH : (W : Int) * H ≤ 400 := by
    have := Int.mul_le_mul (show (W : Int) ≤ 20 by omega) (show (H : Int) ≤ 20 by omega) (by omega) (by omega)
    omega
  have hWH0 : 0 ≤ (W : Int) * H := Int.mul_nonneg (by omega) (by omega)
  clear hn hl hp hq hbl e1 e2
  go_enter Try.func10, Try.ntmps10
  go_wp2_with fail
  generalize hW1 : World.alloc w _ = W1
  obtain ⟨hg, k1, k2, k3⟩ := task_box hW1
  clear hW1
  go_wp2_with fail
  refine (HTM.out _ hg).mono ?_
  rintro e w1 ⟨A1, c1, rfl, hc1, hT1, h01, -, hg1⟩
  rw [HQ.out]
  rw [HQ.out] at hc1
  replace hg := hg.trans hg1
  clear k1 k2 k3 hg1
  have HT1 := Lib.hid hT1
  clear hT1
  go_wp2_with fail
  generalize hW2 : World.alloc w1 _ = w2
  obtain ⟨hg2, k1, k2, k3⟩ := task_box hW2
  generalize hS : w1.heap.size = S at k1 k2 k3 ⊢
  have HT2 := Lib.hid (HT1.out.keep hg2)
  replace hg := hg.trans hg2
  clear hW2 hS hg2 HT1 HTM
  refine (Best_yes W H A1 q c1 qs _ HQ.out (by omega) HT2.out HT.out).mono ?_
  rintro e w3 ⟨P, m, gp, cp, gb, rfl, hM, -, hPc, -, -, hown, -, hg3⟩
  have HPL := Lib.hid (hM.small (by omega) (by omega) (by omega) (by omega))
  have HV := Lib.hid (worthL_of hM HT.out)
  have HR := Lib.hid (restL_of hM HT.out)
  have HPP := Lib.hid (PlanPost.pts hown)
  have HMD := Lib.hid hM.made
  have HAR := Lib.hid (hM.area HBL.out)
  obtain ⟨pn, hpn⟩ : ∃ pn, P.length = pn := ⟨_, rfl⟩
  have HPN := Lib.hid hpn
  rw [hpn] at HPL hPc ⊢
  have hnl : pn ≤ 4607 := HPL.out
  have HT3 := Lib.hid (HT2.out.keep hg3)
  replace k1 := hg3.keep k1
  replace k2 := hg3.keep k2
  replace k3 := hg3.keep k3
  replace hg := hg.trans hg3
  clear hM hown hpn HPL hg3 HT2
  go_wp2_with fail
  refine (Worth_any W H A1 _ q c1 pn cp qs P _ HQ.out (by omega) HPN.out (by omega) HT3.out HPP.out).mono ?_
  rintro e w4 ⟨rfl, hg4⟩
  rw [HV.out]
  dsimp only
  have HT4 := Lib.hid (HT3.out.keep hg4)
  have HP4 := Lib.hid (HPP.out.keep hg4)
  replace k1 := hg4.keep k1
  replace k2 := hg4.keep k2
  replace k3 := hg4.keep k3
  replace hg := hg.trans hg4
  clear hg4 HT3 HPP
  go_wp2_with fail
  refine (Rest_any W H A1 _ q c1 pn cp qs P _ HQ.out (by omega) HPN.out (by omega) HT4.out HP4.out).mono ?_
  rintro e w5 ⟨rfl, hg5⟩
  rw [HR.out]
  dsimp only
  have HT5 := Lib.hid (HT4.out.keep hg5)
  have HP5 := Lib.hid (HP4.out.keep hg5)
  replace k1 := hg5.keep k1
  replace k2 := hg5.keep k2
  replace k3 := hg5.keep k3
  replace hg := hg.trans hg5
  clear hg5 HT4 HP4
  have har := HAR.out
  have hd : decide ((W : Int) * H - sumA m < 0) = false := decide_eq_false (by omega)
  have hm0 : 0 ≤ sumA m := (sum_bd HBL.out (by rw [← HMD.out.1]; exact msL_mem HMD.out.2)).2.1
  go_wp2_with fail
  have HM := Lib.hid HMD.out.1
  have hbd := fun k => sum_bd HBL.out (msL_mem (bs := qs) (P := P.drop k) (fun s hs => HMD.out.2 s (List.mem_of_mem_drop hs)))
  have HBD := Lib.hid hbd
  clear hbd har hd hm0
  go_loopw [7, 9, 11] (fun v r z wr => ∃ k : Nat, k ≤ pn ∧ z = .int .i64 k ∧ v = .int .i64 (sumV (msL qs (P.drop k))) ∧ r = .int .i64 ((W : Int) * H - sumA (msL qs (P.drop k))) ∧ Gr w5 wr) (fun _ _ z _ => pn - (intOf z).toNat)
  case atStart => exact ⟨0, Nat.zero_le _, rfl, by rw [List.drop_zero, HM.out], by rw [List.drop_zero, HM.out], Gr.refl _⟩
  case round =>
    obtain ⟨k, hk, rfl, rfl, rfl, hgr⟩ := hrel
    by_cases hlt : k < pn
    · have hkl : k < P.length := by have := HPN.out; omega
      obtain ⟨b, off, e, p1, p2⟩ := Pts_at (HP5.out.keep hgr) hkl
      obtain ⟨rfl, rfl⟩ : gp = b ∧ 0 = off := by simpa using e
      rw [Nat.zero_add] at p1 p2
      have o3 := hgr.keep k3
      have HD := Lib.hid (drop_at hkl)
      have HS := Lib.hid (fun h => HMD.out.2 (P.getD k (0, 0)) (by rw [List.getD_eq_getElem?_getD, List.getElem?_eq_getElem hkl]; exact List.getElem_mem hkl) h)
      obtain ⟨⟨b1, b2⟩, b3, b4⟩ := HBD.out k
      obtain ⟨⟨c1', c2'⟩, c3', c4'⟩ := HBD.out (k + 1)
      have hml := msL_len qs (P.drop k)
      have hml' := msL_len qs (P.drop (k + 1))
      rw [List.length_drop] at hml hml'
      have hpp := HPN.out
      generalize P.getD k (0, 0) = s at p1 p2 HD HS
      obtain ⟨s1, s2⟩ := s
      dsimp only at p1 p2 HS
      have HE : Hid (msL qs (P.drop k) = if s1 = 1 then bl qs s2.toNat :: msL qs (P.drop (k + 1)) else msL qs (P.drop (k + 1))) := Lib.hid (by rw [HD.out]; rfl)
      clear e
      by_cases h1 : s1 = 1
      · subst h1
        obtain ⟨h2, h3⟩ := HS.out rfl
        obtain ⟨j, rfl⟩ : ∃ j : Nat, s2 = j := ⟨s2.toNat, by omega⟩
        have hj : j < q := by have := HQ.out; omega
        rw [if_pos rfl, Int.toNat_natCast] at HE
        obtain ⟨bb, boff, rfl, q0, q1, q2⟩ := Tris_at (HT5.out.keep hgr) (show j < qs.length by have := HQ.out; omega)
        rw [bl_getD] at q0 q1 q2
        have hbj := (blB_iff _).1 (HBL.out _ (bl_mem (show j < qs.length by have := HQ.out; omega)))
        generalize bl qs j = x at q0 q1 q2 hbj HE
        rw [HE.out] at b1 b2 b3 b4 hml
        rw [HE.out]
        rw [List.length_cons] at hml b2 b4
        simp only [sumV, sumA] at b1 b2 b3 b4 ⊢
        generalize hR : msL qs (P.drop (k + 1)) = R at HE c1' c2' c3' c4' b1 b2 b3 b4 hml hml' ⊢
        have HRR := Lib.hid hR
        clear hR
        have hx0 : 0 ≤ x.1 * x.2.1 := Int.mul_nonneg (by omega) (by omega)
        have hx1 : x.1 * x.2.1 ≤ 48 * 48 := Int.mul_le_mul (by omega) (by omega) (by omega) (by omega)
        have t1 : decide ((j : Int) < 0) = false := decide_eq_false (by omega)
        have t2 : decide (q ≤ j) = false := decide_eq_false (by omega)
        have t3 : ((1 : Int) != 1) = false := by simp
        go_wp2_with fail
        go_quiet (fail)
        have hgq := hgr.drewN nq
        have hq := (Gr.refl wr).drewN nq
        replace p2 := hq.keep p2
        replace o3 := hq.keep o3
        replace q0 := hq.keep q0
        replace q1 := hq.keep q1
        replace q2 := hq.keep q2
        clear hgr p1 hq
        generalize wr.drewN nq = wq at hgq p2 o3 q0 q1 q2 ⊢
        have hga := (Gr.refl wq).alloc (.cells #[.int .i64 0, .int .i64 0, .int .i64 0] 49)
        have hgx := Lib.hid (hgq.alloc (.cells #[.int .i64 x.1, .int .i64 x.2.1, .int .i64 x.2.2] 49)).drew
        have p2' := hga.keep p2
        have o3' := hga.keep o3
        have q0' := hga.keep q0
        have q1' := hga.keep q1
        have q2' := hga.keep q2
        clear hga
        go_wp2_with fail
        go_region
        all_goals
          go_wp2_with fail
          go_roundw
          case rel => exact ⟨k + 1, by omega, by go_num, by rw [HRR.out]; exact vint (by omega), by rw [HRR.out]; exact vint (by omega), hgx.out⟩
          case measure => simp [intOf] <;> omega
      · rw [if_neg h1] at HE
        have t3 : (s1 != 1) = true := by simpa using h1
        clear HS
        rw [HE.out]
        go_wp2_with fail
        go_roundw
        case rel => exact ⟨k + 1, by omega, by go_num, rfl, rfl, hgr⟩
        case measure => simp [intOf] <;> omega
    · obtain rfl : k = pn := by omega
      rw [show P.drop k = [] from List.drop_of_length_le (by have := HPN.out; omega)]
      simp only [msL, sumV, sumA]
      have o1 := hgr.keep k1
      have o2 := hgr.keep k2
      have t1 : ((W : Int) * H - 0 == (W : Int) * H) = true := by simp
      have t2 : ((0 : Int) == 0) = true := by simp
      have t4 : ((W : Int) * H == (W : Int) * H) = true := by simp
      go_wp2_with fail
      refine (cawake_any _).mono ?_
      rintro e w7 ⟨rfl, hg7⟩
      go_wp2_with fail
      try rw [Exit.noGoto_ret]
      go_ret
      exact ⟨rfl, (hg.trans hgr).trans hg7⟩

end Go.Proofs.Ytcojionipffanab
