/- Layer 7: the law of the sums. -/
import Derived.Test.YtmcefcdnfngndaaFdLb
import Derived.Test.YtmcefcdnfngndaaFdM1
namespace Go.Proofs.Ytmcefcdnfngndaa
open Go.RowKit Go.Shelf
set_option linter.unusedSimpArgs false

set_option maxRecDepth 1000000 in
set_option maxHeartbeats 16000000 in
theorem lawSums_any (s0 : ByteArray) (w : World) : Calls Try.prog 8 #[.string s0] w fun e w' => e = .returned (.bool true) ∧ Gr w w' := by
  obtain ⟨k0, hk0⟩ : ∃ k : Nat, min s0.size 1000 = k := ⟨_, rfl⟩
  have hmn : min (s0.size : Int) 1000 = (k0 : Int) := by omega
  have h1 : k0 ≤ s0.size := by omega
  have h1i : (k0 : Int) ≤ (s0.size : Int) := by omega
  have hkb : k0 ≤ 1000 := by omega
  obtain ⟨s, hs⟩ : ∃ s, s0.extract 0 k0 = s := ⟨_, rfl⟩
  have hsz : s.size = k0 := by rw [← hs]; exact size_take s0 k0 h1
  have HS := Lib.hid hs
  clear hk0 hs
  go_enter Try.func8, Try.ntmps8
  go_upto_region 2 with fail
  rw [HS.out]
  clear hmn h1 h1i HS
  subst hsz
  obtain ⟨n, hn⟩ : ∃ n, s.size = n := ⟨_, rfl⟩
  have hsi : (s.size : Int) = (n : Int) := by omega
  have HSZ := Lib.hid hn
  have hnb : n ≤ 1000 := by omega
  have HT := Lib.hid (new_yes s n w hn (by omega))
  clear hn hkb
  go_wp2_with fail
  refine HT.out.mono ?_
  rintro e w1 ⟨o, G, V, rfl, hX, hg1⟩
  have HX := Lib.hid hX
  have HOL : Hid (o.length = n) := Lib.hid hX.olen
  have HTL : Hid ((bts s).length = n) := Lib.hid hX.tlen
  clear HT hX
  go_upto_region 3 with fail
  generalize hW2 : World.alloc w1 _ = w2
  obtain ⟨X, hXX⟩ : ∃ X, w1.heap.size = X := ⟨_, rfl⟩
  rw [hXX]
  have hg2 : Gr w1 w2 := by rw [← hW2]; exact (Gr.refl _).alloc _
  have HB : Hid (Blk w2 X 25 #[.string s, .slice (some ⟨G, 0, none⟩) n n, .slice (some ⟨V, 0, none⟩) n n]) := Lib.hid (by rw [← hW2]; exact Blk.new w1 _ _ hXX)
  clear hW2 hXX
  have HOV := Lib.hid (overlaps_any s n n n o _ _ w2 (HX.out.keep hg2))
  have z0 := HB.out.cell 0
  have z1 := HB.out.cell 1
  have z2 := HB.out.cell 2
  go_wp2_with fail
  refine HOV.out.mono ?_
  rintro e w3 ⟨A3, c3, rfl, hown3, hg3⟩
  have HI3 : Hid (Ints w3 A3 (nI (ovsL (bts s) o))) := Lib.hid (ints_of_owns (by rw [ovsL_len]; exact HOL.out) hown3)
  clear HOV hown3 z0 z1 z2
  go_wp2_with fail
  go_loopw [6, 7, 8] (fun a b z wr => ∃ k : Nat, k ≤ n ∧ z = .int .i64 (k : Int) ∧ a = .int .i64 (sumV (bts s) o k : Int) ∧ b = .int .i64 (mstV (bts s) o k : Int) ∧ Hid (sumV (bts s) o k ≤ k * 1000 ∧ mstV (bts s) o k ≤ 1000) ∧ wr = w3) (fun _ _ z _ => n - (intOf z).toNat)
  case atStart => exact ⟨0, Nat.zero_le _, rfl, rfl, rfl, Lib.hid ⟨Nat.zero_le _, Nat.zero_le _⟩, rfl⟩
  case round =>
    obtain ⟨k, hk, rfl, rfl, rfl, hbd, rfl⟩ := hrel
    by_cases hlt : k < n
    · have hki : (k : Int) < (n : Int) := by omega
      obtain ⟨b, off, rfl, x0⟩ := Nats_at HI3.out (i := k) (by rw [ovsL_len, HOL.out]; exact hlt)
      rw [ovsL_at _ _ (by rw [HOL.out]; exact hlt)] at x0
      have htop := ovL_top HX.out.ord (p := k) (by rw [HTL.out]; exact hlt)
      rw [HTL.out] at htop
      have hv : ovL (bts s) o k ≤ 1000 := by omega
      have HSE : Hid (sumV (bts s) o (k + 1) = sumV (bts s) o k + ovL (bts s) o k) := Lib.hid rfl
      have HME : Hid (mstV (bts s) o (k + 1) = max (mstV (bts s) o k) (ovL (bts s) o k)) := Lib.hid rfl
      have HBD : Hid (sumV (bts s) o (k + 1) ≤ (k + 1) * 1000 ∧ mstV (bts s) o (k + 1) ≤ 1000) := Lib.hid (by
        have := hbd.out
        rw [HSE.out, HME.out]
        omega)
      have hs1 : sumV (bts s) o k ≤ 1000000 := by have := hbd.out.1; omega
      have hm1 : mstV (bts s) o k ≤ 1000 := hbd.out.2
      clear hbd htop
      generalize ovL (bts s) o k = v at *
      generalize sumV (bts s) o k = a at *
      generalize mstV (bts s) o k = m at *
      obtain ⟨mx, hmx⟩ : ∃ mx, max m v = mx := ⟨_, rfl⟩
      have hmi : max (m : Int) (v : Int) = (mx : Int) := by omega
      have hmf : (if (m : Int) < (v : Int) then (v : Int) else (m : Int)) = (mx : Int) := by split <;> omega
      rw [hmx] at HME
      clear hmx
      go_wp2_with fail
      go_roundw
      case rel => exact ⟨k + 1, by omega, by go_num, by rw [HSE.out]; go_num, by rw [HME.out], HBD, by first | rfl | trivial⟩
      case measure => simp [intOf]; omega
    · obtain rfl : k = n := by omega
      have hgr3 := hg2.trans hg3
      have HMR : Hid (mstV (bts s) o k = (repF (bts s) o k).1) := Lib.hid (mst_rep _ _ _)
      have HDS : Hid (dstN (bts s) o k + sumV (bts s) o k = gapN k o k) := Lib.hid (by
        have := dst_sum HX.out.ord k (by rw [HTL.out]; exact Nat.le_refl _)
        rwa [HTL.out] at this)
      have HGP : Hid (2 * gapN k o k = k * (k + 1)) := Lib.hid (by
        have := gap_all HX.out.ord
        rwa [HTL.out] at this)
      have HRT : Hid ((repF (bts s) o k).1 ≠ 0 → 2 ≤ occN (bts s) (((bts s).drop (repF (bts s) o k).2).take (repF (bts s) o k).1)) := Lib.hid (rep_twice HX.out.ord (by rw [HTL.out]; exact Nat.le_refl _))
      have HTP : Hid ((repF (bts s) o k).2 + (repF (bts s) o k).1 ≤ k) := Lib.hid (by
        have := repF_top HX.out.ord k (by rw [HTL.out]; exact Nat.le_refl _)
        rwa [HTL.out] at this)
      have HRP := Lib.hid (repeat_any s k k k o _ _ wr (HX.out.keep hgr3))
      have hgQ : gapN k o k ≤ 1000000 := by
        have := HGP.out
        have h2 : k * (k + 1) ≤ 1000 * 1001 := Nat.mul_le_mul hnb (by omega)
        omega
      have hP : (k : Int) * ((k : Int) + 1) = 2 * (gapN k o k : Int) := by
        have := HGP.out
        have h3 : ((k * (k + 1) : Nat) : Int) = (k : Int) * ((k : Int) + 1) := by push_cast; rfl
        omega
      have e1 : IntKind.i64.wrap ((k : Int) * ((k : Int) + 1)) = 2 * (gapN k o k : Int) := by rw [hP]; exact IntWalk.i64_in _ (by omega)
      have e2 : (2 * (gapN k o k : Int)).tdiv 2 = (gapN k o k : Int) := by rw [Int.tdiv_eq_ediv_of_nonneg (by omega)]; omega
      have e3 : IntKind.i64.wrap (gapN k o k : Int) = (gapN k o k : Int) := IntWalk.i64_in _ (by omega)
      clear hP hlt hk
      generalize gapN k o k = Q at HDS HGP hgQ e1 e2 e3
      have hb3 := HB.out.keep hg3
      have z0 := hb3.cell 0
      have z1 := hb3.cell 1
      have z2 := hb3.cell 2
      clear hb3
      by_cases h0 : (repF (bts s) o k).1 = 0
      · have HV : Hid (repV s o k = .tuple #[.string ⟨#[]⟩, .int .i64 0, .int .i64 6]) := Lib.hid (by unfold repV; simp only; rw [if_pos h0])
        have hM0 : mstV (bts s) o k = 0 := by rw [HMR.out]; exact h0
        have hd : dstN (bts s) o k = Q := by
          have := HDS.out
          have := sumV_zero (bts s) o k hM0
          omega
        have HDI := Lib.hid (fun W (hW : Gr w1 W) => distinct_any s k k k o _ _ W (HX.out.keep hW))
        rw [HV.out] at HRP
        rw [hd] at HDI
        rw [hM0]
        clear HV hM0 hd HMR HRT HTP HDS h0 hbd
        go_wp2_with fail
        refine HRP.out.mono ?_
        rintro e w4 ⟨rfl, hg4⟩
        have hgr4 := hgr3.trans hg4
        have hb4 := HB.out.keep (hg3.trans hg4)
        clear z0 z1 z2 HRP
        have z0 := hb4.cell 0
        have z1 := hb4.cell 1
        have z2 := hb4.cell 2
        have HD4 := Lib.hid (HDI.out w4 hgr4)
        clear hb4 HDI
        go_wp2_with fail
        refine HD4.out.mono ?_
        rintro e w5 ⟨rfl, hg5⟩
        have hgr5 := hg1.trans (hgr4.trans hg5)
        have HA := Lib.hid (awake_any w5)
        clear z0 z1 z2 HD4
        go_wp2_with fail
        refine HA.out.mono ?_
        rintro e w10 ⟨rfl, hg10⟩
        clear HA
        go_wp2_with fail
        go_ret
        exact ⟨rfl, hgr5.trans hg10⟩
      · have HV : Hid (repV s o k = .tuple #[.string (s.extract (repF (bts s) o k).2 ((repF (bts s) o k).2 + (repF (bts s) o k).1)), .int .i64 (occN (bts s) (bts (s.extract (repF (bts s) o k).2 ((repF (bts s) o k).2 + (repF (bts s) o k).1))) : Int), .int .i64 0]) := Lib.hid (by unfold repV; simp only; rw [if_neg h0])
        have hpc := bts_piece s (a := (repF (bts s) o k).2) (l := (repF (bts s) o k).1) (by rw [HSZ.out]; exact HTP.out)
        have h2 := HRT.out h0
        rw [← hpc.1] at h2
        have htz := hpc.2
        rw [HMR.out]
        have hm0 : (((repF (bts s) o k).1 : Int) == 0) = false := beq_eq_false_iff_ne.2 (by omega)
        have hml := HTP.out
        rw [HV.out] at HRP
        have HCT := Lib.hid (fun W (hW : Gr w1 W) => count_any s (s.extract (repF (bts s) o k).2 ((repF (bts s) o k).2 + (repF (bts s) o k).1)) k k k o _ _ W (HX.out.keep hW))
        have HDI := Lib.hid (fun W (hW : Gr w1 W) => distinct_any s k k k o _ _ W (HX.out.keep hW))
        have hds := HDS.out
        clear HV hpc HMR HRT HTP HDS h0 hbd
        generalize s.extract (repF (bts s) o k).2 ((repF (bts s) o k).2 + (repF (bts s) o k).1) = t at *
        generalize occN (bts s) (bts t) = ct at *
        generalize (repF (bts s) o k).1 = L at *
        generalize sumV (bts s) o k = S at *
        generalize dstN (bts s) o k = D at *
        have htzi : (t.size : Int) = (L : Int) := by omega
        have h2i : (1 : Int) < (ct : Int) := by omega
        have e4 : IntKind.i64.wrap ((Q : Int) - (D : Int)) = (S : Int) := by rw [show (Q : Int) - (D : Int) = (S : Int) by omega]; exact IntWalk.i64_in _ (by omega)
        clear htz
        go_wp2_with fail
        refine HRP.out.mono ?_
        rintro e w4 ⟨rfl, hg4⟩
        have hgr4 := hgr3.trans hg4
        have hb4 := HB.out.keep (hg3.trans hg4)
        clear z0 z1 z2 HRP
        have z0 := hb4.cell 0
        have z1 := hb4.cell 1
        have z2 := hb4.cell 2
        have HD4 := Lib.hid (HCT.out w4 hgr4)
        go_wp2_with fail
        refine HD4.out.mono ?_
        rintro e w5 ⟨rfl, hg5⟩
        have hgr5 := hgr4.trans hg5
        have hb5 := hb4.keep hg5
        clear z0 z1 z2 HD4 hb4
        have z0 := hb5.cell 0
        have z1 := hb5.cell 1
        have z2 := hb5.cell 2
        have HD5 := Lib.hid (HDI.out w5 hgr5)
        go_wp2_with fail
        refine HD5.out.mono ?_
        rintro e w6 ⟨rfl, hg6⟩
        have hgr6 := hg1.trans (hgr5.trans hg6)
        have HA := Lib.hid (awake_any w6)
        clear z0 z1 z2 HD5 hb5
        go_wp2_with fail
        refine HA.out.mono ?_
        rintro e w10 ⟨rfl, hg10⟩
        clear HA
        go_wp2_with fail
        go_ret
        exact ⟨rfl, hgr6.trans hg10⟩

end Go.Proofs.Ytmcefcdnfngndaa
