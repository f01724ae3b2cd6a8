/- Layer 7: the laws of Shortest. -/
import Derived.Test.YtndmbjicflcpmaaFdS2
import Derived.Test.YtndmbjicflcpmaaFdLc
namespace Go.Proofs.Ytndmbjicflcpmaa
open Go.RowKit Go.Shelf
set_option linter.unusedSimpArgs false

theorem mxF_le (T : List UInt8) (a : Nat) : ∀ k, mxF T a k ≤ T.length
  | 0 => Nat.zero_le _
  | k + 1 => by
    simp only [mxF]
    have h1 := mxF_le T a k
    have h2 := (lcp_le (T.drop a) (T.drop k)).1
    rw [List.length_drop] at h2
    split
    · exact h1
    · omega

set_option maxRecDepth 1000000 in
set_option maxHeartbeats 8000000 in
theorem rShortest_any (s : ByteArray) (n : Nat) (x : Int) (w : World) (hn : s.size = n) (hnb : n ≤ 4096) : Calls Try.prog 33 #[.string s, .int .i64 x] w fun e w' => e = .returned (shoV (bts s) n x) ∧ Gr w w' := by
  have hsi : (s.size : Int) = (n : Int) := by omega
  by_cases hx : x < 0 ∨ (n : Int) ≤ x
  · have HV : Hid (shoV (bts s) n x = .tuple #[.int .i64 0, .int .i64 2]) := Lib.hid (by unfold shoV; rw [if_pos hx])
    go_enter Try.func33, Try.ntmps33
    rcases hx with hx | hx
    · go_wp2_with fail
      refine bodyPost_ret (v := .tuple #[.int .i64 0, .int .i64 2]) ?_ ?_ ?_
      · simp [results, Try.results33, go_sem]
      · rfl
      · exact ⟨by rw [HV.out], Gr.refl _⟩
    · have h0 : ¬ x < 0 := by omega
      go_wp2_with fail
      refine bodyPost_ret (v := .tuple #[.int .i64 0, .int .i64 2]) ?_ ?_ ?_
      · simp [results, Try.results33, go_sem]
      · rfl
      · exact ⟨by rw [HV.out], Gr.refl _⟩
  · obtain ⟨a, rfl⟩ : ∃ a : Nat, x = (a : Int) := ⟨x.toNat, by omega⟩
    have ha : a < n := by omega
    have hai : (a : Int) < (n : Int) := by omega
    have HSZ := Lib.hid hn
    have HV : Hid (shoV (bts s) n (a : Int) = if (n : Int) < (a : Int) + (mxF (bts s) a n : Int) + 1 then .tuple #[.int .i64 0, .int .i64 6] else .tuple #[.int .i64 ((mxF (bts s) a n : Int) + 1), .int .i64 0]) := Lib.hid (by unfold shoV; rw [if_neg hx, Int.toNat_natCast])
    have HML : Hid (mxF (bts s) a n ≤ n - a) := Lib.hid (by
      have := (mxF_max (bts s) a (bts s).length).le
      rwa [bts_len, hn] at this)
    have HTL : Hid ((bts s).length = n) := Lib.hid (by rw [bts_len]; exact hn)
    have hna : ¬ n ≤ a := by omega
    have hd0 : decide ((a : Int) < 0) = false := decide_eq_false (by omega)
    clear hx hn
    go_enter Try.func33, Try.ntmps33
    go_wp2_with fail
    go_loopw [6, 7] (fun m z wr => ∃ k : Nat, k ≤ n ∧ z = .int .i64 (k : Int) ∧ m = .int .i64 (mxF (bts s) a k : Int) ∧ Gr w wr) (fun _ z _ => n - (intOf z).toNat)
    case atStart => exact ⟨0, Nat.zero_le _, rfl, rfl, Gr.refl _⟩
    case round =>
      obtain ⟨k, hk, rfl, rfl, hgr⟩ := hrel
      have hmb := mxF_le (bts s) a k
      rw [HTL.out] at hmb
      by_cases hlt : k < n
      · have hki : (k : Int) < (n : Int) := by omega
        by_cases hka : k = a
        · have HE : Hid (mxF (bts s) a (k + 1) = mxF (bts s) a k) := Lib.hid (by simp only [mxF]; rw [if_pos hka])
          have e1 : ((k : Int) == (a : Int)) = true := beq_iff_eq.2 (by omega)
          generalize mxF (bts s) a k = m at *
          go_wp2_with fail
          go_roundw
          case rel => exact ⟨k + 1, by omega, by go_num, by rw [HE.out], hgr⟩
          case measure => simp [intOf]; omega
        · have e1 : ((k : Int) == (a : Int)) = false := beq_eq_false_iff_ne.2 (by omega)
          have HC := Lib.hid (rCommon_any s s a k wr (by have := HSZ.out; omega) (by have := HSZ.out; omega) (by have := HSZ.out; omega) (by have := HSZ.out; omega))
          have hl2 := (lcp_le ((bts s).drop a) ((bts s).drop k)).1
          rw [List.length_drop, HTL.out] at hl2
          obtain ⟨mx, hmx⟩ : ∃ mx, max (mxF (bts s) a k) (lcp ((bts s).drop a) ((bts s).drop k)) = mx := ⟨_, rfl⟩
          have HE : Hid (mxF (bts s) a (k + 1) = mx) := Lib.hid (by simp only [mxF]; rw [if_neg hka, hmx])
          generalize mxF (bts s) a k = m at *
          generalize lcp ((bts s).drop a) ((bts s).drop k) = c at *
          have hmi : max (m : Int) (c : Int) = (mx : Int) := by omega
          clear hmx hka
          go_wp2_with fail
          refine HC.out.mono ?_
          rintro e w2 ⟨rfl, hg2⟩
          have hgr2 := hgr.trans hg2
          clear HC
          go_wp2_with fail
          go_roundw
          case rel => exact ⟨k + 1, by omega, by go_num, by rw [HE.out], hgr2⟩
          case measure => simp [intOf]; omega
      · obtain rfl : k = n := by omega
        have hml := HML.out
        have hV := HV.out
        generalize mxF (bts s) a k = m at *
        have g1 : IntKind.i64.wrap ((a : Int) + (m : Int)) = (a : Int) + (m : Int) := IntWalk.i64_in _ (by omega)
        by_cases hc : a + m = k
        · have e1 : (((a : Int) + (m : Int)) == (k : Int)) = true := beq_iff_eq.2 (by omega)
          rw [if_pos (by omega)] at hV
          have HV2 := Lib.hid hV
          clear hV HV
          go_wp2_with fail
          refine bodyPost_ret (v := .tuple #[.int .i64 0, .int .i64 6]) ?_ ?_ ?_
          · simp [results, Try.results33, go_sem]
          · rfl
          · exact ⟨by rw [HV2.out], hgr⟩
        · have e1 : (((a : Int) + (m : Int)) == (k : Int)) = false := beq_eq_false_iff_ne.2 (by omega)
          rw [if_neg (by omega)] at hV
          have HV2 := Lib.hid hV
          clear hV HV
          go_wp2_with fail
          refine bodyPost_ret (v := .tuple #[.int .i64 ((m : Int) + 1), .int .i64 0]) ?_ ?_ ?_
          · simp [results, Try.results33, go_sem] <;> exact IntWalk.i64_in _ (by omega)
          · rfl
          · exact ⟨by rw [HV2.out], hgr⟩
theorem shoV_shape (T : List UInt8) (n : Nat) (x : Int) : ∃ a b : Int, shoV T n x = .tuple #[.int .i64 a, .int .i64 b] := by
  unfold shoV
  split
  · exact ⟨_, _, rfl⟩
  · split <;> exact ⟨_, _, rfl⟩

set_option maxRecDepth 1000000 in
set_option maxHeartbeats 16000000 in
theorem lawShortest_any (s0 : ByteArray) (x : Int) (w : World) : Calls Try.prog 6 #[.string s0, .int .i64 x] w fun e w' => e = .returned (.bool true) ∧ Gr w w' := by
  obtain ⟨k0, hk0⟩ : ∃ k : Nat, min s0.size 300 = k := ⟨_, rfl⟩
  have hmn : min (s0.size : Int) 300 = (k0 : Int) := by omega
  have h1 : k0 ≤ s0.size := by omega
  have h1i : (k0 : Int) ≤ (s0.size : Int) := by omega
  have hkb : k0 ≤ 300 := by omega
  obtain ⟨s, hs⟩ : ∃ s, s0.extract 0 k0 = s := ⟨_, rfl⟩
  have hsz : s.size = k0 := by rw [← hs]; exact size_take s0 k0 h1
  have HS := Lib.hid hs
  clear hk0 hs
  go_enter Try.func6, Try.ntmps6
  go_upto_region 2 with fail
  rw [HS.out]
  clear hmn h1 h1i HS
  subst hsz
  obtain ⟨n, hn⟩ : ∃ n, s.size = n := ⟨_, rfl⟩
  have hnb : n ≤ 300 := by omega
  have HT := Lib.hid (new_yes s n w hn (by omega))
  have HRS := Lib.hid (fun W => rShortest_any s n x W hn (by omega))
  clear hn hkb
  go_wp2_with fail
  refine HT.out.mono ?_
  rintro e w1 ⟨o, G, V, rfl, hX, hg1⟩
  have HX := Lib.hid hX
  clear HT hX
  go_upto_region 3 with fail
  generalize hW2 : World.alloc w1 _ = w2
  obtain ⟨X, hXX⟩ : ∃ X, w1.heap.size = X := ⟨_, rfl⟩
  rw [hXX]
  have hg2 : Gr w1 w2 := by rw [← hW2]; exact (Gr.refl _).alloc _
  have HB : Hid (Blk w2 X 25 #[.string s, .slice (some ⟨G, 0, none⟩) n n, .slice (some ⟨V, 0, none⟩) n n]) := Lib.hid (by rw [← hW2]; exact Blk.new w1 _ _ hXX)
  clear hW2 hXX
  have HSH := Lib.hid (shortest_any s n n n x o _ _ w2 (HX.out.keep hg2))
  obtain ⟨va, vb, hv⟩ := shoV_shape (bts s) n x
  rw [hv] at HSH HRS
  have z0 := HB.out.cell 0
  have z1 := HB.out.cell 1
  have z2 := HB.out.cell 2
  clear hv
  go_wp2_with fail
  refine HSH.out.mono ?_
  rintro e w3 ⟨rfl, hg3⟩
  have hgr3 := hg1.trans (hg2.trans hg3)
  have HR3 := Lib.hid (HRS.out w3)
  clear HSH z0 z1 z2 HRS
  go_wp2_with fail
  refine HR3.out.mono ?_
  rintro e w4 ⟨rfl, hg4⟩
  have hgr4 := hgr3.trans hg4
  have HA := Lib.hid (awake_any w4)
  clear HR3
  go_wp2_with fail
  refine HA.out.mono ?_
  rintro e w10 ⟨rfl, hg10⟩
  clear HA
  go_wp2_with fail
  go_ret
  exact ⟨rfl, hgr4.trans hg10⟩

end Go.Proofs.Ytndmbjicflcpmaa
