/- Layer 7: the reference's Distinct and Repeat. -/
import Derived.Test.YtndmbjicflcpmaaFdM9
import Derived.Test.YtndmbjicflcpmaaFdRe
namespace Go.Proofs.Ytndmbjicflcpmaa
open Go.RowKit Go.Shelf
set_option linter.unusedSimpArgs false

set_option maxRecDepth 1000000 in
set_option maxHeartbeats 8000000 in
theorem rDistinct_any (s : ByteArray) (n : Nat) (w : World) (hn : s.size = n) (hnb : n ≤ 4096) : Calls Try.prog 31 #[.string s] w fun e w' => e = .returned (.int .i64 (refD (bts s) n : Int)) ∧ Gr w w' := by
  have HTL : Hid ((bts s).length = n) := Lib.hid (by rw [bts_len]; exact hn)
  have hni : (s.size : Int) = (n : Int) := by omega
  have HCM := Lib.hid (fun i j W (hi : i < n) (hj : j < n) => rCommon_any s s i j W (by omega) (by omega) (by omega) (by omega))
  clear hn
  go_enter Try.func31, Try.ntmps31
  go_wp2_with fail
  go_loopw [3, 4] (fun a z wr => ∃ k : Nat, k ≤ n ∧ z = .int .i64 (k : Int) ∧ a = .int .i64 (refD (bts s) k : Int) ∧ Gr w wr) (fun _ z _ => n - (intOf z).toNat)
  case atStart => exact ⟨0, Nat.zero_le _, rfl, rfl, Gr.refl _⟩
  case round =>
    obtain ⟨k, hk, rfl, rfl, hgr⟩ := hrel
    by_cases hlt : k < n
    · have hki : (k : Int) < (n : Int) := by omega
      have hbd := refD_le (bts s) k
      rw [HTL.out] at hbd
      have hbd2 : refD (bts s) k ≤ 16777216 := by
        have : k * n ≤ 4096 * 4096 := Nat.mul_le_mul (by omega) hnb
        omega
      have HTP : Hid (∀ j, mxR (bts s) k j ≤ n - k) := Lib.hid (fun j => by
        have := mxR_top (bts s) k j
        rwa [HTL.out] at this)
      have HSU : Hid (refD (bts s) (k + 1) = refD (bts s) k + (n - k - mxR (bts s) k k)) := Lib.hid (by rw [← HTL.out]; rfl)
      generalize refD (bts s) k = d at HSU hbd2 ⊢
      obtain ⟨wA, rfl⟩ : ∃ wA, wA = wr := ⟨_, rfl⟩
      clear hbd
      go_wp2_with fail
      go_loopw [5, 6] (fun a z wb => ∃ j : Nat, j ≤ k ∧ z = .int .i64 (j : Int) ∧ a = .int .i64 (mxR (bts s) k j : Int) ∧ Gr w wb) (fun _ z _ => k - (intOf z).toNat)
      case atStart => exact ⟨0, Nat.zero_le _, rfl, rfl, hgr⟩
      case round =>
        obtain ⟨j, hj, rfl, rfl, hgb⟩ := hrel
        have hmt := HTP.out j
        by_cases hjk : j < k
        · have hji : (j : Int) < (k : Int) := by omega
          have HC1 := Lib.hid (HCM.out k j wr hlt (by omega))
          have hlc := (lcp_le ((bts s).drop k) ((bts s).drop j)).1
          rw [List.length_drop, HTL.out] at hlc
          obtain ⟨mx, hmx⟩ : ∃ mx, max (mxR (bts s) k j) (lcp ((bts s).drop k) ((bts s).drop j)) = mx := ⟨_, rfl⟩
          have HST : Hid (mxR (bts s) k (j + 1) = mx) := Lib.hid (by simp only [mxR]; exact hmx)
          generalize mxR (bts s) k j = m at *
          generalize lcp ((bts s).drop k) ((bts s).drop j) = c at *
          have hmi : max (m : Int) (c : Int) = (mx : Int) := by omega
          clear hmx
          go_wp2_with fail
          refine HC1.out.mono ?_
          rintro e w5 ⟨rfl, hg5⟩
          have hgr5 := hgb.trans hg5
          clear HC1
          go_wp2_with fail
          go_roundw
          case rel => exact ⟨j + 1, by omega, by go_num, by rw [HST.out], hgr5⟩
          case measure => simp [intOf]; omega
        · obtain rfl : k = j := by omega
          have hsum : Hid ((refD (bts s) (k + 1) : Int) = (d : Int) + (n : Int) - (k : Int) - (mxR (bts s) k k : Int)) := Lib.hid (by rw [HSU.out]; omega)
          generalize mxR (bts s) k k = m at *
          go_wp2_with fail
          go_roundw
          case rel => exact ⟨k + 1, by omega, by go_num, by rw [hsum.out], hgb⟩
          case measure => simp [intOf]; omega
    · obtain rfl : n = k := by omega
      go_wp2_with fail
      go_ret
      exact ⟨rfl, hgr⟩

/-- What the reference's Repeat answers. -/
def rrpV (T b : List UInt8) : Value := if b = [] then .tuple #[.string ⟨#[]⟩, .int .i64 0, .int .i64 6] else .tuple #[.string ⟨b.toArray⟩, .int .i64 (occN T b : Int), .int .i64 0]

set_option maxRecDepth 1000000 in
set_option maxHeartbeats 16000000 in
theorem rRepeat_any (s : ByteArray) (n : Nat) (w : World) (hn : s.size = n) (hnb : n ≤ 4096) : Calls Try.prog 29 #[.string s] w fun e w' => e = .returned (rrpV (bts s) (repO (bts s) n)) ∧ Gr w w' := by
  have HTL : Hid ((bts s).length = n) := Lib.hid (by rw [bts_len]; exact hn)
  have HSZ := Lib.hid hn
  have hni : (s.size : Int) = (n : Int) := by omega
  have HCM := Lib.hid (fun i j W (hi : i < n) (hj : j < n) => rCommon_any s s i j W (by omega) (by omega) (by omega) (by omega))
  clear hn
  go_enter Try.func29, Try.ntmps29
  go_wp2_with fail
  go_loopw [5, 6] (fun a z wr => ∃ (k : Nat) (bt : ByteArray), k ≤ n ∧ z = .int .i64 (k : Int) ∧ a = .string bt ∧ Hid (bts bt = repO (bts s) k) ∧ bt.size ≤ n ∧ Gr w wr) (fun _ z _ => n - (intOf z).toNat)
  case atStart => exact ⟨0, ⟨#[]⟩, Nat.zero_le _, rfl, rfl, Lib.hid rfl, Nat.zero_le _, Gr.refl _⟩
  case round =>
    obtain ⟨k, bt, hk, rfl, rfl, hbt, hbn, hgr⟩ := hrel
    by_cases hlt : k < n
    · have hki : (k : Int) < (n : Int) := by omega
      have HSU : Hid (repO (bts s) (k + 1) = repI (bts s) k (repO (bts s) k) k) := Lib.hid rfl
      have HB0 : Hid (bts bt = repI (bts s) k (repO (bts s) k) 0) := hbt
      generalize repO (bts s) k = b0 at HSU HB0
      obtain ⟨wA, rfl⟩ : ∃ wA, wA = wr := ⟨_, rfl⟩
      clear hbt
      go_wp2_with fail
      go_loopw [5, 7] (fun a z wr => ∃ (j : Nat) (bt : ByteArray), j ≤ k ∧ z = .int .i64 (j : Int) ∧ a = .string bt ∧ Hid (bts bt = repI (bts s) k b0 j) ∧ bt.size ≤ n ∧ Gr w wr) (fun _ z _ => k - (intOf z).toNat)
      case atStart => exact ⟨0, bt, Nat.zero_le _, rfl, rfl, HB0, hbn, hgr⟩
      case round =>
        clear HB0 hbn
        obtain ⟨j, bt, hj, rfl, rfl, hbt, hbn, hgb⟩ := hrel
        by_cases hjk : j < k
        · have hji : (j : Int) < (k : Int) := by omega
          have HC1 := Lib.hid (HCM.out k j wr hlt (by omega))
          have hlc := (lcp_le ((bts s).drop k) ((bts s).drop j)).1
          rw [List.length_drop, HTL.out] at hlc
          have HST : Hid (repI (bts s) k b0 (j + 1) = if (bts bt).length < lcp ((bts s).drop k) ((bts s).drop j) ∨ (lcp ((bts s).drop k) ((bts s).drop j) = (bts bt).length ∧ ltS (((bts s).drop k).take (lcp ((bts s).drop k) ((bts s).drop j))) (bts bt) = true) then ((bts s).drop k).take (lcp ((bts s).drop k) ((bts s).drop j)) else bts bt) := Lib.hid (by rw [hbt.out]; rfl)
          rw [bts_len] at HST
          generalize lcp ((bts s).drop k) ((bts s).drop j) = c at *
          obtain ⟨hpc, hsz1⟩ := bts_piece s (a := k) (l := c) (by rw [HSZ.out]; omega)
          have hless : Op.bytesLess (s.extract k (k + c)).toList bt.toList = ltS (((bts s).drop k).take c) (bts bt) := by
            rw [less_lt, ByteArray.toList_eq, ByteArray.toList_eq, ← hpc]; rfl
          obtain ⟨e1, he1⟩ : ∃ e, k + c = e := ⟨_, rfl⟩
          rw [he1] at hpc hsz1 hless
          have hle1 : k ≤ e1 := by omega
          have hle2 : e1 ≤ n := by omega
          have q1 : (k : Int) + (c : Int) = (e1 : Int) := by omega
          have q2 : IntKind.i64.wrap (e1 : Int) = (e1 : Int) := IntWalk.i64_in _ (by omega)
          have HPC := Lib.hid hpc
          have HLS := Lib.hid hless
          obtain ⟨bz, hbz⟩ : ∃ z, bt.size = z := ⟨_, rfl⟩
          have hbzi : (bt.size : Int) = (bz : Int) := by omega
          have HBZ := Lib.hid hbz
          rw [hbz] at HST hbn
          have hsz1i : (s.extract k e1).size ≤ n := by omega
          clear hpc hless hbz hsz1 he1
          go_wp2_with fail
          refine HC1.out.mono ?_
          rintro e w5 ⟨rfl, hg5⟩
          have hgr5 := hgb.trans hg5
          clear HC1
          by_cases c1 : bz < c
          · have HR : Hid (bts (s.extract k e1) = repI (bts s) k b0 (j + 1)) := Lib.hid (by rw [HST.out, if_pos (Or.inl c1)]; exact HPC.out)
            have c1i : (bz : Int) < (c : Int) := by omega
            clear HST
            go_wp2_with fail
            go_roundw
            case rel => exact ⟨j + 1, s.extract k e1, by omega, by go_num, rfl, HR, hsz1i, hgr5⟩
            case measure => simp [intOf]; omega
          · have c1i : ¬ (bz : Int) < (c : Int) := by omega
            by_cases c2 : c = bz
            · have c2i : ((c : Int) == (bz : Int)) = true := beq_iff_eq.2 (by omega)
              cases hl : ltS (((bts s).drop k).take c) (bts bt) with
              | true =>
                have HR : Hid (bts (s.extract k e1) = repI (bts s) k b0 (j + 1)) := Lib.hid (by rw [HST.out, if_pos (Or.inr ⟨c2, hl⟩)]; exact HPC.out)
                have hls := HLS.out
                rw [hl] at hls
                clear HST hl HLS c2
                go_wp2_with fail
                go_roundw
                case rel => exact ⟨j + 1, s.extract k e1, by omega, by go_num, rfl, HR, hsz1i, hgr5⟩
                case measure => simp [intOf]; omega
              | false =>
                have HR : Hid (bts bt = repI (bts s) k b0 (j + 1)) := Lib.hid (by rw [HST.out, if_neg (fun h => by rcases h with h | ⟨_, h⟩; exact c1 h; rw [hl] at h; cases h)])
                have hls := HLS.out
                rw [hl] at hls
                have HBN : Hid (bt.size ≤ n) := Lib.hid (by rw [HBZ.out]; exact hbn)
                clear HST hl HLS c2
                go_wp2_with fail
                go_roundw
                case rel => exact ⟨j + 1, bt, by omega, by go_num, rfl, HR, HBN.out, hgr5⟩
                case measure => simp [intOf]; omega
            · have c2i : ((c : Int) == (bz : Int)) = false := beq_eq_false_iff_ne.2 (by omega)
              have HR : Hid (bts bt = repI (bts s) k b0 (j + 1)) := Lib.hid (by rw [HST.out, if_neg (fun h => by rcases h with h | ⟨h, _⟩; exact c1 h; exact c2 h)])
              have HBN : Hid (bt.size ≤ n) := Lib.hid (by rw [HBZ.out]; exact hbn)
              clear HST HLS
              go_wp2_with fail
              go_roundw
              case rel => exact ⟨j + 1, bt, by omega, by go_num, rfl, HR, HBN.out, hgr5⟩
              case measure => simp [intOf]; omega
        · obtain rfl : k = j := by omega
          have HR : Hid (bts bt = repO (bts s) (k + 1)) := Lib.hid (by rw [HSU.out]; exact hbt.out)
          go_wp2_with fail
          go_roundw
          case rel => exact ⟨k + 1, bt, by omega, by go_num, rfl, HR, hbn, hgb⟩
          case measure => simp [intOf]; omega
    · obtain rfl : n = k := by omega
      have HBT := hbt
      have HF := Lib.hid (rFind_any s bt n wr HSZ.out (by omega) (by omega))
      clear hbt hlt hk
      by_cases h0 : bt.size = 0
      · obtain rfl : bt = ⟨#[]⟩ := bts_inj (List.eq_nil_of_length_eq_zero (by rw [bts_len]; exact h0))
        have HV : Hid (rrpV (bts s) (repO (bts s) n) = .tuple #[.string ⟨#[]⟩, .int .i64 0, .int .i64 6]) := Lib.hid (by rw [← HBT.out]; rfl)
        go_wp2_with fail
        refine bodyPost_ret (v := .tuple #[.string ⟨#[]⟩, .int .i64 0, .int .i64 6]) ?_ ?_ ?_
        · simp [results, Try.results29, go_sem]
        · rfl
        · exact ⟨by rw [HV.out], hgr⟩
      · have hneb : bt.toList.isEmpty = false := by
          rw [ByteArray.toList_eq]
          have := bts_len bt
          unfold bts at this
          cases h : bt.data.toList with
          | nil => rw [h] at this; simp at this; omega
          | cons a l => rfl
        have HV : Hid (rrpV (bts s) (repO (bts s) n) = .tuple #[.string bt, .int .i64 (occN (bts s) (bts bt) : Int), .int .i64 0]) := Lib.hid (by
          rw [← HBT.out]
          unfold rrpV
          rw [if_neg (fun e => h0 (by rw [← bts_len, e]; rfl))]
          rw [show (⟨(bts bt).toArray⟩ : ByteArray) = bt from bts_inj (by simp [bts])])
        generalize occN (bts s) (bts bt) = ct at HF HV
        go_wp2_with fail
        refine HF.out.mono ?_
        rintro e w3 ⟨A3, c3, rfl, -, hg3⟩
        have hgr3 := hgr.trans hg3
        clear HF
        go_wp2_with fail
        refine bodyPost_ret (v := .tuple #[.string bt, .int .i64 (ct : Int), .int .i64 0]) ?_ ?_ ?_
        · simp [results, Try.results29, go_sem]
        · rfl
        · exact ⟨by rw [HV.out], hgr3⟩

end Go.Proofs.Ytndmbjicflcpmaa
