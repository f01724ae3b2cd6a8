/- Layer 7: the reference's Longest, the law of Common. -/
import Derived.Test.YtndmbjicflcpmaaFdI
import Derived.Test.YtndmbjicflcpmaaFdLa
namespace Go.Proofs.Ytndmbjicflcpmaa
open Go.RowKit Go.Shelf
set_option linter.unusedSimpArgs false

set_option maxRecDepth 1000000 in
set_option maxHeartbeats 16000000 in
theorem rLongest_any (a b : ByteArray) (n q : Nat) (w : World) (hn : a.size = n) (hq : b.size = q) (ha : n ≤ 4096) (hb : q ≤ 4096) :
    Calls Try.prog 35 #[.string a, .string b] w fun e w' => e = .returned (.tuple #[.int .i64 ((lonF (bts a) (bts b) n).1 : Int), .int .i64 ((lonF (bts a) (bts b) n).2.1 : Int), .int .i64 ((lonF (bts a) (bts b) n).2.2 : Int)]) ∧ Gr w w' := by
  have HTA : Hid ((bts a).length = n) := Lib.hid (by rw [bts_len]; exact hn)
  have HTB : Hid ((bts b).length = q) := Lib.hid (by rw [bts_len]; exact hq)
  have HNA := Lib.hid hn
  have HNB := Lib.hid hq
  have hni : (a.size : Int) = (n : Int) := by omega
  have hqi : (b.size : Int) = (q : Int) := by omega
  have HCM := Lib.hid (fun i j W (hi : i < n) (hj : j < q) => rCommon_any a b i j W (by omega) (by omega) (by omega) (by omega))
  clear hn hq
  go_enter Try.func35, Try.ntmps35
  go_wp2_with fail
  go_loopw [7, 8, 9, 10] (fun x y t z wr => ∃ k : Nat, k ≤ n ∧ z = .int .i64 (k : Int) ∧ x = .int .i64 ((lonF (bts a) (bts b) k).1 : Int) ∧ y = .int .i64 ((lonF (bts a) (bts b) k).2.1 : Int) ∧ t = .int .i64 ((lonF (bts a) (bts b) k).2.2 : Int) ∧ Gr w wr) (fun _ _ _ z _ => n - (intOf z).toNat)
  case atStart => exact ⟨0, Nat.zero_le _, rfl, rfl, rfl, rfl, Gr.refl _⟩
  case round =>
    obtain ⟨k, hk, rfl, rfl, rfl, rfl, hgr⟩ := hrel
    by_cases hlt : k < n
    · have hki : (k : Int) < (n : Int) := by omega
      have HLE : Hid (∀ j, (lonI (bts a) (bts b) k (lonF (bts a) (bts b) k) j).1 ≤ n) := Lib.hid (fun j => by
        have := lonI_le (bts a) (bts b) k (lonF (bts a) (bts b) k) (lonF_le _ _ k) j
        rwa [HTA.out] at this)
      have HSU : Hid (lonF (bts a) (bts b) (k + 1) = lonI (bts a) (bts b) k (lonF (bts a) (bts b) k) q) := Lib.hid (by rw [← HTB.out]; rfl)
      obtain ⟨st, hst⟩ : ∃ st, lonF (bts a) (bts b) k = st := ⟨_, rfl⟩
      rw [hst] at HLE HSU ⊢
      obtain ⟨wA, rfl⟩ : ∃ wA, wA = wr := ⟨_, rfl⟩
      clear hst
      go_wp2_with fail
      go_loopw [7, 8, 9, 11] (fun x y t z wb => ∃ j : Nat, j ≤ q ∧ z = .int .i64 (j : Int) ∧ x = .int .i64 ((lonI (bts a) (bts b) k st j).1 : Int) ∧ y = .int .i64 ((lonI (bts a) (bts b) k st j).2.1 : Int) ∧ t = .int .i64 ((lonI (bts a) (bts b) k st j).2.2 : Int) ∧ Gr w wb) (fun _ _ _ z _ => q - (intOf z).toNat)
      case atStart => exact ⟨0, Nat.zero_le _, rfl, rfl, rfl, rfl, hgr⟩
      case round =>
        obtain ⟨j, hj, rfl, rfl, rfl, rfl, hgb⟩ := hrel
        by_cases hjq : j < q
        · have hji : (j : Int) < (q : Int) := by omega
          have HC1 := Lib.hid (HCM.out k j wr hlt hjq)
          have HST : Hid (lonI (bts a) (bts b) k st (j + 1) = if (lonI (bts a) (bts b) k st j).1 < lcp ((bts a).drop k) ((bts b).drop j) then (lcp ((bts a).drop k) ((bts b).drop j), k, j) else lonI (bts a) (bts b) k st j) := Lib.hid rfl
          generalize lonI (bts a) (bts b) k st j = r at HST ⊢
          obtain ⟨r1, r2, r3⟩ := r
          dsimp only at HST ⊢
          generalize lcp ((bts a).drop k) ((bts b).drop j) = c at HC1 HST
          go_wp2_with fail
          refine HC1.out.mono ?_
          rintro e w5 ⟨rfl, hg5⟩
          have hgr5 := hgb.trans hg5
          clear HC1
          by_cases hc : r1 < c
          · have HR : Hid (lonI (bts a) (bts b) k st (j + 1) = (c, k, j)) := Lib.hid (by rw [HST.out, if_pos hc])
            have hci : (r1 : Int) < (c : Int) := by omega
            clear HST
            go_wp2_with fail
            go_roundw
            case rel => exact ⟨j + 1, by omega, by go_num, by rw [HR.out], by rw [HR.out], by rw [HR.out], hgr5⟩
            case measure => simp [intOf]; omega
          · have HR : Hid (lonI (bts a) (bts b) k st (j + 1) = (r1, r2, r3)) := Lib.hid (by rw [HST.out, if_neg hc])
            have hci : ¬ (r1 : Int) < (c : Int) := by omega
            clear HST
            go_wp2_with fail
            go_roundw
            case rel => exact ⟨j + 1, by omega, by go_num, by rw [HR.out], by rw [HR.out], by rw [HR.out], hgr5⟩
            case measure => simp [intOf]; omega
        · obtain rfl : j = q := by omega
          generalize lonI (bts a) (bts b) k st j = r at HSU ⊢
          go_wp2_with fail
          go_roundw
          case rel => exact ⟨k + 1, by omega, by go_num, by rw [HSU.out], by rw [HSU.out], by rw [HSU.out], hgb⟩
          case measure => simp [intOf]; omega
    · obtain rfl : k = n := by omega
      go_wp2_with fail
      refine bodyPost_ret (v := .tuple #[.int .i64 ((lonF (bts a) (bts b) k).1 : Int), .int .i64 ((lonF (bts a) (bts b) k).2.1 : Int), .int .i64 ((lonF (bts a) (bts b) k).2.2 : Int)]) ?_ ?_ ?_
      · simp [results, Try.results35, go_sem]
      · rfl
      · exact ⟨rfl, hgr⟩

set_option maxRecDepth 1000000 in
set_option maxHeartbeats 16000000 in
theorem lawCommon_any (a0 b0 : ByteArray) (w : World) : Calls Try.prog 7 #[.string a0, .string b0] w fun e w' => e = .returned (.bool true) ∧ Gr w w' := by
  obtain ⟨a, hsa⟩ : ∃ s, shortB a0 120 = s := ⟨_, rfl⟩
  obtain ⟨b, hsb⟩ : ∃ s, shortB b0 120 = s := ⟨_, rfl⟩
  have hza := shortB_size a0 120
  have hzb := shortB_size b0 120
  have HSA := Lib.hid (short_any a0 120 w)
  have HSB := Lib.hid (short_any b0 120 w)
  rw [hsa] at hza HSA
  rw [hsb] at hzb HSB
  clear hsa hsb
  go_enter Try.func7, Try.ntmps7
  go_wp2_with fail
  refine HSA.out.mono ?_
  rintro e w0 ⟨rfl, hw0⟩
  rw [hw0]
  clear HSA hw0
  go_wp2_with fail
  refine HSB.out.mono ?_
  rintro e w0 ⟨rfl, hw0⟩
  rw [hw0]
  clear HSB hw0
  by_cases hbig : a.size = 4097 ∨ b.size = 4097
  · have HC := Lib.hid (common_no a b w (by omega))
    obtain ⟨na, hna⟩ : ∃ n, a.size = n := ⟨_, rfl⟩
    obtain ⟨nb, hnb⟩ : ∃ n, b.size = n := ⟨_, rfl⟩
    have hai : (a.size : Int) = (na : Int) := by omega
    have hbi : (b.size : Int) = (nb : Int) := by omega
    rw [hna] at hza hbig
    rw [hnb] at hzb hbig
    go_wp2_with fail
    refine HC.out.mono ?_
    rintro e w1 ⟨rfl, hg1⟩
    have HA := Lib.hid (awake_any w1)
    clear HC
    by_cases hab : 4096 < na
    · have h1 : (4096 : Int) < (na : Int) := by omega
      clear hza hzb hbig
      go_wp2_with fail
      refine HA.out.mono ?_
      rintro e w3 ⟨rfl, hg3⟩
      clear HA
      go_wp2_with fail
      go_ret
      exact ⟨rfl, hg1.trans hg3⟩
    · have h1 : ¬ (4096 : Int) < (na : Int) := by omega
      have h2 : (4096 : Int) < (nb : Int) := by omega
      clear hza hzb hbig
      go_wp2_with fail
      refine HA.out.mono ?_
      rintro e w3 ⟨rfl, hg3⟩
      clear HA
      go_wp2_with fail
      go_ret
      exact ⟨rfl, hg1.trans hg3⟩
  · obtain ⟨na, hna⟩ : ∃ n, a.size = n := ⟨_, rfl⟩
    obtain ⟨nb, hnb⟩ : ∃ n, b.size = n := ⟨_, rfl⟩
    have HC := Lib.hid (common_yes a b na nb w hna hnb (by omega) (by omega))
    have HR := Lib.hid (fun W => rLongest_any a b na nb W hna hnb (by omega) (by omega))
    have hcl := com_lon (bts a) (bts b)
    rw [bts_len, hna] at hcl
    rw [hcl] at HR
    dsimp only at HR
    have hai : (a.size : Int) = (na : Int) := by omega
    have hbi : (b.size : Int) = (nb : Int) := by omega
    have h1 : ¬ (4096 : Int) < (na : Int) := by omega
    have h2 : ¬ (4096 : Int) < (nb : Int) := by omega
    clear hcl hna hnb hza hzb hbig
    generalize comY (bts a) (bts b) = Y at HC HR
    generalize lgF (bts a) (bts b) na = r at HC HR
    obtain ⟨L, F⟩ := r
    dsimp only at HC HR
    go_wp2_with fail
    refine HC.out.mono ?_
    rintro e w1 ⟨rfl, hg1⟩
    have HR1 := Lib.hid (HR.out w1)
    clear HC HR
    go_wp2_with fail
    refine HR1.out.mono ?_
    rintro e w2 ⟨rfl, hg2⟩
    have hgr := hg1.trans hg2
    have HA := Lib.hid (awake_any w2)
    clear HR1
    go_wp2_with fail
    refine HA.out.mono ?_
    rintro e w3 ⟨rfl, hg3⟩
    clear HA
    go_wp2_with fail
    go_ret
    exact ⟨rfl, hgr.trans hg3⟩

end Go.Proofs.Ytndmbjicflcpmaa
