/- The law PlaneCovers as a walk. -/
import Derived.Test.YtjkdjfagaakijaaIsTri
import Derived.Test.YtjkdjfagaakijaaRCov
import Derived.Test.YtjkdjfagaakijaaRSimple2
import Derived.Test.YtjkdjfagaakijaaRSet
import Derived.Deep.CutRange
namespace Go.Proofs.Ytjkdjfagaakijaa
open Go.RowKit
set_option linter.unusedSimpArgs false

theorem Covers_any (A : Option Addr) (n c : Nat) (ps : List (Int × Int)) (B : Option Addr) (n' c' : Nat) (ts : List (Int × Int × Int)) (w : World) (hn : ps.length = n) (hl : n ≤ 281474976710656) (hp : Pts w A ps) (hn' : ts.length = n') (hl' : n' ≤ 281474976710656) (ht : Tris w B ts) :
    Calls Try.prog 13 #[.slice A n c, .slice B n' c'] w fun e w' => ∃ s r : Bool, (s = true ↔ SimpleP ps) ∧ (s = true → (r = true ↔ CovP ps ts)) ∧ e = .returned (.int .i64 (if s = true then (if r = true then 0 else 10) else 2)) ∧ Gr w w' := by
  have HS := Lib.hid (Simple_any A n c ps w hn hl hp)
  have HI : Hid (SimpleP ps → ∀ W, Gr w W → Calls Try.prog 37 #[.slice A n c, .slice B n' c'] W (BoolPost (CovP ps ts) W)) := Lib.hid (fun hs W hW =>
    isTri_any A n c ps B n' c' ts W hn (by rw [← hn]; exact hs.1) (by rw [← hn]; exact hs.2.1) (hp.keep hW) (Cos_of hs.2.2.1) hn' hl' (ht.keep hW))
  clear hn hl hp hn' hl' ht
  go_enter Try.func13, Try.ntmps13
  go_wp2_with fail
  refine HS.out.mono ?_
  rintro e w1 ⟨s, rfl, hs, hg⟩
  have HSS := Lib.hid hs
  clear hs
  cases s with
  | false =>
    go_wp2_with fail
    go_ret
    exact ⟨false, false, HSS.out, fun h => absurd h (by decide), rfl, hg⟩
  | true =>
    go_wp2_with fail
    refine (HI.out (by simpa using HSS.out) _ hg).mono ?_
    rintro e w2 ⟨r, rfl, hr, hg2⟩
    have HR := Lib.hid hr
    clear hr
    cases r
    all_goals
      go_wp2_with fail
      go_ret
    · exact ⟨true, false, by simpa using HSS.out, fun _ => by simpa using HR.out, rfl, hg.trans hg2⟩
    · exact ⟨true, true, by simpa using HSS.out, fun _ => by simpa using HR.out, rfl, hg.trans hg2⟩

theorem Try.info3t : (Try.prog.info? 45).map (fun i => (i.zero, i.size, i.bytes)) = some (some (.agg #[.int .i64 0, .int .i64 0, .int .i64 0]), 3, 24) := by kernel_rfl

set_option maxRecDepth 100000 in
set_option maxHeartbeats 8000000 in
theorem lawCovers_any (A : Option Addr) (n c : Nat) (ps : List (Int × Int)) (B : Option Addr) (n' c' : Nat) (ts : List (Int × Int × Int)) (w : World) (hn : ps.length = n) (hl : n ≤ 8796093022208) (hc : n ≤ c) (h0 : A = none → c = 0) (hp : Pts w A ps) (hn' : ts.length = n') (hc' : n' ≤ c') (hm' : c' ≤ maxLen) (h0' : B = none → c' = 0) (ht : Tris w B ts) :
    Calls Try.prog 4 #[.slice A n c, .slice B n' c'] w fun e w' => e = .returned (.bool true) ∧ Gr w w' := by
  have HS := Lib.hid (fun W (hW : Gr w W) => some_any A n c 40 ps W hn hl hc h0 (by omega) (hp.keep hW))
  have hql := take_len hn (m := 40)
  have hq40 : (ps.take (someN n 40)).length ≤ 513 := by omega
  generalize ps.take (someN n 40) = qs at HS hql hq40
  obtain ⟨q, hq⟩ : ∃ q, qs.length = q := ⟨_, rfl⟩
  rw [hq] at hql hq40
  have HQ := Lib.hid hq
  obtain ⟨k, hk⟩ : ∃ k, min n' 50 = k := ⟨_, rfl⟩
  have hkn : k ≤ n' ∧ k ≤ 50 := by omega
  have HL : Hid ((ts.take k).length = k) := Lib.hid (by rw [List.length_take]; omega)
  have HT := Lib.hid (Rd_take ht k)
  have HC0 := Lib.hid h0'
  have hmin : min (n' : Int) 50 = (k : Int) := by omega
  generalize ts.take k = us at HL HT
  clear hn hl hc h0 hp hn' ht hq hk h0' hql
  obtain ⟨i0, hi, hz0, hz1, hz2⟩ := info_parts Try.info3t
  go_enter Try.func4, Try.ntmps4
  go_wp2_with fail
  refine (HS.out _ (Gr.refl _)).mono ?_
  rintro e w1 ⟨A1, c1, rfl, hc1, hP, hg⟩
  have HP := Lib.hid hP
  clear hP HS hc1
  rw [HQ.out]
  go_upto_region 3 with fail
  go_cut [6] from 10 to 16 (fun v wx => ∃ A2 c2, v = .slice A2 k c2 ∧ Tris wx A2 us ∧ Gr w1 wx)
  case first =>
    rcases B with _ | ad
    · obtain rfl : c' = 0 := HC0.out rfl
      obtain rfl : n' = 0 := by omega
      obtain rfl : k = 0 := by omega
      go_wp2_with (at_builtin; refine wpList_append_own_none rfl _ _ 24 rfl w1.heap.size 45 i0 3 Try.underlying24 hi _ 0 [] rfl (World.ownsRow_nil w1 _ _ _) rfl ?_)
      go_meet
      exact ⟨none, 0, rfl, by rw [List.eq_nil_of_length_eq_zero HL.out]; exact Rd_nil _ _, Gr.refl _⟩
    · have HC := Lib.hid (Rd_news enc3_len (by decide) (HT.out.keep hg))
      go_wp2_with (at_builtin; refine wpList_append_own _ rfl _ _ 24 rfl w1.heap.size 45 i0 _ 3 24 Try.underlying24 hi hz0 hz1 hz2 rfl (by decide) _ _ _ rfl (World.ownsRow_nil w1 _ _ _) ad k c' (flatE enc3 us) rfl ?qc1 ?qc2 ?qc3 ?qc4 ?qc5 ?qc6 ?_)
      case qc1 => rw [flatE_len enc3_len, HL.out]
      case qc2 => exact HC.out
      case qc3 => exact oneCell_flat enc3_one _
      case qc4 => unfold maxLen; omega
      case qc5 => omega
      case qc6 => exact Nat.le_refl _
      intro v' w2 hown hgrow hnil
      have hgr : Gr w1 w2 := (Below.refl _ w1).grown hgrow (Nat.le_refl _) (fun k hk => by cases hk)
      have HO := Lib.hid hown
      have HG := Lib.hid hgr
      clear hown hgrow hnil hi hz0 hz1 hz2 hgr
      go_wp2_with fail
      go_meet
      rcases HO.out.2 with ⟨rfl, hz⟩ | ⟨g, cap, cur, rfl, _, _, hnc, _⟩
      · obtain rfl : k = 0 := by omega
        exact ⟨none, 0, rfl, by rw [List.eq_nil_of_length_eq_zero HL.out]; exact Rd_nil _ _, HG.out⟩
      · exact ⟨some ⟨g, 0, none⟩, cap, by simp, Rd_of_owns enc3_len (t := 45) (base := w1.heap.size) (c := cap) HL.out (by simpa using HO.out), HG.out⟩
  case rest =>
    obtain ⟨A2, c2, rfl, hU, hgU⟩ := hcut
    have HU := Lib.hid hU
    clear hU hmin hi hz0 hz1 hz2
    have hgw := hg.trans hgU
    have HP2 := Lib.hid (HP.out.keep hgU)
    clear HP hg hgU
    go_wp2_with fail
    refine (Covers_any A1 q c1 qs A2 k c2 us _ HQ.out (by omega) HP2.out HL.out (by omega) HU.out).mono ?_
    rintro e w3 ⟨s, r, hs, hr, rfl, hg3⟩
    have HSS := Lib.hid hs
    have HR := Lib.hid hr
    obtain ⟨v, hv⟩ : ∃ v : Int, (if s = true then (if r = true then 0 else 10) else 2) = v := ⟨_, rfl⟩
    rw [hv]
    have HVV := Lib.hid hv
    clear hs hr hv
    go_wp2_with fail
    refine (rSimple_any A1 q c1 qs _ HQ.out (by omega) (HP2.out.keep hg3)).mono ?_
    rintro e w4 ⟨s', rfl, hs', hg4⟩
    obtain rfl : s = s' := by rw [Bool.eq_iff_iff]; exact HSS.out.trans hs'.symm
    clear hs'
    cases s with
    | false =>
      obtain rfl : 2 = v := HVV.out
      go_wp2_with fail
      refine (awake_any _).mono ?_
      rintro e w5 ⟨rfl, hg5⟩
      go_wp2_with fail
      go_ret
      exact ⟨rfl, ((hgw.trans hg3).trans hg4).trans hg5⟩
    | true =>
      have hsp := HSS.out.1 rfl
      have HCV := Lib.hid (rCovers_any A1 q c1 qs A2 k c2 us w4 HQ.out (by rw [← HQ.out]; exact hsp.1) (by rw [← HQ.out]; exact hsp.2.1) (HP2.out.keep (hg3.trans hg4)) (Cos_of hsp.2.2.1) HL.out (by omega) (HU.out.keep (hg3.trans hg4)))
      clear hsp
      go_wp2_with fail
      refine HCV.out.mono ?_
      rintro e w5 ⟨r', rfl, hr', hg5⟩
      obtain rfl : r = r' := by rw [Bool.eq_iff_iff]; exact (show r = true ↔ CovP qs us by simpa using HR.out).trans hr'.symm
      clear hr' HCV
      cases r with
      | false =>
        obtain rfl : 10 = v := HVV.out
        go_wp2_with fail
        refine (awake_any _).mono ?_
        rintro e w6 ⟨rfl, hg6⟩
        go_wp2_with fail
        go_ret
        exact ⟨rfl, (((hgw.trans hg3).trans hg4).trans hg5).trans hg6⟩
      | true =>
        obtain rfl : 0 = v := HVV.out
        go_wp2_with fail
        refine (awake_any _).mono ?_
        rintro e w6 ⟨rfl, hg6⟩
        go_wp2_with fail
        go_ret
        exact ⟨rfl, (((hgw.trans hg3).trans hg4).trans hg5).trans hg6⟩

end Go.Proofs.Ytjkdjfagaakijaa
