/- The law LabelDecodes as a walk. -/
import Derived.Test.YtbkbgcapkhelhaaLDecAll
import Derived.Test.YtbkbgcapkhelhaaLRefN
import Derived.Deep.CutRange
import Derived.Deep.CutBlock
namespace Go.Proofs.Ytbkbgcapkhelhaa
open Go.RowKit
set_option linter.unusedSimpArgs false

theorem or_step (a b : Bool) (l : List Int) (f : Int → Bool) (j : Nat) (x : Int) (h : l.getD j 0 = x) (hj : j < l.length) (ha : (a || !(l.take j).all f) = b) : (a || !(l.take (j + 1)).all f) = (b || !f x) := by
  rw [all_take_succ f l 0 j hj, h, ← ha]
  cases a <;> cases (l.take j).all f <;> cases f x <;> rfl
theorem dec_near2 {s : ByteArray} {p : Nat} {is : List Nat} {cs : List G} (hs : s.size ≤ 255) (hc : cs.length = s.size) (hB : isB cs p = true) (hnear : 2 * cnt (errB (gs s) cs (lostB is)) s.size + cnt (lostB is) s.size ≤ p) :
    decL s p is = cs ∧ decB s p is = true ∧ decN s p is = cnt (difB (gs s) cs) s.size := by
  have h1 : decL s p is = cs := mend_near hs (gs_len s) hc hB rfl hnear
  refine ⟨h1, ?_, ?_⟩
  · unfold decB; rw [h1]; exact cmp_near hB hnear
  · unfold decN; rw [h1]
theorem dec_of_near {s : ByteArray} {p : Nat} {is : List Nat} {os : List G} (hs : s.size ≤ 255) (hl : ∀ i ∈ is, i < s.size) (ho : os.length = s.size) (h : nearB (gs s) os s.size p is = true) :
    decB s p is = true ∧ decL s p is = os ∧ decN s p is = cnt (difB (gs s) os) s.size := by
  obtain ⟨h1, h2⟩ := near_iff.1 h
  rw [difL_cnt hl] at h2
  obtain ⟨a, b, c⟩ := dec_near2 hs ho h1 h2
  exact ⟨b, a, c⟩
theorem near_of_dec {s : ByteArray} {p : Nat} {is : List Nat} (hl : ∀ i ∈ is, i < s.size) (h : decB s p is = true) : nearB (gs s) (decL s p is) s.size p is = true := by
  obtain ⟨h1, h2⟩ := near_of h
  rw [near_iff, difL_cnt hl]
  exact ⟨h1, h2⟩

set_option maxRecDepth 100000 in
set_option maxHeartbeats 8000000 in
theorem lawDecodes_any (s0 : ByteArray) (p : Int) (A : Option Addr) (n c : Nat) (ns : List Int) (w : World) (_ : -9223372036854775808 ≤ p ∧ p ≤ 9223372036854775807)
    (hn : ns.length = n) (_ : n ≤ 9223372036854775807) (hc : n ≤ c) (hnil : A = none → c = 0) (hA : Ints w A ns) :
    Calls Try.prog 6 #[.string s0, .int .i64 p, .slice A n c] w fun e w' => e = .returned (.bool true) ∧ Gr w w' := by
  obtain ⟨i0, hi0, hz0, hz1, hz2⟩ := info_parts Try.infoInt
  have HA := Lib.hid hA
  have HN := Lib.hid hn
  have HNIL := Lib.hid hnil
  clear hA hn hnil
  go_enter Try.func6, Try.ntmps6
  go_wp2_with fail
  refine (short_any s0 w).mono ?_
  rintro e w1 ⟨s, rfl, hs, rfl⟩
  obtain ⟨k, hk⟩ : ∃ k, min n 256 = k := ⟨_, rfl⟩
  have hk256 : k ≤ 256 := by omega
  have HQL : Hid ((ns.take k).length = k) := Lib.hid (by rw [List.length_take, HN.out]; omega)
  have HQ := Lib.hid (Rd_take HA.out k)
  go_upto_region 3 with fail
  go_cut [7] from 19 to 25 (fun v wx => Hid (wx.ownsRow w1.heap.size 3 1 v k (flatE enc1 (ns.take k))) ∧ Hid (Gr w1 wx))
  case first =>
    rcases A with _ | ad
    · obtain rfl : c = 0 := HNIL.out rfl
      obtain rfl : n = 0 := by omega
      obtain rfl : k = 0 := by omega
      have HLE : Hid (ns.take 0 = []) := Lib.hid rfl
      clear hk
      go_wp2_with (at_builtin; refine wpList_append_own_none rfl _ _ 34 rfl w1.heap.size 3 i0 1 Try.underlying34 hi0 _ 0 [] rfl (World.ownsRow_nil w1 _ _ _) rfl ?_)
      go_wp2_with fail
      go_meet
      exact ⟨by rw [HLE.out]; exact Lib.hid (World.ownsRow_nil w1 _ _ _), Lib.hid (Gr.refl _)⟩
    · have HNW := Lib.hid (Rd_news enc1_len (by decide) HQ.out)
      have HFL : Hid ((flatE enc1 (ns.take k)).length = k * 1) := Lib.hid (by rw [flatE_len enc1_len, HQL.out])
      have hmn : min (n : Int) 256 = (k : Int) := by omega
      have hkc : k ≤ c := by omega
      clear hk
      go_wp2_with (at_builtin; refine wpList_append_own _ rfl _ _ 34 rfl w1.heap.size 3 i0 _ 1 8 Try.underlying34 hi0 hz0 hz1 hz2 rfl (by decide) _ _ _ rfl (World.ownsRow_nil w1 _ _ _) ad k c (flatE enc1 (ns.take k)) rfl ?b1 ?b2 ?b3 ?b4 ?b5 ?b6 ?_)
      case b1 => exact HFL.out
      case b2 => exact HNW.out
      case b3 => exact oneCell_flat enc1_one _
      case b4 => unfold maxLen; omega
      case b5 => omega
      case b6 => exact Nat.le_refl _
      intro v' w7 hown7 hgrow7 _
      have HO7 := Lib.hid hown7
      have HG7 := Lib.hid hgrow7
      clear hown7 hgrow7
      go_wp2_with fail
      go_meet
      exact ⟨Lib.hid (by simpa using HO7.out), Lib.hid (Below.grown (Gr.refl w1) HG7.out (Nat.le_refl _) (fun t ht => by cases ht))⟩
  case rest =>
    obtain ⟨hown, hg⟩ := hcut
    obtain ⟨B, cB, hv, -, hrd, -⟩ := own_row (k := 1) (fun _ => rfl) HQL.out hown.out
    subst hv
    have HQI := Lib.hid hrd
    generalize ns.take k = q at HQL HQI
    have HD := Lib.hid (Decode_all s p B k cB q wc HQL.out (by omega) HQI.out)
    have HRI := Lib.hid (fun W r hr => rRight_any (s.size : Int) p W r hr)
    clear hown hrd hk HQ HA HN HNIL hc
    go_wp2_with fail
    refine HD.out.mono ?_
    rintro e w2 ⟨d, nn, ee, rfl, hg2, hds⟩
    have HDS := Lib.hid hds
    have HG2 := Lib.hid (hg.out.trans hg2)
    have HQ2 := Lib.hid (HQI.out.keep hg2)
    obtain ⟨b0, hb0⟩ : ∃ b0, okB (s.size : Int) p = b0 := ⟨_, rfl⟩
    have HR0 := Lib.hid (HRI.out w2 b0 hb0)
    have hk0 : decide (255 < k) = decide ((255 : Int) < (k : Int)) := by rw [decide_eq_decide]; omega
    have HBAD : Hid (badB s p k q = ((!b0 || decide ((255 : Int) < (k : Int))) || !q.all (isPos s.size))) := Lib.hid (by unfold badB; rw [hb0, hk0])
    clear hds hg2 HD HRI hb0 hk0
    go_upto_region 5 with fail
    go_cut [11] from 34 to 43 (fun v wx => w2 = wx ∧ v = .bool (!b0 || decide ((255 : Int) < (k : Int))))
    case first =>
      go_wp2_with fail
      refine HR0.out.mono ?_
      rintro e w3 ⟨rfl, rfl⟩
      cases b0 with
      | false =>
        go_wp2_with fail
        go_meet
        exact ⟨rfl, rfl⟩
      | true =>
        by_cases h255 : (255 : Int) < (k : Int)
        · go_wp2_with fail
          go_meet
          exact ⟨rfl, by rw [decide_eq_true h255]; rfl⟩
        · have h255' : (k : Int) ≤ 255 := by omega
          go_wp2_with fail
          go_meet
          exact ⟨rfl, by rw [decide_eq_false (by omega)]; rfl⟩
    case rest =>
    obtain ⟨rfl, rfl⟩ := hcut
    go_upto_block 0 with fail
    go_cut [11, 12] from 44 to 66 (fun v _v12 wx => w2 = wx ∧ v = .bool (badB s p k q))
    case first =>
      go_wp2_with fail
      go_loop [11, 12] (fun v z => ∃ (j : Nat) (b : Bool), j ≤ k ∧ z = .int .i64 j ∧ v = .bool b ∧ Hid (((!b0 || decide ((255 : Int) < (k : Int))) || !(q.take j).all (isPos s.size)) = b)) (fun _ z => k - (intOf z).toNat)
      case atStart =>
        refine ⟨0, (!b0 || decide ((255 : Int) < (k : Int))), Nat.zero_le _, rfl, ?_, Lib.hid (by simp)⟩
        cases b0 <;> simp
      case round =>
        obtain ⟨j, b, hj, rfl, rfl, hb⟩ := hrel
        by_cases hlt : j < k
        · have hjl : j < q.length := by rw [HQL.out]; exact hlt
          obtain ⟨b', o', rfl, e0⟩ := Ints_at HQ2.out (i := j) hjl
          have HST := Lib.hid (or_step _ _ q (isPos s.size) j _ rfl hjl hb.out)
          generalize q.getD j 0 = x at e0 HST
          have HPX : Hid (isPos s.size x = (decide (0 ≤ x) && decide (x < (s.size : Int)))) := Lib.hid rfl
          cases b with
          | true =>
            go_wp2_with fail
            go_round
            case rel => exact ⟨j + 1, true, by omega, by go_num, rfl, Lib.hid (by rw [HST.out]; rfl)⟩
            case measure => simp [intOf] <;> omega
          | false =>
            by_cases h0 : x < 0
            · go_wp2_with fail
              go_round
              case rel => exact ⟨j + 1, true, by omega, by go_num, rfl, Lib.hid (by rw [HST.out, HPX.out, decide_eq_false (by omega)]; rfl)⟩
              case measure => simp [intOf] <;> omega
            · by_cases h1 : x < (s.size : Int)
              · have h1' : ¬ ((s.size : Int) ≤ x) := by omega
                go_wp2_with fail
                go_round
                case rel => exact ⟨j + 1, false, by omega, by go_num, rfl, Lib.hid (by rw [HST.out, HPX.out, decide_eq_true (by omega), decide_eq_true h1]; rfl)⟩
                case measure => simp [intOf] <;> omega
              · have h1' : (s.size : Int) ≤ x := by omega
                go_wp2_with fail
                go_round
                case rel => exact ⟨j + 1, true, by omega, by go_num, rfl, Lib.hid (by rw [HST.out, HPX.out, decide_eq_false h1]; simp)⟩
                case measure => simp [intOf] <;> omega
        · have hjk : j = k := by omega
          have hlt' : ¬ ((j : Int) < (k : Int)) := by omega
          have HF : Hid (b = badB s p k q) := Lib.hid (by
            rw [← hb.out, HBAD.out, hjk, List.take_of_length_le (by rw [HQL.out]; exact Nat.le_refl _)])
          clear hjk
          go_wp2_with fail
          go_meet
          exact ⟨rfl, by rw [HF.out]⟩
    case rest =>
      obtain ⟨rfl, rfl⟩ := hcut
      rcases hbd : badB s p k q with _ | _
      · obtain ⟨pn, is, rfl, hok, hk255, rfl, his, hyes, hno⟩ := HDS.out.2 hbd
        have hb := (okB_iff _ _).1 hok
        have hss : s.size ≤ 255 := by omega
        have hpn : pn ≤ 64 := by omega
        have hps : pn + 1 ≤ s.size := by omega
        have HQN : Hid (is.length = k) := Lib.hid (by rw [← nats_len]; exact HQL.out)
        have HNU := Lib.hid (fun W => rNumbers_any s (by omega) W)
        have HNE := Lib.hid (fun (A1 : Option Addr) (c1 : Nat) W (h1 : Ints W A1 (gints (gs s))) (h2 : Ints W B (nats is)) => rNear_any A1 s.size c1 pn (gs s) B k cB is W (gs_len s) (by omega) hss hpn HQN.out (by omega) his h1 h2)
        have HYES := Lib.hid hyes
        have HNO := Lib.hid hno
        have HIS := Lib.hid his
        clear hbd HDS hok hb his hyes hno HBAD HQL HQI HR0
        go_wp2_with fail
        refine (HNU.out _).mono ?_
        rintro e w4 ⟨A1, c1, rfl, hA1, hg4⟩
        have HA1 := Lib.hid hA1
        have HNE2 := Lib.hid (HNE.out A1 c1 w4 hA1 (HQ2.out.keep hg4))
        clear hA1
        go_wp2_with fail
        refine HNE2.out.mono ?_
        rintro e w5 ⟨B5, k5, c5, os, b, rfl, hg5, h5, h6⟩
        have HG5 := Lib.hid ((HG2.out.trans hg4).trans hg5)
        have HA5 := Lib.hid (HA1.out.keep hg5)
        cases b with
        | false =>
          have hdb : decB s pn is = false := by
            rw [Bool.eq_false_iff]
            intro e
            have h7 := near_of_dec HIS.out e
            rw [h6 rfl _ (decL_len _ _ _)] at h7
            cases h7
          obtain ⟨rfl, rfl, rfl⟩ := HNO.out hdb
          clear h5 h6 hdb HNE HNE2
          go_wp2_with fail
          refine (awake_any _).mono ?_
          rintro e w6 ⟨rfl, hg6⟩
          go_wp2_with fail
          go_ret
          exact ⟨rfl, HG5.out.trans hg6⟩
        | true =>
          obtain ⟨rfl, hcc, hol, hoI, hnb⟩ := h5 rfl
          obtain ⟨d1, d2, d3⟩ := dec_of_near hss HIS.out hol hnb
          obtain ⟨rfl, rfl, rfl⟩ := HYES.out d1
          have HOI := Lib.hid hoI
          have HOL := Lib.hid hol
          rw [d2]
          obtain ⟨K, hK⟩ : ∃ K, decN s pn is = K := ⟨_, rfl⟩
          rw [hK]
          have HDN : Hid (K = cnt (difB (gs s) os) s.size) := Lib.hid (by rw [← hK]; exact d3)
          have hKs : K ≤ s.size := by rw [HDN.out]; exact cnt_le _ _
          obtain ⟨t, ht⟩ : ∃ t, s.size - pn = t := ⟨_, rfl⟩
          rw [ht]
          have hti : (s.size : Int) - (pn : Int) = (t : Int) := by omega
          have htc : t ≤ c5 := by omega
          have HTX := Lib.hid (fun W (hg : Gr w5 W) => rText_any B5 t c5 (os.take t) (by rw [List.length_take, hol]; omega) (by omega) W (by
            have h := Rd_take (HOI.out.keep hg) t
            have e : (gints os).take t = gints (os.take t) := by unfold gints; rw [List.map_take]
            rw [e] at h; exact h))
          generalize txt (os.take t) = tx at HTX ⊢
          clear h5 h6 hoI hol hnb d1 d2 d3 hK ht HNE HNE2
          go_wp2_with fail
          go_loopw [9, 16] (fun v z wr => ∃ j : Nat, j ≤ s.size ∧ z = .int .i64 j ∧ v = .int .i64 ((K : Int) - (cnt (difB (gs s) os) j : Int)) ∧ Gr w5 wr) (fun _ z _ => s.size - (intOf z).toNat)
          case atStart => exact ⟨0, Nat.zero_le _, rfl, by show Value.int .i64 (K : Int) = .int .i64 ((K : Int) - 0); rw [Int.sub_zero], Gr.refl _⟩
          case round =>
            obtain ⟨j, hj, rfl, rfl, hgr⟩ := hrel
            by_cases hltj : j < s.size
            · obtain ⟨b1, o1, rfl, e1⟩ := Ints_at (HA5.out.keep hgr) (i := j) (by rw [gints_len, gs_len]; exact hltj)
              obtain ⟨b2, o2, rfl, e2⟩ := Ints_at (HOI.out.keep hgr) (i := j) (by rw [gints_len, HOL.out]; exact hltj)
              rw [gints_at (by rw [gs_len]; exact hltj)] at e1
              rw [gints_at (by rw [HOL.out]; exact hltj)] at e2
              have h2 := Lib.hid (cnt_succ (difB (gs s) os) j)
              have hcb := cnt_le (difB (gs s) os) j
              have hdb : Hid (difB (gs s) os j = !decide (os.getD j g0 = (gs s).getD j g0)) := Lib.hid rfl
              have ht := g_ne_test64 ((gs s).getD j g0) (os.getD j g0)
              generalize (gs s).getD j g0 = x at e1 hdb ht
              generalize os.getD j g0 = z at e2 hdb ht
              generalize cnt (difB (gs s) os) j = cc at h2 hcb ⊢
              have hw : IntKind.i64.wrap ((K : Int) - (cc : Int) - 1) = (K : Int) - ((cc + 1 : Nat) : Int) := by rw [IntWalk.i64_in _ (by omega)]; omega
              rcases hd : decide (z = x) with _ | _
              · rw [hd] at ht hdb
                clear hd
                go_wp2_with fail
                go_quiet (fail)
                go_wp2_with fail
                go_roundw
                case rel => exact ⟨j + 1, by omega, by go_num, by rw [h2.out, hdb.out]; first | rfl | (exact vint8 (by simp; omega)) | go_num, hgr.drewN _⟩
                case measure => simp [intOf]; omega
              · rw [hd] at ht hdb
                clear hd
                go_wp2_with fail
                go_quiet (fail)
                go_wp2_with fail
                go_roundw
                case rel => exact ⟨j + 1, by omega, by go_num, by rw [h2.out, hdb.out]; first | rfl | (exact vint8 (by simp)) | go_num, hgr.drewN _⟩
                case measure => simp [intOf]; omega
            · have hjs : j = s.size := by omega
              have hltj' : ¬ ((j : Int) < (s.size : Int)) := by omega
              have HK0 : Hid ((K : Int) - (cnt (difB (gs s) os) j : Int) = 0) := Lib.hid (by rw [hjs, ← HDN.out]; omega)
              rw [HK0.out]
              clear hjs
              go_wp2_with fail
              refine (HTX.out _ hgr).mono ?_
              rintro e w7 ⟨rfl, hg7⟩
              go_wp2_with fail
              refine (awake_any _).mono ?_
              rintro e w8 ⟨rfl, hg8⟩
              go_wp2_with fail
              try rw [Exit.noGoto_ret]
              go_ret
              exact ⟨rfl, ((HG5.out.trans hgr).trans hg7).trans hg8⟩
      · obtain ⟨rfl, rfl, rfl⟩ := HDS.out.1 hbd
        clear hbd HDS
        go_wp2_with fail
        refine (awake_any _).mono ?_
        rintro e w6 ⟨rfl, hg6⟩
        go_wp2_with fail
        go_ret
        exact ⟨rfl, HG2.out.trans hg6⟩
end Go.Proofs.Ytbkbgcapkhelhaa
