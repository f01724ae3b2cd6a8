/- The law LabelNear as a walk. -/
import Derived.Test.YtbkbgcapkhelhaaLLawMends
import Derived.Deep.CutRange
import Derived.Deep.CutBlock
namespace Go.Proofs.Ytbkbgcapkhelhaa
open Go.RowKit
set_option linter.unusedSimpArgs false

theorem near_math {s : ByteArray} {q : Nat} {l : List Nat} (hs : s.size ≤ 255) (hq : q ≤ s.size) (hl : ∀ i ∈ l, i < s.size) (h : decB s q l = true) :
    encL (txt ((decL s q l).take (s.size - q))) q = txt (decL s q l) ∧ nearB (gs s) (decL s q l) s.size q l = true := by
  obtain ⟨h1, h2⟩ := near_of h
  have hlen := decL_len s q l
  refine ⟨?_, ?_⟩
  · rw [← txt_code, gs_txt, code_only (by omega) (by omega) h1]
  · unfold nearB
    rw [Bool.and_eq_true, difL_cnt hl]
    exact ⟨h1, decide_eq_true h2⟩

set_option maxRecDepth 100000 in
set_option maxHeartbeats 8000000 in
theorem lawNear_any (s0 : ByteArray) (p : Int) (A : Option Addr) (n c : Nat) (ns : List Int) (w : World) (_ : -9223372036854775808 ≤ p ∧ p ≤ 9223372036854775807)
    (hn : ns.length = n) (_ : n ≤ 9223372036854775807) (_ : n ≤ c) (_ : A = none → c = 0) (hA : Ints w A ns) :
    Calls Try.prog 12 #[.string s0, .int .i64 p, .slice A n c] w fun e w' => e = .returned (.bool true) ∧ Gr w w' := by
  obtain ⟨i0, hi0, hz0, hz1, hz2⟩ := info_parts Try.infoInt
  have HA := Lib.hid hA
  have HN := Lib.hid hn
  have HMQ := Lib.hid (fun W => modP_any p 17 W (by decide) (by decide))
  have hql := modP_lt (x := p) (n := 17) (by decide) (by decide)
  obtain ⟨q, hq⟩ : ∃ q, modP p 17 = q := ⟨_, rfl⟩
  rw [hq] at HMQ hql
  clear hA hn hq
  go_enter Try.func12, Try.ntmps12
  go_wp2_with fail
  refine (HMQ.out _).mono ?_
  rintro e w1 ⟨rfl, rfl⟩
  go_wp2_with fail
  have hz0' : (s0.extract 0 (min (s0.size : Int) 120).toNat).size ≤ 120 := by rw [ByteArray.size_extract]; omega
  generalize s0.extract 0 (min (s0.size : Int) 120).toNat = s1 at hz0' ⊢
  go_loop [0] (fun v => ∃ o : ByteArray, v = .string o ∧ o.size ≤ 120) (fun v => match v with | .string o => q + 1 - o.size | _ => 0)
  case atStart => exact ⟨s1, rfl, hz0'⟩
  case round =>
    obtain ⟨s, rfl, hs⟩ := hrel
    by_cases hlt : s.size ≤ q
    · have hlti : (s.size : Int) ≤ (q : Int) := by omega
      have h1 : (⟨#[97]⟩ : ByteArray).size = 1 := rfl
      have hno : ¬ (9223372036854775807 < s.size + 1) := by omega
      have hno2 : s.size + 1 ≤ 9223372036854775807 := by omega
      go_wp2_with fail
      go_round
      case rel => exact ⟨_, rfl, by rw [ByteArray.size_append, h1]; omega⟩
      case measure => simp [ByteArray.size_append]; omega
    · have hqs : q < s.size := by omega
      have hlt' : ¬ ((s.size : Int) ≤ (q : Int)) := by omega
      have hs1 : 1 ≤ s.size := by omega
      go_upto_block 2 with fail
      go_cut [7] from 8 to 47 (fun v wx => ∃ (m : Nat) (l : List Nat), m ≤ 20 ∧ Hid (l.length = m) ∧ Hid (∀ i ∈ l, i < s.size) ∧ Hid (wx.ownsRow w1.heap.size 3 1 v m (flatE enc1 (nats l))) ∧ Hid (Gr w1 wx))
      case first =>
        go_wp2_with fail
        go_loopw [7, 8] (fun v z wr => ∃ (j : Nat) (l : List Nat), j ≤ 20 ∧ z = .int .i64 j ∧ Hid (l.length = j) ∧ Hid (∀ i ∈ l, i < s.size) ∧ Hid (wr.ownsRow w1.heap.size 3 1 v j (flatE enc1 (nats l))) ∧ Hid (Gr w1 wr)) (fun _ z _ => 20 - (intOf z).toNat)
        case atStart => exact ⟨0, [], by omega, rfl, Lib.hid rfl, Lib.hid (fun i hi => by cases hi), Lib.hid (World.ownsRow_nil _ _ _ _), Lib.hid (Gr.refl _)⟩
        case round =>
          obtain ⟨j, l, hj, rfl, hll, hlb, hown, hg⟩ := hrel
          by_cases hltn : j < n
          · by_cases hlt20 : j < 20
            · have hjl : j < ns.length := by have := HN.out; omega
              obtain ⟨b, off, rfl, e0⟩ := Ints_at (HA.out.keep hg.out) (i := j) hjl
              generalize ns.getD j 0 = x at e0
              have hKl := modP_lt (x := x) hs1 (by omega : s.size ≤ 1048576)
              have HMD := Lib.hid (fun W => modP_any x s.size W hs1 (by omega))
              generalize modP x s.size = K at hKl HMD
              have HLB : Hid (∀ i ∈ l ++ [K], i < s.size) := Lib.hid (fun i hi => by
                rcases List.mem_append.1 hi with hi | hi
                · exact hlb.out i hi
                · rw [List.mem_singleton] at hi; rw [hi]; exact hKl)
              have hown2 := hown
              have hsz := hg.out.size
              go_wp2_with fail
              refine (HMD.out _).mono ?_
              rintro e w4 ⟨rfl, rfl⟩
              go_wp2_with (at_builtin; refine wpList_append_own _ rfl _ _ 34 rfl w1.heap.size 3 i0 _ 1 8 Try.underlying34 hi0 hz0 hz1 hz2 rfl (by decide) _ _ _ rfl (hown2.out.alloc _) ⟨w4.heap.size, 0, none⟩ 1 1 [.int .i64 (K : Int)] rfl rfl ?a1 ?a2 ?a3 ?a4 ?a5 ?_)
              case a1 =>
                intro t u ht
                rw [Addr.add_lit]
                exact alloc_new rfl (by rw [Nat.zero_add]; simpa using ht)
              case a2 => intro u hu; obtain rfl := List.mem_singleton.1 hu; rfl
              case a3 => unfold maxLen; omega
              case a4 => omega
              case a5 => simp; omega
              intro v' w5 hown' hgrow _
              have hga : Gr w1 (w4.alloc _) := hg.out.alloc (.cells #[.int .i64 (K : Int)] 3)
              have hgb : Gr w1 w5 := Below.grown hga hgrow hga.size (fun t ht => (hown2.out.lt t ht).1)
              have HO2 := Lib.hid hown'
              clear hown' hgrow hga
              go_wp2_with fail
              go_roundw
              case rel => exact ⟨j + 1, l ++ [K], by omega, by go_num, Lib.hid (by rw [List.length_append, hll.out]; rfl), HLB, Lib.hid (by
                rw [flat_nats_snoc]
                exact HO2.out), Lib.hid hgb⟩
              case measure => simp [intOf]; omega
            · have hlt20' : ¬ ((j : Int) < 20) := by omega
              go_wp2_with fail
              go_meet
              exact ⟨j, l, hj, hll, hlb, hown, hg⟩
          · have hltn' : ¬ ((j : Int) < (n : Int)) := by omega
            go_wp2_with fail
            go_meet
            exact ⟨j, l, hj, hll, hlb, hown, hg⟩
      case rest =>
        obtain ⟨m, l, hm20, hll, hlb, hown, hg⟩ := hcut
        obtain ⟨B7, c7, hv7, -, hrd7, -⟩ := own_row (k := 1) (fun _ => rfl) (by rw [nats_len, hll.out]) hown.out
        have HRD := Lib.hid hrd7
        subst hv7
        clear hrd7 hown
        have HD := Lib.hid (fun b hb => Decode_any s q B7 m c7 l wc ((okB_iff _ _).2 (by omega)) hll.out (by omega) hlb.out HRD.out b hb)
        rcases hdb : decB s q l with _ | _
        · have HD2 := Lib.hid (HD.out false hdb)
          clear hdb HD
          go_wp2_with fail
          refine HD2.out.mono ?_
          rintro e w5 ⟨rfl, hg5⟩
          go_wp2_with fail
          refine (awake_any _).mono ?_
          rintro e w6 ⟨rfl, hg6⟩
          go_wp2_with fail
          go_ret
          exact ⟨rfl, (hg.out.trans hg5).trans hg6⟩
        · have HD2 := Lib.hid (HD.out true hdb)
          obtain ⟨nm1, nm2⟩ := near_math (by omega) (by omega) hlb.out hdb
          have hC := decL_len s q l
          have HDN : Hid (decN s q l = cnt (difB (gs s) (decL s q l)) s.size) := Lib.hid rfl
          generalize decN s q l = K at HD2 HDN
          generalize decL s q l = C at HD2 HDN nm1 nm2 hC
          obtain ⟨r, hr⟩ : ∃ r, s.size - q = r := ⟨_, rfl⟩
          rw [hr] at HD2 nm1
          have hdz : (txt (C.take r)).size = r := by rw [txt_size, List.length_take]; omega
          have HE : Hid (∀ W, Calls Try.prog 18 #[.string (txt (C.take r)), .int .i64 (q : Int)] W fun e w' => e = .returned (.tuple #[.string (txt C), .int .i64 0]) ∧ Gr W w') := Lib.hid (fun W => by
            have h := Encode_yes (txt (C.take r)) q W (by rw [hdz]; exact okB_of (by omega) (by omega) (by omega))
            rw [nm1] at h
            exact h)
          generalize txt (C.take r) = d at HD2 HE
          have hts : (txt C).size = s.size := by rw [txt_size, hC]
          have HGC : Hid (gs (txt C) = C) := Lib.hid (gs_txt C)
          have HNS := Lib.hid (fun W => rNumbers_any s (by omega) W)
          have HNC := Lib.hid (fun W => rNumbers_any (txt C) (by omega) W)
          have HIN := Lib.hid (fun (A1 A2 : Option Addr) (k1 k2 : Nat) W (h1 : Ints W A1 (gints (gs s))) (h2 : Ints W A2 (gints (gs (txt C)))) (h3 : Ints W B7 (nats l)) => rIsNear_any A1 A2 B7 s.size k1 k2 c7 q m (gs s) (gs (txt C)) l W (gs_len s) (by rw [gs_len]; exact hts) hll.out (by omega) (by omega) (by omega) h1 h2 h3 true (by rw [gs_txt]; exact nm2))
          have HKB : Hid (K ≤ s.size) := Lib.hid (by rw [HDN.out]; exact cnt_le _ _)
          have HDN2 : Hid (K = cnt (difB (gs s) (gs (txt C))) s.size) := Lib.hid (by rw [HGC.out]; exact HDN.out)
          generalize txt C = t at HE hts HGC HNC HIN HDN2
          have hkb := HKB.out
          clear hdb HD nm1 nm2 hC hr hdz HDN
          go_wp2_with fail
          refine HD2.out.mono ?_
          rintro e w5 ⟨rfl, hg5⟩
          go_wp2_with fail
          refine (HE.out _).mono ?_
          rintro e w6 ⟨rfl, hg6⟩
          have HG6 := Lib.hid ((hg.out.trans hg5).trans hg6)
          have HR6 := Lib.hid (HRD.out.keep (hg5.trans hg6))
          clear hg5 hg6
          go_wp2_with fail
          go_loopw [10, 14] (fun v z wr => ∃ j : Nat, j ≤ s.size ∧ z = .int .i64 j ∧ v = .int .i64 ((K : Int) - (cnt (difB (gs s) (gs t)) j : Int)) ∧ Gr w6 wr) (fun _ z _ => s.size - (intOf z).toNat)
          case atStart => exact ⟨0, Nat.zero_le _, rfl, by show Value.int .i64 (K : Int) = .int .i64 ((K : Int) - 0); rw [Int.sub_zero], Gr.refl _⟩
          case round =>
            obtain ⟨j, hj, rfl, rfl, hgr⟩ := hrel
            by_cases hltj : j < s.size
            · have hjt : j < t.size := by omega
              have h2 := Lib.hid (cnt_succ (difB (gs s) (gs t)) j)
              have hcb := cnt_le (difB (gs s) (gs t)) j
              have e1 : ((gs s).getD j g0).v = (s[j]'hltj).toNat := gs_at hltj
              have e2 : ((gs t).getD j g0).v = (t[j]'hjt).toNat := gs_at hjt
              have hdb : Hid (difB (gs s) (gs t) j = !decide ((gs t).getD j g0 = (gs s).getD j g0)) := Lib.hid rfl
              have ht := g_ne_test64 ((gs s).getD j g0) ((gs t).getD j g0)
              generalize (gs s).getD j g0 = x at e1 hdb ht
              generalize (gs t).getD j g0 = z at e2 hdb ht
              have e1' := e1.symm
              have e2' := e2.symm
              generalize cnt (difB (gs s) (gs t)) j = cc at h2 hcb ⊢
              have hw : IntKind.i64.wrap ((K : Int) - (cc : Int) - 1) = (K : Int) - ((cc + 1 : Nat) : Int) := by rw [IntWalk.i64_in _ (by omega)]; omega
              clear e1 e2
              rcases hd : decide (z = x) with _ | _
              · rw [hd] at ht hdb
                clear hd
                go_wp2_with fail
                go_quiet (fail)
                go_wp2_with fail
                go_roundw
                case rel => exact ⟨j + 1, by omega, by go_num, by rw [h2.out, hdb.out]; first | rfl | (exact vint8 (by simp; omega)) | go_num, hgr.drewN _⟩
                case measure => simp [intOf]; omega
              · rw [hd] at ht hdb
                clear hd
                go_wp2_with fail
                go_quiet (fail)
                go_wp2_with fail
                go_roundw
                case rel => exact ⟨j + 1, by omega, by go_num, by rw [h2.out, hdb.out]; first | rfl | (exact vint8 (by simp)) | go_num, hgr.drewN _⟩
                case measure => simp [intOf]; omega
            · have hjs : j = s.size := by omega
              have hltj' : ¬ ((j : Int) < (s.size : Int)) := by omega
              have HK0 : Hid ((K : Int) - (cnt (difB (gs s) (gs t)) j : Int) = 0) := Lib.hid (by rw [hjs, ← HDN2.out]; omega)
              rw [HK0.out]
              clear hjs
              go_wp2_with fail
              refine (HNS.out _).mono ?_
              rintro e w7 ⟨A1, k1, rfl, hA1, hg7⟩
              have HA1 := Lib.hid hA1
              clear hA1
              go_wp2_with fail
              refine (HNC.out _).mono ?_
              rintro e w8 ⟨A2, k2, rfl, hA2, hg8⟩
              have HI := Lib.hid (HIN.out A1 A2 k1 k2 w8 (HA1.out.keep hg8) hA2 (HR6.out.keep ((hgr.trans hg7).trans hg8)))
              clear hA2
              rw [show t.size = s.size from hts]
              go_wp2_with fail
              refine HI.out.mono ?_
              rintro e w9 ⟨rfl, hg9⟩
              go_wp2_with fail
              refine (awake_any _).mono ?_
              rintro e w10 ⟨rfl, hg10⟩
              go_wp2_with fail
              try rw [Exit.noGoto_ret]
              go_ret
              exact ⟨rfl, ((((HG6.out.trans hgr).trans hg7).trans hg8).trans hg9).trans hg10⟩
end Go.Proofs.Ytbkbgcapkhelhaa
