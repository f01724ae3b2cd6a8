/- For any list of numbers, any list of acts and any three numbers, the law silversidelaw05.PactAsks returns true, its arguments read behind the call as before it, and memory that was there and the outside world are as they were. No condition on the arguments. -/
import Derived.Test.YtnoeiocbmhkmeaaGreatBu43
import Derived.Test.YtnoeiocbmhkmeaaGreatBu40
import Derived.Test.YtnoeiocbmhkmeaaGreatBu44
namespace Go.Proofs.YtnoeiocbmhkmeaaGreat
open Go.RowKit
set_option maxRecDepth 100000 in
theorem Repeat_bad {B : Nat} {w : World} {N : Nx} (i : Int) (h : NetR B w N) (hr : refL N i ≠ 0) : Calls Tryz.prog 21 #[.pointer (some ⟨N.p, 0, none⟩), .int .i64 i] w fun e w' => e = .returned (.int .i64 (refL N i)) ∧ w' = w := by
  have HRL := Lib.hid (refLetter_any h i)
  obtain ⟨r, hr'⟩ : ∃ r, refL N i = r := ⟨_, rfl⟩
  rw [hr'] at HRL hr ⊢
  have hb : (r == 0) = false := by simp [hr]
  clear h hr'
  go_enter Tryz.func21, Tryz.ntmps21
  go_wp2_with fail
  refine HRL.out.mono ?_
  rintro e w1 ⟨rfl, rfl⟩
  go_wp2_with fail
  go_ret
  exact ⟨rfl, rfl⟩
set_option maxRecDepth 100000 in
theorem Lose_bad {B : Nat} {w : World} {N : Nx} (i : Int) (h : NetR B w N) (hr : refL N i ≠ 0) : Calls Tryz.prog 22 #[.pointer (some ⟨N.p, 0, none⟩), .int .i64 i] w fun e w' => e = .returned (.int .i64 (refL N i)) ∧ w' = w := by
  have HRL := Lib.hid (refLetter_any h i)
  obtain ⟨r, hr'⟩ : ∃ r, refL N i = r := ⟨_, rfl⟩
  rw [hr'] at HRL hr ⊢
  have hb : (r == 0) = false := by simp [hr]
  clear h hr'
  go_enter Tryz.func22, Tryz.ntmps22
  go_wp2_with fail
  refine HRL.out.mono ?_
  rintro e w1 ⟨rfl, rfl⟩
  go_wp2_with fail
  go_ret
  exact ⟨rfl, rfl⟩
end Go.Proofs.YtnoeiocbmhkmeaaGreat
namespace Go.Proofs.YtnoeiocbmhkmeaaGreat
open Go.RowKit
set_option linter.unusedSimpArgs false

theorem refD_out {N : Nx} {i : Int} (h : refS N i = 3) : refD N i = 3 := by
  unfold refD
  rw [h]
  rfl
theorem beginBad {B : Nat} {w : World} {N : Nx} (h : NetR B w N) (i : Int) (hr : refD N i = 3) (ho : OkN (nzN N)) : Calls Tryz.prog 16 #[.pointer (some ⟨N.p, 0, none⟩), .int .i64 i, .slice none 0 0] w fun e w' => e = .returned (.tuple #[.int .i64 0, .int .i64 3]) ∧ Gr w w' := by
  have hnew : ∀ s ∈ N.sites, mget s.opn (N.begun + 1) = none := fun s hs => by
    obtain ⟨k, hk⟩ := List.mem_iff_getElem?.1 hs
    have h1 := (ho.site k _ (nz_site hk)).1
    have h2 : mget (dzs s.opn) (N.begun + 1) = none := mget_none.2 (fun p hp e => by
      have h3 := (h1.opn p hp).1.2
      have : p.1 ≤ N.begun := h3
      omega)
    rw [mget_dz] at h2
    simpa using h2
  refine (Begin_any i none 0 0 [] w h (by rw [← nz_len]; exact ho.hi) ho.room ho.beg.1 rfl (by omega) (fun W _ => Rd_nil _ _) (fun p hp => (by cases hp)) hnew).mono ?_
  rintro e w' (⟨-, rfl, hg⟩ | ⟨h1, -⟩ | ⟨h1, -⟩ | ⟨h1, -⟩)
  · rw [hr]; exact ⟨rfl, hg⟩
  · rw [hr] at h1; cases h1
  · rw [hr] at h1; cases h1
  · rw [hr] at h1; cases h1
set_option maxRecDepth 100000 in
set_option maxHeartbeats 4000000 in
theorem lawAsks_any (A : Option Addr) (n c : Nat) (l : List Int) (AA : Option Addr) (an ac : Nat) (acts : List Ac) (o0 o1 o2 : Int) (w : World) (hn : l.length = n) (hl : n ≤ 9223372036854775807) (hp : Ints w A l) (han : acts.length = an) (_hac : an ≤ ac) (_ham : ac ≤ 9223372036854775807) (har : Rd 4 encA w AA acts) (hok : ∀ a ∈ acts, AcOk w a) (h0 : I64 o0) (h1 : I64 o1) (h2 : I64 o2) :
    Calls Tryz.prog 5 #[.slice A n c, .slice AA an ac, .agg #[.int .i64 o0, .int .i64 o1, .int .i64 o2]] w fun e w' => e = .returned (.bool true) ∧ Gr w w' := by
  have HRU := Lib.hid (fun W (hW : Gr w W) => run5_any A n c l AA an ac acts 30 W hn hl (hp.keep hW) han (by omega) (har.keep hW) (fun a ha => (hok a ha).keep5 hW))
  have HAW := Lib.hid (fun W => awake5_any W)
  have HII := Lib.hid (And.intro h0 (And.intro h1 h2))
  clear hn hl hp han har hok h0 h1 h2
  go_enter Tryz.func5, Tryz.ntmps5
  go_upto_region 1 with fail
  generalize hW0 : World.alloc w _ = w0
  obtain ⟨hg0, a0, a1, a2⟩ := box3 hW0
  have HG0 := Lib.hid hg0
  obtain ⟨go, hgo⟩ : ∃ go, w.heap.size = go := ⟨_, rfl⟩
  rw [hgo] at a0 a1 a2 ⊢
  have HAO := Lib.hid (And.intro a0 (And.intro a1 a2))
  clear hW0 hg0 hgo a0 a1 a2
  go_wp2_with fail
  refine (HRU.out _ HG0.out).mono ?_
  rintro e w1 ⟨B, N, L, rfl, hnet, htw, hxa, hg1, -⟩
  obtain ⟨As, At, Al, n5, m5, l5, cs, ct, cl, hsh⟩ := hxa.rd.shp
  have HNET := Lib.hid hnet
  have HTW := Lib.hid htw
  have HXA := Lib.hid hxa
  have HG1 := Lib.hid hg1
  have HSH := Lib.hid hsh
  rw [hsh.v]
  have hal := (Gr.refl w1).alloc (.cells #[.slice none 0 0, .slice none 0 0, .slice none 0 0] 33)
  have hle := htw.le
  have h8 : n5 ≤ 8 := by have := hle.s8; rw [lens_era.1, hsh.n] at this; exact this
  have h256 : m5 ≤ 256 := by have := hle.tx; rw [lens_era.2.1, hsh.m] at this; exact this
  have hml : l5 ≤ 1024 := by have := hle.ml; rw [lens_era.2.2, hsh.l] at this; exact this
  have hn1 : 1 ≤ n5 := by have := hle.s1; rw [lens_era.1, hsh.n] at this; exact this
  have HLEN : Hid (N.sites.length = n5 ∧ N.mail.length = l5) := Lib.hid ⟨by rw [← nz_len, ← htw.lens.1, lens_era.1, hsh.n], by have := htw.mail; have h2 : N.mail = L.mail := this.symm; rw [h2]; exact hsh.l⟩
  clear hnet htw hxa hg1 hsh hle
  go_upto_region 2 with fail
  generalize hW2 : World.alloc w1 _ = w2
  obtain ⟨gx, hgx⟩ : ∃ gx, w1.heap.size = gx := ⟨_, rfl⟩
  have kx : Blk w2 gx 33 #[.slice As n5 cs, .slice At m5 ct, .slice Al l5 cl] := by rw [← hW2]; exact Blk.new _ _ _ hgx
  have hg2 : Gr w1 w2 := by rw [← hW2]; exact (Gr.refl w1).alloc _
  rw [hgx]
  have HKX := Lib.hid kx
  have HG2 := Lib.hid (HG1.out.trans hg2)
  have HN2 := Lib.hid (HNET.out.keep hg2)
  have HX2 := Lib.hid (HXA.out.gr hg2)
  have a0 := HG2.out.keep HAO.out.1
  have a1 := HG2.out.keep HAO.out.2.1
  have a2 := HG2.out.keep HAO.out.2.2
  obtain ⟨⟨i0a, i0b⟩, ⟨i1a, i1b⟩, i2a, i2b⟩ := HII.out
  clear hal hW2 hgx kx hg2
  go_wp2_with fail
  go_quiet (fail)
  go_upto_region 5 with fail
  generalize hWq : World.drewN w2 _ = w3
  have hgq : Gr w2 w3 := by rw [← hWq]; exact Gr.drewN (Gr.refl _) _
  have HG3 := Lib.hid hgq
  have HK3 := Lib.hid (HKX.out.keep hgq)
  clear hWq hgq a0 a1 a2
  have b0 := HK3.out.cell 0
  have b1 := HK3.out.cell 1
  have b2 := HK3.out.cell 2
  simp only [List.getElem?_toArray, List.getElem?_cons_succ, List.getElem?_cons_zero] at b0 b1 b2
  obtain ⟨sb, hsb⟩ : ∃ sb : Bool, sb = decide (0 ≤ o0 ∧ o0 < (n5 : Int)) := ⟨_, rfl⟩
  have HSB : Hid ((0 ≤ o0 ∧ o0 < (n5 : Int) → true = sb) ∧ (¬ (0 ≤ o0 ∧ o0 < (n5 : Int)) → false = sb)) := Lib.hid ⟨fun h => by rw [hsb, decide_eq_true h], fun h => by rw [hsb, decide_eq_false h]⟩
  obtain ⟨sv, hsv⟩ : ∃ sv : Int, sv = if sb = true then -1 - o0 else o0 := ⟨_, rfl⟩
  have hsv' : ¬ (0 ≤ sv ∧ sv < (n5 : Int)) ∧ -9223372036854775808 ≤ sv ∧ sv ≤ 9223372036854775807 := by
    rw [hsv]
    by_cases h : 0 ≤ o0 ∧ o0 < (n5 : Int)
    · rw [← HSB.out.1 h, if_pos rfl]; omega
    · rw [← HSB.out.2 h, if_neg (by decide)]; omega
  have HS' := Lib.hid hsv'
  have HSV := Lib.hid hsv
  clear hsb hsv hsv'
  go_cut [38] from 30 to 38 (fun v wx => v = .bool sb ∧ wx = w3)
  case first =>
    by_cases c1 : 0 ≤ o0
    · by_cases c2 : o0 < (n5 : Int)
      · have hr := Lib.hid (HSB.out.1 ⟨c1, c2⟩)
        go_wp2_with fail
        go_meet
        exact ⟨by rw [← hr.out], rfl⟩
      · have hr := Lib.hid (HSB.out.2 (fun h => c2 h.2))
        go_wp2_with fail
        go_meet
        exact ⟨by rw [← hr.out], rfl⟩
    · have hr := Lib.hid (HSB.out.2 (fun h => c1 h.1))
      go_wp2_with fail
      go_meet
      exact ⟨by rw [← hr.out], rfl⟩
  case rest =>
    obtain ⟨rfl, rfl⟩ := hcut
    go_upto_if 38 with fail
    go_cut [9] from 39 to 40 (fun v wx => v = .int .i64 sv ∧ wx = wc)
    case first =>
      cases sb with
      | true =>
        have hr : Hid (-1 - o0 = sv) := Lib.hid (by rw [HSV.out, if_pos rfl])
        go_wp2_with fail
        go_meet
        exact ⟨by rw [← hr.out], rfl⟩
      | false =>
        have hr : Hid (o0 = sv) := Lib.hid (by rw [HSV.out, if_neg (by decide)])
        go_wp2_with fail
        go_meet
        exact ⟨by rw [← hr.out], rfl⟩
    case rest =>
      obtain ⟨rfl, rfl⟩ := hcut
      obtain ⟨kb, hkb⟩ : ∃ kb : Bool, kb = decide (0 ≤ o1 ∧ o1 < (l5 : Int)) := ⟨_, rfl⟩
      have HKB : Hid ((0 ≤ o1 ∧ o1 < (l5 : Int) → true = kb) ∧ (¬ (0 ≤ o1 ∧ o1 < (l5 : Int)) → false = kb)) := Lib.hid ⟨fun h => by rw [hkb, decide_eq_true h], fun h => by rw [hkb, decide_eq_false h]⟩
      obtain ⟨kv, hkv⟩ : ∃ kv : Int, kv = if kb = true then (l5 : Int) else o1 := ⟨_, rfl⟩
      have hkv' : ¬ (0 ≤ kv ∧ kv < (l5 : Int)) := by
        rw [hkv]
        by_cases h : 0 ≤ o1 ∧ o1 < (l5 : Int)
        · rw [← HKB.out.1 h, if_pos rfl]; omega
        · rw [← HKB.out.2 h, if_neg (by decide)]; exact h
      have HK' := Lib.hid hkv'
      have HKV := Lib.hid hkv
      clear hkb hkv hkv'
      go_upto_region 7 with fail
      go_cut [49] from 41 to 49 (fun v wx => v = .bool kb ∧ wx = wc)
      case first =>
        by_cases c1 : 0 ≤ o1
        · by_cases c2 : o1 < (l5 : Int)
          · have hr := Lib.hid (HKB.out.1 ⟨c1, c2⟩)
            go_wp2_with fail
            go_meet
            exact ⟨by rw [← hr.out], rfl⟩
          · have hr := Lib.hid (HKB.out.2 (fun h => c2 h.2))
            go_wp2_with fail
            go_meet
            exact ⟨by rw [← hr.out], rfl⟩
        · have hr := Lib.hid (HKB.out.2 (fun h => c1 h.1))
          go_wp2_with fail
          go_meet
          exact ⟨by rw [← hr.out], rfl⟩
      case rest =>
        obtain ⟨rfl, rfl⟩ := hcut
        go_upto_if 49 with fail
        go_cut [10] from 50 to 52 (fun v wx => v = .int .i64 kv ∧ wx = wc)
        case first =>
          cases kb with
          | true =>
            have hr : Hid ((l5 : Int) = kv) := Lib.hid (by rw [HKV.out, if_pos rfl])
            go_wp2_with fail
            go_meet
            exact ⟨by rw [← hr.out], rfl⟩
          | false =>
            have hr : Hid (o1 = kv) := Lib.hid (by rw [HKV.out, if_neg (by decide)])
            go_wp2_with fail
            go_meet
            exact ⟨by rw [← hr.out], rfl⟩
        case rest =>
          obtain ⟨rfl, rfl⟩ := hcut
          obtain ⟨tb, htb⟩ : ∃ tb : Bool, tb = decide (1 ≤ o2 ∧ o2 ≤ (m5 : Int)) := ⟨_, rfl⟩
          have HTB : Hid ((1 ≤ o2 ∧ o2 ≤ (m5 : Int) → true = tb) ∧ (¬ (1 ≤ o2 ∧ o2 ≤ (m5 : Int)) → false = tb)) := Lib.hid ⟨fun h => by rw [htb, decide_eq_true h], fun h => by rw [htb, decide_eq_false h]⟩
          obtain ⟨tv, htv⟩ : ∃ tv : Int, tv = if tb = true then -o2 else o2 := ⟨_, rfl⟩
          have htv' : ¬ (1 ≤ tv ∧ tv ≤ (m5 : Int)) ∧ I64 tv := by
            rw [htv]
            by_cases h : 1 ≤ o2 ∧ o2 ≤ (m5 : Int)
            · rw [← HTB.out.1 h, if_pos rfl]; unfold I64; omega
            · rw [← HTB.out.2 h, if_neg (by decide)]; exact ⟨h, i2a, i2b⟩
          have HT' := Lib.hid htv'
          have HTV := Lib.hid htv
          have HTB2 : Hid (tb = true → 1 ≤ o2 ∧ o2 ≤ (m5 : Int)) := Lib.hid (fun h => by rw [h] at htb; exact of_decide_eq_true htb.symm)
          clear htb htv htv'
          go_upto_region 9 with fail
          go_cut [61] from 53 to 61 (fun v wx => v = .bool tb ∧ wx = wc)
          case first =>
            by_cases c1 : 1 ≤ o2
            · by_cases c2 : o2 ≤ (m5 : Int)
              · have hr := Lib.hid (HTB.out.1 ⟨c1, c2⟩)
                go_wp2_with fail
                go_meet
                exact ⟨by rw [← hr.out], rfl⟩
              · have hr := Lib.hid (HTB.out.2 (fun h => c2 h.2))
                go_wp2_with fail
                go_meet
                exact ⟨by rw [← hr.out], rfl⟩
            · have hr := Lib.hid (HTB.out.2 (fun h => c1 h.1))
              go_wp2_with fail
              go_meet
              exact ⟨by rw [← hr.out], rfl⟩
          case rest =>
            obtain ⟨rfl, rfl⟩ := hcut
            go_upto_if 61 with fail
            go_cut [11] from 62 to 63 (fun v wx => v = .int .i64 tv ∧ wx = wc)
            case first =>
              cases tb with
              | true =>
                have hr : Hid (-o2 = tv) := Lib.hid (by rw [HTV.out, if_pos rfl])
                obtain ⟨hb1, hb2⟩ := HTB2.out rfl
                go_wp2_with fail
                go_meet
                exact ⟨by rw [← hr.out], rfl⟩
              | false =>
                have hr : Hid (o2 = tv) := Lib.hid (by rw [HTV.out, if_neg (by decide)])
                go_wp2_with fail
                go_meet
                exact ⟨by rw [← hr.out], rfl⟩
            case rest =>
              obtain ⟨rfl, rfl⟩ := hcut
              have HRS : Hid (refS N sv = 3 ∧ refD N sv = 3 ∧ refL N kv = 3) := Lib.hid (by
                have h1 := HS'.out.1
                have h2 := HK'.out
                have e : refS N sv = 3 := by unfold refS; rw [HLEN.out.1, if_neg (by omega), if_pos (by omega)]
                refine ⟨e, refD_out e, ?_⟩
                unfold refL
                rw [HLEN.out.1, HLEN.out.2, if_neg (by omega), if_pos (by omega)])
              obtain ⟨p, hp⟩ : ∃ p, N.p = p := ⟨_, rfl⟩
              have HP := Lib.hid hp
              have HNK : Hid (∀ W, Gr wc W → NetR B W N) := Lib.hid (fun W hW => (HN2.out.keep HG3.out).keep hW)
              have HST : Hid (∀ W, Gr wc W → Calls Tryz.prog 15 #[.pointer (some ⟨p, 0, none⟩), .int .i64 sv] W fun e w' => e = .returned (.tuple #[.int .i64 0, .int .i64 3]) ∧ w' = W) := Lib.hid (fun W hW => by
                have := Stock_any (HNK.out W hW) sv
                rw [HP.out, HRS.out.1, show stockN N sv = 0 by unfold stockN; rw [HRS.out.1]; rfl] at this
                exact this)
              have HBE : Hid (∀ W, Gr wc W → Calls Tryz.prog 16 #[.pointer (some ⟨p, 0, none⟩), .int .i64 sv, .slice none 0 0] W fun e w' => e = .returned (.tuple #[.int .i64 0, .int .i64 3]) ∧ Gr W w') := Lib.hid (fun W hW => by
                have := beginBad (HNK.out W hW) sv HRS.out.2.1 HTW.out.ok
                rw [HP.out] at this
                exact this)
              have HUP : Hid (∀ W, Gr wc W → Calls Tryz.prog 17 #[.pointer (some ⟨p, 0, none⟩), .int .i64 sv] W fun e w' => e = .returned (.bool false) ∧ w' = W) := Lib.hid (fun W hW => by
                have := Up_any (HNK.out W hW) sv
                rw [HP.out, show upN N sv = false by unfold upN; rw [HRS.out.1]; rfl] at this
                exact this)
              have HO1 : Hid (∀ W, Gr wc W → Calls Tryz.prog 18 #[.pointer (some ⟨p, 0, none⟩), .int .i64 sv, .int .i64 1] W fun e w' => e = .returned (.int .i64 0) ∧ Gr W w') := Lib.hid (fun W hW => by
                have := Outcome_any (HNK.out W hW) sv 1 ⟨by decide, by decide⟩
                rw [HP.out, show outN N sv 1 = 0 by unfold outN; rw [HRS.out.1]; rfl] at this
                exact this)
              have HO2 : Hid (∀ W, Gr wc W → Calls Tryz.prog 18 #[.pointer (some ⟨p, 0, none⟩), .int .i64 0, .int .i64 tv] W fun e w' => e = .returned (.int .i64 0) ∧ Gr W w') := Lib.hid (fun W hW => by
                have := Outcome_any (HNK.out W hW) 0 tv HT'.out.2
                rw [HP.out, show outN N 0 tv = 0 by
                  rw [← outN_nz5, HTW.out.outc]
                  unfold xOutc
                  rw [lens_era.2.1, HSH.out.m, if_neg (fun h => HT'.out.1 ⟨h.2.2.1, h.2.2.2⟩)]] at this
                exact this)
              have HCA : Hid (∀ W, Gr wc W → Calls Tryz.prog 19 #[.pointer (some ⟨p, 0, none⟩), .int .i64 sv, .int .i64 tv] W fun e w' => e = .returned (.int .i64 3) ∧ w' = W) := Lib.hid (fun W hW => by
                have := Cancel_bad sv tv (HNK.out W hW) (by rw [HRS.out.2.1]; decide)
                rw [HP.out, HRS.out.2.1] at this
                exact this)
              have HDE : Hid (∀ W, Gr wc W → Calls Tryz.prog 20 #[.pointer (some ⟨p, 0, none⟩), .int .i64 kv] W fun e w' => e = .returned (.int .i64 3) ∧ w' = W) := Lib.hid (fun W hW => by
                have := Deliver_bad kv (HNK.out W hW) (by rw [HRS.out.2.2]; decide)
                rw [HP.out, HRS.out.2.2] at this
                exact this)
              have HRE : Hid (∀ W, Gr wc W → Calls Tryz.prog 21 #[.pointer (some ⟨p, 0, none⟩), .int .i64 kv] W fun e w' => e = .returned (.int .i64 3) ∧ w' = W) := Lib.hid (fun W hW => by
                have := Repeat_bad kv (HNK.out W hW) (by rw [HRS.out.2.2]; decide)
                rw [HP.out, HRS.out.2.2] at this
                exact this)
              have HLO : Hid (∀ W, Gr wc W → Calls Tryz.prog 22 #[.pointer (some ⟨p, 0, none⟩), .int .i64 kv] W fun e w' => e = .returned (.int .i64 3) ∧ w' = W) := Lib.hid (fun W hW => by
                have := Lose_bad kv (HNK.out W hW) (by rw [HRS.out.2.2]; decide)
                rw [HP.out, HRS.out.2.2] at this
                exact this)
              have HTI : Hid (∀ W, Gr wc W → Calls Tryz.prog 23 #[.pointer (some ⟨p, 0, none⟩), .int .i64 sv] W fun e w' => e = .returned (.int .i64 3) ∧ w' = W) := Lib.hid (fun W hW => by
                have := Tick_bad sv (HNK.out W hW) (by rw [HRS.out.2.1]; decide)
                rw [HP.out, HRS.out.2.1] at this
                exact this)
              have HCR : Hid (∀ W, Gr wc W → Calls Tryz.prog 24 #[.pointer (some ⟨p, 0, none⟩), .int .i64 sv] W fun e w' => e = .returned (.int .i64 3) ∧ w' = W) := Lib.hid (fun W hW => by
                have := Crash_bad sv (HNK.out W hW) (by rw [HRS.out.2.1]; decide)
                rw [HP.out, HRS.out.2.1] at this
                exact this)
              have HSA : Hid (∀ W, Gr wc W → Calls Tryz.prog 25 #[.pointer (some ⟨p, 0, none⟩), .int .i64 sv] W fun e w' => e = .returned (.int .i64 3) ∧ w' = W) := Lib.hid (fun W hW => by
                have := Start_bad sv (HNK.out W hW) (by rw [HRS.out.1]; decide)
                rw [HP.out, HRS.out.1] at this
                exact this)
              have HSW : Hid (∀ W, Gr wc W → Calls Tryz.prog 12 #[.pointer (some ⟨p, 0, none⟩), .agg #[.slice As n5 cs, .slice At m5 ct, .slice Al l5 cl]] W fun e w' => e = .returned (.bool true) ∧ Gr W w') := Lib.hid (fun W hW => by
                have := shows5_any L (HNK.out W hW) HTW.out ((HX2.out.gr HG3.out).gr hW).rd
                rw [HSH.out.v, HP.out] at this
                exact this)
              rw [hp]
              clear hp b0 b1 b2
              go_wp2_with fail
              refine (HST.out _ (Gr.refl _)).mono ?_
              rintro e x1 ⟨rfl, rfl⟩
              go_wp2_with fail
              refine (HBE.out _ (Gr.refl _)).mono ?_
              rintro e x2 ⟨rfl, q2⟩
              go_wp2_with fail
              refine (HUP.out _ q2).mono ?_
              rintro e x3 ⟨rfl, rfl⟩
              go_wp2_with fail
              refine (HO1.out _ q2).mono ?_
              rintro e x4 ⟨rfl, q4⟩
              have Q4 := q2.trans q4
              clear q2 q4
              go_wp2_with fail
              refine (HO2.out _ Q4).mono ?_
              rintro e x5 ⟨rfl, q5⟩
              have Q5 := Q4.trans q5
              clear Q4 q5
              go_wp2_with fail
              refine (HCA.out _ Q5).mono ?_
              rintro e y1 ⟨rfl, rfl⟩
              go_wp2_with fail
              refine (HDE.out _ Q5).mono ?_
              rintro e y2 ⟨rfl, rfl⟩
              go_wp2_with fail
              refine (HRE.out _ Q5).mono ?_
              rintro e y3 ⟨rfl, rfl⟩
              go_wp2_with fail
              refine (HLO.out _ Q5).mono ?_
              rintro e y4 ⟨rfl, rfl⟩
              go_wp2_with fail
              refine (HTI.out _ Q5).mono ?_
              rintro e y5 ⟨rfl, rfl⟩
              go_wp2_with fail
              refine (HCR.out _ Q5).mono ?_
              rintro e y6 ⟨rfl, rfl⟩
              go_wp2_with fail
              refine (HSA.out _ Q5).mono ?_
              rintro e y7 ⟨rfl, rfl⟩
              rename World => wz
              have kz := HK3.out.keep Q5
              have b0 := kz.cell 0
              have b1 := kz.cell 1
              have b2 := kz.cell 2
              simp only [List.getElem?_toArray, List.getElem?_cons_succ, List.getElem?_cons_zero] at b0 b1 b2
              clear kz
              go_wp2_with fail
              refine (HSW.out _ Q5).mono ?_
              rintro e z1 ⟨rfl, q6⟩
              have Q6 := Q5.trans q6
              clear Q5 q6 b0 b1 b2
              go_wp2_with fail
              refine (HAW.out _).mono ?_
              rintro e z2 ⟨rfl, q7⟩
              go_wp2_with fail
              go_ret
              exact ⟨rfl, HG0.out.trans (HG2.out.trans (HG3.out.trans (Q6.trans q7)))⟩

end Go.Proofs.YtnoeiocbmhkmeaaGreat
namespace Go.Proofs.YtnoeiocbmhkmeaaGreat
open Go.RowKit Go.Deep Go.Joins Go.ChangeShapes Go.WideShapes Go.ChangeAt

theorem three_cells : Tryz.prog.cellsOf 46 = 3 := by kernel_rfl
theorem int_cells3 : Tryz.prog.cellsOf 3 = 1 := by kernel_rfl
theorem array3 {cs : Array Value} (h : cs.size = 3) : ∃ a b c, cs = #[a, b, c] := by
  obtain ⟨l⟩ := cs
  match l, h with
  | [a, b, c], _ => exact ⟨a, b, c, rfl⟩
set_option maxRecDepth 100000 in
theorem open_three {H : Type} {enc : TypeId × Value → H} {w : World} {base : Nat} {hd : Bool} {r : Reach} {b0 : Nat} {v : Value} {d : DataW H} {p : List MemPlace}
    (hv : Value.okWide Tryz.prog w r b0 46 v) (h : DataW.Trod enc Tryz.prog w base (fun _ => true) hd 46 v d p) :
    ∃ x y z : Int, v = .agg #[.int .i64 x, .int .i64 y, .int .i64 z] ∧ I64 x ∧ I64 y ∧ I64 z := by
  unfold Value.okWide at hv
  rw [Tryz.underlying46] at hv
  obtain ⟨cs, rfl, hsz, -⟩ := hv
  rw [three_cells] at hsz
  obtain ⟨c0, c1, c2, rfl⟩ := array3 hsz
  obtain ⟨fuel, hf⟩ := h
  obtain ⟨xs, m, -, -, -, hl, hi⟩ := DataW.trod_array Tryz.underlying46 hf
  have h0 := hi 0 (by omega)
  have h1 := hi 1 (by omega)
  have h2 := hi 2 (by omega)
  rw [int_cells3, List.getElem?_eq_getElem (by omega)] at h0 h1 h2
  obtain ⟨x, rfl, hx⟩ := trod_intB Tryz.underlying3 (v := c0) (by simpa [Value.cells] using h0)
  obtain ⟨y, rfl, hy⟩ := trod_intB Tryz.underlying3 (v := c1) (by simpa [Value.cells] using h1)
  obtain ⟨z, rfl, hz⟩ := trod_intB Tryz.underlying3 (v := c2) (by simpa [Value.cells] using h2)
  exact ⟨x, y, z, rfl, hx, hy, hz⟩

end Go.Proofs.YtnoeiocbmhkmeaaGreat
namespace Go.Proofs.YtnoeiocbmhkmeaaGreat
open Go.RowKit Go.Deep Go.Joins Go.ChangeShapes Go.WideShapes Go.ChangeAt

set_option maxRecDepth 100000 in
theorem pactAsks_lifted (os : Os) (started : os.Started) (H : Type) (enc : TypeId × Value → H) :
    ReturnsInHanded {} Tryz.checked os 5 .any (Rows.pactAsksSpec.pre6 enc Tryz.prog Tryz.f5 Rows.pactAsksRow.domain false) (Rows.pactAsksSpec.post enc Tryz.prog Tryz.f5 false true false false) := by
  refine returnsInHanded_of_change (C := Tryz.checked) own_knob started (by kernel_rfl) Tryz.func5
    (ChangeSpec.witness6 (enc := enc) (C := Tryz.checked) false ⟨#[], #[.slice none 0 0, .slice none 0 0, .agg #[.int .i64 0, .int .i64 0, .int .i64 0]], []⟩ 8 (by kernel_rfl) (by kernel_rfl) (by kernel_rfl) (by kernel_rfl)) ?_
  intro W base args ds gs before hval0 hW _ _
  have hval : ∀ (j : Nat) t v, Tryz.f5.params[j]? = some t → args[j]? = some v → Value.okWide Tryz.prog W .any base t v := hval0
  have hW' := hW
  obtain ⟨p, q, hA0, hV, -, -, -⟩ := hW
  have hA : DataW.TrodAll enc Tryz.prog W 0 (fun _ => true) true Tryz.f5.params.toList args.toList ds p := hA0
  rw [Tryz.params5] at hA hval
  obtain ⟨v0, v1, v2, d0, d1, d2, p0, p1, p2, rfl, rfl, rfl, h0, h1, h2⟩ := trodAll_three hA
  obtain ⟨rfl, rfl⟩ := trodVars_none hV
  obtain ⟨A, n, c, l, rfl, hc, hm, hz, hl, hp, -⟩ := open_ints5 (hval 0 22 v0 rfl rfl) h0
  obtain ⟨AA, an, ac, acts, rfl, hac, ham, han, har, hok⟩ := open_acts (hval 1 23 v1 rfl rfl) h1
  obtain ⟨o0, o1, o2, rfl, hi0, hi1, hi2⟩ := open_three (hval 2 46 v2 rfl rfl) h2
  refine (lawAsks_any A n c l AA an ac acts o0 o1 o2 W hl (Nat.le_trans hc hm) hp han hac ham har hok hi0 hi1 hi2).mono fun e W' ⟨he, hg⟩ => ?_
  subst he
  exact ⟨_, rfl, law_post laid_out (fun t ht => by rw [Tryz.params5] at ht; simp at ht; rcases ht with rfl | rfl | rfl <;> exact ⟨by kernel_rfl, of_decide_eq_true (by kernel_rfl)⟩) rfl rfl Tryz.underlying4 ⟨rfl, rfl, rfl⟩ hW' hg⟩

set_option maxHeartbeats 40000000 in
theorem pactAsks_closed : joinedFacts Tryz.pinned.checked.prog 5 Tryz.f5 Rows.pactAsksSpec Rows.pactAsksRow = true := by
  unfold joinedFacts
  simp only [Bool.and_eq_true]
  repeat' apply And.intro
  all_goals first
    | (with_reducible exact may_enter)
    | ((with_reducible_and_instances refine no_lifts ?_); rfl)
    | ((with_reducible_and_instances refine make_cut ?_); rfl)
    | (as_aux_lemma => kernel_rfl)
theorem pactAsks : Rows.PactAsksSaid :=
  OpenClaim.holds_of_wide 5 Tryz.f5 rfl rfl rfl rfl rfl rfl rfl ⟨rfl, rfl, rfl, rfl, rfl⟩ rfl rfl rfl rfl rfl (by kernel_rfl) Tryz.func5 pactAsks_closed
    (of_decide_eq_true (by kernel_rfl)) (by unfold Func.isWrapper; first | (rw [if_pos (by decide +kernel)]; kernel_rfl) | (rw [if_neg (by decide +kernel)]; exact ⟨rfl, rfl⟩))
    (fun os started H enc _ => pactAsks_lifted os started H enc)

end Go.Proofs.YtnoeiocbmhkmeaaGreat
