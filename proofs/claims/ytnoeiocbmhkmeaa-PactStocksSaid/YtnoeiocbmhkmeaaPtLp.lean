/- Layer 5: the law Pays. -/
import Derived.Test.YtnoeiocbmhkmeaaPtPs
import Derived.Test.YtnoeiocbmhkmeaaPtOp
namespace Go.Proofs.Ytnoeiocbmhkmeaa
open Go.RowKit
set_option linter.unusedSimpArgs false

theorem calm_stocks {N : Nx} {own : List Int} {co : Int → Int} {pa : Int → List Mv} {G : Int → Prop} (h : Calm N own co pa G) {j : Nat} (hj : j < own.length) : 0 ≤ own.getD j 0 ∧ own.getD j 0 ≤ 1099511627776 := by
  have h1 : N.sites[j]? = some (N.sites[j]'(by rw [← h.len]; exact hj)) := List.getElem?_eq_getElem _
  generalize N.sites[j]'_ = s at h1
  have h2 := (h.site j s h1).2.2.2.2
  rw [List.getD_eq_getElem?_getD, h2]
  exact (h.ok.site j s h1).1.stock
theorem begE_zero {N : Nx} {i : Int} {ps : List Mv} (h : begE N i ps = 0) : (∃ (k : Nat) (s : Sx), i = (k : Int) ∧ N.sites[k]? = some s) ∧ okTx N ps = true ∧ N.begun < 256 ∧ begT N i ps = N.begun + 1 := by
  have h0 := h
  unfold begE at h
  by_cases h1 : refD N i = 0
  · rw [h1, if_neg (by simp)] at h
    obtain ⟨k, s, e, hk, -⟩ := refD_zero h1
    by_cases h2 : okTx N ps = false
    · rw [if_pos h2] at h; cases h
    · rw [if_neg h2] at h
      by_cases h3 : 256 ≤ N.begun
      · rw [if_pos h3] at h; cases h
      · exact ⟨⟨k, s, e, hk⟩, by simpa using h2, by omega, by unfold begT; rw [h0, if_pos rfl]⟩
  · rw [if_pos h1] at h; exact absurd h h1
/-- While a transaction runs: what is left of its letters. -/
def Runs (M : Nx) (ow : List Int) (t : Int) (ps : List Mv) (d : Nat) : Prop := ∃ co pa G, Run (nzN M) ow t ps co pa G ∧ d + phi (nzN M) ≤ 49
theorem runs_start {N N1 : Nx} {ow : List Int} {i : Int} {ps : List Mv} (hC : ∃ co pa G, Calm (nzN N) ow co pa G) (hE : begE N i ps = 0) (hN : nzN N1 = begI (nzN N) i ps) : Runs N1 ow (N.begun + 1) ps 0 := by
  obtain ⟨co, pa, G, hc⟩ := hC
  obtain ⟨⟨k, s, rfl, hk⟩, htx, hb, -⟩ := begE_zero hE
  have h1 : nzN N1 = begN (nzN N) k ps := by
    rw [hN]; unfold begI; rw [begE_nz, if_pos hE]; rfl
  have htx' : okTx (nzN N) ps = true := by rw [okTx_nz]; exact htx
  have h2 := Run.start hc (nz_site hk) htx' hb
  have h3 := Run.few hc (nz_site hk) htx'
  rw [← h1] at h2 h3
  exact ⟨_, _, _, h2, by omega⟩
theorem runs_step {M M' : Nx} {ow : List Int} {t : Int} {ps : List Mv} {d : Nat} (h : Runs M ow t ps d) (hm : 0 < M.mail.length) (hM : nzN M' = delI (nzN M) 0) : refL M 0 = 0 ∧ Runs M' ow t ps (d + 1) := by
  obtain ⟨co, pa, G, hr, hphi⟩ := h
  have h0 : refL M 0 = 0 := by
    unfold refL
    have := hr.ok.lo
    rw [nz_len] at this
    rw [if_neg (by omega), if_neg (by omega)]
  have h1 : nzN M' = delN (nzN M) 0 := by
    rw [hM]; unfold delI; rw [refL_nz, if_pos h0]; rfl
  have h2 := phi_mail (nzN M)
  have hm' : 0 < (nzN M).mail.length := hm
  obtain ⟨G', h3⟩ := hr.step (by omega) hm'
  have h4 := delN_phi hr.ok hm'
  rw [← h1] at h3 h4
  exact ⟨h0, co, pa, G', h3, by omega⟩
theorem out_kp {M : Nx} {own : List Int} {co : Int → Int} {pa : Int → List Mv} {G : Int → Prop} (h : Calm (nzN M) own co pa G) {k : Nat} {t : Int} (hk : k < (nzN M).sites.length) : (outN M (k : Int) t == 2) = (atN (nzN M) t (k : Int)).kp := by
  rw [nz_len] at hk
  have hs : M.sites[k]? = some (M.sites[k]'hk) := List.getElem?_eq_getElem _
  generalize M.sites[k]'hk = s at hs
  have h1 : (nz s).prom = [] := (h.site k _ (nz_site hs)).2.2.2.1
  have h2 : s.prom = [] := h1
  have h3 : outN M (k : Int) t = outS s t := by
    unfold outN
    have : refS M (k : Int) = 0 := by unfold refS; rw [if_neg (by omega), if_neg (by omega)]
    rw [this, show ((k : Int)).toNat = k from rfl, hs]
    rfl
  rw [h3, atN_of (nz_site hs)]
  show (outS s t == 2) = (mget s.kept t).getD false
  unfold outS
  rw [h2, mget_nil]
  cases hkp : (mget s.kept t).getD false with
  | true => rfl
  | false =>
    cases hd : (mget s.drop t).getD false <;> rfl
theorem calm_settled {N : Nx} {own : List Int} {co : Int → Int} {pa : Int → List Mv} {G : Int → Prop} (h : Calm N own co pa G) : settledN N = true := by
  unfold settledN
  rw [h.mail]
  show N.sites.all setS = true
  rw [List.all_eq_true]
  intro s hs
  obtain ⟨k, hk⟩ := List.mem_iff_getElem?.1 hs
  obtain ⟨-, a, b, c, -⟩ := h.site k s hk
  unfold setS
  rw [a, b, c]
  rfl
set_option maxRecDepth 100000 in
set_option maxHeartbeats 40000000 in
theorem lawPays_any (A : Option Addr) (n c : Nat) (l : List Int) (AA : Option Addr) (an ac : Nat) (acts : List Ac) (w : World) (hn : l.length = n) (hl : n ≤ 9223372036854775807) (hp : Ints w A l) (han : acts.length = an) (_hac : an ≤ ac) (_ham : ac ≤ 9223372036854775807) (har : Rd 4 encA w AA acts) (hok : ∀ a ∈ acts, AcOk w a) :
    Calls Try.prog 8 #[.slice A n c, .slice AA an ac] w fun e w' => e = .returned (.bool true) ∧ Gr w w' := by
  have HTA := Lib.hid (tame5_any A n c l w hn hl hp)
  have HAW := Lib.hid (fun W => awake5_any W)
  have HAN := Lib.hid han
  have HAR := Lib.hid har
  have HOK := Lib.hid hok
  clear hn hl hp han har hok
  go_enter Try.func8, Try.ntmps8
  go_wp2_with fail
  refine HTA.out.mono ?_
  rintro e w1 ⟨tl, k, A1, c1, rfl, hlen, hk1, hk5, hval, hrow, hg1⟩
  obtain ⟨g, cap, e1, hgl, hgs⟩ : ∃ g cap, Value.slice A1 k c1 = .slice (some ⟨g, 0, none⟩) k cap ∧ w.heap.size ≤ g ∧ g < w1.heap.size := by
    rcases hrow.2 with ⟨-, h2⟩ | ⟨g, cap, cur, h1, h2, h3, -⟩
    · omega
    · exact ⟨g, cap, h1, h2, (Array.getElem?_eq_some_iff.1 h3).1⟩
  rw [e1] at hrow ⊢
  have hst : okStocks tl = true := (okStocks_iff tl).2 ⟨by omega, by omega, hval⟩
  have HLT := Lib.hid hlen
  have hrd : Ints w1 (some ⟨g, 0, none⟩) tl := Rd_of_owns enc1p_len hlen hrow
  have HRW := Lib.hid hrow
  have HGG := Lib.hid (And.intro hgl hgs)
  have HST := Lib.hid hst
  have HRD := Lib.hid hrd
  clear hlen hval hrow e1 hgl hgs hst hrd
  go_wp2_with fail
  refine (New_any (some ⟨g, 0, none⟩) k cap tl w1 HLT.out (by omega) HRD.out).mono ?_
  rintro e w2 (⟨hno, -⟩ | ⟨-, N, rfl, hnet, hnl, hml, hbg, hg2⟩)
  · rw [HST.out] at hno; cases hno
  have hnz := newN_of hnl hml hbg
  obtain ⟨B, hB⟩ : ∃ B, w1.heap.size = B := ⟨_, rfl⟩
  obtain ⟨p, hpp⟩ : ∃ p, N.p = p := ⟨_, rfl⟩
  have HS0 : Hid (PaySt w B g cap p k tl N w2) := Lib.hid ⟨by rw [← hB]; exact hnet, hpp, owns_gr HRW.out hg2, HLT.out, hg1.trans hg2, by rw [← hB]; exact ⟨HGG.out.2, HGG.out.1⟩⟩
  have HC0 : Hid (Calm (nzN N) tl (fun _ => 0) (fun _ => []) (fun _ => False)) := Lib.hid (by rw [hnz]; exact calm_new HST.out)
  have hlen2 : N.sites.length = k := by rw [← nz_len, hnz, newN_len, HLT.out]
  have HSI := Lib.hid (Sites_any hnet)
  rw [hlen2] at HSI
  rw [hpp] at HSI ⊢
  have hkk : ((k : Int) != (k : Int)) = false := by simp
  clear hnet hnl hml hbg hg2 hnz hg1 hlen2 HRD HRW hB hpp
  go_wp2_with fail
  refine HSI.out.mono ?_
  rintro e w3 ⟨rfl, rfl⟩
  go_wp2_with fail
  go_loopw [8] (fun z wr => ∃ (i : Nat) (N : Nx) (ow : List Int), i ≤ an ∧ z = .int .i64 (i : Int) ∧ Hid (PaySt w B g cap p k ow N wr) ∧ Hid (∃ co pa G, Calm (nzN N) ow co pa G)) (fun z _ => an - (intOf z).toNat)
  case atStart => exact ⟨0, N, tl, Nat.zero_le _, rfl, HS0, Lib.hid ⟨_, _, _, HC0.out⟩⟩
  case round =>
    obtain ⟨i, M, ow, hi, rfl, hS, hC⟩ := hrel
    clear HS0 HC0 HSI hkk
    by_cases hlt : i < an ∧ i < 12
    · have hlt1 := hlt.1
      have hlt2 := hlt.2
      have hii : (i : Int) < (an : Int) := by omega
      have hi12 : (i : Int) < 12 := by omega
      have hi0 : (0 : Int) ≤ (i : Int) := by omega
      have hxi : acts[i]? = some (acts[i]'(by rw [HAN.out]; exact hlt1)) := List.getElem?_eq_getElem _
      generalize acts[i]'_ = a at hxi
      have hao := HOK.out a (List.mem_of_getElem? hxi)
      obtain ⟨b, off, rfl, hcell⟩ := (HAR.out.keep hS.out.gr) i a hxi
      have x1 : wr.cell? ⟨b, off + i * 4 + 1, none⟩ = some (.int .i64 a.st) := hcell 1 _ rfl
      have x3 : wr.cell? ⟨b, off + i * 4 + 3, none⟩ = some (.slice a.A a.n a.c) := hcell 3 _ rfl
      have HPA := Lib.hid (fun W (hW : Gr w W) => parts_any a.A a.n a.c a.bs W hao.parts.len hao.parts.le hao.parts.max hao.parts.nil (hao.parts.rd.keep hW))
      have HPI : Hid (∀ q ∈ a.bs.take 9, I64 q.1 ∧ I64 q.2) := Lib.hid (fun q hq => hao.parts.small q (List.mem_of_mem_take hq))
      obtain ⟨m, hm⟩ : ∃ m, min a.n 9 = m := ⟨_, rfl⟩
      obtain ⟨ps, hps⟩ : ∃ ps, a.bs.take 9 = ps := ⟨_, rfl⟩
      have HPL : Hid (ps.length = m ∧ m ≤ 9) := Lib.hid ⟨by rw [← hps, List.length_take, hao.parts.len]; omega, by omega⟩
      rw [hm, hps] at HPA
      rw [hps] at HPI
      clear hxi hcell hao hm hps hlt
      go_wp2_with fail
      refine (HPA.out _ hS.out.gr).mono ?_
      rintro e w4 ⟨A4, c4, rfl, hcp⟩
      have HCP := Lib.hid hcp
      have x1' := hcp.gr.keep x1
      have HS4 := Lib.hid (hS.out.keep hcp.gr)
      have hdiv := mod5_le (x := a.st) (n := (k : Int)) (by omega) (by omega)
      have e0 : IntKind.u64.wrap (k : Int) = (k : Int) := by
        simp only [IntKind.wrap, IntKind.signed]
        first | (exact Int.emod_eq_of_lt (by omega) (by simp [IntKind.bits]; omega)) | omega
      have e1 : ((k : Int) == 0) = false := by simp; omega
      obtain ⟨q, hq⟩ : ∃ q : Nat, wrap64 ((IntKind.u64.wrap a.st).tmod (k : Int)) = (q : Int) := ⟨(wrap64 ((IntKind.u64.wrap a.st).tmod (k : Int))).toNat, by omega⟩
      have HQ : Hid (q < k) := Lib.hid (by omega)
      have HKEEP : Hid (∀ X, Ch (ownB M) w4 X → Pts X A4 ps) := Lib.hid (hcp.away (fun y hy => (hS.out.net.own y hy).2))
      have HBE : Hid (Calls Try.prog 15 #[.pointer (some ⟨p, 0, none⟩), .int .i64 (q : Int), .slice A4 m c4] w4 (BeginP B w4 M (q : Int) ps)) := Lib.hid (by
        obtain ⟨co, pa, G, hc⟩ := hC.out
        have := Begin_all (q : Int) A4 m c4 ps w4 HS4.out.net hc.ok HPL.out.1 (by have := HPL.out.2; omega) HKEEP.out (fun y hy => (HPI.out y hy).1)
        rw [hS.out.p5] at this
        exact this)
      clear hcp x1 x3 hdiv
      go_upto_region 9 with fail
      go_wp2_with fail
      rw [hq]
      refine HBE.out.mono ?_
      rintro e w5 ⟨rfl, N1, hnz1, hto1⟩
      have HS5 := Lib.hid (HS4.out.to hto1)
      by_cases hE : begE M (q : Int) ps = 0
      · have hRS := runs_start hC.out hE hnz1
        obtain ⟨-, htx, -, hT⟩ := begE_zero hE
        rw [hE, hT]
        obtain ⟨t, ht⟩ : ∃ t, M.begun + 1 = t := ⟨_, rfl⟩
        rw [ht] at hRS ⊢
        have HRS := Lib.hid hRS
        have HPP : Hid (OkP k ps) := Lib.hid (by
          have h1 := okTx_parts htx
          obtain ⟨co, pa, G, hc⟩ := hC.out
          have h2 := hc.len
          rw [nz_len, hS.out.len] at h2
          rw [h2]; exact h1)
        have HOW : Hid (∀ j, j < k → 0 ≤ ow.getD j 0 ∧ ow.getD j 0 ≤ 1099511627776) := Lib.hid (fun j hj => by
          obtain ⟨co, pa, G, hc⟩ := hC.out
          exact calm_stocks hc (by rw [hS.out.len]; exact hj))
        have HK5 : Hid (∀ X, Ch (ownB N1) w5 X → Pts X A4 ps) := Lib.hid (stay_to HKEEP.out hto1)
        have hpt : Pts w5 A4 ps := HK5.out w5 Ch.refl
        have HPT := Lib.hid hpt
        clear hRS htx hT hto1 hnz1 hpt HBE HKEEP HS4 hq e0 e1 x1' hE
        go_wp2_with fail
        go_loopw [12, 13] (fun y z wr => ∃ (j : Nat) (cb : Bool), j ≤ m ∧ z = .int .i64 (j : Int) ∧ y = .bool cb ∧ Hid (cb = canB ow (ps.take j)) ∧ Gr w5 wr) (fun _ z _ => m - (intOf z).toNat)
        case atStart => exact ⟨0, true, Nat.zero_le _, rfl, rfl, Lib.hid rfl, Gr.refl _⟩
        case round =>
          obtain ⟨j, cb, hj, rfl, rfl, hcb, hg5⟩ := hrel
          have hm9 := HPL.out.2
          by_cases hjm : j < m
          · have hji : (j : Int) < (m : Int) := by omega
            have hpj : ps[j]? = some (ps.getD j (0, 0)) := getD_of (0, 0) (by rw [HPL.out.1]; exact hjm)
            obtain ⟨b4, o4, rfl, y0, y1⟩ := Pts_at (HPT.out.keep hg5) (k := j) (by rw [HPL.out.1]; exact hjm)
            generalize ps.getD j (0, 0) = pj at hpj y0 y1
            obtain ⟨ps0, px⟩ := pj
            have hpart := HPP.out.part _ (List.mem_of_getElem? hpj)
            dsimp only at hpart y0 y1
            obtain ⟨sj, rfl⟩ : ∃ sj : Nat, ps0 = (sj : Int) := ⟨ps0.toNat, by omega⟩
            have hsk : sj < k := by omega
            have hsi : (sj : Int) < (k : Int) := by omega
            have hs0 : (0 : Int) ≤ (sj : Int) := by omega
            have hown := ((HS5.out.keep hg5).at (j := sj) hsk).1
            have hob := HOW.out sj hsk
            have HSN := Lib.hid (canB_snoc ow ps hpj)
            obtain ⟨o, ho⟩ : ∃ o, ow.getD sj 0 = o := ⟨_, rfl⟩
            have hgo : ow.getD ((sj : Int)).toNat 0 = o := ho
            dsimp only at HSN
            rw [hgo] at HSN
            rw [ho] at hown hob
            obtain ⟨r, hr⟩ : ∃ r, o + px = r := ⟨_, rfl⟩
            have hwr : IntKind.i64.wrap (o + px) = r := by rw [← hr]; exact IntWalk.i64_in _ (by omega)
            rw [hr] at HSN
            have hcap := HS5.out.capLe
            clear hpj hpart hob ho hgo hr
            go_upto_region 17 with fail
            refine wp_region_held_drew (S := (fun W' => W'.cell? ⟨b4, o4 + j * 2, none⟩ = some (.int .i64 (sj : Int)) ∧ W'.cell? ⟨b4, o4 + j * 2 + 1, none⟩ = some (.int .i64 px) ∧ W'.cell? ⟨g, sj, none⟩ = some (.int .i64 o))) ?_ ?_ (fun hHeld => ?_)
            · kernel_rfl
            · ((try dsimp only); ((try go_split_ands); (repeat' apply And.intro) <;> (repeat (first | assumption | (exact Gr.refl _) | (refine Gr.drew ?_) | (refine Gr.alloc ?_ _) | (refine alloc_old ?_) | (refine Gr.keep (by assumption) ?_) | (refine Gr.trans ?_ (by assumption))))))
            refine take_in (i := 0) (v := ?_) (d := (some 97)) rfl rfl ?_ ?_ ?_ ?_ ?_ ?_ ?_ ?_
            rotate_left
            · kernel_rfl
            · kernel_rfl
            · kernel_rfl
            · (intro _ _ _ hq; exact hq)
            · rfl
            · (intro _w hSw; (try dsimp only at hSw); go_simp; try with_reducible rfl)
            · assumption
            try simp only [Act.put, List.setIfInBounds_toArray, List.set_cons_zero, List.set_cons_succ]
            refine take_in (i := 1) (v := ?_) (d := (some 98)) rfl rfl ?_ ?_ ?_ ?_ ?_ ?_ ?_ ?_
            rotate_left
            · kernel_rfl
            · kernel_rfl
            · kernel_rfl
            · (intro _ _ _ hq; exact hq)
            · rfl
            · (intro _w hSw; (try dsimp only at hSw); go_simp; try with_reducible rfl)
            · assumption
            try simp only [Act.put, List.setIfInBounds_toArray, List.set_cons_zero, List.set_cons_succ]
            refine take_in (i := 2) (v := ?_) (d := (some 99)) rfl rfl ?_ ?_ ?_ ?_ ?_ ?_ ?_ ?_
            rotate_left
            · kernel_rfl
            · kernel_rfl
            · kernel_rfl
            · (intro _ _ _ hq; exact hq)
            · rfl
            · (intro _w hSw; (try dsimp only at hSw); go_simp; try with_reducible rfl)
            · assumption
            try simp only [Act.put, List.setIfInBounds_toArray, List.set_cons_zero, List.set_cons_succ]
            refine take_in (i := 3) (v := ?_) (d := (some 100)) rfl rfl ?_ ?_ ?_ ?_ ?_ ?_ ?_ ?_
            rotate_left
            · kernel_rfl
            · kernel_rfl
            · kernel_rfl
            · (intro _ _ _ hq; exact hq)
            · rfl
            · (intro _w hSw; (try dsimp only at hSw); go_simp; try with_reducible rfl)
            · assumption
            try simp only [Act.put, List.setIfInBounds_toArray, List.set_cons_zero, List.set_cons_succ]
            refine take_in (i := 4) (v := ?_) (d := (some 101)) rfl rfl ?_ ?_ ?_ ?_ ?_ ?_ ?_ ?_
            rotate_left
            · kernel_rfl
            · kernel_rfl
            · kernel_rfl
            · (intro _ _ _ hq; exact hq)
            · rfl
            · (intro _w hSw; (try dsimp only at hSw); go_simp; try with_reducible rfl)
            · assumption
            try simp only [Act.put, List.setIfInBounds_toArray, List.set_cons_zero, List.set_cons_succ]
            refine take_in (i := 5) (v := ?_) (d := (some 102)) rfl rfl ?_ ?_ ?_ ?_ ?_ ?_ ?_ ?_
            rotate_left
            · kernel_rfl
            · kernel_rfl
            · kernel_rfl
            · (intro _ _ _ hq; exact hq)
            · rfl
            · (intro _w hSw; (try dsimp only at hSw); go_simp; try with_reducible rfl)
            · assumption
            try simp only [Act.put, List.setIfInBounds_toArray, List.set_cons_zero, List.set_cons_succ]
            refine take_in (i := 6) (v := ?_) (d := (some 103)) rfl rfl ?_ ?_ ?_ ?_ ?_ ?_ ?_ ?_
            rotate_left
            · kernel_rfl
            · kernel_rfl
            · kernel_rfl
            · (intro _ _ _ hq; exact hq)
            · rfl
            · (intro _w hSw; (try dsimp only at hSw); go_simp; try with_reducible rfl)
            · assumption
            try simp only [Act.put, List.setIfInBounds_toArray, List.set_cons_zero, List.set_cons_succ]
            refine take_in (i := 7) (v := ?_) (d := (some 104)) rfl rfl ?_ ?_ ?_ ?_ ?_ ?_ ?_ ?_
            rotate_left
            · kernel_rfl
            · kernel_rfl
            · kernel_rfl
            · (intro _ _ _ hq; exact hq)
            · rfl
            · (intro _w hSw; (try dsimp only at hSw); go_simp; try with_reducible rfl)
            · assumption
            try simp only [Act.put, List.setIfInBounds_toArray, List.set_cons_zero, List.set_cons_succ]
            refine take_in (i := 8) (v := ?_) (d := (some 105)) rfl rfl ?_ ?_ ?_ ?_ ?_ ?_ ?_ ?_
            rotate_left
            · kernel_rfl
            · kernel_rfl
            · kernel_rfl
            · (intro _ _ _ hq; exact hq)
            · rfl
            · (intro _w hSw; (try dsimp only at hSw); go_simp; try with_reducible rfl)
            · assumption
            try simp only [Act.put, List.setIfInBounds_toArray, List.set_cons_zero, List.set_cons_succ]
            refine take_in (i := 9) (v := ?_) (d := (some 106)) rfl rfl ?_ ?_ ?_ ?_ ?_ ?_ ?_ ?_
            rotate_left
            · kernel_rfl
            · kernel_rfl
            · kernel_rfl
            · (intro _ _ _ hq; exact hq)
            · rfl
            · (intro _w hSw; (try dsimp only at hSw); go_simp; try with_reducible rfl)
            · assumption
            try simp only [Act.put, List.setIfInBounds_toArray, List.set_cons_zero, List.set_cons_succ]
            refine take_in (i := 10) (v := ?_) (d := (some 107)) rfl rfl ?_ ?_ ?_ ?_ ?_ ?_ ?_ ?_
            rotate_left
            · kernel_rfl
            · kernel_rfl
            · kernel_rfl
            · (intro _ _ _ hq; exact hq)
            · rfl
            · (intro _w hSw; (try dsimp only at hSw); go_simp; try with_reducible rfl)
            · assumption
            try simp only [Act.put, List.setIfInBounds_toArray, List.set_cons_zero, List.set_cons_succ]
            refine take_in (i := 11) (v := ?_) (d := (some 108)) rfl rfl ?_ ?_ ?_ ?_ ?_ ?_ ?_ ?_
            rotate_left
            · kernel_rfl
            · kernel_rfl
            · kernel_rfl
            · (intro _ _ _ hq; exact hq)
            · rfl
            · (intro _w hSw; (try dsimp only at hSw); go_simp; try with_reducible rfl)
            · assumption
            try simp only [Act.put, List.setIfInBounds_toArray, List.set_cons_zero, List.set_cons_succ]
            refine take_in (i := 12) (v := ?_) (d := (some 109)) rfl rfl ?_ ?_ ?_ ?_ ?_ ?_ ?_ ?_
            rotate_left
            · kernel_rfl
            · kernel_rfl
            · kernel_rfl
            · (intro _ _ _ hq; exact hq)
            · rfl
            · (intro _w hSw; (try dsimp only at hSw); go_simp; try with_reducible rfl)
            · assumption
            try simp only [Act.put, List.setIfInBounds_toArray, List.set_cons_zero, List.set_cons_succ]
            refine take_in (i := 13) (v := ?_) (d := (some 110)) rfl rfl ?_ ?_ ?_ ?_ ?_ ?_ ?_ ?_
            rotate_left
            · kernel_rfl
            · kernel_rfl
            · kernel_rfl
            · (intro _ _ _ hq; exact hq)
            · rfl
            · (intro _w hSw; (try dsimp only at hSw); go_simp; try with_reducible rfl)
            · assumption
            try simp only [Act.put, List.setIfInBounds_toArray, List.set_cons_zero, List.set_cons_succ]
            refine take_in (i := 14) (v := ?_) (d := (some 14)) rfl rfl ?_ ?_ ?_ ?_ ?_ ?_ ?_ ?_
            rotate_left
            · kernel_rfl
            · kernel_rfl
            · kernel_rfl
            · (intro _ _ _ hq; exact hq)
            · rfl
            · (intro _w hSw; (try dsimp only at hSw); go_simp; try with_reducible rfl)
            · assumption
            try simp only [Act.put, List.setIfInBounds_toArray, List.set_cons_zero, List.set_cons_succ]
            refine wpAnyH_done ?_ ?_ _
            · kernel_rfl
            rotate_left
            all_goals
              have hg6 := hg5.trans (Gr.refl wr).drew
              clear hHeld y0 y1 hown hwr hg5
              have hnx : ∀ (cb' : Bool), cb' = (cb && (decide (0 ≤ r) && decide (r ≤ 1099511627776))) → Hid (cb' = canB ow (ps.take (j + 1))) := fun cb' h => Lib.hid (by rw [h, HSN.out, ← hcb.out])
              cases cb with
              | false =>
                have HNX := hnx false rfl
                clear hnx
                go_wp2_with fail
                go_roundw
                case rel => exact ⟨j + 1, false, by omega, by go_num, rfl, HNX, hg6⟩
                case measure => simp [intOf]; omega
              | true =>
                by_cases hr0 : 0 ≤ r
                · by_cases hr1 : r ≤ 1099511627776
                  · have HNX := hnx true (by simp [hr0, hr1])
                    clear hnx
                    go_wp2_with fail
                    go_roundw
                    case rel => exact ⟨j + 1, true, by omega, by go_num, by go_num, HNX, hg6⟩
                    case measure => simp [intOf]; omega
                  · have HNX := hnx false (by simp [hr1])
                    clear hnx
                    go_wp2_with fail
                    go_roundw
                    case rel => exact ⟨j + 1, false, by omega, by go_num, by go_num, HNX, hg6⟩
                    case measure => simp [intOf]; omega
                · have HNX := hnx false (by simp [hr0])
                  clear hnx
                  go_wp2_with fail
                  go_roundw
                  case rel => exact ⟨j + 1, false, by omega, by go_num, by go_num, HNX, hg6⟩
                  case measure => simp [intOf]; omega
          · obtain rfl : j = m := by omega
            have htk : ps.take j = ps := List.take_of_length_le (by rw [HPL.out.1]; exact Nat.le_refl _)
            rw [htk] at hcb
            have HS6 := Lib.hid (HS5.out.keep hg5)
            have HK6 : Hid (∀ X, Ch (ownB N1) wr X → Pts X A4 ps) := Lib.hid (stay_gr HK5.out hg5)
            clear htk hg5
            go_wp2_with fail
            rename World => W6
            go_loopw [15] (fun z wr => ∃ (d : Nat) (M' : Nx), d ≤ 49 ∧ z = .int .i64 (d : Int) ∧ Hid (PaySt w B g cap p k ow M' wr) ∧ Hid (Runs M' ow t ps d) ∧ Hid (∀ X, Ch (ownB M') wr X → Pts X A4 ps)) (fun z _ => 50 - (intOf z).toNat)
            case atStart => exact ⟨0, N1, by omega, rfl, HS6, HRS, HK6⟩
            case round =>
              obtain ⟨d, M', hd, rfl, hS', hR', hK'⟩ := hrel
              have hok : OkN (nzN M') := by obtain ⟨co, pa, G, hr, -⟩ := hR'.out; exact hr.ok
              have hle := fun X (hX : Gr wr X) => Letters_any (hS'.out.net.keep hX) hok.room
              have hde := fun X (hX : Gr wr X) => Deliver_all 0 (hS'.out.net.keep hX) hok
              simp only [hS'.out.p5] at hle hde
              have HLE := Lib.hid hle
              have HDE := Lib.hid hde
              have hd200 : (d : Int) < 200 := by omega
              clear hle hde hok
              by_cases hpos : 0 < M'.mail.length
              · have HST := Lib.hid (fun M2 hM => runs_step (M' := M2) hR'.out hpos hM)
                obtain ⟨q3, hq3⟩ : ∃ q3, M'.mail.length = q3 := ⟨_, rfl⟩
                have HQ3 := Lib.hid hq3
                rw [hq3] at hpos
                have hqi : (0 : Int) < (q3 : Int) := by omega
                clear hq3
                go_wp2_with fail
                refine (HLE.out _ (Gr.refl _)).mono ?_
                rintro e w7 ⟨A7, c7, rfl, -, hg7, -⟩
                rw [HQ3.out]
                go_wp2_with fail
                refine (HDE.out _ hg7).mono ?_
                rintro e w8 ⟨rfl, M2, hM2, hto⟩
                have hstep := HST.out M2 hM2
                rw [hstep.1]
                have HR2 := Lib.hid hstep.2
                have hS2 := Lib.hid ((hS'.out.keep hg7).to hto)
                have hK2 : Hid (∀ X, Ch (ownB M2) w8 X → Pts X A4 ps) := Lib.hid (stay_to (stay_gr hK'.out hg7) hto)
                have hd49 : d + 1 ≤ 49 := by obtain ⟨co, pa, G, -, h1⟩ := HR2.out; omega
                clear hstep hM2 hto hg7
                go_wp2_with fail
                go_roundw
                case rel => exact ⟨d + 1, M2, hd49, by go_num, hS2, HR2, hK2⟩
                case measure => simp [intOf]; omega
              · have hz : M'.mail.length = 0 := by omega
                have HQ3 := Lib.hid hz
                have HMZ : Hid (M'.mail = []) := Lib.hid (List.length_eq_zero_iff.1 hz)
                clear hz hpos
                go_wp2_with fail
                refine (HLE.out _ (Gr.refl _)).mono ?_
                rintro e w7 ⟨A7, c7, rfl, -, hg7, -⟩
                rw [HQ3.out]
                have HS7 := Lib.hid (hS'.out.keep hg7)
                have HK7 : Hid (∀ X, Ch (ownB M') w7 X → Pts X A4 ps) := Lib.hid (stay_gr hK'.out hg7)
                have HEND : Hid ((∃ co pa G, Calm (nzN M') (ownEnd (nzN M')) co pa G) ∧ (cb = true → (∀ q ∈ ps, (atN (nzN M') t q.1).kp = true) ∧ ownEnd (nzN M') = addP5 ow ps) ∧ (cb = false → (∀ f, (atN (nzN M') t f).kp = false) ∧ ownEnd (nzN M') = ow) ∧ 1 ≤ t ∧ t ≤ 256) := Lib.hid (by
                  obtain ⟨co, pa, G, hr, -⟩ := hR'.out
                  have hm0 : (nzN M').mail = [] := HMZ.out
                  have h1 := hr.done hm0
                  have hb5 := hr.ok.beg
                  have hb6 := hr.beg
                  have hcan := canB_iff (ow := ow) HPP.out HS7.out.len
                  refine ⟨⟨co, pa, G, h1.1⟩, fun h2 => ?_, fun h2 => ?_, by omega, by omega⟩
                  · have h3 := hcan.1 (by rw [← hcb.out]; exact h2)
                    exact ⟨h1.2.1 h3, hr.own_kept hm0 h3⟩
                  · have h3 : ¬ canP ow ps := fun h4 => by
                      have h5 := hcan.2 h4
                      rw [← hcb.out, h2] at h5; cases h5
                    exact ⟨h1.2.2.1 h3, hr.own_left hm0 h3⟩)
                clear hg7 hS' hR' hK' HLE HDE hd200 hd HRS HS6 HK6 HPT HS5 HK5
                go_wp2_with fail
                go_loopw [16] (fun z wr => ∃ x : Nat, x ≤ j ∧ z = .int .i64 (x : Int) ∧ Hid (PaySt w B g cap p k (if cb then addP5 ow (ps.take x) else ow) M' wr) ∧ Hid (Pts wr A4 ps)) (fun z _ => j - (intOf z).toNat)
                case atStart => exact ⟨0, Nat.zero_le _, rfl, Lib.hid (by cases cb <;> exact HS7.out), Lib.hid (HK7.out w7 Ch.refl)⟩
                case round =>
                  obtain ⟨x, hx, rfl, hS8, hP8⟩ := hrel
                  clear HS7 HK7
                  have hm9 := HPL.out.2
                  by_cases hxj : x < j
                  · have hxi : (x : Int) < (j : Int) := by omega
                    have hpx : ps[x]? = some (ps.getD x (0, 0)) := getD_of (0, 0) (by rw [HPL.out.1]; exact hxj)
                    obtain ⟨b4, o4, rfl, y0, y1⟩ := Pts_at hP8.out (k := x) (by rw [HPL.out.1]; exact hxj)
                    generalize ps.getD x (0, 0) = pj at hpx y0 y1
                    obtain ⟨ps0, px⟩ := pj
                    have hpart := HPP.out.part _ (List.mem_of_getElem? hpx)
                    dsimp only at hpart y0 y1
                    obtain ⟨sj, rfl⟩ : ∃ sj : Nat, ps0 = (sj : Int) := ⟨ps0.toNat, by omega⟩
                    have hsk : sj < k := by omega
                    have hsi : (sj : Int) < (k : Int) := by omega
                    have hs0 : (0 : Int) ≤ (sj : Int) := by omega
                    have hbg : b4 ≠ g := by
                      have h1 := HCP.out.new _ rfl
                      have h2 := hS.out.net.le
                      have h3 := hS.out.gB.1
                      dsimp only at h1
                      omega
                    have hv : ∃ v, outN M' (sj : Int) t = v ∧ (v == 2) = cb := by
                      obtain ⟨⟨co, pa, G, hc⟩, h1, h2, -⟩ := HEND.out
                      have h3 := out_kp hc (k := sj) (t := t) (by
                        have := hc.len
                        rw [← this]
                        cases cb with
                        | true => rw [(h1 rfl).2, addP5_len, hS.out.len]; exact hsk
                        | false => rw [(h2 rfl).2, hS.out.len]; exact hsk)
                      refine ⟨_, rfl, ?_⟩
                      rw [h3]
                      cases cb with
                      | true => exact (h1 rfl).1 _ (List.mem_of_getElem? hpx)
                      | false => exact (h2 rfl).1 _
                    obtain ⟨v, hv1, hv2⟩ := hv
                    have ho := fun X (hX : Gr wr X) => Outcome_any (hS8.out.net.keep hX) (sj : Int) t (by have := HEND.out.2.2.2; unfold I64; omega)
                    rw [hv1] at ho
                    simp only [hS8.out.p5] at ho
                    have HO := Lib.hid ho
                    have hbb : (cb != cb) = false := by simp
                    have hbb2 : (cb == cb) = true := by simp
                    clear ho hv1
                    go_wp2_with fail
                    refine (HO.out _ (Gr.refl _)).mono ?_
                    rintro e w9 ⟨rfl, hg9⟩
                    have HS9 := Lib.hid (hS8.out.keep hg9)
                    have HP9 := Lib.hid (hP8.out.keep hg9)
                    replace y0 := hg9.keep y0
                    replace y1 := hg9.keep y1
                    clear hg9
                    have hcap := HS9.out.capLe
                    cases cb with
                    | false =>
                      have HS10 : Hid (PaySt w B g cap p k ow M' w9) := Lib.hid HS9.out
                      clear hpx hpart hsi hs0
                      go_wp2_with fail
                      go_roundw
                      case rel => exact ⟨x + 1, by omega, by go_num, HS10, HP9⟩
                      case measure => simp [intOf]; omega
                    | true =>
                      have hSS : PaySt w B g cap p k (addP5 ow (ps.take x)) M' w9 := HS9.out
                      obtain ⟨hown, hfr⟩ := hSS.at (j := sj) hsk
                      have hob : -1099511627776 ≤ (addP5 ow (ps.take x)).getD sj 0 ∧ (addP5 ow (ps.take x)).getD sj 0 ≤ 2199023255552 := by
                        have h1 := addP5_at (ps.take x) ow sj (by
                          have := HPP.out.nod
                          rw [List.map_take]
                          exact this.sublist (List.take_sublist _ _)) (fun q hq => by have := HPP.out.part q (List.mem_of_mem_take hq); rw [hS.out.len]; exact ⟨this.1, this.2.1⟩) (by rw [hS.out.len]; exact hsk)
                        rw [List.getD_eq_getElem?_getD, h1]
                        have h2 := HOW.out sj hsk
                        cases hx2 : mget (ps.take x) (sj : Int) with
                        | none => simp only [Option.getD_some, Option.getD_none]; omega
                        | some y =>
                          have := HPP.out.part _ (List.mem_of_mem_take (mget_some hx2))
                          simp only [Option.getD_some]
                          dsimp only at this
                          omega
                      have HSN : Hid (∀ r, (addP5 ow (ps.take x)).getD sj 0 + px = r → (addP5 ow (ps.take x)).set sj r = addP5 ow (ps.take (x + 1))) := Lib.hid (fun r hr => by
                        rw [List.take_add_one, hpx, Option.toList_some, addP5_snoc]
                        dsimp only
                        rw [show ((sj : Int)).toNat = sj from rfl, hr])
                      generalize (addP5 ow (ps.take x)).getD sj 0 = o at hown hob HSN
                      obtain ⟨r, hr⟩ : ∃ r, o + px = r := ⟨_, rfl⟩
                      have hwr : IntKind.i64.wrap (o + px) = r := by rw [← hr]; exact IntWalk.i64_in _ (by omega)
                      have HS10 : Hid (PaySt w B g cap p k (addP5 ow (ps.take (x + 1))) M' (w9.drew.setCell ⟨g, sj, none⟩ (.int .i64 r))) := Lib.hid (by
                        have h1 := (hSS.keep (Gr.refl w9).drew).put sj r
                        rw [HSN.out r hr] at h1
                        exact h1)
                      have HP10 : Hid (Pts (w9.drew.setCell ⟨g, sj, none⟩ (.int .i64 r)) (some ⟨b4, o4, none⟩) ps) := Lib.hid (by
                        intro ii xx hxx
                        obtain ⟨b', o', e', hc⟩ := (HP9.out.keep (Gr.refl w9).drew) ii xx hxx
                        injection e' with e'
                        injection e' with e1 e2
                        subst e1 e2
                        exact ⟨_, _, rfl, fun jj vv hvv => cell_other (hc jj vv hvv) hbg⟩)
                      have z0 := (Gr.refl w9).drew.keep y0
                      have z1 := (Gr.refl w9).drew.keep y1
                      have zo := (Gr.refl w9).drew.keep hown
                      have zf : w9.drew.frozen? ⟨g, sj, none⟩ = false := ((hSS.keep (Gr.refl w9).drew).at (j := sj) hsk).2
                      clear hpx hpart hob hr hSS
                      go_upto_region 30 with fail
                      refine wp_region_held_drew (S := (fun W' => W'.cell? ⟨b4, o4 + x * 2, none⟩ = some (.int .i64 (sj : Int)) ∧ W'.cell? ⟨b4, o4 + x * 2 + 1, none⟩ = some (.int .i64 px))) ?_ ?_ (fun hHeld => ?_)
                      · kernel_rfl
                      · ((try dsimp only); (first | exact ⟨z0, z1⟩ | exact hHeld | exact ⟨cell_other z0 hbg, cell_other z1 hbg⟩))
                      refine take_in (i := 0) (v := ?_) (d := (some 151)) rfl rfl ?_ ?_ ?_ ?_ ?_ ?_ ?_ ?_
                      rotate_left
                      · kernel_rfl
                      · kernel_rfl
                      · kernel_rfl
                      · (intro _ _ _ hq; exact hq)
                      · rfl
                      · (intro _w hSw; (try dsimp only at hSw); go_simp; try with_reducible rfl)
                      · assumption
                      try simp only [Act.put, List.setIfInBounds_toArray, List.set_cons_zero, List.set_cons_succ]
                      refine take_in (i := 1) (v := ?_) (d := (some 152)) rfl rfl ?_ ?_ ?_ ?_ ?_ ?_ ?_ ?_
                      rotate_left
                      · kernel_rfl
                      · kernel_rfl
                      · kernel_rfl
                      · (intro _ _ _ hq; exact hq)
                      · rfl
                      · (intro _w hSw; (try dsimp only at hSw); go_simp; try with_reducible rfl)
                      · assumption
                      try simp only [Act.put, List.setIfInBounds_toArray, List.set_cons_zero, List.set_cons_succ]
                      refine take_in (i := 2) (v := ?_) (d := (some 153)) rfl rfl ?_ ?_ ?_ ?_ ?_ ?_ ?_ ?_
                      rotate_left
                      · kernel_rfl
                      · kernel_rfl
                      · kernel_rfl
                      · (intro _ _ _ hq; exact hq)
                      · rfl
                      · (intro _w hSw; (try dsimp only at hSw); go_simp; try with_reducible rfl)
                      · assumption
                      try simp only [Act.put, List.setIfInBounds_toArray, List.set_cons_zero, List.set_cons_succ]
                      refine take_in (i := 3) (v := ?_) (d := (some 154)) rfl rfl ?_ ?_ ?_ ?_ ?_ ?_ ?_ ?_
                      rotate_left
                      · kernel_rfl
                      · kernel_rfl
                      · kernel_rfl
                      · (intro _ _ _ hq; exact hq)
                      · rfl
                      · (intro _w hSw; (try dsimp only at hSw); go_simp; try with_reducible rfl)
                      · assumption
                      try simp only [Act.put, List.setIfInBounds_toArray, List.set_cons_zero, List.set_cons_succ]
                      refine take_in (i := 4) (v := ?_) (d := (some 155)) rfl rfl ?_ ?_ ?_ ?_ ?_ ?_ ?_ ?_
                      rotate_left
                      · kernel_rfl
                      · kernel_rfl
                      · kernel_rfl
                      · (intro _ _ _ hq; exact hq)
                      · rfl
                      · (intro _w hSw; (try dsimp only at hSw); go_simp; try with_reducible rfl)
                      · assumption
                      try simp only [Act.put, List.setIfInBounds_toArray, List.set_cons_zero, List.set_cons_succ]
                      refine take_in (i := 5) (v := ?_) (d := (some 156)) rfl rfl ?_ ?_ ?_ ?_ ?_ ?_ ?_ ?_
                      rotate_left
                      · kernel_rfl
                      · kernel_rfl
                      · kernel_rfl
                      · (intro _ _ _ hq; exact hq)
                      · rfl
                      · (intro _w hSw; (try dsimp only at hSw); go_simp; try with_reducible rfl)
                      · assumption
                      try simp only [Act.put, List.setIfInBounds_toArray, List.set_cons_zero, List.set_cons_succ]
                      refine take_in (i := 6) (v := ?_) (d := (some 157)) rfl rfl ?_ ?_ ?_ ?_ ?_ ?_ ?_ ?_
                      rotate_left
                      · kernel_rfl
                      · kernel_rfl
                      · kernel_rfl
                      · (intro _ _ _ hq; exact hq)
                      · rfl
                      · (intro _w hSw; (try dsimp only at hSw); go_simp; try with_reducible rfl)
                      · assumption
                      try simp only [Act.put, List.setIfInBounds_toArray, List.set_cons_zero, List.set_cons_succ]
                      refine take_in (i := 7) (v := ?_) (d := (some 158)) rfl rfl ?_ ?_ ?_ ?_ ?_ ?_ ?_ ?_
                      rotate_left
                      · kernel_rfl
                      · kernel_rfl
                      · kernel_rfl
                      · (intro _ _ _ hq; exact hq)
                      · rfl
                      · (intro _w hSw; (try dsimp only at hSw); go_simp; try with_reducible rfl)
                      · assumption
                      try simp only [Act.put, List.setIfInBounds_toArray, List.set_cons_zero, List.set_cons_succ]
                      refine take_in (i := 8) (v := ?_) (d := (some 159)) rfl rfl ?_ ?_ ?_ ?_ ?_ ?_ ?_ ?_
                      rotate_left
                      · kernel_rfl
                      · kernel_rfl
                      · kernel_rfl
                      · (intro _ _ _ hq; exact hq)
                      · rfl
                      · (intro _w hSw; (try dsimp only at hSw); go_simp; try with_reducible rfl)
                      · assumption
                      try simp only [Act.put, List.setIfInBounds_toArray, List.set_cons_zero, List.set_cons_succ]
                      refine take_in (i := 9) (v := ?_) (d := (some 160)) rfl rfl ?_ ?_ ?_ ?_ ?_ ?_ ?_ ?_
                      rotate_left
                      · kernel_rfl
                      · kernel_rfl
                      · kernel_rfl
                      · (intro _ _ _ hq; exact hq)
                      · rfl
                      · (intro _w hSw; (try dsimp only at hSw); go_simp; try with_reducible rfl)
                      · assumption
                      try simp only [Act.put, List.setIfInBounds_toArray, List.set_cons_zero, List.set_cons_succ]
                      refine take_in (i := 10) (v := ?_) (d := (some 161)) rfl rfl ?_ ?_ ?_ ?_ ?_ ?_ ?_ ?_
                      rotate_left
                      · kernel_rfl
                      · kernel_rfl
                      · kernel_rfl
                      · (intro _ _ _ hq; exact hq)
                      · rfl
                      · (intro _w hSw; (try dsimp only at hSw); go_simp; try with_reducible rfl)
                      · assumption
                      try simp only [Act.put, List.setIfInBounds_toArray, List.set_cons_zero, List.set_cons_succ]
                      refine take_in (i := 11) (v := ?_) (d := (some 162)) rfl rfl ?_ ?_ ?_ ?_ ?_ ?_ ?_ ?_
                      rotate_left
                      · kernel_rfl
                      · kernel_rfl
                      · kernel_rfl
                      · (intro _ _ _ hq; exact hq)
                      · rfl
                      · (intro _w hSw; (try dsimp only at hSw); go_simp; try with_reducible rfl)
                      · assumption
                      try simp only [Act.put, List.setIfInBounds_toArray, List.set_cons_zero, List.set_cons_succ]
                      refine take_in (i := 12) (v := ?_) (d := (some 163)) rfl rfl ?_ ?_ ?_ ?_ ?_ ?_ ?_ ?_
                      rotate_left
                      · kernel_rfl
                      · kernel_rfl
                      · kernel_rfl
                      · (intro _ _ _ hq; exact hq)
                      · rfl
                      · (intro _w hSw; (try dsimp only at hSw); go_simp; try with_reducible rfl)
                      · assumption
                      try simp only [Act.put, List.setIfInBounds_toArray, List.set_cons_zero, List.set_cons_succ]
                      refine take_in (i := 14) (v := ?_) (d := (some 165)) rfl rfl ?_ ?_ ?_ ?_ ?_ ?_ ?_ ?_
                      rotate_left
                      · kernel_rfl
                      · kernel_rfl
                      · kernel_rfl
                      · (intro _ _ _ hq; exact hq)
                      · rfl
                      · (intro _w hSw; (try dsimp only at hSw); go_simp; try with_reducible rfl)
                      · assumption
                      try simp only [Act.put, List.setIfInBounds_toArray, List.set_cons_zero, List.set_cons_succ]
                      refine take_in (i := 15) (v := ?_) (d := (some 166)) rfl rfl ?_ ?_ ?_ ?_ ?_ ?_ ?_ ?_
                      rotate_left
                      · kernel_rfl
                      · kernel_rfl
                      · kernel_rfl
                      · (intro _ _ _ hq; exact hq)
                      · rfl
                      · (intro _w hSw; (try dsimp only at hSw); go_simp; try with_reducible rfl)
                      · assumption
                      try simp only [Act.put, List.setIfInBounds_toArray, List.set_cons_zero, List.set_cons_succ]
                      refine take_in (i := 16) (v := ?_) (d := (some 167)) rfl rfl ?_ ?_ ?_ ?_ ?_ ?_ ?_ ?_
                      rotate_left
                      · kernel_rfl
                      · kernel_rfl
                      · kernel_rfl
                      · (intro _ _ _ hq; exact hq)
                      · rfl
                      · (intro _w hSw; (try dsimp only at hSw); go_simp; try with_reducible rfl)
                      · assumption
                      try simp only [Act.put, List.setIfInBounds_toArray, List.set_cons_zero, List.set_cons_succ]
                      refine take_in (i := 17) (v := ?_) (d := (some 168)) rfl rfl ?_ ?_ ?_ ?_ ?_ ?_ ?_ ?_
                      rotate_left
                      · kernel_rfl
                      · kernel_rfl
                      · kernel_rfl
                      · (intro _ _ _ hq; exact hq)
                      · rfl
                      · (intro _w hSw; (try dsimp only at hSw); go_simp; try with_reducible rfl)
                      · assumption
                      try simp only [Act.put, List.setIfInBounds_toArray, List.set_cons_zero, List.set_cons_succ]
                      refine take_in (i := 18) (v := ?_) (d := (some 169)) rfl rfl ?_ ?_ ?_ ?_ ?_ ?_ ?_ ?_
                      rotate_left
                      · kernel_rfl
                      · kernel_rfl
                      · kernel_rfl
                      · (intro _ _ _ hq; exact hq)
                      · rfl
                      · (intro _w hSw; (try dsimp only at hSw); go_simp; try with_reducible rfl)
                      · assumption
                      try simp only [Act.put, List.setIfInBounds_toArray, List.set_cons_zero, List.set_cons_succ]
                      refine wpAnyH_ready (rs := [13]) ?_ ?_ ?_
                      · kernel_rfl
                      · simp
                      refine (AllReadyH.cons rfl (fun K hK => ?_) AllReadyH.nil)
                      go_simp
                      refine hK.out _ _ ?_ (fun hHeld => ?_)
                      · ((try dsimp only); (first | exact ⟨z0, z1⟩ | exact hHeld | exact ⟨cell_other z0 hbg, cell_other z1 hbg⟩))
                      clear hK K
                      try simp only [Act.put, List.setIfInBounds_toArray, List.set_cons_zero, List.set_cons_succ]
                      refine take_in (i := 19) (v := ?_) (d := (some 170)) rfl rfl ?_ ?_ ?_ ?_ ?_ ?_ ?_ ?_
                      rotate_left
                      · kernel_rfl
                      · kernel_rfl
                      · kernel_rfl
                      · (intro _ _ _ hq; exact hq)
                      · rfl
                      · (intro _w hSw; (try dsimp only at hSw); go_simp; try with_reducible rfl)
                      · assumption
                      try simp only [Act.put, List.setIfInBounds_toArray, List.set_cons_zero, List.set_cons_succ]
                      refine take_in (i := 20) (v := ?_) (d := (some 171)) rfl rfl ?_ ?_ ?_ ?_ ?_ ?_ ?_ ?_
                      rotate_left
                      · kernel_rfl
                      · kernel_rfl
                      · kernel_rfl
                      · (intro _ _ _ hq; exact hq)
                      · rfl
                      · (intro _w hSw; (try dsimp only at hSw); go_simp; try with_reducible rfl)
                      · assumption
                      try simp only [Act.put, List.setIfInBounds_toArray, List.set_cons_zero, List.set_cons_succ]
                      refine wpAnyH_ready (rs := [21]) ?_ ?_ ?_
                      · kernel_rfl
                      · simp
                      refine (AllReadyH.cons rfl (fun K hK => ?_) AllReadyH.nil)
                      go_simp
                      refine hK.out _ _ ?_ (fun hHeld => ?_)
                      · ((try dsimp only); (first | exact ⟨z0, z1⟩ | exact hHeld | exact ⟨cell_other z0 hbg, cell_other z1 hbg⟩))
                      clear hK K
                      try simp only [Act.put, List.setIfInBounds_toArray, List.set_cons_zero, List.set_cons_succ]
                      refine wpAnyH_done ?_ ?_ _
                      · kernel_rfl
                      rotate_left
                      all_goals
                        clear hHeld z0 z1 zo zf y0 y1 hown hfr hwr
                        go_wp2_with fail
                        go_roundw
                        case rel => exact ⟨x + 1, by omega, by go_num, HS10, HP10⟩
                        case measure => simp [intOf]; omega
                  · obtain rfl : x = j := by omega
                    have htk : ps.take x = ps := List.take_of_length_le (by rw [HPL.out.1]; exact Nat.le_refl _)
                    have HS9 : Hid (PaySt w B g cap p k (ownEnd (nzN M')) M' wr) := Lib.hid (by
                      have h1 := hS8.out
                      rw [htk] at h1
                      cases cb with
                      | true => rw [(HEND.out.2.1 rfl).2]; exact h1
                      | false => rw [(HEND.out.2.2.1 rfl).2]; exact h1)
                    have HC9 : Hid (∃ co pa G, Calm (nzN M') (ownEnd (nzN M')) co pa G) := Lib.hid HEND.out.1
                    have HSE : Hid (Calls Try.prog 21 #[.pointer (some ⟨p, 0, none⟩)] wr fun e w' => e = .returned (.bool true) ∧ w' = wr) := Lib.hid (by
                      obtain ⟨co, pa, G, hc⟩ := HC9.out
                      have h1 := Settled_any hS8.out.net (by have := hc.ok.lo; rw [nz_len] at this; exact this)
                      rw [hS8.out.p5, ← settledN_nz, calm_settled hc] at h1
                      exact h1)
                    clear htk hS8 hP8
                    go_wp2_with fail
                    refine HSE.out.mono ?_
                    rintro e w10 ⟨rfl, rfl⟩
                    go_wp2_with fail
                    go_roundw
                    case rel => exact ⟨i + 1, M', ownEnd (nzN M'), by omega, by go_num, HS9, HC9⟩
                    case measure => simp [intOf]; omega
      · obtain ⟨E, hEE⟩ : ∃ E, begE M (q : Int) ps = E := ⟨_, rfl⟩
        obtain ⟨T, hTT⟩ : ∃ T, begT M (q : Int) ps = T := ⟨_, rfl⟩
        have hnz : nzN N1 = nzN M := by rw [hnz1]; unfold begI; rw [begE_nz, if_neg hE]
        rw [hEE, hTT]
        rw [hEE] at hE
        have hb : (E == 0) = false := by simp [hE]
        have hb2 : (E != 0) = true := by simp [hE]
        have HC5 : Hid (∃ co pa G, Calm (nzN N1) ow co pa G) := Lib.hid (by rw [hnz]; exact hC.out)
        clear hE hnz1 hto1 hEE hTT hnz hq e0 e1 x1'
        go_wp2_with fail
        go_roundw
        case rel => exact ⟨i + 1, N1, ow, by omega, by go_num, HS5, HC5⟩
        case measure => simp [intOf]; omega
    · have HSTK : Hid (∀ j, j < k → ∀ X, Gr wr X → Calls Try.prog 14 #[.pointer (some ⟨p, 0, none⟩), .int .i64 (j : Int)] X fun e w' => e = .returned (.tuple #[.int .i64 (ow.getD j 0), .int .i64 0]) ∧ w' = X) := Lib.hid (fun j hj X hX => by
        obtain ⟨co, pa, G, hc⟩ := hC.out
        have h1 := Stock_any (hS.out.net.keep hX) (j : Int)
        have hjn : j < (nzN M).sites.length := by rw [← hc.len, hS.out.len]; exact hj
        have hs : (nzN M).sites[j]? = some ((nzN M).sites[j]'hjn) := List.getElem?_eq_getElem _
        generalize (nzN M).sites[j]'hjn = s at hs
        have h2 := (hc.site j s hs).2.2.2.2
        have h3 : refS (nzN M) (j : Int) = 0 := by unfold refS; rw [if_neg (by omega), if_neg (by omega)]
        have h4 : stockN (nzN M) (j : Int) = ow.getD j 0 := by
          unfold stockN
          rw [h3, show ((j : Int)).toNat = j from rfl, hs, List.getD_eq_getElem?_getD, h2]
          rfl
        rw [hS.out.p5, ← refS_nz, ← stockN_nz, h3, h4] at h1
        exact h1)
      have hex : (i < an ∧ ¬ i < 12) ∨ i = an := by omega
      have hcap := hS.out.capLe
      rcases hex with ⟨hi1, hi2⟩ | hi1
      all_goals
        first
        | (have hii : (i : Int) < (an : Int) := by omega
           have hi12 : ¬ (i : Int) < 12 := by omega)
        | (have hii : ¬ (i : Int) < (an : Int) := by omega)
        clear hlt hi1
        go_wp2_with fail
        go_loopw [17] (fun z wr' => ∃ j : Nat, j ≤ k ∧ z = .int .i64 (j : Int) ∧ wr' = wr) (fun z _ => k - (intOf z).toNat)
        case atStart => exact ⟨0, Nat.zero_le _, rfl, rfl⟩
        case round =>
          obtain ⟨j, hj, rfl, rfl⟩ := hrel
          by_cases hjk : j < k
          · have hji : (j : Int) < (k : Int) := by omega
            have hown := (hS.out.at (j := j) hjk).1
            have HSJ := Lib.hid (HSTK.out j hjk)
            generalize ow.getD j 0 = o at hown HSJ
            have hoo : (o != o) = false := by simp
            go_wp2_with fail
            refine (HSJ.out _ (Gr.refl _)).mono ?_
            rintro e w9 ⟨rfl, rfl⟩
            go_wp2_with fail
            go_roundw
            case rel => exact ⟨j + 1, by omega, by go_num, by first | rfl | trivial⟩
            case measure => simp [intOf]; omega
          · obtain rfl : j = k := by omega
            go_wp2_with fail
            refine (HAW.out _).mono ?_
            rintro e w9 ⟨rfl, hg9⟩
            have hF := hS.out.gr.trans hg9
            go_wp2_with fail
            go_ret
            exact ⟨rfl, hF⟩

end Go.Proofs.Ytnoeiocbmhkmeaa
