/- Layer 5: Begin. -/
import Derived.Test.YtnoeiocbmhkmeaaPtG
namespace Go.Proofs.Ytnoeiocbmhkmeaa
open Go.RowKit
set_option linter.unusedSimpArgs false

set_option maxRecDepth 100000 in
theorem Begin_nil (i : Int) (v : Value) (w : World) : Calls Try.prog 15 #[.pointer none, .int .i64 i, v] w fun e w' => e = .returned (.tuple #[.int .i64 0, .int .i64 1]) ∧ w' = w := by
  go_enter Try.func15, Try.ntmps15
  go_wp2_with fail
  refine (refDown_nil _ _).mono ?_
  rintro e w1 ⟨rfl, rfl⟩
  go_wp2_with fail
  refine bodyPost_ret (v := .tuple #[.int .i64 0, .int .i64 1]) ?_ ?_ ?_
  · simp [results, Try.results15, go_sem]
  · rfl
  · exact ⟨rfl, rfl⟩
/-- What Begin answers, and what the net is then. -/
def BegP (B : Nat) (N : Nx) (i : Int) (ps : List Mv) (w : World) (e : Ending) (w' : World) : Prop :=
  (refD N i ≠ 0 ∧ e = .returned (.tuple #[.int .i64 0, .int .i64 (refD N i)]) ∧ Gr w w') ∨
  (refD N i = 0 ∧ okTx N ps = false ∧ e = .returned (.tuple #[.int .i64 0, .int .i64 2]) ∧ Gr w w') ∨
  (refD N i = 0 ∧ okTx N ps = true ∧ 256 ≤ N.begun ∧ e = .returned (.tuple #[.int .i64 0, .int .i64 5]) ∧ Gr w w') ∨
  (refD N i = 0 ∧ okTx N ps = true ∧ N.begun < 256 ∧ e = .returned (.tuple #[.int .i64 (N.begun + 1), .int .i64 0]) ∧ ∃ (k : Nat) (s : Sx) (d : Dl) (N' : Nx), i = (k : Int) ∧ N.sites[k]? = some s ∧ d.parts = ps ∧ d.miss = missOf ps ∧
    N'.sites = N.sites.set k { s with opn := s.opn ++ [(N.begun + 1, d)] } ∧ N'.mail = N.mail ++ (wrL s 1 (N.begun + 1) ps).take (1024 - N.mail.length) ∧ N'.begun = N.begun + 1 ∧ NetTo B w N N' w')
theorem refD_zero {N : Nx} {i : Int} (h : refD N i = 0) : ∃ (k : Nat) (s : Sx), i = (k : Int) ∧ N.sites[k]? = some s ∧ k < N.sites.length ∧ s.up = true := by
  unfold refD at h
  rcases refS_cases N i with h1 | h1 | ⟨h1, k, s, rfl, hk, hkn⟩
  · rw [h1] at h; simp at h
  · rw [h1] at h; simp at h
  · refine ⟨k, s, rfl, hk, hkn, ?_⟩
    rw [h1] at h
    simp [hk] at h
    exact h

set_option maxRecDepth 100000 in
set_option maxHeartbeats 8000000 in
theorem Begin_any {B : Nat} {N : Nx} (i : Int) (A : Option Addr) (n c : Nat) (ps : List Mv) (w : World) (h : NetR B w N) (h8 : N.sites.length ≤ 8) (hml : N.mail.length ≤ 1024) (hb0 : 0 ≤ N.begun) (hn : ps.length = n) (hl : n ≤ 512)
    (hp : ∀ W, Ch (ownB N) w W → Pts W A ps) (hI : ∀ p ∈ ps, I64 p.1) (hnew : ∀ s ∈ N.sites, mget s.opn (N.begun + 1) = none) :
    Calls Try.prog 15 #[.pointer (some ⟨N.p, 0, none⟩), .int .i64 i, .slice A n c] w (BegP B N i ps w) := by
  have HN := Lib.hid hn
  have HP := Lib.hid hp
  have HH := Lib.hid h
  have HI := Lib.hid hI
  have HNEW := Lib.hid hnew
  have H8 := Lib.hid h8
  have HML := Lib.hid hml
  have HD := Lib.hid (refDown_any h i)
  have HT := Lib.hid (isTx_any A n c ps w h h8 hn hl (hp w Ch.refl))
  have n2 : w.cell? ⟨N.p, 2, none⟩ = some (.int .i64 N.begun) := h.blk.cell 2
  have f2 : w.frozen? ⟨N.p, 2, none⟩ = false := h.blk.free 2
  by_cases hd : refD N i = 0
  · rw [hd] at HD
    obtain ⟨k, s, rfl, hk, hkn, -⟩ := refD_zero hd
    cases htx : okTx N ps with
    | false =>
      rw [htx] at HT
      have HQ := Lib.hid (And.intro hd htx)
      clear hn hp h hI hnew h8 hml hd htx hk hkn
      go_enter Try.func15, Try.ntmps15
      go_wp2_with fail
      refine HD.out.mono ?_
      rintro e w1 ⟨rfl, rfl⟩
      go_wp2_with fail
      refine HT.out.mono ?_
      rintro e w2 ⟨rfl, hg2⟩
      go_wp2_with fail
      refine bodyPost_ret (v := .tuple #[.int .i64 0, .int .i64 2]) ?_ ?_ ?_
      · simp [results, Try.results15, go_sem]
      · rfl
      · exact Or.inr (Or.inl ⟨HQ.out.1, HQ.out.2, rfl, hg2⟩)
    | true =>
      rw [htx] at HT
      have HQ := Lib.hid (And.intro hd htx)
      by_cases hf : 256 ≤ N.begun
      · clear hn hp h hI hnew h8 hml hd htx hk hkn
        go_enter Try.func15, Try.ntmps15
        go_wp2_with fail
        refine HD.out.mono ?_
        rintro e w1 ⟨rfl, rfl⟩
        go_wp2_with fail
        refine HT.out.mono ?_
        rintro e w2 ⟨rfl, hg2⟩
        replace n2 := hg2.keep n2
        go_wp2_with fail
        refine bodyPost_ret (v := .tuple #[.int .i64 0, .int .i64 5]) ?_ ?_ ?_
        · simp [results, Try.results15, go_sem]
        · rfl
        · exact Or.inr (Or.inr (Or.inl ⟨HQ.out.1, HQ.out.2, hf, rfl, hg2⟩))
      · have h1n : 1 ≤ n := by
          cases ps with
          | nil => simp [okTx] at htx
          | cons x l => simp at hn; omega
        have hI1 : I64 (N.begun + 1) := by unfold I64; omega
        have hw1 : IntKind.i64.wrap (N.begun + 1) = N.begun + 1 := IntWalk.i64_in _ (by omega)
        have hki : (k : Int) < (N.sites.length : Int) := by omega
        have hk0 : (0 : Int) ≤ (k : Int) := by omega
        have HK := Lib.hid (And.intro hk hkn)
        have HF := Lib.hid hf
        have hf' : N.begun < 256 := by omega
        clear hn hp h hI hnew h8 hml hd htx hk hkn
        obtain ⟨x, hx⟩ : ∃ x, N.begun = x := ⟨_, rfl⟩
        rw [hx] at n2 hI1 hw1 hf hf' hb0
        have HX := Lib.hid hx
        clear hx
        go_enter Try.func15, Try.ntmps15
        go_wp2_with fail
        refine HD.out.mono ?_
        rintro e w1 ⟨rfl, rfl⟩
        go_wp2_with fail
        refine HT.out.mono ?_
        rintro e w2 ⟨rfl, hg2⟩
        replace n2 := hg2.keep n2
        have f2 : w2.frozen? ⟨N.p, 2, none⟩ = false := (HH.out.keep hg2).blk.free 2
        go_upto_region 9 with fail
        have HT3 := Lib.hid (NetTo.pre ((HH.out.keep hg2).count (x + 1)) hg2)
        generalize w2.setCell _ _ = w3 at HT3 ⊢
        have hdr := (Gr.refl w3).drew
        have HND := Lib.hid (HT3.out.net.keep hdr)
        have HIS := Lib.hid (HND.out.siteIts (k := k) (s := s) HK.out.1)
        have HPW : Hid (∀ W, Ch (blks (siteIt s)) w3.drew W → Pts W A ps) := Lib.hid (fun W hW => HP.out W ((HT3.out.ch.gr hdr).trans hW (fun g hg => Or.inl (by unfold ownB; exact List.mem_append_left _ (site_own HK.out.1 g hg)))))
        have HNW := Lib.hid (by have := HNEW.out s (List.mem_of_getElem? HK.out.1); rw [HX.out] at this; exact this : mget s.opn (x + 1) = none)
        have HWL : Hid ((wrL s 1 (x + 1) ps).length = n) := Lib.hid (by unfold wrL; rw [List.length_map, HN.out])
        have n0 := HND.out.blk.cell 0
        obtain ⟨b, off, c1, e1, nb⟩ := HND.out.spot5 (k := k) (s := s) HK.out.1
        simp only [List.getElem?_toArray, List.getElem?_cons_zero] at n0
        rw [e1] at n0
        have m2 : w3.drew.cell? ⟨N.p, 2, none⟩ = some (.int .i64 (x + 1)) := HND.out.blk.cell 2
        clear n2 f2 e1
        refine wp_region_held_drew (S := (fun _ => True)) ?_ ?_ (fun hHeld => ?_)
        · kernel_rfl
        · ((try dsimp only); (try trivial))
        refine take_in (i := 0) (v := ?_) (d := (some 31)) rfl rfl ?_ ?_ ?_ ?_ ?_ ?_ ?_ ?_
        rotate_left
        · kernel_rfl
        · kernel_rfl
        · kernel_rfl
        · (intro _ _ _ hq; exact hq)
        · rfl
        · (intro _w hSw; (try dsimp only at hSw); go_simp; try with_reducible rfl)
        · assumption
        try simp only [Act.put, List.setIfInBounds_toArray, List.set_cons_zero, List.set_cons_succ]
        refine take_in (i := 1) (v := ?_) (d := (some 32)) rfl rfl ?_ ?_ ?_ ?_ ?_ ?_ ?_ ?_
        rotate_left
        · kernel_rfl
        · kernel_rfl
        · kernel_rfl
        · (intro _ _ _ hq; exact hq)
        · rfl
        · (intro _w hSw; (try dsimp only at hSw); go_simp; try with_reducible rfl)
        · assumption
        try simp only [Act.put, List.setIfInBounds_toArray, List.set_cons_zero, List.set_cons_succ]
        refine take_in (i := 2) (v := ?_) (d := (some 33)) rfl rfl ?_ ?_ ?_ ?_ ?_ ?_ ?_ ?_
        rotate_left
        · kernel_rfl
        · kernel_rfl
        · kernel_rfl
        · (intro _ _ _ hq; exact hq)
        · rfl
        · (intro _w hSw; (try dsimp only at hSw); go_simp; try with_reducible rfl)
        · assumption
        try simp only [Act.put, List.setIfInBounds_toArray, List.set_cons_zero, List.set_cons_succ]
        refine take_in (i := 3) (v := ?_) (d := (some 34)) rfl rfl ?_ ?_ ?_ ?_ ?_ ?_ ?_ ?_
        rotate_left
        · kernel_rfl
        · kernel_rfl
        · kernel_rfl
        · (intro _ _ _ hq; exact hq)
        · rfl
        · (intro _w hSw; (try dsimp only at hSw); go_simp; try with_reducible rfl)
        · assumption
        try simp only [Act.put, List.setIfInBounds_toArray, List.set_cons_zero, List.set_cons_succ]
        refine take_in (i := 5) (v := ?_) (d := (some 36)) rfl rfl ?_ ?_ ?_ ?_ ?_ ?_ ?_ ?_
        rotate_left
        · kernel_rfl
        · kernel_rfl
        · kernel_rfl
        · (intro _ _ _ hq; exact hq)
        · rfl
        · (intro _w hSw; (try dsimp only at hSw); go_simp; try with_reducible rfl)
        · assumption
        try simp only [Act.put, List.setIfInBounds_toArray, List.set_cons_zero, List.set_cons_succ]
        refine take_in (i := 8) (v := ?_) (d := (some 39)) rfl rfl ?_ ?_ ?_ ?_ ?_ ?_ ?_ ?_
        rotate_left
        · kernel_rfl
        · kernel_rfl
        · kernel_rfl
        · (intro _ _ _ hq; exact hq)
        · rfl
        · (intro _w hSw; (try dsimp only at hSw); go_simp; try with_reducible rfl)
        · assumption
        try simp only [Act.put, List.setIfInBounds_toArray, List.set_cons_zero, List.set_cons_succ]
        refine take_in (i := 9) (v := ?_) (d := (some 40)) rfl rfl ?_ ?_ ?_ ?_ ?_ ?_ ?_ ?_
        rotate_left
        · kernel_rfl
        · kernel_rfl
        · kernel_rfl
        · (intro _ _ _ hq; exact hq)
        · rfl
        · (intro _w hSw; (try dsimp only at hSw); go_simp; try with_reducible rfl)
        · assumption
        try simp only [Act.put, List.setIfInBounds_toArray, List.set_cons_zero, List.set_cons_succ]
        refine take_in (i := 10) (v := ?_) (d := (some 41)) rfl rfl ?_ ?_ ?_ ?_ ?_ ?_ ?_ ?_
        rotate_left
        · kernel_rfl
        · kernel_rfl
        · kernel_rfl
        · (intro _ _ _ hq; exact hq)
        · rfl
        · (intro _w hSw; (try dsimp only at hSw); go_simp; try with_reducible rfl)
        · assumption
        try simp only [Act.put, List.setIfInBounds_toArray, List.set_cons_zero, List.set_cons_succ]
        refine take_in (i := 12) (v := ?_) (d := (some 43)) rfl rfl ?_ ?_ ?_ ?_ ?_ ?_ ?_ ?_
        rotate_left
        · kernel_rfl
        · kernel_rfl
        · kernel_rfl
        · (intro _ _ _ hq; exact hq)
        · rfl
        · (intro _w hSw; (try dsimp only at hSw); go_simp; try with_reducible rfl)
        · assumption
        try simp only [Act.put, List.setIfInBounds_toArray, List.set_cons_zero, List.set_cons_succ]
        refine wpAnyH_ready (rs := [4, 11]) ?_ ?_ ?_
        · kernel_rfl
        · simp
        refine (AllReadyH.cons rfl (fun K hK => ?_) (AllReadyH.cons rfl (fun K hK => ?_) AllReadyH.nil))
        go_simp
        refine hK.out _ _ ?_ (fun hHeld => ?_)
        · ((try dsimp only); (try trivial))
        clear hK K
        try simp only [Act.put, List.setIfInBounds_toArray, List.set_cons_zero, List.set_cons_succ]
        refine take_in (i := 6) (v := ?_) (d := (some 37)) rfl rfl ?_ ?_ ?_ ?_ ?_ ?_ ?_ ?_
        rotate_left
        · kernel_rfl
        · kernel_rfl
        · kernel_rfl
        · (intro _ _ _ hq; exact hq)
        · rfl
        · (intro _w hSw; (try dsimp only at hSw); go_simp; try with_reducible rfl)
        · assumption
        try simp only [Act.put, List.setIfInBounds_toArray, List.set_cons_zero, List.set_cons_succ]
        refine wpAnyH_ready (rs := [7, 11]) ?_ ?_ ?_
        · kernel_rfl
        · simp
        refine (AllReadyH.cons rfl (fun K hK => ?_) (AllReadyH.cons rfl (fun K hK => ?_) AllReadyH.nil))
        go_simp
        refine hK.out _ _ ?_ (fun hHeld => ?_)
        · ((try dsimp only); (try trivial))
        clear hK K
        try simp only [Act.put, List.setIfInBounds_toArray, List.set_cons_zero, List.set_cons_succ]
        refine wpAnyH_ready (rs := [11]) ?_ ?_ ?_
        · kernel_rfl
        · simp
        refine (AllReadyH.cons rfl (fun K hK => ?_) AllReadyH.nil)
        go_simp
        refine hK.out _ _ ?_ (fun hHeld => ?_)
        · ((try dsimp only); (try trivial))
        clear hK K
        try simp only [Act.put, List.setIfInBounds_toArray, List.set_cons_zero, List.set_cons_succ]
        refine wpAnyH_ready (rs := [13]) ?_ ?_ ?_
        · kernel_rfl
        · simp
        refine (AllReadyH.cons rfl (fun K hK => ?_) AllReadyH.nil)
        go_simp
        first | (go_at_call 43; (with_reducible refine (begin5_any (x + 1) A n c ps _ HIS.out hI1 HNW.out HN.out hl h1n HPW.out HI.out).mono ?_); rintro e w5 ⟨d, hd1, hd2, hst⟩; obtain ⟨⟨A5, c5, rfl, hr5, hc5⟩, hi5, hch5, hp5, hbk5⟩ := hst; rw [HWL.out] at hc5 ⊢; have HN5 := Lib.hid (HND.out.step (k := k) HK.out.1 hi5 hch5 hp5 hbk5); have HR5 := Lib.hid hr5; have HDD := Lib.hid (And.intro hd1 hd2); clear hd1 hd2 hi5 hch5 hp5 hbk5 hr5) | (go_at_call 42; (with_reducible refine (send5_any A5 n c5 (wrL s 1 (x + 1) ps) _ HN5.out.net HWL.out (by omega) hc5 HML.out HR5.out).mono ?_); rintro e w6 ⟨rfl, lv', hto⟩; have HTO := Lib.hid hto; clear hto)
        refine hK.out _ _ ?_ (fun hHeld => ?_)
        · ((try dsimp only); (try trivial))
        clear hK K
        try simp only [Act.put, List.setIfInBounds_toArray, List.set_cons_zero, List.set_cons_succ]
        refine wpAnyH_ready (rs := [14]) ?_ ?_ ?_
        · kernel_rfl
        · simp
        refine (AllReadyH.cons rfl (fun K hK => ?_) AllReadyH.nil)
        go_simp
        first | (go_at_call 43; (with_reducible refine (begin5_any (x + 1) A n c ps _ HIS.out hI1 HNW.out HN.out hl h1n HPW.out HI.out).mono ?_); rintro e w5 ⟨d, hd1, hd2, hst⟩; obtain ⟨⟨A5, c5, rfl, hr5, hc5⟩, hi5, hch5, hp5, hbk5⟩ := hst; rw [HWL.out] at hc5 ⊢; have HN5 := Lib.hid (HND.out.step (k := k) HK.out.1 hi5 hch5 hp5 hbk5); have HR5 := Lib.hid hr5; have HDD := Lib.hid (And.intro hd1 hd2); clear hd1 hd2 hi5 hch5 hp5 hbk5 hr5) | (go_at_call 42; (with_reducible refine (send5_any A5 n c5 (wrL s 1 (x + 1) ps) _ HN5.out.net HWL.out (by omega) hc5 HML.out HR5.out).mono ?_); rintro e w6 ⟨rfl, lv', hto⟩; have HTO := Lib.hid hto; clear hto)
        refine hK.out _ _ ?_ (fun hHeld => ?_)
        · ((try dsimp only); (try trivial))
        clear hK K
        try simp only [Act.put, List.setIfInBounds_toArray, List.set_cons_zero, List.set_cons_succ]
        refine wpAnyH_done ?_ ?_ _
        · kernel_rfl
        rotate_left
        go_simp
        refine hK.out _ _ ?_ (fun hHeld => ?_)
        · ((try dsimp only); (try trivial))
        clear hK K
        try simp only [Act.put, List.setIfInBounds_toArray, List.set_cons_zero, List.set_cons_succ]
        refine wpAnyH_ready (rs := [7]) ?_ ?_ ?_
        · kernel_rfl
        · simp
        refine (AllReadyH.cons rfl (fun K hK => ?_) AllReadyH.nil)
        go_simp
        refine hK.out _ _ ?_ (fun hHeld => ?_)
        · ((try dsimp only); (try trivial))
        clear hK K
        try simp only [Act.put, List.setIfInBounds_toArray, List.set_cons_zero, List.set_cons_succ]
        refine wpAnyH_ready (rs := [13]) ?_ ?_ ?_
        · kernel_rfl
        · simp
        refine (AllReadyH.cons rfl (fun K hK => ?_) AllReadyH.nil)
        go_simp
        first | (go_at_call 43; (with_reducible refine (begin5_any (x + 1) A n c ps _ HIS.out hI1 HNW.out HN.out hl h1n HPW.out HI.out).mono ?_); rintro e w5 ⟨d, hd1, hd2, hst⟩; obtain ⟨⟨A5, c5, rfl, hr5, hc5⟩, hi5, hch5, hp5, hbk5⟩ := hst; rw [HWL.out] at hc5 ⊢; have HN5 := Lib.hid (HND.out.step (k := k) HK.out.1 hi5 hch5 hp5 hbk5); have HR5 := Lib.hid hr5; have HDD := Lib.hid (And.intro hd1 hd2); clear hd1 hd2 hi5 hch5 hp5 hbk5 hr5) | (go_at_call 42; (with_reducible refine (send5_any A5 n c5 (wrL s 1 (x + 1) ps) _ HN5.out.net HWL.out (by omega) hc5 HML.out HR5.out).mono ?_); rintro e w6 ⟨rfl, lv', hto⟩; have HTO := Lib.hid hto; clear hto)
        refine hK.out _ _ ?_ (fun hHeld => ?_)
        · ((try dsimp only); (try trivial))
        clear hK K
        try simp only [Act.put, List.setIfInBounds_toArray, List.set_cons_zero, List.set_cons_succ]
        refine wpAnyH_ready (rs := [14]) ?_ ?_ ?_
        · kernel_rfl
        · simp
        refine (AllReadyH.cons rfl (fun K hK => ?_) AllReadyH.nil)
        go_simp
        first | (go_at_call 43; (with_reducible refine (begin5_any (x + 1) A n c ps _ HIS.out hI1 HNW.out HN.out hl h1n HPW.out HI.out).mono ?_); rintro e w5 ⟨d, hd1, hd2, hst⟩; obtain ⟨⟨A5, c5, rfl, hr5, hc5⟩, hi5, hch5, hp5, hbk5⟩ := hst; rw [HWL.out] at hc5 ⊢; have HN5 := Lib.hid (HND.out.step (k := k) HK.out.1 hi5 hch5 hp5 hbk5); have HR5 := Lib.hid hr5; have HDD := Lib.hid (And.intro hd1 hd2); clear hd1 hd2 hi5 hch5 hp5 hbk5 hr5) | (go_at_call 42; (with_reducible refine (send5_any A5 n c5 (wrL s 1 (x + 1) ps) _ HN5.out.net HWL.out (by omega) hc5 HML.out HR5.out).mono ?_); rintro e w6 ⟨rfl, lv', hto⟩; have HTO := Lib.hid hto; clear hto)
        refine hK.out _ _ ?_ (fun hHeld => ?_)
        · ((try dsimp only); (try trivial))
        clear hK K
        try simp only [Act.put, List.setIfInBounds_toArray, List.set_cons_zero, List.set_cons_succ]
        refine wpAnyH_done ?_ ?_ _
        · kernel_rfl
        rotate_left
        go_simp
        refine hK.out _ _ ?_ (fun hHeld => ?_)
        · ((try dsimp only); (try trivial))
        clear hK K
        try simp only [Act.put, List.setIfInBounds_toArray, List.set_cons_zero, List.set_cons_succ]
        refine wpAnyH_ready (rs := [4]) ?_ ?_ ?_
        · kernel_rfl
        · simp
        refine (AllReadyH.cons rfl (fun K hK => ?_) AllReadyH.nil)
        go_simp
        refine hK.out _ _ ?_ (fun hHeld => ?_)
        · ((try dsimp only); (try trivial))
        clear hK K
        try simp only [Act.put, List.setIfInBounds_toArray, List.set_cons_zero, List.set_cons_succ]
        refine take_in (i := 6) (v := ?_) (d := (some 37)) rfl rfl ?_ ?_ ?_ ?_ ?_ ?_ ?_ ?_
        rotate_left
        · kernel_rfl
        · kernel_rfl
        · kernel_rfl
        · (intro _ _ _ hq; exact hq)
        · rfl
        · (intro _w hSw; (try dsimp only at hSw); go_simp; try with_reducible rfl)
        · assumption
        try simp only [Act.put, List.setIfInBounds_toArray, List.set_cons_zero, List.set_cons_succ]
        refine wpAnyH_ready (rs := [7]) ?_ ?_ ?_
        · kernel_rfl
        · simp
        refine (AllReadyH.cons rfl (fun K hK => ?_) AllReadyH.nil)
        go_simp
        refine hK.out _ _ ?_ (fun hHeld => ?_)
        · ((try dsimp only); (try trivial))
        clear hK K
        try simp only [Act.put, List.setIfInBounds_toArray, List.set_cons_zero, List.set_cons_succ]
        refine wpAnyH_ready (rs := [13]) ?_ ?_ ?_
        · kernel_rfl
        · simp
        refine (AllReadyH.cons rfl (fun K hK => ?_) AllReadyH.nil)
        go_simp
        first | (go_at_call 43; (with_reducible refine (begin5_any (x + 1) A n c ps _ HIS.out hI1 HNW.out HN.out hl h1n HPW.out HI.out).mono ?_); rintro e w5 ⟨d, hd1, hd2, hst⟩; obtain ⟨⟨A5, c5, rfl, hr5, hc5⟩, hi5, hch5, hp5, hbk5⟩ := hst; rw [HWL.out] at hc5 ⊢; have HN5 := Lib.hid (HND.out.step (k := k) HK.out.1 hi5 hch5 hp5 hbk5); have HR5 := Lib.hid hr5; have HDD := Lib.hid (And.intro hd1 hd2); clear hd1 hd2 hi5 hch5 hp5 hbk5 hr5) | (go_at_call 42; (with_reducible refine (send5_any A5 n c5 (wrL s 1 (x + 1) ps) _ HN5.out.net HWL.out (by omega) hc5 HML.out HR5.out).mono ?_); rintro e w6 ⟨rfl, lv', hto⟩; have HTO := Lib.hid hto; clear hto)
        refine hK.out _ _ ?_ (fun hHeld => ?_)
        · ((try dsimp only); (try trivial))
        clear hK K
        try simp only [Act.put, List.setIfInBounds_toArray, List.set_cons_zero, List.set_cons_succ]
        refine wpAnyH_ready (rs := [14]) ?_ ?_ ?_
        · kernel_rfl
        · simp
        refine (AllReadyH.cons rfl (fun K hK => ?_) AllReadyH.nil)
        go_simp
        first | (go_at_call 43; (with_reducible refine (begin5_any (x + 1) A n c ps _ HIS.out hI1 HNW.out HN.out hl h1n HPW.out HI.out).mono ?_); rintro e w5 ⟨d, hd1, hd2, hst⟩; obtain ⟨⟨A5, c5, rfl, hr5, hc5⟩, hi5, hch5, hp5, hbk5⟩ := hst; rw [HWL.out] at hc5 ⊢; have HN5 := Lib.hid (HND.out.step (k := k) HK.out.1 hi5 hch5 hp5 hbk5); have HR5 := Lib.hid hr5; have HDD := Lib.hid (And.intro hd1 hd2); clear hd1 hd2 hi5 hch5 hp5 hbk5 hr5) | (go_at_call 42; (with_reducible refine (send5_any A5 n c5 (wrL s 1 (x + 1) ps) _ HN5.out.net HWL.out (by omega) hc5 HML.out HR5.out).mono ?_); rintro e w6 ⟨rfl, lv', hto⟩; have HTO := Lib.hid hto; clear hto)
        refine hK.out _ _ ?_ (fun hHeld => ?_)
        · ((try dsimp only); (try trivial))
        clear hK K
        try simp only [Act.put, List.setIfInBounds_toArray, List.set_cons_zero, List.set_cons_succ]
        refine wpAnyH_done ?_ ?_ _
        · kernel_rfl
        rotate_left
        all_goals
          have HFIN := Lib.hid (NetTo.trans (HT3.out.trans (NetTo.pre HN5.out hdr)) HTO.out)
          have m3 : w6.cell? ⟨N.p, 2, none⟩ = some (.int .i64 (x + 1)) := HFIN.out.net.blk.cell 2
          obtain rfl := HX.out
          clear m2 nb n0 hw1 hdr hg2
          go_wp2_with fail
          refine bodyPost_ret (v := .tuple #[.int .i64 (N.begun + 1), .int .i64 0]) ?_ ?_ ?_
          · simp [results, Try.results15, go_sem]
          · rfl
          · exact Or.inr (Or.inr (Or.inr ⟨HQ.out.1, HQ.out.2, hf', rfl, k, s, d, _, rfl, HK.out.1, HDD.out.1, HDD.out.2, rfl, rfl, rfl, HFIN.out⟩))
  · obtain ⟨r, hr⟩ : ∃ r, refD N i = r := ⟨_, rfl⟩
    rw [hr] at HD hd
    have HR := Lib.hid hr
    have hb : (r == 0) = false := by simp [hd]
    clear hn hp h hI hnew h8 hml hr
    go_enter Try.func15, Try.ntmps15
    go_wp2_with fail
    refine HD.out.mono ?_
    rintro e w1 ⟨rfl, rfl⟩
    go_wp2_with fail
    refine bodyPost_ret (v := .tuple #[.int .i64 0, .int .i64 r]) ?_ ?_ ?_
    · simp [results, Try.results15, go_sem]
    · rfl
    · exact Or.inl ⟨by rw [HR.out]; exact hd, by rw [HR.out], Gr.refl _⟩

end Go.Proofs.Ytnoeiocbmhkmeaa
