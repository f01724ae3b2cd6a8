/- Layer 5: a site hears that another one has dropped. -/
import Derived.Test.YtnoeiocbmhkmeaaGreatBu15
namespace Go.Proofs.YtnoeiocbmhkmeaaGreat
open Go.RowKit
set_option linter.unusedSimpArgs false
set_option maxRecDepth 100000
set_option maxHeartbeats 80000000

theorem disagree_shut {B : Nat} {s : Sx} (m : Ml) (w : World) (h : Its B w (siteIt s)) (htx : I64 m.2.2.2.1) (hno : mget s.opn m.2.2.2.1 = none) :
 Calls Tryz.prog 84 #[.pointer (some ⟨s.p, 0, none⟩), .agg #[.int .i64 m.1, .int .i64 m.2.1, .int .i64 m.2.2.1, .int .i64 m.2.2.2.1, .int .i64 m.2.2.2.2]] w (StepP B w s s []) := by
 obtain ⟨f, t, kd, tx, n⟩ := m
 dsimp only at htx hno ⊢
 have HLO := Lib.hid (fun W (hI : Its B W (siteIt s)) => look_deal2 hI.sOpn htx)
 rw [hno] at HLO
 dsimp only [lookD, Option.isSome_none] at HLO
 have HH := Lib.hid h
 have c6 := h.sCells.2.2.2.2.2.2.1
 clear htx h hno
 go_enter Tryz.func84, Tryz.ntmps84
 go_upto_region 1 with fail
 generalize hW1 : World.alloc w _ = w1
 have hg1 : Gr w w1 := by rw [← hW1]; exact (Gr.refl w).alloc _
 have hbk : Blk w1 w.heap.size 59 #[.int .i64 f, .int .i64 t, .int .i64 kd, .int .i64 tx, .int .i64 n] := by rw [← hW1]; exact Blk.new w _ _ rfl
 generalize w.heap.size = U at hbk ⊢
 have b3 : w1.cell? ⟨U, 3, none⟩ = some (.int .i64 tx) := hbk.cell 3
 clear hW1 hbk
 replace c6 := hg1.keep c6
 refine wp_region_held_drew (S := (fun W' => Gr w1 W' ∧ W'.cell? ⟨s.p, 6, none⟩ = some (.map (some s.mo)) ∧ W'.cell? ⟨U, 3, none⟩ = some (.int .i64 tx))) ?_ ?_ (fun hHeld => ?_)
 ·kernel_rfl
 ·((try dsimp only); (try go_split_ands); (repeat' apply And.intro) <;> repeat first | assumption | exact Gr.refl _ | refine Gr.drew ?_ | refine Gr.alloc ?_ _ | refine alloc_old ?_ | refine Gr.keep (by assumption) ?_ | refine Gr.trans ?_ (by assumption))
 refine ti 0 (some 8) rfl rfl ?_; try simp only [Act.put, lA, lB, lC]
 refine ti 1 (some 9) rfl rfl ?_; try simp only [Act.put, lA, lB, lC]
 refine ti 2 (some 10) rfl rfl ?_; try simp only [Act.put, lA, lB, lC]
 refine ti 3 (some 11) rfl rfl ?_; try simp only [Act.put, lA, lB, lC]
 refine ti 4 (some 12) rfl rfl ?_; try simp only [Act.put, lA, lB, lC]
 refine ti 5 (some 13) rfl rfl ?_; try simp only [Act.put, lA, lB, lC]
 refine tr [6, 10] (.cons rfl (fun K hK => ?_) (.cons rfl (fun K hK => ?_) .nil))
 first | (refine held_look (by rfl) (.tmp 11) (.tmp 13) _ _ (by rfl) (.map (some s.mo)) (.int .i64 tx) (.tuple #[.agg #[.slice none 0 0, .map none], .bool false]) (by rfl) (by rfl) (HLO.out _ (HH.out.keep (hg1.trans hHeld.1))) ?_)
 refine hK.out _ _ ?_ (fun hHeld => ?_)
 ·((try dsimp only); (try go_split_ands); (repeat' apply And.intro) <;> repeat first | assumption | exact Gr.refl _ | refine Gr.drew ?_ | refine Gr.alloc ?_ _ | refine alloc_old ?_ | refine Gr.keep (by assumption) ?_ | refine Gr.trans ?_ (by assumption))
 clear hK K; try simp only [Act.put, lA, lB, lC]
 refine ti 7 (some 7) rfl rfl ?_; try simp only [Act.put, lA, lB, lC]
 refine ti 8 (some 15) rfl rfl ?_; try simp only [Act.put, lA, lB, lC]
 refine ti 9 (some 16) rfl rfl ?_; try simp only [Act.put, lA, lB, lC]
 refine tr [10] (.cons rfl (fun K hK => ?_) .nil)
 go_simp
 refine hK.out _ _ ?_ (fun hHeld => ?_)
 ·((try dsimp only); (try go_split_ands); (repeat' apply And.intro) <;> repeat first | assumption | exact Gr.refl _ | refine Gr.drew ?_ | refine Gr.alloc ?_ _ | refine alloc_old ?_ | refine Gr.keep (by assumption) ?_ | refine Gr.trans ?_ (by assumption))
 clear hK K; try simp only [Act.put, lA, lB, lC]
 refine tr [11] (.cons rfl (fun K hK => ?_) .nil)
 go_simp
 refine hK.out _ _ ?_ (fun hHeld => ?_)
 ·((try dsimp only); (try go_split_ands); (repeat' apply And.intro) <;> repeat first | assumption | exact Gr.refl _ | refine Gr.drew ?_ | refine Gr.alloc ?_ _ | refine alloc_old ?_ | refine Gr.keep (by assumption) ?_ | refine Gr.trans ?_ (by assumption))
 clear hK K; try simp only [Act.put, lA, lB, lC]
 refine ti 12 (some 6) rfl rfl ?_; try simp only [Act.put, lA, lB, lC]
 refine wpAnyH_done ?_ ?_ _
 ·kernel_rfl
 rotate_left
 go_simp
 refine hK.out _ _ ?_ (fun hHeld => ?_)
 ·((try dsimp only); (try go_split_ands); (repeat' apply And.intro) <;> repeat first | assumption | exact Gr.refl _ | refine Gr.drew ?_ | refine Gr.alloc ?_ _ | refine alloc_old ?_ | refine Gr.keep (by assumption) ?_ | refine Gr.trans ?_ (by assumption))
 clear hK K; try simp only [Act.put, lA, lB, lC]
 refine tr [6] (.cons rfl (fun K hK => ?_) .nil)
 first | (refine held_look (by rfl) (.tmp 11) (.tmp 13) _ _ (by rfl) (.map (some s.mo)) (.int .i64 tx) (.tuple #[.agg #[.slice none 0 0, .map none], .bool false]) (by rfl) (by rfl) (HLO.out _ (HH.out.keep (hg1.trans hHeld.1))) ?_)
 refine hK.out _ _ ?_ (fun hHeld => ?_)
 ·((try dsimp only); (try go_split_ands); (repeat' apply And.intro) <;> repeat first | assumption | exact Gr.refl _ | refine Gr.drew ?_ | refine Gr.alloc ?_ _ | refine alloc_old ?_ | refine Gr.keep (by assumption) ?_ | refine Gr.trans ?_ (by assumption))
 clear hK K; try simp only [Act.put, lA, lB, lC]
 refine ti 7 (some 7) rfl rfl ?_; try simp only [Act.put, lA, lB, lC]
 refine ti 8 (some 15) rfl rfl ?_; try simp only [Act.put, lA, lB, lC]
 refine ti 9 (some 16) rfl rfl ?_; try simp only [Act.put, lA, lB, lC]
 refine tr [11] (.cons rfl (fun K hK => ?_) .nil)
 go_simp
 refine hK.out _ _ ?_ (fun hHeld => ?_)
 ·((try dsimp only); (try go_split_ands); (repeat' apply And.intro) <;> repeat first | assumption | exact Gr.refl _ | refine Gr.drew ?_ | refine Gr.alloc ?_ _ | refine alloc_old ?_ | refine Gr.keep (by assumption) ?_ | refine Gr.trans ?_ (by assumption))
 clear hK K; try simp only [Act.put, lA, lB, lC]
 refine ti 12 (some 6) rfl rfl ?_; try simp only [Act.put, lA, lB, lC]
 refine wpAnyH_done ?_ ?_ _
 ·kernel_rfl
 rotate_left
 all_goals
  have hg2 : Gr w1 (w1.alloc (.cells #[.slice none 0 0, .map none] 90)).drew := ((Gr.refl w1).alloc _).drew
  generalize World.drew _ = w2 at hg2 ⊢
  generalize w1.heap.size = Z
  have hgr2 := hg1.trans hg2
  clear hHeld b3 c6 hg1 hg2
  go_wp2_with fail
  go_ret
  exact StepP.of (HH.out.keep hgr2) (Ch.of hgr2) rfl (fun g hg => Or.inl hg) (LetP_nil _)

theorem disagree_open {B : Nat} {s : Sx} (m : Ml) (w : World) (h : Its B w (siteIt s)) (htx : I64 m.2.2.2.1) {d : Dl} (hm : mget s.opn m.2.2.2.1 = some d) (hl : d.parts.length ≤ 512) :
 Calls Tryz.prog 84 #[.pointer (some ⟨s.p, 0, none⟩), .agg #[.int .i64 m.1, .int .i64 m.2.1, .int .i64 m.2.2.1, .int .i64 m.2.2.2.1, .int .i64 m.2.2.2.2]] w
  (StepP B w s { s with opn := mdel s.opn m.2.2.2.1 } (wrL s 5 m.2.2.2.1 (otherL d.parts m.1))) := by
 obtain ⟨f, t, kd, tx, n⟩ := m
 dsimp only at htx hm ⊢
 obtain ⟨kl, hkl⟩ := intp_key htx
 obtain ⟨l1, l2, hs, hdel⟩ := mget_split h.sOpn.apart hm
 rw [hdel]
 have hdel2 : mdel (l1 ++ (tx, d) :: l2) tx = l1 ++ l2 := by rw [← hs]; exact hdel
 have HLP := Lib.hid (fun W (hI : Its B W (siteIt s)) => look_deal hI.sOpn htx)
 rw [hm] at HLP
 simp only [Option.map_some, Option.getD_some, Option.isSome_some, dlV] at HLP
 have HH := Lib.hid h
 have c6 := h.sCells.2.2.2.2.2.2.1
 have hlt : s.p < w.heap.size := (h.lt (g := s.p) (by simp [siteIt, blks])).1
 have hne4 : s.p ≠ s.mo := h.ne (i := 0) (j := 4) (by omega) rfl rfl
 have hmo : s.mo < w.heap.size := h.sOpn.lt
 have HLT := Lib.hid (And.intro hlt (And.intro hne4 hmo))
 have HMG := Lib.hid (And.intro hs hdel2)
 have hdg : d.b < w.heap.size := (h.lt (opn_blk hs).1).1
 have HDG := Lib.hid hdg
 obtain ⟨dn, hdn⟩ : ∃ dn, d.parts.length = dn := ⟨_, rfl⟩
 rw [hdn] at HLP hl
 have HDN := Lib.hid hdn
 clear htx h hlt hne4 hmo hm hs hdel hdel2 hdg hdn
 go_enter Tryz.func84, Tryz.ntmps84
 go_upto_region 1 with fail
 generalize hW1 : World.alloc w _ = w1
 have hg1 : Gr w w1 := by rw [← hW1]; exact (Gr.refl w).alloc _
 have hbk : Blk w1 w.heap.size 59 #[.int .i64 f, .int .i64 t, .int .i64 kd, .int .i64 tx, .int .i64 n] := by rw [← hW1]; exact Blk.new w _ _ rfl
 obtain ⟨U, hU⟩ : ∃ U, w.heap.size = U := ⟨_, rfl⟩
 rw [hU] at hbk ⊢
 have HU := Lib.hid hU
 have HB := Lib.hid hbk
 have b3 : w1.cell? ⟨U, 3, none⟩ = some (.int .i64 tx) := hbk.cell 3
 replace c6 := hg1.keep c6
 clear hW1 hbk hU
 refine wp_region_held_drew (S := (fun W' => Gr w1 W' ∧ W'.cell? ⟨s.p, 6, none⟩ = some (.map (some s.mo)) ∧ W'.cell? ⟨U, 3, none⟩ = some (.int .i64 tx))) ?_ ?_ (fun hHeld => ?_)
 ·kernel_rfl
 ·((try dsimp only); (try go_split_ands); (repeat' apply And.intro) <;> repeat first | assumption | exact Gr.refl _ | refine Gr.drew ?_ | refine Gr.alloc ?_ _ | refine alloc_old ?_ | refine Gr.keep (by assumption) ?_ | refine Gr.trans ?_ (by assumption))
 refine ti 0 (some 8) rfl rfl ?_; try simp only [Act.put, lA, lB, lC]
 refine ti 1 (some 9) rfl rfl ?_; try simp only [Act.put, lA, lB, lC]
 refine ti 2 (some 10) rfl rfl ?_; try simp only [Act.put, lA, lB, lC]
 refine ti 3 (some 11) rfl rfl ?_; try simp only [Act.put, lA, lB, lC]
 refine ti 4 (some 12) rfl rfl ?_; try simp only [Act.put, lA, lB, lC]
 refine ti 5 (some 13) rfl rfl ?_; try simp only [Act.put, lA, lB, lC]
 refine tr [6, 10] (.cons rfl (fun K hK => ?_) (.cons rfl (fun K hK => ?_) .nil))
 first | (refine held_look (by rfl) (.tmp 11) (.tmp 13) _ _ (by rfl) (.map (some s.mo)) (.int .i64 tx) (.tuple #[.agg #[.slice (some ⟨d.b, 0, none⟩) dn d.c, .map (some d.g)], .bool true]) (by rfl) (by rfl) (HLP.out _ (HH.out.keep (hg1.trans hHeld.1))) ?_)
 refine hK.out _ _ ?_ (fun hHeld => ?_)
 ·((try dsimp only); (try go_split_ands); (repeat' apply And.intro) <;> repeat first | assumption | exact Gr.refl _ | refine Gr.drew ?_ | refine Gr.alloc ?_ _ | refine alloc_old ?_ | refine Gr.keep (by assumption) ?_ | refine Gr.trans ?_ (by assumption))
 clear hK K; try simp only [Act.put, lA, lB, lC]
 refine ti 7 (some 7) rfl rfl ?_; try simp only [Act.put, lA, lB, lC]
 refine ti 8 (some 15) rfl rfl ?_; try simp only [Act.put, lA, lB, lC]
 refine ti 9 (some 16) rfl rfl ?_; try simp only [Act.put, lA, lB, lC]
 refine tr [10] (.cons rfl (fun K hK => ?_) .nil)
 go_simp
 refine hK.out _ _ ?_ (fun hHeld => ?_)
 ·((try dsimp only); (try go_split_ands); (repeat' apply And.intro) <;> repeat first | assumption | exact Gr.refl _ | refine Gr.drew ?_ | refine Gr.alloc ?_ _ | refine alloc_old ?_ | refine Gr.keep (by assumption) ?_ | refine Gr.trans ?_ (by assumption))
 clear hK K; try simp only [Act.put, lA, lB, lC]
 refine tr [11] (.cons rfl (fun K hK => ?_) .nil)
 go_simp
 refine hK.out _ _ ?_ (fun hHeld => ?_)
 ·((try dsimp only); (try go_split_ands); (repeat' apply And.intro) <;> repeat first | assumption | exact Gr.refl _ | refine Gr.drew ?_ | refine Gr.alloc ?_ _ | refine alloc_old ?_ | refine Gr.keep (by assumption) ?_ | refine Gr.trans ?_ (by assumption))
 clear hK K; try simp only [Act.put, lA, lB, lC]
 refine ti 12 (some 6) rfl rfl ?_; try simp only [Act.put, lA, lB, lC]
 refine wpAnyH_done ?_ ?_ _
 ·kernel_rfl
 rotate_left
 go_simp
 refine hK.out _ _ ?_ (fun hHeld => ?_)
 ·((try dsimp only); (try go_split_ands); (repeat' apply And.intro) <;> repeat first | assumption | exact Gr.refl _ | refine Gr.drew ?_ | refine Gr.alloc ?_ _ | refine alloc_old ?_ | refine Gr.keep (by assumption) ?_ | refine Gr.trans ?_ (by assumption))
 clear hK K; try simp only [Act.put, lA, lB, lC]
 refine tr [6] (.cons rfl (fun K hK => ?_) .nil)
 first | (refine held_look (by rfl) (.tmp 11) (.tmp 13) _ _ (by rfl) (.map (some s.mo)) (.int .i64 tx) (.tuple #[.agg #[.slice (some ⟨d.b, 0, none⟩) dn d.c, .map (some d.g)], .bool true]) (by rfl) (by rfl) (HLP.out _ (HH.out.keep (hg1.trans hHeld.1))) ?_)
 refine hK.out _ _ ?_ (fun hHeld => ?_)
 ·((try dsimp only); (try go_split_ands); (repeat' apply And.intro) <;> repeat first | assumption | exact Gr.refl _ | refine Gr.drew ?_ | refine Gr.alloc ?_ _ | refine alloc_old ?_ | refine Gr.keep (by assumption) ?_ | refine Gr.trans ?_ (by assumption))
 clear hK K; try simp only [Act.put, lA, lB, lC]
 refine ti 7 (some 7) rfl rfl ?_; try simp only [Act.put, lA, lB, lC]
 refine ti 8 (some 15) rfl rfl ?_; try simp only [Act.put, lA, lB, lC]
 refine ti 9 (some 16) rfl rfl ?_; try simp only [Act.put, lA, lB, lC]
 refine tr [11] (.cons rfl (fun K hK => ?_) .nil)
 go_simp
 refine hK.out _ _ ?_ (fun hHeld => ?_)
 ·((try dsimp only); (try go_split_ands); (repeat' apply And.intro) <;> repeat first | assumption | exact Gr.refl _ | refine Gr.drew ?_ | refine Gr.alloc ?_ _ | refine alloc_old ?_ | refine Gr.keep (by assumption) ?_ | refine Gr.trans ?_ (by assumption))
 clear hK K; try simp only [Act.put, lA, lB, lC]
 refine ti 12 (some 6) rfl rfl ?_; try simp only [Act.put, lA, lB, lC]
 refine wpAnyH_done ?_ ?_ _
 ·kernel_rfl
 rotate_left
 all_goals
  have hg2 : Gr w1 (w1.alloc (.cells #[.slice (some ⟨d.b, 0, none⟩) dn d.c, .map (some d.g)] 90)).drew := ((Gr.refl w1).alloc _).drew
  have hP : Blk (w1.alloc (.cells #[.slice (some ⟨d.b, 0, none⟩) dn d.c, .map (some d.g)] 90)).drew w1.heap.size 90 #[.slice (some ⟨d.b, 0, none⟩) dn d.c, .map (some d.g)] := Blk.keep (w := w1.alloc _) (heap_alloc_new w1 _) (Gr.refl _).drew
  generalize World.drew _ = w2 at hg2 hP ⊢
  have hZU : w.heap.size ≤ w1.heap.size := hg1.size
  obtain ⟨Z, hZ⟩ : ∃ Z, w1.heap.size = Z := ⟨_, rfl⟩
  rw [hZ] at hP hZU ⊢
  have hgr2 := hg1.trans hg2
  have HI2 := Lib.hid (HH.out.keep hgr2)
  have HB2 := Lib.hid (HB.out.keep hg2)
  have HZ := Lib.hid hP
  have HZU := Lib.hid hZU
  have HC2 : Hid (Ch (blks (siteIt s)) w w2) := Lib.hid (Ch.of hgr2)
  clear hHeld b3 c6 hP hg1 hg2 HB hZU hZ hgr2
  have c6 : w2.cell? ⟨s.p, 6, none⟩ = some (.map (some s.mo)) := HI2.out.sCells.2.2.2.2.2.2.1
  have b3 : w2.cell? ⟨U, 3, none⟩ = some (.int .i64 tx) := HB2.out.cell 3
  have HMO := Lib.hid ((HI2.out.keep (Gr.refl w2).drew).sOpn)
  have HLS : Hid ((s.p < w2.drew.heap.size ∧ s.p ≠ s.mo) ∧ (U < w2.drew.heap.size ∧ U ≠ s.mo) ∧ Z ≠ s.mo) := Lib.hid (by have h1 := HLT.out; have h2 := HU.out; have h3 := HC2.out.size; have h4 := HB2.out.lt; have h5 := HZU.out; exact ⟨⟨by show s.p < w2.heap.size; omega, h1.2.1⟩, ⟨h4, by omega⟩, by omega⟩)
  go_upto_region 4 with fail
  refine wp_region_held_drew (S := (fun W' => W'.cell? ⟨s.p, 6, none⟩ = some (.map (some s.mo)) ∧ W'.cell? ⟨U, 3, none⟩ = some (.int .i64 tx))) ?_ ?_ (fun hHeld => ?_)
  ·kernel_rfl
  ·((try dsimp only); (try go_split_ands); (repeat' apply And.intro) <;> repeat first | assumption | exact Gr.refl _ | refine Gr.drew ?_ | refine Gr.alloc ?_ _ | refine alloc_old ?_ | refine Gr.keep (by assumption) ?_ | refine Gr.trans ?_ (by assumption))
  refine ti 0 (some 19) rfl rfl ?_; try simp only [Act.put, lA, lB, lC]
  refine ti 1 (some 20) rfl rfl ?_; try simp only [Act.put, lA, lB, lC]
  refine ti 2 (some 21) rfl rfl ?_; try simp only [Act.put, lA, lB, lC]
  refine ti 3 (some 22) rfl rfl ?_; try simp only [Act.put, lA, lB, lC]
  refine ti 4 (some 23) rfl rfl ?_; try simp only [Act.put, lA, lB, lC]
  refine ti 5 (some 24) rfl rfl ?_; try simp only [Act.put, lA, lB, lC]
  refine tr [6] (.cons rfl (fun K hK => ?_) .nil)
  first | (refine held_drop (by rfl) (.tmp 22) (.tmp 24) _ (by rfl) HMO.out intK_inj intp_law _ Tryz.underlying82 tx kl hkl (by rfl) (by rfl) (by rfl) ?_; intro w6 hm6 hb6; have y0 := gb_cell5 hb6 hHeld.1 HLS.out.1.1 HLS.out.1.2; have y1 := gb_cell5 hb6 hHeld.2 HLS.out.2.1.1 HLS.out.2.1.2; have HM6 := Lib.hid hm6; have HB6 := Lib.hid hb6; clear hm6 hb6)
  refine hK.out _ _ ?_ (fun hHeld => ?_)
  ·((try dsimp only); (try go_split_ands); (repeat' apply And.intro) <;> repeat first | assumption | exact Gr.refl _ | refine Gr.drew ?_ | refine Gr.alloc ?_ _ | refine alloc_old ?_ | refine Gr.keep (by assumption) ?_ | refine Gr.trans ?_ (by assumption))
  clear hK K; try simp only [Act.put, lA, lB, lC]
  refine wpAnyH_done ?_ ?_ _
  ·kernel_rfl
  rotate_left
  all_goals
   have HM7 : Hid (Mp Tryz.prog 3 intK dlV w6 s.mo (l1 ++ l2)) := Lib.hid (by have h1 := HM6.out; rw [HMG.out.1, HMG.out.2] at h1; exact h1)
   have HI6 := Lib.hid (siteUnopen (HI2.out.keep (Gr.refl w2).drew) HMG.out.1 HB6.out HM7.out)
   have HC6 : Hid (Ch (blks (siteIt s)) w w6) := Lib.hid ((HC2.out.gr (Gr.refl w2).drew).trans (Ch.gb (S := blks (siteIt s)) HB6.out (blk_mo s)) (fun g hg => Or.inl hg))
   have HK6 : Hid (Blk w6 U 59 #[.int .i64 f, .int .i64 t, .int .i64 kd, .int .i64 tx, .int .i64 n]) := Lib.hid ((HB2.out.keep (Gr.refl w2).drew).grown HB6.out (fun e => HLS.out.2.1.2 (by injection e)))
   have HZ6 : Hid (Blk w6 Z 90 #[.slice (some ⟨d.b, 0, none⟩) dn d.c, .map (some d.g)]) := Lib.hid ((HZ.out.keep (Gr.refl w2).drew).grown HB6.out (fun e => HLS.out.2.2 (by injection e)))
   have HP6 : Hid (Holds5 w6 d.b (.moves d.parts)) := Lib.hid (((HI2.out.keep (Gr.refl w2).drew).at (D := .moves d.parts) (by unfold siteIt; rw [HMG.out.1]; simp [dlIt])).block (World.grownBy.block HB6.out d.b (((HI2.out.keep (Gr.refl w2).drew).at (D := .moves d.parts) (by unfold siteIt; rw [HMG.out.1]; simp [dlIt]) : Holds5 _ d.b (.moves d.parts)).lt) (fun e => (opn_ne HH.out HMG.out.1).1 (by injection e))))
   clear hHeld y0 y1 c6 b3 HMO HM6 HM7 HB6
   have x0 : w6.cell? ⟨U, 3, none⟩ = some (.int .i64 tx) := HK6.out.cell 3
   have x1 : w6.cell? ⟨U, 0, none⟩ = some (.int .i64 f) := HK6.out.cell 0
   have x2 : w6.cell? ⟨Z, 0, none⟩ = some (.slice (some ⟨d.b, 0, none⟩) dn d.c) := HZ6.out.cell 0
   have x3 : w6.cell? ⟨Z, 1, none⟩ = some (.map (some d.g)) := HZ6.out.cell 1
   have HPT : Hid (∀ W, Gr w6 W → Pts W (some ⟨d.b, 0, none⟩) d.parts) := Lib.hid (fun W hW => (show d.b < W.heap.size ∧ Pts W (some ⟨d.b, 0, none⟩) d.parts from HP6.out.keep hW).2)
   have HOL : Hid ((otherL d.parts f).length ≤ 512) := Lib.hid (by unfold otherL; exact Nat.le_trans (List.length_filter_le _ _) (by rw [HDN.out]; exact hl))
   go_upto_region 5 with fail
   refine wp_region_held_drew (S := (fun W' => Gr w6 W' ∧ W'.cell? ⟨U, 3, none⟩ = some (.int .i64 tx) ∧ W'.cell? ⟨U, 0, none⟩ = some (.int .i64 f) ∧ W'.cell? ⟨Z, 0, none⟩ = some (.slice (some ⟨d.b, 0, none⟩) dn d.c) ∧ W'.cell? ⟨Z, 1, none⟩ = some (.map (some d.g)))) ?_ ?_ (fun hHeld => ?_)
   ·kernel_rfl
   ·((try dsimp only); (try go_split_ands); (repeat' apply And.intro) <;> repeat first | assumption | exact Gr.refl _ | refine Gr.drew ?_ | refine Gr.alloc ?_ _ | refine alloc_old ?_ | refine Gr.keep (by assumption) ?_ | refine Gr.trans ?_ (by assumption))
   refine ti 0 (some 25) rfl rfl ?_; try simp only [Act.put, lA, lB, lC]
   refine ti 1 (some 26) rfl rfl ?_; try simp only [Act.put, lA, lB, lC]
   refine ti 2 (some 27) rfl rfl ?_; try simp only [Act.put, lA, lB, lC]
   refine ti 3 (some 28) rfl rfl ?_; try simp only [Act.put, lA, lB, lC]
   refine ti 4 (some 29) rfl rfl ?_; try simp only [Act.put, lA, lB, lC]
   refine ti 5 (some 30) rfl rfl ?_; try simp only [Act.put, lA, lB, lC]
   refine tr [6] (.cons rfl (fun K hK => ?_) .nil)
   go_simp
   first | (go_at_call 96; (with_reducible refine (other_any _ dn d.c d.parts _ f _ HDN.out hl (HPT.out _ hHeld.1)).mono ?_); rintro e w7 ⟨A7, c7, rfl, hp7, hg7, hc7⟩; have HP7 := Lib.hid hp7; have HG7 := Lib.hid (hHeld.1.trans hg7); clear hp7)
   refine hK.out _ _ ?_ (fun hHeld => ?_)
   ·((try dsimp only); (try go_split_ands); (repeat' apply And.intro) <;> repeat first | assumption | exact Gr.refl _ | refine Gr.drew ?_ | refine Gr.alloc ?_ _ | refine alloc_old ?_ | refine Gr.keep (by assumption) ?_ | refine Gr.trans ?_ (by assumption))
   clear hK K; try simp only [Act.put, lA, lB, lC]
   refine tr [7] (.cons rfl (fun K hK => ?_) .nil)
   go_simp
   first | (go_at_call 68; (with_reducible refine (write5_any 5 tx A7 _ c7 (otherL d.parts f) _ (HI6.out.keep hHeld.1) rfl HOL.out (HP7.out.keep (by first | exact Gr.refl _ | assumption))).mono ?_); intro e w8 hlet; have HLT8 := Lib.hid hlet; obtain ⟨A8, c8, rfl, hr8, hg8, hc8⟩ := hlet; clear hr8)
   refine hK.out _ _ ?_ (fun hHeld => ?_)
   ·((try dsimp only); (try go_split_ands); (repeat' apply And.intro) <;> repeat first | assumption | exact Gr.refl _ | refine Gr.drew ?_ | refine Gr.alloc ?_ _ | refine alloc_old ?_ | refine Gr.keep (by assumption) ?_ | refine Gr.trans ?_ (by assumption))
   clear hK K; try simp only [Act.put, lA, lB, lC]
   refine ti 8 (some 4) rfl rfl ?_; try simp only [Act.put, lA, lB, lC]
   refine wpAnyH_done ?_ ?_ _
   ·kernel_rfl
   rotate_left
   all_goals
    clear hHeld x0 x1 x2 x3
    go_wp2_with fail
    go_ret
    exact StepP.of (HI6.out.keep HG7.out) (HC6.out.gr HG7.out) rfl (fun g hg => Or.inl (opn_less HMG.out.1 g hg)) HLT8.out

end Go.Proofs.YtnoeiocbmhkmeaaGreat
