/- Layer 5: a site is told that another one has promised. -/
import Derived.Test.YtnoeiocbmhkmeaaGreatBu8
namespace Go.Proofs.YtnoeiocbmhkmeaaGreat
open Go.RowKit
open Go.Maps (Keyed)
set_option linter.unusedSimpArgs false
set_option maxRecDepth 100000
set_option maxHeartbeats 80000000

theorem opn_blk {s : Sx} {tx : Int} {d : Dl} {l1 l2 : List (Int × Dl)} (hs : s.opn = l1 ++ (tx, d) :: l2) : d.b ∈ blks (siteIt s) ∧ d.g ∈ blks (siteIt s) := by
 unfold siteIt; rw [hs]; simp [blks, dlIt]
theorem opn_less {s : Sx} {tx : Int} {d : Dl} {l1 l2 : List (Int × Dl)} (hs : s.opn = l1 ++ (tx, d) :: l2) : ∀ g ∈ blks (siteIt { s with opn := l1 ++ l2 }), g ∈ blks (siteIt s) := fun g hg => by
 unfold siteIt at hg ⊢; rw [hs]
 simp only [blks, List.flatMap_append, List.flatMap_cons, List.map_append, List.mem_append] at hg ⊢
 rcases hg with hg | (hg | hg) | hg
 ·exact Or.inl (by simpa using hg)
 ·exact Or.inr (Or.inl (Or.inl hg))
 ·exact Or.inr (Or.inl (Or.inr (Or.inr hg)))
 ·exact Or.inr (Or.inr hg)
theorem opn_same {s : Sx} {tx : Int} {d : Dl} {l1 l2 : List (Int × Dl)} {x : List (Int × Bool)} (hs : s.opn = l1 ++ (tx, d) :: l2) : blks (siteIt { s with opn := l1 ++ (tx, { d with miss := x }) :: l2 }) = blks (siteIt s) := by
 unfold siteIt; rw [hs]; simp [blks, dlIt]
theorem opn_ne {B : Nat} {w : World} {s : Sx} {tx : Int} {d : Dl} {l1 l2 : List (Int × Dl)} (h : Its B w (siteIt s)) (hs : s.opn = l1 ++ (tx, d) :: l2) : d.b ≠ s.mo ∧ d.b ≠ s.mg ∧ d.b ≠ d.g := by
 have h1 := h.nod
 unfold siteIt at h1
 rw [blks_app] at h1
 obtain ⟨-, h2, h3⟩ := List.nodup_append.1 h1
 have hb : d.b ∈ blks (s.opn.flatMap dlIt ++ s.grt.flatMap dlIt) := by rw [hs]; simp [blks, dlIt]
 refine ⟨fun e => h3 s.mo (by simp [blks]) d.b hb e.symm, fun e => h3 s.mg (by simp [blks]) d.b hb e.symm, fun e => ?_⟩
 rw [hs, List.flatMap_append, List.flatMap_cons, blks_app, blks_app, blks_app] at h2
 have h4 := (List.nodup_append.1 (List.nodup_append.1 (List.nodup_append.1 h2).1).2.1).1
 simp [dlIt, blks] at h4
 exact h4 e
def AgrP (B : Nat) (w : World) (s : Sx) (f tx : Int) (d : Dl) (l1 l2 : List (Int × Dl)) (e : Ending) (w' : World) : Prop :=
 (mdel d.miss f ≠ [] ∧ StepP B w s { s with opn := l1 ++ (tx, { d with miss := mdel d.miss f }) :: l2 } [] e w') ∨
 (mdel d.miss f = [] ∧ ∃ d', d'.parts = d.parts ∧ d'.miss = missOf d.parts ∧ StepP B w s { s with opn := l1 ++ l2, grt := s.grt ++ [(tx, d')] } (wrL s 4 tx d.parts) e w')

theorem agree_open {B : Nat} {s : Sx} (m : Ml) (w : World) (h : Its B w (siteIt s)) (htx : I64 m.2.2.2.1) (hf : I64 m.1) {d : Dl} (hm : mget s.opn m.2.2.2.1 = some d) (hgn : mget s.grt m.2.2.2.1 = none) (hl : d.parts.length ≤ 512) (hl0 : 1 ≤ d.parts.length) (hI : ∀ p ∈ d.parts, I64 p.1) :
 Calls Tryz.prog 83 #[.pointer (some ⟨s.p, 0, none⟩), .agg #[.int .i64 m.1, .int .i64 m.2.1, .int .i64 m.2.2.1, .int .i64 m.2.2.2.1, .int .i64 m.2.2.2.2]] w
  (fun e w' => ∃ l1 l2, s.opn = l1 ++ (m.2.2.2.1, d) :: l2 ∧ AgrP B w s m.1 m.2.2.2.1 d l1 l2 e w') := by
 obtain ⟨f, t, kd, tx, n⟩ := m
 dsimp only at htx hf hm hgn ⊢
 obtain ⟨kl, hkl⟩ := intp_key htx
 obtain ⟨kf, hkf⟩ := intp_key hf
 obtain ⟨l1, l2, hs, hdel⟩ := mget_split h.sOpn.apart hm
 have HLP := Lib.hid (fun W (hI : Its B W (siteIt s)) => look_deal hI.sOpn htx)
 rw [hm] at HLP
 simp only [Option.map_some, Option.getD_some, Option.isSome_some, dlV] at HLP
 have HH := Lib.hid h
 have HTX := Lib.hid htx
 have c6 := h.sCells.2.2.2.2.2.2.1
 have hlt : s.p < w.heap.size := (h.lt (g := s.p) (by simp [siteIt, blks])).1
 have hne4 : s.p ≠ s.mo := h.ne (i := 0) (j := 4) (by omega) rfl rfl
 have hne5 : s.p ≠ s.mg := h.ne (i := 0) (j := 5) (by omega) rfl rfl
 have hmo : s.mo < w.heap.size := h.sOpn.lt
 have hmg : s.mg < w.heap.size := h.sGrt.lt
 have HLT := Lib.hid (And.intro hlt (And.intro hne4 (And.intro hne5 (And.intro hmo hmg))))
 have hdel2 : mdel (l1 ++ (tx, d) :: l2) tx = l1 ++ l2 := by rw [← hs]; exact hdel
 have HMG := Lib.hid (And.intro hgn (And.intro hs hdel2))
 have hdg : d.g < w.heap.size := (h.lt (opn_blk hs).2).1
 have hdb : d.b < w.heap.size := (h.lt (opn_blk hs).1).1
 have HDG := Lib.hid (And.intro hdg hdb)
 have HPI := Lib.hid (And.intro hl (And.intro hl0 hI))
 obtain ⟨dn, hdn⟩ : ∃ dn, d.parts.length = dn := ⟨_, rfl⟩
 rw [hdn] at HLP
 have HDN := Lib.hid hdn
 clear htx h hlt hne4 hne5 hmo hmg hm hf hs hdel hdel2 hdg hdb hgn hl hl0 hI hdn
 go_enter Tryz.func83, Tryz.ntmps83
 go_upto_region 1 with fail
 generalize hW1 : World.alloc w _ = w1
 have hg1 : Gr w w1 := by rw [← hW1]; exact (Gr.refl w).alloc _
 have hbk : Blk w1 w.heap.size 59 #[.int .i64 f, .int .i64 t, .int .i64 kd, .int .i64 tx, .int .i64 n] := by rw [← hW1]; exact Blk.new w _ _ rfl
 obtain ⟨U, hU⟩ : ∃ U, w.heap.size = U := ⟨_, rfl⟩
 rw [hU] at hbk ⊢
 have HU := Lib.hid hU
 have HB := Lib.hid hbk
 have b3 : w1.cell? ⟨U, 3, none⟩ = some (.int .i64 tx) := hbk.cell 3
 replace c6 := hg1.keep c6
 clear hW1 hbk hU
 refine wp_region_held_drew (S := (fun W' => Gr w1 W' ∧ W'.cell? ⟨s.p, 6, none⟩ = some (.map (some s.mo)) ∧ W'.cell? ⟨U, 3, none⟩ = some (.int .i64 tx))) ?_ ?_ (fun hHeld => ?_)
 ·kernel_rfl
 ·((try dsimp only); (try go_split_ands); (repeat' apply And.intro) <;> repeat first | assumption | exact Gr.refl _ | refine Gr.drew ?_ | refine Gr.alloc ?_ _ | refine alloc_old ?_ | refine Gr.keep (by assumption) ?_ | refine Gr.trans ?_ (by assumption))
 refine ti 0 (some 10) rfl rfl ?_; try simp only [Act.put, lA, lB, lC]
 refine ti 1 (some 11) rfl rfl ?_; try simp only [Act.put, lA, lB, lC]
 refine ti 2 (some 12) rfl rfl ?_; try simp only [Act.put, lA, lB, lC]
 refine ti 3 (some 13) rfl rfl ?_; try simp only [Act.put, lA, lB, lC]
 refine ti 4 (some 14) rfl rfl ?_; try simp only [Act.put, lA, lB, lC]
 refine ti 5 (some 15) rfl rfl ?_; try simp only [Act.put, lA, lB, lC]
 refine tr [6, 10] (.cons rfl (fun K hK => ?_) (.cons rfl (fun K hK => ?_) .nil))
 first | (refine held_look (by rfl) (.tmp 13) (.tmp 15) _ _ (by rfl) (.map (some s.mo)) (.int .i64 tx) (.tuple #[.agg #[.slice (some ⟨d.b, 0, none⟩) dn d.c, .map (some d.g)], .bool true]) (by rfl) (by rfl) (HLP.out _ (HH.out.keep (hg1.trans hHeld.1))) ?_)
 refine hK.out _ _ ?_ (fun hHeld => ?_)
 ·((try dsimp only); (try go_split_ands); (repeat' apply And.intro) <;> repeat first | assumption | exact Gr.refl _ | refine Gr.drew ?_ | refine Gr.alloc ?_ _ | refine alloc_old ?_ | refine Gr.keep (by assumption) ?_ | refine Gr.trans ?_ (by assumption))
 clear hK K; try simp only [Act.put, lA, lB, lC]
 refine ti 7 (some 9) rfl rfl ?_; try simp only [Act.put, lA, lB, lC]
 refine ti 8 (some 17) rfl rfl ?_; try simp only [Act.put, lA, lB, lC]
 refine ti 9 (some 18) rfl rfl ?_; try simp only [Act.put, lA, lB, lC]
 refine tr [10] (.cons rfl (fun K hK => ?_) .nil)
 go_simp
 refine hK.out _ _ ?_ (fun hHeld => ?_)
 ·((try dsimp only); (try go_split_ands); (repeat' apply And.intro) <;> repeat first | assumption | exact Gr.refl _ | refine Gr.drew ?_ | refine Gr.alloc ?_ _ | refine alloc_old ?_ | refine Gr.keep (by assumption) ?_ | refine Gr.trans ?_ (by assumption))
 clear hK K; try simp only [Act.put, lA, lB, lC]
 refine tr [11] (.cons rfl (fun K hK => ?_) .nil)
 go_simp
 refine hK.out _ _ ?_ (fun hHeld => ?_)
 ·((try dsimp only); (try go_split_ands); (repeat' apply And.intro) <;> repeat first | assumption | exact Gr.refl _ | refine Gr.drew ?_ | refine Gr.alloc ?_ _ | refine alloc_old ?_ | refine Gr.keep (by assumption) ?_ | refine Gr.trans ?_ (by assumption))
 clear hK K; try simp only [Act.put, lA, lB, lC]
 refine ti 12 (some 6) rfl rfl ?_; try simp only [Act.put, lA, lB, lC]
 refine wpAnyH_done ?_ ?_ _
 ·kernel_rfl
 rotate_left
 go_simp
 refine hK.out _ _ ?_ (fun hHeld => ?_)
 ·((try dsimp only); (try go_split_ands); (repeat' apply And.intro) <;> repeat first | assumption | exact Gr.refl _ | refine Gr.drew ?_ | refine Gr.alloc ?_ _ | refine alloc_old ?_ | refine Gr.keep (by assumption) ?_ | refine Gr.trans ?_ (by assumption))
 clear hK K; try simp only [Act.put, lA, lB, lC]
 refine tr [6] (.cons rfl (fun K hK => ?_) .nil)
 first | (refine held_look (by rfl) (.tmp 13) (.tmp 15) _ _ (by rfl) (.map (some s.mo)) (.int .i64 tx) (.tuple #[.agg #[.slice (some ⟨d.b, 0, none⟩) dn d.c, .map (some d.g)], .bool true]) (by rfl) (by rfl) (HLP.out _ (HH.out.keep (hg1.trans hHeld.1))) ?_)
 refine hK.out _ _ ?_ (fun hHeld => ?_)
 ·((try dsimp only); (try go_split_ands); (repeat' apply And.intro) <;> repeat first | assumption | exact Gr.refl _ | refine Gr.drew ?_ | refine Gr.alloc ?_ _ | refine alloc_old ?_ | refine Gr.keep (by assumption) ?_ | refine Gr.trans ?_ (by assumption))
 clear hK K; try simp only [Act.put, lA, lB, lC]
 refine ti 7 (some 9) rfl rfl ?_; try simp only [Act.put, lA, lB, lC]
 refine ti 8 (some 17) rfl rfl ?_; try simp only [Act.put, lA, lB, lC]
 refine ti 9 (some 18) rfl rfl ?_; try simp only [Act.put, lA, lB, lC]
 refine tr [11] (.cons rfl (fun K hK => ?_) .nil)
 go_simp
 refine hK.out _ _ ?_ (fun hHeld => ?_)
 ·((try dsimp only); (try go_split_ands); (repeat' apply And.intro) <;> repeat first | assumption | exact Gr.refl _ | refine Gr.drew ?_ | refine Gr.alloc ?_ _ | refine alloc_old ?_ | refine Gr.keep (by assumption) ?_ | refine Gr.trans ?_ (by assumption))
 clear hK K; try simp only [Act.put, lA, lB, lC]
 refine ti 12 (some 6) rfl rfl ?_; try simp only [Act.put, lA, lB, lC]
 refine wpAnyH_done ?_ ?_ _
 ·kernel_rfl
 rotate_left
 all_goals
  have hg2 : Gr w1 (w1.alloc (.cells #[.slice (some ⟨d.b, 0, none⟩) dn d.c, .map (some d.g)] 90)).drew := ((Gr.refl w1).alloc _).drew
  have hP : Blk (w1.alloc (.cells #[.slice (some ⟨d.b, 0, none⟩) dn d.c, .map (some d.g)] 90)).drew w1.heap.size 90 #[.slice (some ⟨d.b, 0, none⟩) dn d.c, .map (some d.g)] := Blk.keep (w := w1.alloc _) (heap_alloc_new w1 _) (Gr.refl _).drew
  generalize World.drew _ = w2 at hg2 hP ⊢
  have hZD : w1.heap.size ≠ d.g := by have h1 := HDG.out; have h2 := hg1.size; omega
  have hZO : w1.heap.size ≠ s.mo := by have h1 := HLT.out; have h2 := hg1.size; omega
  have hZG : w1.heap.size ≠ s.mg := by have h1 := HLT.out; have h2 := hg1.size; omega
  generalize w1.heap.size = Z at hP hZD hZO hZG ⊢
  have hgr2 := hg1.trans hg2
  have HI2 := Lib.hid (HH.out.keep hgr2)
  have HB2 := Lib.hid (HB.out.keep hg2)
  have HZ := Lib.hid hP
  have HZD := Lib.hid hZD
  have HZN := Lib.hid (And.intro hZO hZG)
  have HMM : Hid (Mp Tryz.prog 3 intK boolV w2 d.g d.miss) := Lib.hid (HI2.out.at (D := .bools d.miss) (by unfold siteIt; rw [HMG.out.2.1]; simp [dlIt]))
  clear hHeld b3 c6 hP hg1 hg2 HB hZD hZO hZG
  have z1 : w2.cell? ⟨Z, 1, none⟩ = some (.map (some d.g)) := HZ.out.cell 1
  have b0 : w2.cell? ⟨U, 0, none⟩ = some (.int .i64 f) := HB2.out.cell 0
  have HZL := Lib.hid HZ.out.lt
  by_cases hz : mdel d.miss f = []
  ·have hqb : ¬ ((0 : Int) < ((mdel d.miss f).length : Int)) := by rw [hz]; simp
   have HQ := Lib.hid hz
   clear hz
   go_wp2_with (first | (refine step_drop rfl _ _ _ rfl HMM.out intK_inj intp_law _ Tryz.underlying81 f kf hkf rfl rfl ?_; intro w5 hm5 hb5; have z2 := gb_cell5 hb5 z1 HZL.out HZD.out; have HM5 := Lib.hid hm5; have HB5 := Lib.hid hb5; clear hm5 hb5) | (refine step_len rfl _ _ rfl HM5.out _ Tryz.underlying81 rfl ?_) | fail)
   have HI5 := Lib.hid (siteMissO HI2.out HMG.out.2.1 HB5.out HM5.out)
   have HC5 : Hid (Ch (blks (siteIt s)) w w5) := Lib.hid ((Ch.of hgr2).trans (Ch.gb (S := blks (siteIt s)) HB5.out (opn_blk HMG.out.2.1).2) (fun g hg => Or.inl hg))
   have HK5 : Hid (Blk w5 U 59 #[.int .i64 f, .int .i64 t, .int .i64 kd, .int .i64 tx, .int .i64 n]) := Lib.hid (HB2.out.grown HB5.out (fun e => by injection e with e; have h1 := HDG.out; have h2 := HU.out; omega))
   have HZ5 := Lib.hid (HZ.out.grown HB5.out (fun e => HZD.out (by injection e)))
   have HP5 : Hid (Holds5 w5 d.b (.moves d.parts)) := Lib.hid ((HI2.out.at (D := .moves d.parts) (by unfold siteIt; rw [HMG.out.2.1]; simp [dlIt])).block (World.grownBy.block HB5.out d.b (by have h1 := HDG.out; have h2 := hgr2.size; omega) (fun e => (opn_ne HH.out HMG.out.2.1).2.2 (by injection e))))
   have c6 : w5.cell? ⟨s.p, 6, none⟩ = some (.map (some s.mo)) := HI5.out.sCells.2.2.2.2.2.2.1
   have b3 : w5.cell? ⟨U, 3, none⟩ = some (.int .i64 tx) := HK5.out.cell 3
   have HMO := Lib.hid ((HI5.out.keep (Gr.refl w5).drew).sOpn)
   have HLS : Hid ((s.p < w5.drew.heap.size ∧ s.p ≠ s.mo) ∧ (U < w5.drew.heap.size ∧ U ≠ s.mo)) := Lib.hid (by have h1 := HLT.out; have h2 := HU.out; have h3 := HC5.out.size; have h4 := HK5.out.lt; exact ⟨⟨by show s.p < w5.heap.size; omega, h1.2.1⟩, h4, by omega⟩)
   clear z1 z2 b0
   refine wp_region_held_drew (S := (fun W' => W'.cell? ⟨s.p, 6, none⟩ = some (.map (some s.mo)) ∧ W'.cell? ⟨U, 3, none⟩ = some (.int .i64 tx))) ?_ ?_ (fun hHeld => ?_)
   ·kernel_rfl
   ·((try dsimp only); (try go_split_ands); (repeat' apply And.intro) <;> repeat first | assumption | exact Gr.refl _ | refine Gr.drew ?_ | refine Gr.alloc ?_ _ | refine alloc_old ?_ | refine Gr.keep (by assumption) ?_ | refine Gr.trans ?_ (by assumption))
   refine ti 0 (some 28) rfl rfl ?_; try simp only [Act.put, lA, lB, lC]
   refine ti 1 (some 29) rfl rfl ?_; try simp only [Act.put, lA, lB, lC]
   refine ti 2 (some 30) rfl rfl ?_; try simp only [Act.put, lA, lB, lC]
   refine ti 3 (some 31) rfl rfl ?_; try simp only [Act.put, lA, lB, lC]
   refine ti 4 (some 32) rfl rfl ?_; try simp only [Act.put, lA, lB, lC]
   refine ti 5 (some 33) rfl rfl ?_; try simp only [Act.put, lA, lB, lC]
   refine tr [6] (.cons rfl (fun K hK => ?_) .nil)
   first | (refine held_drop (by rfl) (.tmp 31) (.tmp 33) _ (by rfl) HMO.out intK_inj intp_law _ Tryz.underlying82 tx kl hkl (by rfl) (by rfl) (by rfl) ?_; intro w6 hm6 hb6; have y0 := gb_cell5 hb6 hHeld.1 HLS.out.1.1 HLS.out.1.2; have y1 := gb_cell5 hb6 hHeld.2 HLS.out.2.1 HLS.out.2.2; have HM6 := Lib.hid hm6; have HB6 := Lib.hid hb6; clear hm6 hb6)
   refine hK.out _ _ ?_ (fun hHeld => ?_)
   ·((try dsimp only); (try go_split_ands); (repeat' apply And.intro) <;> repeat first | assumption | exact Gr.refl _ | refine Gr.drew ?_ | refine Gr.alloc ?_ _ | refine alloc_old ?_ | refine Gr.keep (by assumption) ?_ | refine Gr.trans ?_ (by assumption))
   clear hK K; try simp only [Act.put, lA, lB, lC]
   refine wpAnyH_done ?_ ?_ _
   ·kernel_rfl
   rotate_left
   all_goals
    have HM7 : Hid (Mp Tryz.prog 3 intK dlV w6 s.mo (l1 ++ l2)) := Lib.hid (by have h1 := HM6.out; rw [mdel_swap HMG.out.2.2] at h1; exact h1)
    have HI6 := Lib.hid (siteUnopen (HI5.out.keep (Gr.refl w5).drew) rfl HB6.out HM7.out)
    have HC6 : Hid (Ch (blks (siteIt s)) w w6) := Lib.hid ((HC5.out.gr (Gr.refl w5).drew).trans (Ch.gb (S := blks (siteIt s)) HB6.out (blk_mo s)) (fun g hg => Or.inl hg))
    have HK6 : Hid (Blk w6 U 59 #[.int .i64 f, .int .i64 t, .int .i64 kd, .int .i64 tx, .int .i64 n]) := Lib.hid ((HK5.out.keep (Gr.refl w5).drew).grown HB6.out (fun e => HLS.out.2.2 (by injection e)))
    have HZ6 := Lib.hid ((HZ5.out.keep (Gr.refl w5).drew).grown HB6.out (fun e => HZN.out.1 (by injection e)))
    have HP6 : Hid (Holds5 w6 d.b (.moves d.parts)) := Lib.hid ((HP5.out.keep (Gr.refl w5).drew).block (World.grownBy.block HB6.out d.b (HP5.out.keep (Gr.refl w5).drew).lt (fun e => (opn_ne HH.out HMG.out.2.1).1 (by injection e))))
    clear hHeld y0 y1 c6 b3 HMO HLS HM6 HB6 HM7 HI5 HC5 HK5 HZ5 HP5
    have c7 : w6.cell? ⟨s.p, 7, none⟩ = some (.map (some s.mg)) := HI6.out.sCells.2.2.2.2.2.2.2
    have b3 : w6.cell? ⟨U, 3, none⟩ = some (.int .i64 tx) := HK6.out.cell 3
    have z0 : w6.cell? ⟨Z, 0, none⟩ = some (.slice (some ⟨d.b, 0, none⟩) dn d.c) := HZ6.out.cell 0
    have hdr := (Gr.refl w6).drew
    have m0 := hdr.keep c7
    have m1 := hdr.keep b3
    have m2 := hdr.keep z0
    have HD := Lib.hid (newDeal_any (some ⟨d.b, 0, none⟩) dn d.c d.parts w6.drew HDN.out (by have := HPI.out.1; have := HDN.out; omega) (by have := HPI.out.2.1; have := HDN.out; omega) (HP6.out.keep hdr).2 HPI.out.2.2)
    have HGT := Lib.hid ((HI6.out.keep hdr).sGrt)
    have HLS : Hid ((s.p < w6.heap.size ∧ s.p ≠ s.mg) ∧ (U < w6.heap.size ∧ U ≠ s.mg) ∧ (Z < w6.heap.size ∧ Z ≠ s.mg)) := Lib.hid (by have h1 := HLT.out; have h2 := HU.out; have h3 := HC6.out.size; have h4 := HK6.out.lt; exact ⟨⟨by omega, h1.2.2.1⟩, ⟨h4, by omega⟩, HZ6.out.lt, HZN.out.2⟩)
    go_upto_region 7 with fail
    refine wp_region_held_drew (S := (fun W' => W'.cell? ⟨s.p, 7, none⟩ = some (.map (some s.mg)) ∧ W'.cell? ⟨U, 3, none⟩ = some (.int .i64 tx) ∧ W'.cell? ⟨Z, 0, none⟩ = some (.slice (some ⟨d.b, 0, none⟩) dn d.c))) ?_ ?_ (fun hHeld => ?_)
    ·kernel_rfl
    ·((try dsimp only); (first | exact hHeld | exact ⟨x0, x1, x2⟩ | exact ⟨y0, y1, y2⟩ | exact ⟨m0, m1, m2⟩))
    refine ti 0 (some 34) rfl rfl ?_; try simp only [Act.put, lA, lB, lC]
    refine ti 1 (some 35) rfl rfl ?_; try simp only [Act.put, lA, lB, lC]
    refine ti 2 (some 36) rfl rfl ?_; try simp only [Act.put, lA, lB, lC]
    refine ti 3 (some 37) rfl rfl ?_; try simp only [Act.put, lA, lB, lC]
    refine ti 4 (some 38) rfl rfl ?_; try simp only [Act.put, lA, lB, lC]
    refine ti 5 (some 39) rfl rfl ?_; try simp only [Act.put, lA, lB, lC]
    refine ti 6 (some 40) rfl rfl ?_; try simp only [Act.put, lA, lB, lC]
    refine ti 7 (some 41) rfl rfl ?_; try simp only [Act.put, lA, lB, lC]
    refine tr [8] (.cons rfl (fun K hK => ?_) .nil)
    go_simp
    first | (go_at_call 67; (with_reducible refine (HD.out).mono ?_); rintro e w7 ⟨d', rfl, hd1, hd2, hd3, hd4, hd5, hg7⟩; have HDW := Lib.hid (DlNew.mk hd1 hd2 hd3.1 hd3.2.1 hd3.2.2 hd4 hd5); have HG7 := Lib.hid hg7; have y0 := hg7.keep m0; have y1 := hg7.keep m1; have y2 := hg7.keep m2; have HM7 := Lib.hid (HGT.out.keep hg7); clear hd1 hd2 hd3 hd4 hd5 hg7)
    refine hK.out _ _ ?_ (fun hHeld => ?_)
    ·((try dsimp only); (first | exact hHeld | exact ⟨x0, x1, x2⟩ | exact ⟨y0, y1, y2⟩ | exact ⟨m0, m1, m2⟩))
    clear hK K; try simp only [Act.put, lA, lB, lC]
    refine tr [9] (.cons rfl (fun K hK => ?_) .nil)
    first | (refine held_update (by rfl) (.tmp 37) (.tmp 39) (.tmp 42) _ (by rfl) HM7.out intK_inj intp_law _ Tryz.underlying82 tx d' kl hkl (by rfl) (by rfl) (by rfl) (by rfl) ?_; intro w8 hm8 hb8; rw [mput_new d' HMG.out.1] at hm8; have hsz := (hdr.trans HG7.out).size; have x0 := gb_cell5 hb8 y0 (Nat.lt_of_lt_of_le HLS.out.1.1 hsz) HLS.out.1.2; have x1 := gb_cell5 hb8 y1 (Nat.lt_of_lt_of_le HLS.out.2.1.1 hsz) HLS.out.2.1.2; have x2 := gb_cell5 hb8 y2 (Nat.lt_of_lt_of_le HLS.out.2.2.1 hsz) HLS.out.2.2.2; have HM8 := Lib.hid hm8; have HB8 := Lib.hid hb8; clear hm8 hb8)
    refine hK.out _ _ ?_ (fun hHeld => ?_)
    ·((try dsimp only); (first | exact hHeld | exact ⟨x0, x1, x2⟩ | exact ⟨y0, y1, y2⟩ | exact ⟨m0, m1, m2⟩))
    clear hK K; try simp only [Act.put, lA, lB, lC]
    refine wpAnyH_done ?_ ?_ _
    ·kernel_rfl
    rotate_left
    all_goals
     have hg67 := hdr.trans HG7.out
     have HI8 := Lib.hid (siteGrant (tx := tx) HI6.out hg67 ⟨HDW.out.1, HDW.out.2, HDW.out.3, HDW.out.4, HDW.out.5, HDW.out.6, HDW.out.7⟩ HB8.out HM8.out)
     have HC8 : Hid (Ch (blks (siteIt s)) w w8) := Lib.hid ((HC6.out.gr hg67).trans (Ch.gb (S := blks (siteIt s)) HB8.out (blk_mg s)) (fun g hg => Or.inl hg))
     have HB9 : Hid (∀ g ∈ blks (siteIt { s with opn := l1 ++ l2, grt := s.grt ++ [(tx, d')] }), g ∈ blks (siteIt s) ∨ w.heap.size ≤ g) := Lib.hid (fun g hg => by
      have h1 := siteGrant_blk (s := { s with opn := l1 ++ l2 }) (tx := tx) (w := w6) (w1 := w7) ⟨HDW.out.1, HDW.out.2, HDW.out.3, HDW.out.4, HDW.out.5, HDW.out.6, HDW.out.7⟩ g hg
      rcases h1 with h1 | h1
      ·exact Or.inl (opn_less HMG.out.2.1 g h1)
      ·exact Or.inr (Nat.le_trans HC6.out.size h1))
     have HP8 : Hid (Holds5 w8 d.b (.moves d.parts)) := Lib.hid ((HP6.out.keep hg67).block (World.grownBy.block HB8.out d.b (HP6.out.keep hg67).lt (fun e => (opn_ne HH.out HMG.out.2.1).2.1 (by injection e))))
     have HWR := Lib.hid (write5_any 4 tx (some ⟨d.b, 0, none⟩) dn d.c d.parts w8 HI8.out HDN.out (by have := HPI.out.1; have := HDN.out; omega) HP8.out.2)
     have HPM := Lib.hid (And.intro HDW.out.parts HDW.out.miss)
     clear hHeld y0 y1 y2 m0 m1 m2 x0 hg67 hsz HD HGT HDW HG7 HM7 HM8 HB8 HLS c7 b3 z0 hdr
     go_wp2_with fail
     refine HWR.out.mono ?_
     intro e w9 hlet
     have HF : Hid (StepP B w s { s with opn := l1 ++ l2, grt := s.grt ++ [(tx, d')] } (wrL s 4 tx d.parts) e w9) := Lib.hid (StepP.of HI8.out HC8.out rfl HB9.out hlet)
     obtain ⟨A, c, rfl, -⟩ := HF.out.let5
     clear hlet x1 x2
     go_wp2_with fail
     go_ret
     exact ⟨l1, l2, HMG.out.2.1, Or.inr ⟨HQ.out, d', HPM.out.1, HPM.out.2, HF.out⟩⟩
  ·have hqb : (0 : Int) < ((mdel d.miss f).length : Int) := by
    cases hq : mdel d.miss f with
    | nil => exact absurd hq hz
    | cons x r => simp
   have HQ := Lib.hid hz
   clear hz
   go_wp2_with (first | (refine step_drop rfl _ _ _ rfl HMM.out intK_inj intp_law _ Tryz.underlying81 f kf hkf rfl rfl ?_; intro w5 hm5 hb5; have z2 := gb_cell5 hb5 z1 HZL.out HZD.out; have HM5 := Lib.hid hm5; have HB5 := Lib.hid hb5; clear hm5 hb5) | (refine step_len rfl _ _ rfl HM5.out _ Tryz.underlying81 rfl ?_) | fail)
   have HI5 := Lib.hid (siteMissO HI2.out HMG.out.2.1 HB5.out HM5.out)
   have HC5 : Hid (Ch (blks (siteIt s)) w w5) := Lib.hid ((Ch.of hgr2).trans (Ch.gb (S := blks (siteIt s)) HB5.out (opn_blk HMG.out.2.1).2) (fun g hg => Or.inl hg))
   try go_wp2_with fail
   go_ret
   exact ⟨l1, l2, HMG.out.2.1, Or.inl ⟨HQ.out, StepP.of HI5.out HC5.out rfl (siteBlk_same (opn_same HMG.out.2.1)) (LetP_nil _)⟩⟩

end Go.Proofs.YtnoeiocbmhkmeaaGreat
