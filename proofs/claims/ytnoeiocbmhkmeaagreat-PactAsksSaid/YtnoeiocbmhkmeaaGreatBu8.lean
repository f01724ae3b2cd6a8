/- Layer 5: a site is told that another one has kept. -/
import Derived.Test.YtnoeiocbmhkmeaaGreatBu7
namespace Go.Proofs.YtnoeiocbmhkmeaaGreat
open Go.RowKit
open Go.Maps (Keyed)
set_option linter.unusedSimpArgs false
set_option maxRecDepth 100000
set_option maxHeartbeats 80000000

def FinP (B : Nat) (w : World) (s : Sx) (f tx : Int) (e : Ending) (w' : World) : Prop :=
 (mget s.grt tx = none ∧ StepP B w s s [] e w') ∨
 (∃ d l1 l2, mget s.grt tx = some d ∧ s.grt = l1 ++ (tx, d) :: l2 ∧ ((mdel d.miss f = [] ∧ StepP B w s { s with grt := l1 ++ l2 } [] e w') ∨ (mdel d.miss f ≠ [] ∧ StepP B w s { s with grt := l1 ++ (tx, { d with miss := mdel d.miss f }) :: l2 } [] e w')))
theorem grt_blk {s : Sx} {tx : Int} {d : Dl} {l1 l2 : List (Int × Dl)} (hs : s.grt = l1 ++ (tx, d) :: l2) : d.b ∈ blks (siteIt s) ∧ d.g ∈ blks (siteIt s) := by
 unfold siteIt; rw [hs]; simp [blks, dlIt]
theorem grt_less {s : Sx} {tx : Int} {d : Dl} {l1 l2 : List (Int × Dl)} (hs : s.grt = l1 ++ (tx, d) :: l2) : ∀ g ∈ blks (siteIt { s with grt := l1 ++ l2 }), g ∈ blks (siteIt s) := fun g hg => by
 unfold siteIt at hg ⊢; rw [hs]
 simp only [blks, List.flatMap_append, List.flatMap_cons, List.map_append, List.mem_append] at hg ⊢
 rcases hg with hg | hg | hg | hg
 ·exact Or.inl (by simpa using hg)
 ·exact Or.inr (Or.inl hg)
 ·exact Or.inr (Or.inr (Or.inl hg))
 ·exact Or.inr (Or.inr (Or.inr (Or.inr hg)))
theorem grt_same {s : Sx} {tx : Int} {d : Dl} {l1 l2 : List (Int × Dl)} {x : List (Int × Bool)} (hs : s.grt = l1 ++ (tx, d) :: l2) : blks (siteIt { s with grt := l1 ++ (tx, { d with miss := x }) :: l2 }) = blks (siteIt s) := by
 unfold siteIt; rw [hs]; simp [blks, dlIt]

theorem mdel_swap {β : Type} {l1 l2 : List (Int × β)} {a : Int} {x y : β} (h : mdel (l1 ++ (a, x) :: l2) a = l1 ++ l2) : mdel (l1 ++ (a, y) :: l2) a = l1 ++ l2 := by
 unfold mdel at h ⊢
 rw [List.filter_append, List.filter_cons_of_neg (by simp)] at h ⊢
 exact h
theorem finish_any {B : Nat} {s : Sx} (m : Ml) (w : World) (h : Its B w (siteIt s)) (htx : I64 m.2.2.2.1) (hf : I64 m.1) :
 Calls Tryz.prog 87 #[.pointer (some ⟨s.p, 0, none⟩), .agg #[.int .i64 m.1, .int .i64 m.2.1, .int .i64 m.2.2.1, .int .i64 m.2.2.2.1, .int .i64 m.2.2.2.2]] w (FinP B w s m.1 m.2.2.2.1) := by
 obtain ⟨f, t, kd, tx, n⟩ := m
 dsimp only at htx hf ⊢
 obtain ⟨kl, hkl⟩ := intp_key htx
 obtain ⟨kf, hkf⟩ := intp_key hf
 have HLP := Lib.hid (fun W (hI : Its B W (siteIt s)) => look_deal hI.sGrt htx)
 have HH := Lib.hid h
 have c7 := h.sCells.2.2.2.2.2.2.2
 have hlt : s.p < w.heap.size := (h.lt (g := s.p) (by simp [siteIt, blks])).1
 have hne5 : s.p ≠ s.mg := h.ne (i := 0) (j := 5) (by omega) rfl rfl
 have hmg : s.mg < w.heap.size := h.sGrt.lt
 have HLT := Lib.hid (And.intro hlt (And.intro hne5 hmg))
 have hap := h.sGrt.apart
 cases hm : mget s.grt tx with
 | none =>
   rw [hm] at HLP
   have HMG := Lib.hid hm
   simp only [Option.map_none, Option.getD_none, Option.isSome_none, zeroD] at HLP
   clear htx h hlt hne5 hmg hap hm hf
   go_enter Tryz.func87, Tryz.ntmps87
   go_upto_region 1 with fail
   generalize hW1 : World.alloc w _ = w1
   have hg1 : Gr w w1 := by rw [← hW1]; exact (Gr.refl w).alloc _
   have hbk : Blk w1 w.heap.size 59 #[.int .i64 f, .int .i64 t, .int .i64 kd, .int .i64 tx, .int .i64 n] := by rw [← hW1]; exact Blk.new w _ _ rfl
   generalize w.heap.size = U at hbk ⊢
   have b3 : w1.cell? ⟨U, 3, none⟩ = some (.int .i64 tx) := hbk.cell 3
   replace c7 := hg1.keep c7
   clear hW1 hbk
   refine wp_region_held_drew (S := (fun W' => Gr w1 W' ∧ W'.cell? ⟨s.p, 7, none⟩ = some (.map (some s.mg)) ∧ W'.cell? ⟨U, 3, none⟩ = some (.int .i64 tx))) ?_ ?_ (fun hHeld => ?_)
   ·kernel_rfl
   ·((try dsimp only); (try go_split_ands); (repeat' apply And.intro) <;> repeat first | assumption | exact Gr.refl _ | refine Gr.drew ?_ | refine Gr.alloc ?_ _ | refine alloc_old ?_ | refine Gr.keep (by assumption) ?_ | refine Gr.trans ?_ (by assumption))
   refine ti 0 (some 8) rfl rfl ?_; try simp only [Act.put, lA, lB, lC]
   refine ti 1 (some 9) rfl rfl ?_; try simp only [Act.put, lA, lB, lC]
   refine ti 2 (some 10) rfl rfl ?_; try simp only [Act.put, lA, lB, lC]
   refine ti 3 (some 11) rfl rfl ?_; try simp only [Act.put, lA, lB, lC]
   refine ti 4 (some 12) rfl rfl ?_; try simp only [Act.put, lA, lB, lC]
   refine ti 5 (some 13) rfl rfl ?_; try simp only [Act.put, lA, lB, lC]
   refine tr [6, 10] (.cons rfl (fun K hK => ?_) (.cons rfl (fun K hK => ?_) .nil))
   first | (refine held_look (by rfl) (.tmp 11) (.tmp 13) _ _ (by rfl) (.map (some s.mg)) (.int .i64 tx) (.tuple #[.agg #[.slice none 0 0, .map none], .bool false]) (by rfl) (by rfl) (HLP.out _ (HH.out.keep (hg1.trans hHeld.1))) ?_)
   refine hK.out _ _ ?_ (fun hHeld => ?_)
   ·((try dsimp only); (try go_split_ands); (repeat' apply And.intro) <;> repeat first | assumption | exact Gr.refl _ | refine Gr.drew ?_ | refine Gr.alloc ?_ _ | refine alloc_old ?_ | refine Gr.keep (by assumption) ?_ | refine Gr.trans ?_ (by assumption))
   clear hK K; try simp only [Act.put, lA, lB, lC]
   refine ti 7 (some 7) rfl rfl ?_; try simp only [Act.put, lA, lB, lC]
   refine ti 8 (some 15) rfl rfl ?_; try simp only [Act.put, lA, lB, lC]
   refine ti 9 (some 16) rfl rfl ?_; try simp only [Act.put, lA, lB, lC]
   refine tr [10] (.cons rfl (fun K hK => ?_) .nil)
   go_simp
   refine hK.out _ _ ?_ (fun hHeld => ?_)
   ·((try dsimp only); (try go_split_ands); (repeat' apply And.intro) <;> repeat first | assumption | exact Gr.refl _ | refine Gr.drew ?_ | refine Gr.alloc ?_ _ | refine alloc_old ?_ | refine Gr.keep (by assumption) ?_ | refine Gr.trans ?_ (by assumption))
   clear hK K; try simp only [Act.put, lA, lB, lC]
   refine tr [11] (.cons rfl (fun K hK => ?_) .nil)
   go_simp
   refine hK.out _ _ ?_ (fun hHeld => ?_)
   ·((try dsimp only); (try go_split_ands); (repeat' apply And.intro) <;> repeat first | assumption | exact Gr.refl _ | refine Gr.drew ?_ | refine Gr.alloc ?_ _ | refine alloc_old ?_ | refine Gr.keep (by assumption) ?_ | refine Gr.trans ?_ (by assumption))
   clear hK K; try simp only [Act.put, lA, lB, lC]
   refine ti 12 (some 6) rfl rfl ?_; try simp only [Act.put, lA, lB, lC]
   refine wpAnyH_done ?_ ?_ _
   ·kernel_rfl
   rotate_left
   go_simp
   refine hK.out _ _ ?_ (fun hHeld => ?_)
   ·((try dsimp only); (try go_split_ands); (repeat' apply And.intro) <;> repeat first | assumption | exact Gr.refl _ | refine Gr.drew ?_ | refine Gr.alloc ?_ _ | refine alloc_old ?_ | refine Gr.keep (by assumption) ?_ | refine Gr.trans ?_ (by assumption))
   clear hK K; try simp only [Act.put, lA, lB, lC]
   refine tr [6] (.cons rfl (fun K hK => ?_) .nil)
   first | (refine held_look (by rfl) (.tmp 11) (.tmp 13) _ _ (by rfl) (.map (some s.mg)) (.int .i64 tx) (.tuple #[.agg #[.slice none 0 0, .map none], .bool false]) (by rfl) (by rfl) (HLP.out _ (HH.out.keep (hg1.trans hHeld.1))) ?_)
   refine hK.out _ _ ?_ (fun hHeld => ?_)
   ·((try dsimp only); (try go_split_ands); (repeat' apply And.intro) <;> repeat first | assumption | exact Gr.refl _ | refine Gr.drew ?_ | refine Gr.alloc ?_ _ | refine alloc_old ?_ | refine Gr.keep (by assumption) ?_ | refine Gr.trans ?_ (by assumption))
   clear hK K; try simp only [Act.put, lA, lB, lC]
   refine ti 7 (some 7) rfl rfl ?_; try simp only [Act.put, lA, lB, lC]
   refine ti 8 (some 15) rfl rfl ?_; try simp only [Act.put, lA, lB, lC]
   refine ti 9 (some 16) rfl rfl ?_; try simp only [Act.put, lA, lB, lC]
   refine tr [11] (.cons rfl (fun K hK => ?_) .nil)
   go_simp
   refine hK.out _ _ ?_ (fun hHeld => ?_)
   ·((try dsimp only); (try go_split_ands); (repeat' apply And.intro) <;> repeat first | assumption | exact Gr.refl _ | refine Gr.drew ?_ | refine Gr.alloc ?_ _ | refine alloc_old ?_ | refine Gr.keep (by assumption) ?_ | refine Gr.trans ?_ (by assumption))
   clear hK K; try simp only [Act.put, lA, lB, lC]
   refine ti 12 (some 6) rfl rfl ?_; try simp only [Act.put, lA, lB, lC]
   refine wpAnyH_done ?_ ?_ _
   ·kernel_rfl
   rotate_left
   all_goals
    have hgr := hg1.trans hHeld.1
    clear hHeld b3 c7
    go_wp2_with fail
    go_ret
    exact Or.inl ⟨HMG.out, StepP.of (HH.out.keep hgr) (Ch.of hgr) rfl (fun g hg => Or.inl hg) (LetP_nil _)⟩
 | some d =>
   obtain ⟨l1, l2, hs, hdel⟩ := mget_split hap hm
   rw [hm] at HLP
   simp only [Option.map_some, Option.getD_some, Option.isSome_some, dlV] at HLP
   have hdel2 : mdel (l1 ++ (tx, d) :: l2) tx = l1 ++ l2 := by rw [← hs]; exact hdel
   have HMG := Lib.hid (And.intro hm (And.intro hs hdel2))
   have hdg : d.g < w.heap.size := (h.lt (grt_blk hs).2).1
   have HDG := Lib.hid hdg
   generalize d.parts.length = dn at HLP
   clear htx h hlt hne5 hmg hap hm hf hs hdel hdel2 hdg
   go_enter Tryz.func87, Tryz.ntmps87
   go_upto_region 1 with fail
   generalize hW1 : World.alloc w _ = w1
   have hg1 : Gr w w1 := by rw [← hW1]; exact (Gr.refl w).alloc _
   have hbk : Blk w1 w.heap.size 59 #[.int .i64 f, .int .i64 t, .int .i64 kd, .int .i64 tx, .int .i64 n] := by rw [← hW1]; exact Blk.new w _ _ rfl
   obtain ⟨U, hU⟩ : ∃ U, w.heap.size = U := ⟨_, rfl⟩
   rw [hU] at hbk ⊢
   have HU := Lib.hid hU
   have HB := Lib.hid hbk
   have b3 : w1.cell? ⟨U, 3, none⟩ = some (.int .i64 tx) := hbk.cell 3
   replace c7 := hg1.keep c7
   clear hW1 hbk hU
   refine wp_region_held_drew (S := (fun W' => Gr w1 W' ∧ W'.cell? ⟨s.p, 7, none⟩ = some (.map (some s.mg)) ∧ W'.cell? ⟨U, 3, none⟩ = some (.int .i64 tx))) ?_ ?_ (fun hHeld => ?_)
   ·kernel_rfl
   ·((try dsimp only); (try go_split_ands); (repeat' apply And.intro) <;> repeat first | assumption | exact Gr.refl _ | refine Gr.drew ?_ | refine Gr.alloc ?_ _ | refine alloc_old ?_ | refine Gr.keep (by assumption) ?_ | refine Gr.trans ?_ (by assumption))
   refine ti 0 (some 8) rfl rfl ?_; try simp only [Act.put, lA, lB, lC]
   refine ti 1 (some 9) rfl rfl ?_; try simp only [Act.put, lA, lB, lC]
   refine ti 2 (some 10) rfl rfl ?_; try simp only [Act.put, lA, lB, lC]
   refine ti 3 (some 11) rfl rfl ?_; try simp only [Act.put, lA, lB, lC]
   refine ti 4 (some 12) rfl rfl ?_; try simp only [Act.put, lA, lB, lC]
   refine ti 5 (some 13) rfl rfl ?_; try simp only [Act.put, lA, lB, lC]
   refine tr [6, 10] (.cons rfl (fun K hK => ?_) (.cons rfl (fun K hK => ?_) .nil))
   first | (refine held_look (by rfl) (.tmp 11) (.tmp 13) _ _ (by rfl) (.map (some s.mg)) (.int .i64 tx) (.tuple #[.agg #[.slice (some ⟨d.b, 0, none⟩) dn d.c, .map (some d.g)], .bool true]) (by rfl) (by rfl) (HLP.out _ (HH.out.keep (hg1.trans hHeld.1))) ?_)
   refine hK.out _ _ ?_ (fun hHeld => ?_)
   ·((try dsimp only); (try go_split_ands); (repeat' apply And.intro) <;> repeat first | assumption | exact Gr.refl _ | refine Gr.drew ?_ | refine Gr.alloc ?_ _ | refine alloc_old ?_ | refine Gr.keep (by assumption) ?_ | refine Gr.trans ?_ (by assumption))
   clear hK K; try simp only [Act.put, lA, lB, lC]
   refine ti 7 (some 7) rfl rfl ?_; try simp only [Act.put, lA, lB, lC]
   refine ti 8 (some 15) rfl rfl ?_; try simp only [Act.put, lA, lB, lC]
   refine ti 9 (some 16) rfl rfl ?_; try simp only [Act.put, lA, lB, lC]
   refine tr [10] (.cons rfl (fun K hK => ?_) .nil)
   go_simp
   refine hK.out _ _ ?_ (fun hHeld => ?_)
   ·((try dsimp only); (try go_split_ands); (repeat' apply And.intro) <;> repeat first | assumption | exact Gr.refl _ | refine Gr.drew ?_ | refine Gr.alloc ?_ _ | refine alloc_old ?_ | refine Gr.keep (by assumption) ?_ | refine Gr.trans ?_ (by assumption))
   clear hK K; try simp only [Act.put, lA, lB, lC]
   refine tr [11] (.cons rfl (fun K hK => ?_) .nil)
   go_simp
   refine hK.out _ _ ?_ (fun hHeld => ?_)
   ·((try dsimp only); (try go_split_ands); (repeat' apply And.intro) <;> repeat first | assumption | exact Gr.refl _ | refine Gr.drew ?_ | refine Gr.alloc ?_ _ | refine alloc_old ?_ | refine Gr.keep (by assumption) ?_ | refine Gr.trans ?_ (by assumption))
   clear hK K; try simp only [Act.put, lA, lB, lC]
   refine ti 12 (some 6) rfl rfl ?_; try simp only [Act.put, lA, lB, lC]
   refine wpAnyH_done ?_ ?_ _
   ·kernel_rfl
   rotate_left
   go_simp
   refine hK.out _ _ ?_ (fun hHeld => ?_)
   ·((try dsimp only); (try go_split_ands); (repeat' apply And.intro) <;> repeat first | assumption | exact Gr.refl _ | refine Gr.drew ?_ | refine Gr.alloc ?_ _ | refine alloc_old ?_ | refine Gr.keep (by assumption) ?_ | refine Gr.trans ?_ (by assumption))
   clear hK K; try simp only [Act.put, lA, lB, lC]
   refine tr [6] (.cons rfl (fun K hK => ?_) .nil)
   first | (refine held_look (by rfl) (.tmp 11) (.tmp 13) _ _ (by rfl) (.map (some s.mg)) (.int .i64 tx) (.tuple #[.agg #[.slice (some ⟨d.b, 0, none⟩) dn d.c, .map (some d.g)], .bool true]) (by rfl) (by rfl) (HLP.out _ (HH.out.keep (hg1.trans hHeld.1))) ?_)
   refine hK.out _ _ ?_ (fun hHeld => ?_)
   ·((try dsimp only); (try go_split_ands); (repeat' apply And.intro) <;> repeat first | assumption | exact Gr.refl _ | refine Gr.drew ?_ | refine Gr.alloc ?_ _ | refine alloc_old ?_ | refine Gr.keep (by assumption) ?_ | refine Gr.trans ?_ (by assumption))
   clear hK K; try simp only [Act.put, lA, lB, lC]
   refine ti 7 (some 7) rfl rfl ?_; try simp only [Act.put, lA, lB, lC]
   refine ti 8 (some 15) rfl rfl ?_; try simp only [Act.put, lA, lB, lC]
   refine ti 9 (some 16) rfl rfl ?_; try simp only [Act.put, lA, lB, lC]
   refine tr [11] (.cons rfl (fun K hK => ?_) .nil)
   go_simp
   refine hK.out _ _ ?_ (fun hHeld => ?_)
   ·((try dsimp only); (try go_split_ands); (repeat' apply And.intro) <;> repeat first | assumption | exact Gr.refl _ | refine Gr.drew ?_ | refine Gr.alloc ?_ _ | refine alloc_old ?_ | refine Gr.keep (by assumption) ?_ | refine Gr.trans ?_ (by assumption))
   clear hK K; try simp only [Act.put, lA, lB, lC]
   refine ti 12 (some 6) rfl rfl ?_; try simp only [Act.put, lA, lB, lC]
   refine wpAnyH_done ?_ ?_ _
   ·kernel_rfl
   rotate_left
   all_goals
    have hg2 : Gr w1 (w1.alloc (.cells #[.slice (some ⟨d.b, 0, none⟩) dn d.c, .map (some d.g)] 90)).drew := ((Gr.refl w1).alloc _).drew
    have hP : Blk (w1.alloc (.cells #[.slice (some ⟨d.b, 0, none⟩) dn d.c, .map (some d.g)] 90)).drew w1.heap.size 90 #[.slice (some ⟨d.b, 0, none⟩) dn d.c, .map (some d.g)] := Blk.keep (w := w1.alloc _) (heap_alloc_new w1 _) (Gr.refl _).drew
    generalize World.drew _ = w2 at hg2 hP ⊢
    have hZD : w1.heap.size ≠ d.g := by have h1 := HDG.out; have h2 := hg1.size; omega
    generalize w1.heap.size = Z at hP hZD ⊢
    have hgr2 := hg1.trans hg2
    have HI2 := Lib.hid (HH.out.keep hgr2)
    have HB2 := Lib.hid (HB.out.keep hg2)
    have HZ := Lib.hid hP
    have HZD := Lib.hid hZD
    have HMM : Hid (Mp Tryz.prog 3 intK boolV w2 d.g d.miss) := Lib.hid (HI2.out.at (D := .bools d.miss) (by unfold siteIt; rw [HMG.out.2.1]; simp [dlIt]))
    clear hHeld b3 c7 hP hg1 hg2 HB hZD
    have z1 : w2.cell? ⟨Z, 1, none⟩ = some (.map (some d.g)) := HZ.out.cell 1
    have b0 : w2.cell? ⟨U, 0, none⟩ = some (.int .i64 f) := HB2.out.cell 0
    have HZL := Lib.hid HZ.out.lt
    by_cases hz : mdel d.miss f = []
    ·have hqb : (((mdel d.miss f).length : Int) == 0) = true := by rw [hz]; rfl
     have HQ := Lib.hid hz
     clear hz
     go_wp2_with (first | (refine step_drop rfl _ _ _ rfl HMM.out intK_inj intp_law _ Tryz.underlying81 f kf hkf rfl rfl ?_; intro w5 hm5 hb5; have z2 := gb_cell5 hb5 z1 HZL.out HZD.out; have HM5 := Lib.hid hm5; have HB5 := Lib.hid hb5; clear hm5 hb5) | (refine step_len rfl _ _ rfl HM5.out _ Tryz.underlying81 rfl ?_) | fail)
     have HI5 := Lib.hid (siteMissG HI2.out HMG.out.2.1 HB5.out HM5.out)
     have HK5 : Hid (Blk w5 U 59 #[.int .i64 f, .int .i64 t, .int .i64 kd, .int .i64 tx, .int .i64 n]) := Lib.hid (HB2.out.grown HB5.out (fun e => by injection e with e; have h1 := HDG.out; have h2 := HU.out; omega))
     have HC5 : Hid (Ch (blks (siteIt s)) w w5) := Lib.hid ((Ch.of hgr2).trans (Ch.gb (S := blks (siteIt s)) HB5.out (grt_blk HMG.out.2.1).2) (fun g hg => Or.inl hg))
     have HI6 := Lib.hid ((HI5.out.keep (Gr.refl w5).drew))
     have hmm := HI6.out.sGrt
     have c7 : w5.cell? ⟨s.p, 7, none⟩ = some (.map (some s.mg)) := HI5.out.sCells.2.2.2.2.2.2.2
     have b3 : w5.cell? ⟨U, 3, none⟩ = some (.int .i64 tx) := HK5.out.cell 3
     have HMM := Lib.hid hmm
     have HLS : Hid ((s.p < w5.drew.heap.size ∧ s.p ≠ s.mg) ∧ (U < w5.drew.heap.size ∧ U ≠ s.mg)) := Lib.hid (by have h1 := HLT.out; have h2 := HU.out; have h3 := HC5.out.size; have h4 := HK5.out.lt; exact ⟨⟨by show s.p < w5.heap.size; omega, h1.2.1⟩, h4, by omega⟩)
     clear hmm z1 z2 b0
     refine wp_region_held_drew (S := (fun W' => W'.cell? ⟨s.p, 7, none⟩ = some (.map (some s.mg)) ∧ W'.cell? ⟨U, 3, none⟩ = some (.int .i64 tx))) ?_ ?_ (fun hHeld => ?_)
     ·kernel_rfl
     ·((try dsimp only); (try go_split_ands); (repeat' apply And.intro) <;> repeat first | assumption | exact Gr.refl _ | refine Gr.drew ?_ | refine Gr.alloc ?_ _ | refine alloc_old ?_ | refine Gr.keep (by assumption) ?_ | refine Gr.trans ?_ (by assumption))
     refine ti 0 (some 26) rfl rfl ?_; try simp only [Act.put, lA, lB, lC]
     refine ti 1 (some 27) rfl rfl ?_; try simp only [Act.put, lA, lB, lC]
     refine ti 2 (some 28) rfl rfl ?_; try simp only [Act.put, lA, lB, lC]
     refine ti 3 (some 29) rfl rfl ?_; try simp only [Act.put, lA, lB, lC]
     refine ti 4 (some 30) rfl rfl ?_; try simp only [Act.put, lA, lB, lC]
     refine ti 5 (some 31) rfl rfl ?_; try simp only [Act.put, lA, lB, lC]
     refine tr [6] (.cons rfl (fun K hK => ?_) .nil)
     first | (refine held_drop (by rfl) (.tmp 29) (.tmp 31) _ (by rfl) HMM.out intK_inj intp_law _ Tryz.underlying82 tx kl hkl (by rfl) (by rfl) (by rfl) ?_; intro w6 hm6 hb6; have y0 := gb_cell5 hb6 hHeld.1 HLS.out.1.1 HLS.out.1.2; have y1 := gb_cell5 hb6 hHeld.2 HLS.out.2.1 HLS.out.2.2; have HM6 := Lib.hid hm6; have HB6 := Lib.hid hb6; clear hm6 hb6)
     refine hK.out _ _ ?_ (fun hHeld => ?_)
     ·((try dsimp only); (try go_split_ands); (repeat' apply And.intro) <;> repeat first | assumption | exact Gr.refl _ | refine Gr.drew ?_ | refine Gr.alloc ?_ _ | refine alloc_old ?_ | refine Gr.keep (by assumption) ?_ | refine Gr.trans ?_ (by assumption))
     clear hK K; try simp only [Act.put, lA, lB, lC]
     refine wpAnyH_done ?_ ?_ _
     ·kernel_rfl
     rotate_left
     all_goals
      have HM7 : Hid (Mp Tryz.prog 3 intK dlV w6 s.mg (l1 ++ l2)) := Lib.hid (by have h1 := HM6.out; rw [mdel_swap HMG.out.2.2] at h1; exact h1)
      have HI7 := Lib.hid (siteUngrant HI6.out rfl HB6.out HM7.out)
      have HC7 : Hid (Ch (blks (siteIt s)) w w6) := Lib.hid ((HC5.out.gr (Gr.refl w5).drew).trans (Ch.gb (S := blks (siteIt s)) HB6.out (blk_mg s)) (fun g hg => Or.inl hg))
      clear hHeld y0 y1 c7 b3
      go_wp2_with fail
      go_ret
      exact Or.inr ⟨d, l1, l2, HMG.out.1, HMG.out.2.1, Or.inl ⟨HQ.out, StepP.of HI7.out HC7.out rfl (fun g hg => Or.inl (grt_less HMG.out.2.1 g hg)) (LetP_nil _)⟩⟩
    ·have hqb : (((mdel d.miss f).length : Int) == 0) = false := by
      cases hq : mdel d.miss f with
      | nil => exact absurd hq hz
      | cons x r => simp; omega
     have HQ := Lib.hid hz
     clear hz
     go_wp2_with (first | (refine step_drop rfl _ _ _ rfl HMM.out intK_inj intp_law _ Tryz.underlying81 f kf hkf rfl rfl ?_; intro w5 hm5 hb5; have z2 := gb_cell5 hb5 z1 HZL.out HZD.out; have HM5 := Lib.hid hm5; have HB5 := Lib.hid hb5; clear hm5 hb5) | (refine step_len rfl _ _ rfl HM5.out _ Tryz.underlying81 rfl ?_) | fail)
     have HI5 := Lib.hid (siteMissG HI2.out HMG.out.2.1 HB5.out HM5.out)
     have HK5 : Hid (Blk w5 U 59 #[.int .i64 f, .int .i64 t, .int .i64 kd, .int .i64 tx, .int .i64 n]) := Lib.hid (HB2.out.grown HB5.out (fun e => by injection e with e; have h1 := HDG.out; have h2 := HU.out; omega))
     have HC5 : Hid (Ch (blks (siteIt s)) w w5) := Lib.hid ((Ch.of hgr2).trans (Ch.gb (S := blks (siteIt s)) HB5.out (grt_blk HMG.out.2.1).2) (fun g hg => Or.inl hg))
     go_wp2_with fail
     go_ret
     exact Or.inr ⟨d, l1, l2, HMG.out.1, HMG.out.2.1, Or.inr ⟨HQ.out, StepP.of HI5.out HC5.out rfl (siteBlk_same (grt_same HMG.out.2.1)) (LetP_nil _)⟩⟩

end Go.Proofs.YtnoeiocbmhkmeaaGreat
