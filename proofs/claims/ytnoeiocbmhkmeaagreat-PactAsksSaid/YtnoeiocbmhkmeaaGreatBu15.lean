/- Layer 5: a site is told to drop. -/
import Derived.Test.YtnoeiocbmhkmeaaGreatBu11
namespace Go.Proofs.YtnoeiocbmhkmeaaGreat
open Go.RowKit
set_option linter.unusedSimpArgs false
set_option maxRecDepth 100000
set_option maxHeartbeats 80000000

theorem abort_any {B : Nat} {s : Sx} (m : Ml) (w : World) (h : Its B w (siteIt s)) (htx : I64 m.2.2.2.1) :
 Calls Tryz.prog 86 #[.pointer (some ⟨s.p, 0, none⟩), .agg #[.int .i64 m.1, .int .i64 m.2.1, .int .i64 m.2.2.1, .int .i64 m.2.2.2.1, .int .i64 m.2.2.2.2]] w (StepP B w s (aboS s m.2.2.2.1) []) := by
 obtain ⟨f, t, kd, tx, n⟩ := m
 dsimp only at htx ⊢
 obtain ⟨kl, hkl⟩ := intp_key htx
 have HAS : Hid (aboS s tx = if (mget s.prom tx).isSome then { s with prom := mdel s.prom tx, drop := mput s.drop tx true } else s) := Lib.hid rfl
 generalize aboS s tx = s1 at HAS ⊢
 have HLP := Lib.hid (fun W (hI : Its B W (siteIt s)) => look_prom hI.sProm htx)
 generalize (mget s.prom tx).isSome = b at HAS HLP
 generalize (mget s.prom tx).getD (0, 0) = pr at HLP
 obtain ⟨p1, p2⟩ := pr
 unfold promV at HLP
 dsimp only at HAS HLP
 have HH := Lib.hid h
 have c3 := h.sCells.2.2.2.1
 have hlt : s.p < w.heap.size := (h.lt (g := s.p) (by simp [siteIt, blks])).1
 have hne1 : s.p ≠ s.mp := h.ne (i := 0) (j := 1) (by omega) rfl rfl
 have hne2 : s.p ≠ s.mr := h.ne (i := 0) (j := 3) (by omega) rfl rfl
 have hmp : s.mp < w.heap.size := h.sProm.lt
 have hmq : s.mr < w.heap.size := h.sDrop.lt
 have HLT := Lib.hid (And.intro hlt (And.intro hne1 (And.intro hne2 (And.intro hmp hmq))))
 clear htx h hlt hne1 hne2 hmp hmq
 go_enter Tryz.func86, Tryz.ntmps86
 go_upto_region 1 with fail
 generalize hW1 : World.alloc w _ = w1
 have hg1 : Gr w w1 := by rw [← hW1]; exact (Gr.refl w).alloc _
 have hbk : Blk w1 w.heap.size 59 #[.int .i64 f, .int .i64 t, .int .i64 kd, .int .i64 tx, .int .i64 n] := by rw [← hW1]; exact Blk.new w _ _ rfl
 obtain ⟨U, hU⟩ : ∃ U, w.heap.size = U := ⟨_, rfl⟩
 rw [hU] at hbk ⊢
 have HU := Lib.hid hU
 have HB := Lib.hid hbk
 clear hW1 hbk hU
 have b3 : w1.cell? ⟨U, 3, none⟩ = some (.int .i64 tx) := HB.out.cell 3
 replace c3 := hg1.keep c3
 refine wp_region_held_drew (S := (fun W' => Gr w1 W' ∧ W'.cell? ⟨s.p, 3, none⟩ = some (.map (some s.mp)) ∧ W'.cell? ⟨U, 3, none⟩ = some (.int .i64 tx))) ?_ ?_ (fun hHeld => ?_)
 ·kernel_rfl
 ·((try dsimp only); (try go_split_ands); (repeat' apply And.intro) <;> repeat first | assumption | exact Gr.refl _ | refine Gr.drew ?_ | refine Gr.alloc ?_ _ | refine alloc_old ?_ | refine Gr.keep (by assumption) ?_ | refine Gr.trans ?_ (by assumption))
 refine ti 0 (some 8) rfl rfl ?_; try simp only [Act.put, lA, lB, lC]
 refine ti 1 (some 9) rfl rfl ?_; try simp only [Act.put, lA, lB, lC]
 refine ti 2 (some 10) rfl rfl ?_; try simp only [Act.put, lA, lB, lC]
 refine ti 3 (some 11) rfl rfl ?_; try simp only [Act.put, lA, lB, lC]
 refine ti 4 (some 12) rfl rfl ?_; try simp only [Act.put, lA, lB, lC]
 refine ti 5 (some 13) rfl rfl ?_; try simp only [Act.put, lA, lB, lC]
 refine tr [6, 10] (.cons rfl (fun K hK => ?_) (.cons rfl (fun K hK => ?_) .nil))
 first | (refine held_look (by rfl) (.tmp 11) (.tmp 13) _ _ (by rfl) (.map (some s.mp)) (.int .i64 tx) (.tuple #[.agg #[.int .i64 p1, .int .i64 p2], .bool b]) (by rfl) (by rfl) (HLP.out _ (HH.out.keep (hg1.trans hHeld.1))) ?_)
 refine hK.out _ _ ?_ (fun hHeld => ?_)
 ·((try dsimp only); (try go_split_ands); (repeat' apply And.intro) <;> repeat first | assumption | exact Gr.refl _ | refine Gr.drew ?_ | refine Gr.alloc ?_ _ | refine alloc_old ?_ | refine Gr.keep (by assumption) ?_ | refine Gr.trans ?_ (by assumption))
 clear hK K; try simp only [Act.put, lA, lB, lC]
 refine ti 7 (some 7) rfl rfl ?_; try simp only [Act.put, lA, lB, lC]
 refine ti 8 (some 15) rfl rfl ?_; try simp only [Act.put, lA, lB, lC]
 refine ti 9 (some 16) rfl rfl ?_; try simp only [Act.put, lA, lB, lC]
 refine tr [10] (.cons rfl (fun K hK => ?_) .nil)
 go_simp
 refine hK.out _ _ ?_ (fun hHeld => ?_)
 ·((try dsimp only); (try go_split_ands); (repeat' apply And.intro) <;> repeat first | assumption | exact Gr.refl _ | refine Gr.drew ?_ | refine Gr.alloc ?_ _ | refine alloc_old ?_ | refine Gr.keep (by assumption) ?_ | refine Gr.trans ?_ (by assumption))
 clear hK K; try simp only [Act.put, lA, lB, lC]
 refine tr [11] (.cons rfl (fun K hK => ?_) .nil)
 go_simp
 refine hK.out _ _ ?_ (fun hHeld => ?_)
 ·((try dsimp only); (try go_split_ands); (repeat' apply And.intro) <;> repeat first | assumption | exact Gr.refl _ | refine Gr.drew ?_ | refine Gr.alloc ?_ _ | refine alloc_old ?_ | refine Gr.keep (by assumption) ?_ | refine Gr.trans ?_ (by assumption))
 clear hK K; try simp only [Act.put, lA, lB, lC]
 refine ti 12 (some 6) rfl rfl ?_; try simp only [Act.put, lA, lB, lC]
 refine wpAnyH_done ?_ ?_ _
 ·kernel_rfl
 rotate_left
 go_simp
 refine hK.out _ _ ?_ (fun hHeld => ?_)
 ·((try dsimp only); (try go_split_ands); (repeat' apply And.intro) <;> repeat first | assumption | exact Gr.refl _ | refine Gr.drew ?_ | refine Gr.alloc ?_ _ | refine alloc_old ?_ | refine Gr.keep (by assumption) ?_ | refine Gr.trans ?_ (by assumption))
 clear hK K; try simp only [Act.put, lA, lB, lC]
 refine tr [6] (.cons rfl (fun K hK => ?_) .nil)
 first | (refine held_look (by rfl) (.tmp 11) (.tmp 13) _ _ (by rfl) (.map (some s.mp)) (.int .i64 tx) (.tuple #[.agg #[.int .i64 p1, .int .i64 p2], .bool b]) (by rfl) (by rfl) (HLP.out _ (HH.out.keep (hg1.trans hHeld.1))) ?_)
 refine hK.out _ _ ?_ (fun hHeld => ?_)
 ·((try dsimp only); (try go_split_ands); (repeat' apply And.intro) <;> repeat first | assumption | exact Gr.refl _ | refine Gr.drew ?_ | refine Gr.alloc ?_ _ | refine alloc_old ?_ | refine Gr.keep (by assumption) ?_ | refine Gr.trans ?_ (by assumption))
 clear hK K; try simp only [Act.put, lA, lB, lC]
 refine ti 7 (some 7) rfl rfl ?_; try simp only [Act.put, lA, lB, lC]
 refine ti 8 (some 15) rfl rfl ?_; try simp only [Act.put, lA, lB, lC]
 refine ti 9 (some 16) rfl rfl ?_; try simp only [Act.put, lA, lB, lC]
 refine tr [11] (.cons rfl (fun K hK => ?_) .nil)
 go_simp
 refine hK.out _ _ ?_ (fun hHeld => ?_)
 ·((try dsimp only); (try go_split_ands); (repeat' apply And.intro) <;> repeat first | assumption | exact Gr.refl _ | refine Gr.drew ?_ | refine Gr.alloc ?_ _ | refine alloc_old ?_ | refine Gr.keep (by assumption) ?_ | refine Gr.trans ?_ (by assumption))
 clear hK K; try simp only [Act.put, lA, lB, lC]
 refine ti 12 (some 6) rfl rfl ?_; try simp only [Act.put, lA, lB, lC]
 refine wpAnyH_done ?_ ?_ _
 ·kernel_rfl
 rotate_left
 all_goals
  have hg2 : Gr w1 (w1.alloc (.cells #[.int .i64 p1, .int .i64 p2] 112)).drew := ((Gr.refl w1).alloc _).drew
  generalize World.drew _ = w2 at hg2 ⊢
  generalize w1.heap.size = Z
  have hgr2 := hg1.trans hg2
  have HI2 := Lib.hid (HH.out.keep hgr2)
  have HB2 := Lib.hid (HB.out.keep hg2)
  have HC2 : Hid (Ch (blks (siteIt s)) w w2) := Lib.hid (Ch.of hgr2)
  clear hHeld b3 c3 hg1 hg2 HB
  cases b with
  | false =>
    have HS1 : Hid (s1 = s) := Lib.hid (by rw [HAS.out]; rfl)
    go_wp2_with fail
    go_ret
    rw [HS1.out]
    exact StepP.of HI2.out HC2.out rfl (fun g hg => Or.inl hg) (LetP_nil _)
  | true =>
    have HS1 : Hid (s1 = { s with prom := mdel s.prom tx, drop := mput s.drop tx true }) := Lib.hid (by rw [HAS.out]; rfl)
    have c3 : w2.cell? ⟨s.p, 3, none⟩ = some (.map (some s.mp)) := HI2.out.sCells.2.2.2.1
    have e3 : w2.cell? ⟨U, 3, none⟩ = some (.int .i64 tx) := HB2.out.cell 3
    have HMM := Lib.hid ((HI2.out.keep (Gr.refl w2).drew).sProm)
    have HLS : Hid ((s.p < w2.drew.heap.size ∧ s.p ≠ s.mp) ∧ (U < w2.drew.heap.size ∧ U ≠ s.mp)) := Lib.hid (by have h1 := HLT.out; have h2 := HU.out; have h3 := HC2.out.size; have h4 := HB2.out.lt; exact ⟨⟨by show s.p < w2.heap.size; omega, h1.2.1⟩, h4, by omega⟩)
    go_upto_region 3 with fail
    refine wp_region_held_drew (S := (fun W' => W'.cell? ⟨s.p, 3, none⟩ = some (.map (some s.mp)) ∧ W'.cell? ⟨U, 3, none⟩ = some (.int .i64 tx))) ?_ ?_ (fun hHeld => ?_)
    ·kernel_rfl
    ·((try dsimp only); (try go_split_ands); (repeat' apply And.intro) <;> repeat first | assumption | exact Gr.refl _ | refine Gr.drew ?_ | refine Gr.alloc ?_ _ | refine alloc_old ?_ | refine Gr.keep (by assumption) ?_ | refine Gr.trans ?_ (by assumption))
    refine ti 0 (some 18) rfl rfl ?_; try simp only [Act.put, lA, lB, lC]
    refine ti 1 (some 19) rfl rfl ?_; try simp only [Act.put, lA, lB, lC]
    refine ti 2 (some 20) rfl rfl ?_; try simp only [Act.put, lA, lB, lC]
    refine ti 3 (some 21) rfl rfl ?_; try simp only [Act.put, lA, lB, lC]
    refine ti 4 (some 22) rfl rfl ?_; try simp only [Act.put, lA, lB, lC]
    refine ti 5 (some 23) rfl rfl ?_; try simp only [Act.put, lA, lB, lC]
    refine tr [6] (.cons rfl (fun K hK => ?_) .nil)
    first | (refine held_drop (by rfl) (.tmp 21) (.tmp 23) _ (by rfl) HMM.out intK_inj intp_law _ Tryz.underlying80 tx kl hkl (by rfl) (by rfl) (by rfl) ?_; intro w5 hm5 hb5; have y0 := gb_cell5 hb5 hHeld.1 HLS.out.1.1 HLS.out.1.2; have y1 := gb_cell5 hb5 hHeld.2 HLS.out.2.1 HLS.out.2.2; have HM5 := Lib.hid hm5; have HB5 := Lib.hid hb5; clear hm5 hb5)
    refine hK.out _ _ ?_ (fun hHeld => ?_)
    ·((try dsimp only); (try go_split_ands); (repeat' apply And.intro) <;> repeat first | assumption | exact Gr.refl _ | refine Gr.drew ?_ | refine Gr.alloc ?_ _ | refine alloc_old ?_ | refine Gr.keep (by assumption) ?_ | refine Gr.trans ?_ (by assumption))
    clear hK K; try simp only [Act.put, lA, lB, lC]
    refine wpAnyH_done ?_ ?_ _
    ·kernel_rfl
    rotate_left
    all_goals
     have HI5 := Lib.hid (siteProm (HI2.out.keep (Gr.refl w2).drew) HB5.out HM5.out)
     have HC5 : Hid (Ch (blks (siteIt s)) w w5) := Lib.hid ((HC2.out.gr (Gr.refl w2).drew).trans (Ch.gb (S := blks (siteIt s)) HB5.out (by simp [siteIt, blks])) (fun g hg => Or.inl hg))
     have HK5 : Hid (Blk w5 U 59 #[.int .i64 f, .int .i64 t, .int .i64 kd, .int .i64 tx, .int .i64 n]) := Lib.hid ((HB2.out.keep (Gr.refl w2).drew).grown HB5.out (fun e => HLS.out.2.2 (by injection e)))
     clear hHeld y0 y1 c3 e3 HMM HM5 HB5 HI2 HC2 HB2 HLS
     have c5 : w5.cell? ⟨s.p, 5, none⟩ = some (.map (some s.mr)) := HI5.out.sCells.2.2.2.2.2.1
     have e3 : w5.cell? ⟨U, 3, none⟩ = some (.int .i64 tx) := HK5.out.cell 3
     have HMM := Lib.hid ((HI5.out.keep (Gr.refl w5).drew).sDrop)
     have HLS : Hid ((s.p < w5.drew.heap.size ∧ s.p ≠ s.mr) ∧ (U < w5.drew.heap.size ∧ U ≠ s.mr)) := Lib.hid (by have h1 := HLT.out; have h2 := HU.out; have h3 := HC5.out.size; have h4 := HK5.out.lt; exact ⟨⟨by show s.p < w5.heap.size; omega, h1.2.2.1⟩, h4, by omega⟩)
     go_upto_region 4 with fail
     refine wp_region_held_drew (S := (fun W' => W'.cell? ⟨s.p, 5, none⟩ = some (.map (some s.mr)) ∧ W'.cell? ⟨U, 3, none⟩ = some (.int .i64 tx))) ?_ ?_ (fun hHeld => ?_)
     ·kernel_rfl
     ·((try dsimp only); (try go_split_ands); (repeat' apply And.intro) <;> repeat first | assumption | exact Gr.refl _ | refine Gr.drew ?_ | refine Gr.alloc ?_ _ | refine alloc_old ?_ | refine Gr.keep (by assumption) ?_ | refine Gr.trans ?_ (by assumption))
     refine ti 0 (some 24) rfl rfl ?_; try simp only [Act.put, lA, lB, lC]
     refine ti 1 (some 25) rfl rfl ?_; try simp only [Act.put, lA, lB, lC]
     refine ti 2 (some 26) rfl rfl ?_; try simp only [Act.put, lA, lB, lC]
     refine ti 3 (some 27) rfl rfl ?_; try simp only [Act.put, lA, lB, lC]
     refine ti 4 (some 28) rfl rfl ?_; try simp only [Act.put, lA, lB, lC]
     refine ti 5 (some 29) rfl rfl ?_; try simp only [Act.put, lA, lB, lC]
     refine tr [6] (.cons rfl (fun K hK => ?_) .nil)
     first | (refine held_update (by rfl) (.tmp 27) (.tmp 29) (.const (.bool true)) _ (by rfl) HMM.out intK_inj intp_law _ Tryz.underlying81 tx true kl hkl (by rfl) (by rfl) (by rfl) (by rfl) ?_; intro w6 hm6 hb6; have y0 := gb_cell5 hb6 hHeld.1 HLS.out.1.1 HLS.out.1.2; have y1 := gb_cell5 hb6 hHeld.2 HLS.out.2.1 HLS.out.2.2; have HM6 := Lib.hid hm6; have HB6 := Lib.hid hb6; clear hm6 hb6)
     refine hK.out _ _ ?_ (fun hHeld => ?_)
     ·((try dsimp only); (try go_split_ands); (repeat' apply And.intro) <;> repeat first | assumption | exact Gr.refl _ | refine Gr.drew ?_ | refine Gr.alloc ?_ _ | refine alloc_old ?_ | refine Gr.keep (by assumption) ?_ | refine Gr.trans ?_ (by assumption))
     clear hK K; try simp only [Act.put, lA, lB, lC]
     refine wpAnyH_done ?_ ?_ _
     ·kernel_rfl
     rotate_left
     all_goals
      have HI6 := Lib.hid (siteDrop (HI5.out.keep (Gr.refl w5).drew) HB6.out HM6.out)
      have HC6 : Hid (Ch (blks (siteIt s)) w w6) := Lib.hid ((HC5.out.gr (Gr.refl w5).drew).trans (Ch.gb (S := blks (siteIt s)) HB6.out (by simp [siteIt, blks])) (fun g hg => Or.inl hg))
      clear hHeld y0 y1 c5 e3 HMM HM6 HB6 HI5 HC5 HK5 HLS
      go_wp2_with fail
      go_ret
      rw [HS1.out]
      exact StepP.of HI6.out HC6.out rfl (fun g hg => Or.inl hg) (LetP_nil _)

set_option maxRecDepth 100000
set_option maxHeartbeats 80000000

def lookD (o : Option Dl) : Value × Value := match o with
 | some d => (.slice (some ⟨d.b, 0, none⟩) d.parts.length d.c, .map (some d.g))
 | none => (.slice none 0 0, .map none)
theorem lookD_shape (o : Option Dl) : ∃ A n c g, lookD o = (.slice A n c, .map g) := by cases o <;> exact ⟨_, _, _, _, rfl⟩
theorem look_deal2 {w : World} {g : Nat} {l : List (Int × Dl)} {tx : Int} (h : Mp Tryz.prog 3 intK dlV w g l) (htx : I64 tx) : (Instr.lookup 82 (.map (some g)) (.int .i64 tx) true).run Tryz.prog w = .ok (.tuple #[.agg #[(lookD (mget l tx)).1, (lookD (mget l tx)).2], .bool (mget l tx).isSome]) w := by
 rw [look_deal h htx]
 cases mget l tx <;> rfl
theorem tell_any {B : Nat} {s : Sx} (m : Ml) (w : World) (h : Its B w (siteIt s)) (htx : I64 m.2.2.2.1) :
 Calls Tryz.prog 88 #[.pointer (some ⟨s.p, 0, none⟩), .agg #[.int .i64 m.1, .int .i64 m.2.1, .int .i64 m.2.2.1, .int .i64 m.2.2.2.1, .int .i64 m.2.2.2.2]] w (StepP B w s s (telL s m)) := by
 obtain ⟨f, t, kd, tx, n⟩ := m
 dsimp only at htx ⊢
 obtain ⟨kl, hkl⟩ := intp_key htx
 have HAL : Hid (telL s (f, t, kd, tx, n) = if (mget s.grt tx).isSome then [repL s (f, t, kd, tx, n) 4] else if (mget s.opn tx).isSome then [] else [repL s (f, t, kd, tx, n) 5]) := Lib.hid rfl
 generalize telL s (f, t, kd, tx, n) = l1 at HAL ⊢
 have HR := Lib.hid (fun (k : Int) W (hI : Its B W (siteIt s)) => reply_any (s := s) (f, t, kd, tx, n) k W hI)
 have HLG := Lib.hid (fun W (hI : Its B W (siteIt s)) => look_deal2 hI.sGrt htx)
 have HLO := Lib.hid (fun W (hI : Its B W (siteIt s)) => look_deal2 hI.sOpn htx)
 generalize (mget s.grt tx).isSome = b1 at HAL HLG
 generalize (mget s.opn tx).isSome = b2 at HAL HLO
 obtain ⟨A1, n1, e1, g1, hd1⟩ := lookD_shape (mget s.grt tx)
 obtain ⟨A2, n2, e2, g2, hd2⟩ := lookD_shape (mget s.opn tx)
 rw [hd1] at HLG
 rw [hd2] at HLO
 clear hd1 hd2
 dsimp only at HLG HLO
 have HH := Lib.hid h
 have c7 := h.sCells.2.2.2.2.2.2.2
 clear htx h
 go_enter Tryz.func88, Tryz.ntmps88
 go_upto_region 1 with fail
 generalize hW1 : World.alloc w _ = w1
 have hg1 : Gr w w1 := by rw [← hW1]; exact (Gr.refl w).alloc _
 have hbk : Blk w1 w.heap.size 59 #[.int .i64 f, .int .i64 t, .int .i64 kd, .int .i64 tx, .int .i64 n] := by rw [← hW1]; exact Blk.new w _ _ rfl
 generalize w.heap.size = U at hbk ⊢
 have HB := Lib.hid hbk
 clear hW1 hbk
 have b3 : w1.cell? ⟨U, 3, none⟩ = some (.int .i64 tx) := HB.out.cell 3
 replace c7 := hg1.keep c7
 refine wp_region_held_drew (S := (fun W' => Gr w1 W' ∧ W'.cell? ⟨s.p, 7, none⟩ = some (.map (some s.mg)) ∧ W'.cell? ⟨U, 3, none⟩ = some (.int .i64 tx))) ?_ ?_ (fun hHeld => ?_)
 ·kernel_rfl
 ·((try dsimp only); (try go_split_ands); (repeat' apply And.intro) <;> repeat first | assumption | exact Gr.refl _ | refine Gr.drew ?_ | refine Gr.alloc ?_ _ | refine alloc_old ?_ | refine Gr.keep (by assumption) ?_ | refine Gr.trans ?_ (by assumption))
 refine ti 0 (some 10) rfl rfl ?_; try simp only [Act.put, lA, lB, lC]
 refine ti 1 (some 11) rfl rfl ?_; try simp only [Act.put, lA, lB, lC]
 refine ti 2 (some 12) rfl rfl ?_; try simp only [Act.put, lA, lB, lC]
 refine ti 3 (some 13) rfl rfl ?_; try simp only [Act.put, lA, lB, lC]
 refine ti 4 (some 14) rfl rfl ?_; try simp only [Act.put, lA, lB, lC]
 refine ti 5 (some 15) rfl rfl ?_; try simp only [Act.put, lA, lB, lC]
 refine tr [6, 10] (.cons rfl (fun K hK => ?_) (.cons rfl (fun K hK => ?_) .nil))
 first | (refine held_look (by rfl) (.tmp 13) (.tmp 15) _ _ (by rfl) (.map (some s.mg)) (.int .i64 tx) (.tuple #[.agg #[.slice A1 n1 e1, .map g1], .bool b1]) (by rfl) (by rfl) (HLG.out _ (HH.out.keep (hg1.trans hHeld.1))) ?_)
 refine hK.out _ _ ?_ (fun hHeld => ?_)
 ·((try dsimp only); (try go_split_ands); (repeat' apply And.intro) <;> repeat first | assumption | exact Gr.refl _ | refine Gr.drew ?_ | refine Gr.alloc ?_ _ | refine alloc_old ?_ | refine Gr.keep (by assumption) ?_ | refine Gr.trans ?_ (by assumption))
 clear hK K; try simp only [Act.put, lA, lB, lC]
 refine ti 7 (some 9) rfl rfl ?_; try simp only [Act.put, lA, lB, lC]
 refine ti 8 (some 17) rfl rfl ?_; try simp only [Act.put, lA, lB, lC]
 refine ti 9 (some 18) rfl rfl ?_; try simp only [Act.put, lA, lB, lC]
 refine tr [10] (.cons rfl (fun K hK => ?_) .nil)
 go_simp
 refine hK.out _ _ ?_ (fun hHeld => ?_)
 ·((try dsimp only); (try go_split_ands); (repeat' apply And.intro) <;> repeat first | assumption | exact Gr.refl _ | refine Gr.drew ?_ | refine Gr.alloc ?_ _ | refine alloc_old ?_ | refine Gr.keep (by assumption) ?_ | refine Gr.trans ?_ (by assumption))
 clear hK K; try simp only [Act.put, lA, lB, lC]
 refine tr [11] (.cons rfl (fun K hK => ?_) .nil)
 go_simp
 refine hK.out _ _ ?_ (fun hHeld => ?_)
 ·((try dsimp only); (try go_split_ands); (repeat' apply And.intro) <;> repeat first | assumption | exact Gr.refl _ | refine Gr.drew ?_ | refine Gr.alloc ?_ _ | refine alloc_old ?_ | refine Gr.keep (by assumption) ?_ | refine Gr.trans ?_ (by assumption))
 clear hK K; try simp only [Act.put, lA, lB, lC]
 refine ti 12 (some 6) rfl rfl ?_; try simp only [Act.put, lA, lB, lC]
 refine wpAnyH_done ?_ ?_ _
 ·kernel_rfl
 rotate_left
 go_simp
 refine hK.out _ _ ?_ (fun hHeld => ?_)
 ·((try dsimp only); (try go_split_ands); (repeat' apply And.intro) <;> repeat first | assumption | exact Gr.refl _ | refine Gr.drew ?_ | refine Gr.alloc ?_ _ | refine alloc_old ?_ | refine Gr.keep (by assumption) ?_ | refine Gr.trans ?_ (by assumption))
 clear hK K; try simp only [Act.put, lA, lB, lC]
 refine tr [6] (.cons rfl (fun K hK => ?_) .nil)
 first | (refine held_look (by rfl) (.tmp 13) (.tmp 15) _ _ (by rfl) (.map (some s.mg)) (.int .i64 tx) (.tuple #[.agg #[.slice A1 n1 e1, .map g1], .bool b1]) (by rfl) (by rfl) (HLG.out _ (HH.out.keep (hg1.trans hHeld.1))) ?_)
 refine hK.out _ _ ?_ (fun hHeld => ?_)
 ·((try dsimp only); (try go_split_ands); (repeat' apply And.intro) <;> repeat first | assumption | exact Gr.refl _ | refine Gr.drew ?_ | refine Gr.alloc ?_ _ | refine alloc_old ?_ | refine Gr.keep (by assumption) ?_ | refine Gr.trans ?_ (by assumption))
 clear hK K; try simp only [Act.put, lA, lB, lC]
 refine ti 7 (some 9) rfl rfl ?_; try simp only [Act.put, lA, lB, lC]
 refine ti 8 (some 17) rfl rfl ?_; try simp only [Act.put, lA, lB, lC]
 refine ti 9 (some 18) rfl rfl ?_; try simp only [Act.put, lA, lB, lC]
 refine tr [11] (.cons rfl (fun K hK => ?_) .nil)
 go_simp
 refine hK.out _ _ ?_ (fun hHeld => ?_)
 ·((try dsimp only); (try go_split_ands); (repeat' apply And.intro) <;> repeat first | assumption | exact Gr.refl _ | refine Gr.drew ?_ | refine Gr.alloc ?_ _ | refine alloc_old ?_ | refine Gr.keep (by assumption) ?_ | refine Gr.trans ?_ (by assumption))
 clear hK K; try simp only [Act.put, lA, lB, lC]
 refine ti 12 (some 6) rfl rfl ?_; try simp only [Act.put, lA, lB, lC]
 refine wpAnyH_done ?_ ?_ _
 ·kernel_rfl
 rotate_left
 all_goals
  have hg2 : Gr w1 (w1.alloc (.cells #[.slice A1 n1 e1, .map g1] 90)).drew := ((Gr.refl w1).alloc _).drew
  generalize World.drew _ = w2 at hg2 ⊢
  generalize w1.heap.size = Z
  have hgr2 := hg1.trans hg2
  have HI2 := Lib.hid (HH.out.keep hgr2)
  have HB2 := Lib.hid (HB.out.keep hg2)
  clear hHeld b3 c7 hg1 hg2 HB
  cases b1 with
  | true =>
    have HL1 : Hid (l1 = [repL s (f, t, kd, tx, n) 4]) := Lib.hid (by rw [HAL.out]; rfl)
    have b0 : w2.cell? ⟨U, 0, none⟩ = some (.int .i64 f) := HB2.out.cell 0
    have b1 : w2.cell? ⟨U, 1, none⟩ = some (.int .i64 t) := HB2.out.cell 1
    have b2 : w2.cell? ⟨U, 2, none⟩ = some (.int .i64 kd) := HB2.out.cell 2
    have b3 : w2.cell? ⟨U, 3, none⟩ = some (.int .i64 tx) := HB2.out.cell 3
    have b4 : w2.cell? ⟨U, 4, none⟩ = some (.int .i64 n) := HB2.out.cell 4
    go_wp2_with fail
    refine (HR.out 4 w2 HI2.out).mono ?_
    intro e w10 hlet
    have HF : Hid (StepP B w s s l1 e w10) := Lib.hid (by rw [HL1.out]; exact StepP.of HI2.out (Ch.of hgr2) rfl (fun g hg => Or.inl hg) hlet)
    obtain ⟨A, c, rfl, -⟩ := HF.out.let5
    clear hlet b0 b1 b2 b3 b4
    go_wp2_with fail
    go_ret
    exact HF.out
  | false =>
    have c6 : w2.cell? ⟨s.p, 6, none⟩ = some (.map (some s.mo)) := HI2.out.sCells.2.2.2.2.2.2.1
    have b3 : w2.cell? ⟨U, 3, none⟩ = some (.int .i64 tx) := HB2.out.cell 3
    go_upto_region 4 with fail
    refine wp_region_held_drew (S := (fun W' => Gr w2 W' ∧ W'.cell? ⟨s.p, 6, none⟩ = some (.map (some s.mo)) ∧ W'.cell? ⟨U, 3, none⟩ = some (.int .i64 tx))) ?_ ?_ (fun hHeld => ?_)
    ·kernel_rfl
    ·((try dsimp only); (try go_split_ands); (repeat' apply And.intro) <;> repeat first | assumption | exact Gr.refl _ | refine Gr.drew ?_ | refine Gr.alloc ?_ _ | refine alloc_old ?_ | refine Gr.keep (by assumption) ?_ | refine Gr.trans ?_ (by assumption))
    refine ti 0 (some 24) rfl rfl ?_; try simp only [Act.put, lA, lB, lC]
    refine ti 1 (some 25) rfl rfl ?_; try simp only [Act.put, lA, lB, lC]
    refine ti 2 (some 26) rfl rfl ?_; try simp only [Act.put, lA, lB, lC]
    refine ti 3 (some 27) rfl rfl ?_; try simp only [Act.put, lA, lB, lC]
    refine ti 4 (some 28) rfl rfl ?_; try simp only [Act.put, lA, lB, lC]
    refine ti 5 (some 29) rfl rfl ?_; try simp only [Act.put, lA, lB, lC]
    refine tr [6, 10] (.cons rfl (fun K hK => ?_) (.cons rfl (fun K hK => ?_) .nil))
    first | (refine held_look (by rfl) (.tmp 27) (.tmp 29) _ _ (by rfl) (.map (some s.mo)) (.int .i64 tx) (.tuple #[.agg #[.slice A2 n2 e2, .map g2], .bool b2]) (by rfl) (by rfl) (HLO.out _ (HI2.out.keep hHeld.1)) ?_)
    refine hK.out _ _ ?_ (fun hHeld => ?_)
    ·((try dsimp only); (try go_split_ands); (repeat' apply And.intro) <;> repeat first | assumption | exact Gr.refl _ | refine Gr.drew ?_ | refine Gr.alloc ?_ _ | refine alloc_old ?_ | refine Gr.keep (by assumption) ?_ | refine Gr.trans ?_ (by assumption))
    clear hK K; try simp only [Act.put, lA, lB, lC]
    refine ti 7 (some 23) rfl rfl ?_; try simp only [Act.put, lA, lB, lC]
    refine ti 8 (some 31) rfl rfl ?_; try simp only [Act.put, lA, lB, lC]
    refine ti 9 (some 32) rfl rfl ?_; try simp only [Act.put, lA, lB, lC]
    refine tr [10] (.cons rfl (fun K hK => ?_) .nil)
    go_simp
    refine hK.out _ _ ?_ (fun hHeld => ?_)
    ·((try dsimp only); (try go_split_ands); (repeat' apply And.intro) <;> repeat first | assumption | exact Gr.refl _ | refine Gr.drew ?_ | refine Gr.alloc ?_ _ | refine alloc_old ?_ | refine Gr.keep (by assumption) ?_ | refine Gr.trans ?_ (by assumption))
    clear hK K; try simp only [Act.put, lA, lB, lC]
    refine tr [11] (.cons rfl (fun K hK => ?_) .nil)
    go_simp
    refine hK.out _ _ ?_ (fun hHeld => ?_)
    ·((try dsimp only); (try go_split_ands); (repeat' apply And.intro) <;> repeat first | assumption | exact Gr.refl _ | refine Gr.drew ?_ | refine Gr.alloc ?_ _ | refine alloc_old ?_ | refine Gr.keep (by assumption) ?_ | refine Gr.trans ?_ (by assumption))
    clear hK K; try simp only [Act.put, lA, lB, lC]
    refine ti 12 (some 8) rfl rfl ?_; try simp only [Act.put, lA, lB, lC]
    refine wpAnyH_done ?_ ?_ _
    ·kernel_rfl
    rotate_left
    go_simp
    refine hK.out _ _ ?_ (fun hHeld => ?_)
    ·((try dsimp only); (try go_split_ands); (repeat' apply And.intro) <;> repeat first | assumption | exact Gr.refl _ | refine Gr.drew ?_ | refine Gr.alloc ?_ _ | refine alloc_old ?_ | refine Gr.keep (by assumption) ?_ | refine Gr.trans ?_ (by assumption))
    clear hK K; try simp only [Act.put, lA, lB, lC]
    refine tr [6] (.cons rfl (fun K hK => ?_) .nil)
    first | (refine held_look (by rfl) (.tmp 27) (.tmp 29) _ _ (by rfl) (.map (some s.mo)) (.int .i64 tx) (.tuple #[.agg #[.slice A2 n2 e2, .map g2], .bool b2]) (by rfl) (by rfl) (HLO.out _ (HI2.out.keep hHeld.1)) ?_)
    refine hK.out _ _ ?_ (fun hHeld => ?_)
    ·((try dsimp only); (try go_split_ands); (repeat' apply And.intro) <;> repeat first | assumption | exact Gr.refl _ | refine Gr.drew ?_ | refine Gr.alloc ?_ _ | refine alloc_old ?_ | refine Gr.keep (by assumption) ?_ | refine Gr.trans ?_ (by assumption))
    clear hK K; try simp only [Act.put, lA, lB, lC]
    refine ti 7 (some 23) rfl rfl ?_; try simp only [Act.put, lA, lB, lC]
    refine ti 8 (some 31) rfl rfl ?_; try simp only [Act.put, lA, lB, lC]
    refine ti 9 (some 32) rfl rfl ?_; try simp only [Act.put, lA, lB, lC]
    refine tr [11] (.cons rfl (fun K hK => ?_) .nil)
    go_simp
    refine hK.out _ _ ?_ (fun hHeld => ?_)
    ·((try dsimp only); (try go_split_ands); (repeat' apply And.intro) <;> repeat first | assumption | exact Gr.refl _ | refine Gr.drew ?_ | refine Gr.alloc ?_ _ | refine alloc_old ?_ | refine Gr.keep (by assumption) ?_ | refine Gr.trans ?_ (by assumption))
    clear hK K; try simp only [Act.put, lA, lB, lC]
    refine ti 12 (some 8) rfl rfl ?_; try simp only [Act.put, lA, lB, lC]
    refine wpAnyH_done ?_ ?_ _
    ·kernel_rfl
    rotate_left
    all_goals
     have hg3 : Gr w2 (w2.alloc (.cells #[.slice A2 n2 e2, .map g2] 90)).drew := ((Gr.refl w2).alloc _).drew
     generalize World.drew _ = w3 at hg3 ⊢
     generalize w2.heap.size = Z2
     have hgr3 := hgr2.trans hg3
     have HI3 := Lib.hid (HH.out.keep hgr3)
     have HB3 := Lib.hid (HB2.out.keep hg3)
     clear hHeld b3 c6 hg3 hgr2 HB2 HI2
     cases b2 with
     | true =>
       have HL1 : Hid (l1 = []) := Lib.hid (by rw [HAL.out]; rfl)
       go_wp2_with fail
       go_ret
       rw [HL1.out]
       exact StepP.of HI3.out (Ch.of hgr3) rfl (fun g hg => Or.inl hg) (LetP_nil _)
     | false =>
       have HL1 : Hid (l1 = [repL s (f, t, kd, tx, n) 5]) := Lib.hid (by rw [HAL.out]; rfl)
       have b0 : w3.cell? ⟨U, 0, none⟩ = some (.int .i64 f) := HB3.out.cell 0
       have b1 : w3.cell? ⟨U, 1, none⟩ = some (.int .i64 t) := HB3.out.cell 1
       have b2 : w3.cell? ⟨U, 2, none⟩ = some (.int .i64 kd) := HB3.out.cell 2
       have b3 : w3.cell? ⟨U, 3, none⟩ = some (.int .i64 tx) := HB3.out.cell 3
       have b4 : w3.cell? ⟨U, 4, none⟩ = some (.int .i64 n) := HB3.out.cell 4
       go_wp2_with fail
       refine (HR.out 5 w3 HI3.out).mono ?_
       intro e w10 hlet
       have HF : Hid (StepP B w s s l1 e w10) := Lib.hid (by rw [HL1.out]; exact StepP.of HI3.out (Ch.of hgr3) rfl (fun g hg => Or.inl hg) hlet)
       obtain ⟨A, c, rfl, -⟩ := HF.out.let5
       clear hlet b0 b1 b2 b3 b4
       go_wp2_with fail
       go_ret
       exact HF.out

theorem agree_shut {B : Nat} {s : Sx} (m : Ml) (w : World) (h : Its B w (siteIt s)) (htx : I64 m.2.2.2.1) (hf : I64 m.1) (hno : mget s.opn m.2.2.2.1 = none) :
 Calls Tryz.prog 83 #[.pointer (some ⟨s.p, 0, none⟩), .agg #[.int .i64 m.1, .int .i64 m.2.1, .int .i64 m.2.2.1, .int .i64 m.2.2.2.1, .int .i64 m.2.2.2.2]] w (StepP B w s s (agrL s m)) := by
 obtain ⟨f, t, kd, tx, n⟩ := m
 dsimp only at htx hf hno ⊢
 obtain ⟨kl, hkl⟩ := intp_key htx
 have HAL : Hid (agrL s (f, t, kd, tx, n) = match mget s.grt tx with
  | none => [repL s (f, t, kd, tx, n) 5]
  | some d => if (mget d.miss f).getD false then [repL s (f, t, kd, tx, n) 4] else []) := Lib.hid (by unfold agrL; dsimp only; rw [hno]; rfl)
 generalize agrL s (f, t, kd, tx, n) = l1 at HAL ⊢
 have HR := Lib.hid (fun (k : Int) W (hI : Its B W (siteIt s)) => reply_any (s := s) (f, t, kd, tx, n) k W hI)
 have HLG := Lib.hid (fun W (hI : Its B W (siteIt s)) => look_deal2 hI.sGrt htx)
 have HLO := Lib.hid (fun W (hI : Its B W (siteIt s)) => look_deal2 hI.sOpn htx)
 rw [hno] at HLO
 dsimp only [lookD, Option.isSome_none] at HLO
 have HLM : Hid (∀ d, mget s.grt tx = some d → ∀ W, Its B W (siteIt s) → (Instr.lookup 81 (.map (some d.g)) (.int .i64 f) false).run Tryz.prog W = .ok (.bool ((mget d.miss f).getD false)) W) := Lib.hid (fun d hd W hI => by
  obtain ⟨l1, l2, e, -⟩ := mget_split hI.sGrt.apart hd
  exact look_bool (hI.at (D := .bools d.miss) (by unfold siteIt; rw [e]; simp [dlIt])) hf)
 have HH := Lib.hid h
 have c6 := h.sCells.2.2.2.2.2.2.1
 clear htx h hf
 cases hgm : mget s.grt tx with
 | none =>
   rw [hgm] at HLG HAL
   dsimp only [lookD, Option.isSome_none] at HLG HAL
   clear hgm HLM hno
   go_enter Tryz.func83, Tryz.ntmps83
   go_upto_region 1 with fail
   generalize hW1 : World.alloc w _ = w1
   have hg1 : Gr w w1 := by rw [← hW1]; exact (Gr.refl w).alloc _
   have hbk : Blk w1 w.heap.size 59 #[.int .i64 f, .int .i64 t, .int .i64 kd, .int .i64 tx, .int .i64 n] := by rw [← hW1]; exact Blk.new w _ _ rfl
   generalize w.heap.size = U at hbk ⊢
   have HB := Lib.hid hbk
   clear hW1 hbk
   have b3 : w1.cell? ⟨U, 3, none⟩ = some (.int .i64 tx) := HB.out.cell 3
   replace c6 := hg1.keep c6
   refine wp_region_held_drew (S := (fun W' => Gr w1 W' ∧ W'.cell? ⟨s.p, 6, none⟩ = some (.map (some s.mo)) ∧ W'.cell? ⟨U, 3, none⟩ = some (.int .i64 tx))) ?_ ?_ (fun hHeld => ?_)
   ·kernel_rfl
   ·((try dsimp only); (try go_split_ands); (repeat' apply And.intro) <;> repeat first | assumption | exact Gr.refl _ | refine Gr.drew ?_ | refine Gr.alloc ?_ _ | refine alloc_old ?_ | refine Gr.keep (by assumption) ?_ | refine Gr.trans ?_ (by assumption))
   refine ti 0 (some 10) rfl rfl ?_; try simp only [Act.put, lA, lB, lC]
   refine ti 1 (some 11) rfl rfl ?_; try simp only [Act.put, lA, lB, lC]
   refine ti 2 (some 12) rfl rfl ?_; try simp only [Act.put, lA, lB, lC]
   refine ti 3 (some 13) rfl rfl ?_; try simp only [Act.put, lA, lB, lC]
   refine ti 4 (some 14) rfl rfl ?_; try simp only [Act.put, lA, lB, lC]
   refine ti 5 (some 15) rfl rfl ?_; try simp only [Act.put, lA, lB, lC]
   refine tr [6, 10] (.cons rfl (fun K hK => ?_) (.cons rfl (fun K hK => ?_) .nil))
   first | (refine held_look (by rfl) (.tmp 13) (.tmp 15) _ _ (by rfl) (.map (some s.mo)) (.int .i64 tx) (.tuple #[.agg #[.slice none 0 0, .map none], .bool false]) (by rfl) (by rfl) (HLO.out _ (HH.out.keep (hg1.trans hHeld.1))) ?_)
   refine hK.out _ _ ?_ (fun hHeld => ?_)
   ·((try dsimp only); (try go_split_ands); (repeat' apply And.intro) <;> repeat first | assumption | exact Gr.refl _ | refine Gr.drew ?_ | refine Gr.alloc ?_ _ | refine alloc_old ?_ | refine Gr.keep (by assumption) ?_ | refine Gr.trans ?_ (by assumption))
   clear hK K; try simp only [Act.put, lA, lB, lC]
   refine ti 7 (some 9) rfl rfl ?_; try simp only [Act.put, lA, lB, lC]
   refine ti 8 (some 17) rfl rfl ?_; try simp only [Act.put, lA, lB, lC]
   refine ti 9 (some 18) rfl rfl ?_; try simp only [Act.put, lA, lB, lC]
   refine tr [10] (.cons rfl (fun K hK => ?_) .nil)
   go_simp
   refine hK.out _ _ ?_ (fun hHeld => ?_)
   ·((try dsimp only); (try go_split_ands); (repeat' apply And.intro) <;> repeat first | assumption | exact Gr.refl _ | refine Gr.drew ?_ | refine Gr.alloc ?_ _ | refine alloc_old ?_ | refine Gr.keep (by assumption) ?_ | refine Gr.trans ?_ (by assumption))
   clear hK K; try simp only [Act.put, lA, lB, lC]
   refine tr [11] (.cons rfl (fun K hK => ?_) .nil)
   go_simp
   refine hK.out _ _ ?_ (fun hHeld => ?_)
   ·((try dsimp only); (try go_split_ands); (repeat' apply And.intro) <;> repeat first | assumption | exact Gr.refl _ | refine Gr.drew ?_ | refine Gr.alloc ?_ _ | refine alloc_old ?_ | refine Gr.keep (by assumption) ?_ | refine Gr.trans ?_ (by assumption))
   clear hK K; try simp only [Act.put, lA, lB, lC]
   refine ti 12 (some 6) rfl rfl ?_; try simp only [Act.put, lA, lB, lC]
   refine wpAnyH_done ?_ ?_ _
   ·kernel_rfl
   rotate_left
   go_simp
   refine hK.out _ _ ?_ (fun hHeld => ?_)
   ·((try dsimp only); (try go_split_ands); (repeat' apply And.intro) <;> repeat first | assumption | exact Gr.refl _ | refine Gr.drew ?_ | refine Gr.alloc ?_ _ | refine alloc_old ?_ | refine Gr.keep (by assumption) ?_ | refine Gr.trans ?_ (by assumption))
   clear hK K; try simp only [Act.put, lA, lB, lC]
   refine tr [6] (.cons rfl (fun K hK => ?_) .nil)
   first | (refine held_look (by rfl) (.tmp 13) (.tmp 15) _ _ (by rfl) (.map (some s.mo)) (.int .i64 tx) (.tuple #[.agg #[.slice none 0 0, .map none], .bool false]) (by rfl) (by rfl) (HLO.out _ (HH.out.keep (hg1.trans hHeld.1))) ?_)
   refine hK.out _ _ ?_ (fun hHeld => ?_)
   ·((try dsimp only); (try go_split_ands); (repeat' apply And.intro) <;> repeat first | assumption | exact Gr.refl _ | refine Gr.drew ?_ | refine Gr.alloc ?_ _ | refine alloc_old ?_ | refine Gr.keep (by assumption) ?_ | refine Gr.trans ?_ (by assumption))
   clear hK K; try simp only [Act.put, lA, lB, lC]
   refine ti 7 (some 9) rfl rfl ?_; try simp only [Act.put, lA, lB, lC]
   refine ti 8 (some 17) rfl rfl ?_; try simp only [Act.put, lA, lB, lC]
   refine ti 9 (some 18) rfl rfl ?_; try simp only [Act.put, lA, lB, lC]
   refine tr [11] (.cons rfl (fun K hK => ?_) .nil)
   go_simp
   refine hK.out _ _ ?_ (fun hHeld => ?_)
   ·((try dsimp only); (try go_split_ands); (repeat' apply And.intro) <;> repeat first | assumption | exact Gr.refl _ | refine Gr.drew ?_ | refine Gr.alloc ?_ _ | refine alloc_old ?_ | refine Gr.keep (by assumption) ?_ | refine Gr.trans ?_ (by assumption))
   clear hK K; try simp only [Act.put, lA, lB, lC]
   refine ti 12 (some 6) rfl rfl ?_; try simp only [Act.put, lA, lB, lC]
   refine wpAnyH_done ?_ ?_ _
   ·kernel_rfl
   rotate_left
   all_goals
    have hg2 : Gr w1 (w1.alloc (.cells #[.slice none 0 0, .map none] 90)).drew := ((Gr.refl w1).alloc _).drew
    generalize World.drew _ = w2 at hg2 ⊢
    generalize w1.heap.size = Z
    have hgr2 := hg1.trans hg2
    have HI2 := Lib.hid (HH.out.keep hgr2)
    have HB2 := Lib.hid (HB.out.keep hg2)
    clear hHeld b3 c6 hg1 hg2 HB
    have c7 : w2.cell? ⟨s.p, 7, none⟩ = some (.map (some s.mg)) := HI2.out.sCells.2.2.2.2.2.2.2
    have b3 : w2.cell? ⟨U, 3, none⟩ = some (.int .i64 tx) := HB2.out.cell 3
    go_upto_region 9 with fail
    refine wp_region_held_drew (S := (fun W' => Gr w2 W' ∧ W'.cell? ⟨s.p, 7, none⟩ = some (.map (some s.mg)) ∧ W'.cell? ⟨U, 3, none⟩ = some (.int .i64 tx))) ?_ ?_ (fun hHeld => ?_)
    ·kernel_rfl
    ·((try dsimp only); (try go_split_ands); (repeat' apply And.intro) <;> repeat first | assumption | exact Gr.refl _ | refine Gr.drew ?_ | refine Gr.alloc ?_ _ | refine alloc_old ?_ | refine Gr.keep (by assumption) ?_ | refine Gr.trans ?_ (by assumption))
    refine ti 0 (some 50) rfl rfl ?_; try simp only [Act.put, lA, lB, lC]
    refine ti 1 (some 51) rfl rfl ?_; try simp only [Act.put, lA, lB, lC]
    refine ti 2 (some 52) rfl rfl ?_; try simp only [Act.put, lA, lB, lC]
    refine ti 3 (some 53) rfl rfl ?_; try simp only [Act.put, lA, lB, lC]
    refine ti 4 (some 54) rfl rfl ?_; try simp only [Act.put, lA, lB, lC]
    refine ti 5 (some 55) rfl rfl ?_; try simp only [Act.put, lA, lB, lC]
    refine tr [6, 10] (.cons rfl (fun K hK => ?_) (.cons rfl (fun K hK => ?_) .nil))
    first | (refine held_look (by rfl) (.tmp 53) (.tmp 55) _ _ (by rfl) (.map (some s.mg)) (.int .i64 tx) (.tuple #[.agg #[.slice none 0 0, .map none], .bool false]) (by rfl) (by rfl) (HLG.out _ (HI2.out.keep hHeld.1)) ?_)
    refine hK.out _ _ ?_ (fun hHeld => ?_)
    ·((try dsimp only); (try go_split_ands); (repeat' apply And.intro) <;> repeat first | assumption | exact Gr.refl _ | refine Gr.drew ?_ | refine Gr.alloc ?_ _ | refine alloc_old ?_ | refine Gr.keep (by assumption) ?_ | refine Gr.trans ?_ (by assumption))
    clear hK K; try simp only [Act.put, lA, lB, lC]
    refine ti 7 (some 49) rfl rfl ?_; try simp only [Act.put, lA, lB, lC]
    refine ti 8 (some 57) rfl rfl ?_; try simp only [Act.put, lA, lB, lC]
    refine ti 9 (some 58) rfl rfl ?_; try simp only [Act.put, lA, lB, lC]
    refine tr [10] (.cons rfl (fun K hK => ?_) .nil)
    go_simp
    refine hK.out _ _ ?_ (fun hHeld => ?_)
    ·((try dsimp only); (try go_split_ands); (repeat' apply And.intro) <;> repeat first | assumption | exact Gr.refl _ | refine Gr.drew ?_ | refine Gr.alloc ?_ _ | refine alloc_old ?_ | refine Gr.keep (by assumption) ?_ | refine Gr.trans ?_ (by assumption))
    clear hK K; try simp only [Act.put, lA, lB, lC]
    refine tr [11] (.cons rfl (fun K hK => ?_) .nil)
    go_simp
    refine hK.out _ _ ?_ (fun hHeld => ?_)
    ·((try dsimp only); (try go_split_ands); (repeat' apply And.intro) <;> repeat first | assumption | exact Gr.refl _ | refine Gr.drew ?_ | refine Gr.alloc ?_ _ | refine alloc_old ?_ | refine Gr.keep (by assumption) ?_ | refine Gr.trans ?_ (by assumption))
    clear hK K; try simp only [Act.put, lA, lB, lC]
    refine ti 12 (some 8) rfl rfl ?_; try simp only [Act.put, lA, lB, lC]
    refine wpAnyH_done ?_ ?_ _
    ·kernel_rfl
    rotate_left
    go_simp
    refine hK.out _ _ ?_ (fun hHeld => ?_)
    ·((try dsimp only); (try go_split_ands); (repeat' apply And.intro) <;> repeat first | assumption | exact Gr.refl _ | refine Gr.drew ?_ | refine Gr.alloc ?_ _ | refine alloc_old ?_ | refine Gr.keep (by assumption) ?_ | refine Gr.trans ?_ (by assumption))
    clear hK K; try simp only [Act.put, lA, lB, lC]
    refine tr [6] (.cons rfl (fun K hK => ?_) .nil)
    first | (refine held_look (by rfl) (.tmp 53) (.tmp 55) _ _ (by rfl) (.map (some s.mg)) (.int .i64 tx) (.tuple #[.agg #[.slice none 0 0, .map none], .bool false]) (by rfl) (by rfl) (HLG.out _ (HI2.out.keep hHeld.1)) ?_)
    refine hK.out _ _ ?_ (fun hHeld => ?_)
    ·((try dsimp only); (try go_split_ands); (repeat' apply And.intro) <;> repeat first | assumption | exact Gr.refl _ | refine Gr.drew ?_ | refine Gr.alloc ?_ _ | refine alloc_old ?_ | refine Gr.keep (by assumption) ?_ | refine Gr.trans ?_ (by assumption))
    clear hK K; try simp only [Act.put, lA, lB, lC]
    refine ti 7 (some 49) rfl rfl ?_; try simp only [Act.put, lA, lB, lC]
    refine ti 8 (some 57) rfl rfl ?_; try simp only [Act.put, lA, lB, lC]
    refine ti 9 (some 58) rfl rfl ?_; try simp only [Act.put, lA, lB, lC]
    refine tr [11] (.cons rfl (fun K hK => ?_) .nil)
    go_simp
    refine hK.out _ _ ?_ (fun hHeld => ?_)
    ·((try dsimp only); (try go_split_ands); (repeat' apply And.intro) <;> repeat first | assumption | exact Gr.refl _ | refine Gr.drew ?_ | refine Gr.alloc ?_ _ | refine alloc_old ?_ | refine Gr.keep (by assumption) ?_ | refine Gr.trans ?_ (by assumption))
    clear hK K; try simp only [Act.put, lA, lB, lC]
    refine ti 12 (some 8) rfl rfl ?_; try simp only [Act.put, lA, lB, lC]
    refine wpAnyH_done ?_ ?_ _
    ·kernel_rfl
    rotate_left
    all_goals
     have hg3 : Gr w2 (w2.alloc (.cells #[.slice none 0 0, .map none] 90)).drew := ((Gr.refl w2).alloc _).drew
     generalize World.drew _ = w3 at hg3 ⊢
     generalize w2.heap.size = Z2
     have hgr3 := hgr2.trans hg3
     have HI3 := Lib.hid (HH.out.keep hgr3)
     have HB3 := Lib.hid (HB2.out.keep hg3)
     clear hHeld b3 c7 hg3 hgr2 HB2 HI2
     have HL1 : Hid (l1 = [repL s (f, t, kd, tx, n) 5]) := Lib.hid HAL.out
     have b0 : w3.cell? ⟨U, 0, none⟩ = some (.int .i64 f) := HB3.out.cell 0
     have b1 : w3.cell? ⟨U, 1, none⟩ = some (.int .i64 t) := HB3.out.cell 1
     have b2 : w3.cell? ⟨U, 2, none⟩ = some (.int .i64 kd) := HB3.out.cell 2
     have b3 : w3.cell? ⟨U, 3, none⟩ = some (.int .i64 tx) := HB3.out.cell 3
     have b4 : w3.cell? ⟨U, 4, none⟩ = some (.int .i64 n) := HB3.out.cell 4
     go_wp2_with fail
     refine (HR.out 5 w3 HI3.out).mono ?_
     intro e w10 hlet
     have HF : Hid (StepP B w s s l1 e w10) := Lib.hid (by rw [HL1.out]; exact StepP.of HI3.out (Ch.of hgr3) rfl (fun g hg => Or.inl hg) hlet)
     obtain ⟨A, c, rfl, -⟩ := HF.out.let5
     clear hlet b0 b1 b2 b3 b4
     go_wp2_with fail
     go_ret
     exact HF.out
 | some d =>
   have HLD := Lib.hid (HLM.out d hgm)
   rw [hgm] at HLG HAL
   dsimp only [lookD, Option.isSome_some] at HLG HAL
   generalize d.parts.length = dn at HLG
   obtain ⟨v, hv⟩ : ∃ v, (mget d.miss f).getD false = v := ⟨_, rfl⟩
   rw [hv] at HAL HLD
   clear hgm HLM hno hv
   go_enter Tryz.func83, Tryz.ntmps83
   go_upto_region 1 with fail
   generalize hW1 : World.alloc w _ = w1
   have hg1 : Gr w w1 := by rw [← hW1]; exact (Gr.refl w).alloc _
   have hbk : Blk w1 w.heap.size 59 #[.int .i64 f, .int .i64 t, .int .i64 kd, .int .i64 tx, .int .i64 n] := by rw [← hW1]; exact Blk.new w _ _ rfl
   generalize w.heap.size = U at hbk ⊢
   have HB := Lib.hid hbk
   clear hW1 hbk
   have b3 : w1.cell? ⟨U, 3, none⟩ = some (.int .i64 tx) := HB.out.cell 3
   replace c6 := hg1.keep c6
   refine wp_region_held_drew (S := (fun W' => Gr w1 W' ∧ W'.cell? ⟨s.p, 6, none⟩ = some (.map (some s.mo)) ∧ W'.cell? ⟨U, 3, none⟩ = some (.int .i64 tx))) ?_ ?_ (fun hHeld => ?_)
   ·kernel_rfl
   ·((try dsimp only); (try go_split_ands); (repeat' apply And.intro) <;> repeat first | assumption | exact Gr.refl _ | refine Gr.drew ?_ | refine Gr.alloc ?_ _ | refine alloc_old ?_ | refine Gr.keep (by assumption) ?_ | refine Gr.trans ?_ (by assumption))
   refine ti 0 (some 10) rfl rfl ?_; try simp only [Act.put, lA, lB, lC]
   refine ti 1 (some 11) rfl rfl ?_; try simp only [Act.put, lA, lB, lC]
   refine ti 2 (some 12) rfl rfl ?_; try simp only [Act.put, lA, lB, lC]
   refine ti 3 (some 13) rfl rfl ?_; try simp only [Act.put, lA, lB, lC]
   refine ti 4 (some 14) rfl rfl ?_; try simp only [Act.put, lA, lB, lC]
   refine ti 5 (some 15) rfl rfl ?_; try simp only [Act.put, lA, lB, lC]
   refine tr [6, 10] (.cons rfl (fun K hK => ?_) (.cons rfl (fun K hK => ?_) .nil))
   first | (refine held_look (by rfl) (.tmp 13) (.tmp 15) _ _ (by rfl) (.map (some s.mo)) (.int .i64 tx) (.tuple #[.agg #[.slice none 0 0, .map none], .bool false]) (by rfl) (by rfl) (HLO.out _ (HH.out.keep (hg1.trans hHeld.1))) ?_)
   refine hK.out _ _ ?_ (fun hHeld => ?_)
   ·((try dsimp only); (try go_split_ands); (repeat' apply And.intro) <;> repeat first | assumption | exact Gr.refl _ | refine Gr.drew ?_ | refine Gr.alloc ?_ _ | refine alloc_old ?_ | refine Gr.keep (by assumption) ?_ | refine Gr.trans ?_ (by assumption))
   clear hK K; try simp only [Act.put, lA, lB, lC]
   refine ti 7 (some 9) rfl rfl ?_; try simp only [Act.put, lA, lB, lC]
   refine ti 8 (some 17) rfl rfl ?_; try simp only [Act.put, lA, lB, lC]
   refine ti 9 (some 18) rfl rfl ?_; try simp only [Act.put, lA, lB, lC]
   refine tr [10] (.cons rfl (fun K hK => ?_) .nil)
   go_simp
   refine hK.out _ _ ?_ (fun hHeld => ?_)
   ·((try dsimp only); (try go_split_ands); (repeat' apply And.intro) <;> repeat first | assumption | exact Gr.refl _ | refine Gr.drew ?_ | refine Gr.alloc ?_ _ | refine alloc_old ?_ | refine Gr.keep (by assumption) ?_ | refine Gr.trans ?_ (by assumption))
   clear hK K; try simp only [Act.put, lA, lB, lC]
   refine tr [11] (.cons rfl (fun K hK => ?_) .nil)
   go_simp
   refine hK.out _ _ ?_ (fun hHeld => ?_)
   ·((try dsimp only); (try go_split_ands); (repeat' apply And.intro) <;> repeat first | assumption | exact Gr.refl _ | refine Gr.drew ?_ | refine Gr.alloc ?_ _ | refine alloc_old ?_ | refine Gr.keep (by assumption) ?_ | refine Gr.trans ?_ (by assumption))
   clear hK K; try simp only [Act.put, lA, lB, lC]
   refine ti 12 (some 6) rfl rfl ?_; try simp only [Act.put, lA, lB, lC]
   refine wpAnyH_done ?_ ?_ _
   ·kernel_rfl
   rotate_left
   go_simp
   refine hK.out _ _ ?_ (fun hHeld => ?_)
   ·((try dsimp only); (try go_split_ands); (repeat' apply And.intro) <;> repeat first | assumption | exact Gr.refl _ | refine Gr.drew ?_ | refine Gr.alloc ?_ _ | refine alloc_old ?_ | refine Gr.keep (by assumption) ?_ | refine Gr.trans ?_ (by assumption))
   clear hK K; try simp only [Act.put, lA, lB, lC]
   refine tr [6] (.cons rfl (fun K hK => ?_) .nil)
   first | (refine held_look (by rfl) (.tmp 13) (.tmp 15) _ _ (by rfl) (.map (some s.mo)) (.int .i64 tx) (.tuple #[.agg #[.slice none 0 0, .map none], .bool false]) (by rfl) (by rfl) (HLO.out _ (HH.out.keep (hg1.trans hHeld.1))) ?_)
   refine hK.out _ _ ?_ (fun hHeld => ?_)
   ·((try dsimp only); (try go_split_ands); (repeat' apply And.intro) <;> repeat first | assumption | exact Gr.refl _ | refine Gr.drew ?_ | refine Gr.alloc ?_ _ | refine alloc_old ?_ | refine Gr.keep (by assumption) ?_ | refine Gr.trans ?_ (by assumption))
   clear hK K; try simp only [Act.put, lA, lB, lC]
   refine ti 7 (some 9) rfl rfl ?_; try simp only [Act.put, lA, lB, lC]
   refine ti 8 (some 17) rfl rfl ?_; try simp only [Act.put, lA, lB, lC]
   refine ti 9 (some 18) rfl rfl ?_; try simp only [Act.put, lA, lB, lC]
   refine tr [11] (.cons rfl (fun K hK => ?_) .nil)
   go_simp
   refine hK.out _ _ ?_ (fun hHeld => ?_)
   ·((try dsimp only); (try go_split_ands); (repeat' apply And.intro) <;> repeat first | assumption | exact Gr.refl _ | refine Gr.drew ?_ | refine Gr.alloc ?_ _ | refine alloc_old ?_ | refine Gr.keep (by assumption) ?_ | refine Gr.trans ?_ (by assumption))
   clear hK K; try simp only [Act.put, lA, lB, lC]
   refine ti 12 (some 6) rfl rfl ?_; try simp only [Act.put, lA, lB, lC]
   refine wpAnyH_done ?_ ?_ _
   ·kernel_rfl
   rotate_left
   all_goals
    have hg2 : Gr w1 (w1.alloc (.cells #[.slice none 0 0, .map none] 90)).drew := ((Gr.refl w1).alloc _).drew
    generalize World.drew _ = w2 at hg2 ⊢
    generalize w1.heap.size = Z
    have hgr2 := hg1.trans hg2
    have HI2 := Lib.hid (HH.out.keep hgr2)
    have HB2 := Lib.hid (HB.out.keep hg2)
    clear hHeld b3 c6 hg1 hg2 HB
    have c7 : w2.cell? ⟨s.p, 7, none⟩ = some (.map (some s.mg)) := HI2.out.sCells.2.2.2.2.2.2.2
    have b3 : w2.cell? ⟨U, 3, none⟩ = some (.int .i64 tx) := HB2.out.cell 3
    go_upto_region 9 with fail
    refine wp_region_held_drew (S := (fun W' => Gr w2 W' ∧ W'.cell? ⟨s.p, 7, none⟩ = some (.map (some s.mg)) ∧ W'.cell? ⟨U, 3, none⟩ = some (.int .i64 tx))) ?_ ?_ (fun hHeld => ?_)
    ·kernel_rfl
    ·((try dsimp only); (try go_split_ands); (repeat' apply And.intro) <;> repeat first | assumption | exact Gr.refl _ | refine Gr.drew ?_ | refine Gr.alloc ?_ _ | refine alloc_old ?_ | refine Gr.keep (by assumption) ?_ | refine Gr.trans ?_ (by assumption))
    refine ti 0 (some 50) rfl rfl ?_; try simp only [Act.put, lA, lB, lC]
    refine ti 1 (some 51) rfl rfl ?_; try simp only [Act.put, lA, lB, lC]
    refine ti 2 (some 52) rfl rfl ?_; try simp only [Act.put, lA, lB, lC]
    refine ti 3 (some 53) rfl rfl ?_; try simp only [Act.put, lA, lB, lC]
    refine ti 4 (some 54) rfl rfl ?_; try simp only [Act.put, lA, lB, lC]
    refine ti 5 (some 55) rfl rfl ?_; try simp only [Act.put, lA, lB, lC]
    refine tr [6, 10] (.cons rfl (fun K hK => ?_) (.cons rfl (fun K hK => ?_) .nil))
    first | (refine held_look (by rfl) (.tmp 53) (.tmp 55) _ _ (by rfl) (.map (some s.mg)) (.int .i64 tx) (.tuple #[.agg #[.slice (some ⟨d.b, 0, none⟩) dn d.c, .map (some d.g)], .bool true]) (by rfl) (by rfl) (HLG.out _ (HI2.out.keep hHeld.1)) ?_)
    refine hK.out _ _ ?_ (fun hHeld => ?_)
    ·((try dsimp only); (try go_split_ands); (repeat' apply And.intro) <;> repeat first | assumption | exact Gr.refl _ | refine Gr.drew ?_ | refine Gr.alloc ?_ _ | refine alloc_old ?_ | refine Gr.keep (by assumption) ?_ | refine Gr.trans ?_ (by assumption))
    clear hK K; try simp only [Act.put, lA, lB, lC]
    refine ti 7 (some 49) rfl rfl ?_; try simp only [Act.put, lA, lB, lC]
    refine ti 8 (some 57) rfl rfl ?_; try simp only [Act.put, lA, lB, lC]
    refine ti 9 (some 58) rfl rfl ?_; try simp only [Act.put, lA, lB, lC]
    refine tr [10] (.cons rfl (fun K hK => ?_) .nil)
    go_simp
    refine hK.out _ _ ?_ (fun hHeld => ?_)
    ·((try dsimp only); (try go_split_ands); (repeat' apply And.intro) <;> repeat first | assumption | exact Gr.refl _ | refine Gr.drew ?_ | refine Gr.alloc ?_ _ | refine alloc_old ?_ | refine Gr.keep (by assumption) ?_ | refine Gr.trans ?_ (by assumption))
    clear hK K; try simp only [Act.put, lA, lB, lC]
    refine tr [11] (.cons rfl (fun K hK => ?_) .nil)
    go_simp
    refine hK.out _ _ ?_ (fun hHeld => ?_)
    ·((try dsimp only); (try go_split_ands); (repeat' apply And.intro) <;> repeat first | assumption | exact Gr.refl _ | refine Gr.drew ?_ | refine Gr.alloc ?_ _ | refine alloc_old ?_ | refine Gr.keep (by assumption) ?_ | refine Gr.trans ?_ (by assumption))
    clear hK K; try simp only [Act.put, lA, lB, lC]
    refine ti 12 (some 8) rfl rfl ?_; try simp only [Act.put, lA, lB, lC]
    refine wpAnyH_done ?_ ?_ _
    ·kernel_rfl
    rotate_left
    go_simp
    refine hK.out _ _ ?_ (fun hHeld => ?_)
    ·((try dsimp only); (try go_split_ands); (repeat' apply And.intro) <;> repeat first | assumption | exact Gr.refl _ | refine Gr.drew ?_ | refine Gr.alloc ?_ _ | refine alloc_old ?_ | refine Gr.keep (by assumption) ?_ | refine Gr.trans ?_ (by assumption))
    clear hK K; try simp only [Act.put, lA, lB, lC]
    refine tr [6] (.cons rfl (fun K hK => ?_) .nil)
    first | (refine held_look (by rfl) (.tmp 53) (.tmp 55) _ _ (by rfl) (.map (some s.mg)) (.int .i64 tx) (.tuple #[.agg #[.slice (some ⟨d.b, 0, none⟩) dn d.c, .map (some d.g)], .bool true]) (by rfl) (by rfl) (HLG.out _ (HI2.out.keep hHeld.1)) ?_)
    refine hK.out _ _ ?_ (fun hHeld => ?_)
    ·((try dsimp only); (try go_split_ands); (repeat' apply And.intro) <;> repeat first | assumption | exact Gr.refl _ | refine Gr.drew ?_ | refine Gr.alloc ?_ _ | refine alloc_old ?_ | refine Gr.keep (by assumption) ?_ | refine Gr.trans ?_ (by assumption))
    clear hK K; try simp only [Act.put, lA, lB, lC]
    refine ti 7 (some 49) rfl rfl ?_; try simp only [Act.put, lA, lB, lC]
    refine ti 8 (some 57) rfl rfl ?_; try simp only [Act.put, lA, lB, lC]
    refine ti 9 (some 58) rfl rfl ?_; try simp only [Act.put, lA, lB, lC]
    refine tr [11] (.cons rfl (fun K hK => ?_) .nil)
    go_simp
    refine hK.out _ _ ?_ (fun hHeld => ?_)
    ·((try dsimp only); (try go_split_ands); (repeat' apply And.intro) <;> repeat first | assumption | exact Gr.refl _ | refine Gr.drew ?_ | refine Gr.alloc ?_ _ | refine alloc_old ?_ | refine Gr.keep (by assumption) ?_ | refine Gr.trans ?_ (by assumption))
    clear hK K; try simp only [Act.put, lA, lB, lC]
    refine ti 12 (some 8) rfl rfl ?_; try simp only [Act.put, lA, lB, lC]
    refine wpAnyH_done ?_ ?_ _
    ·kernel_rfl
    rotate_left
    all_goals
     have hg3 : Gr w2 (w2.alloc (.cells #[.slice (some ⟨d.b, 0, none⟩) dn d.c, .map (some d.g)] 90)).drew := ((Gr.refl w2).alloc _).drew
     have hP : Blk (w2.alloc (.cells #[.slice (some ⟨d.b, 0, none⟩) dn d.c, .map (some d.g)] 90)).drew w2.heap.size 90 #[.slice (some ⟨d.b, 0, none⟩) dn d.c, .map (some d.g)] := Blk.keep (w := w2.alloc _) (heap_alloc_new w2 _) (Gr.refl _).drew
     generalize World.drew _ = w3 at hg3 hP ⊢
     generalize w2.heap.size = Z2 at hP ⊢
     have hgr3 := hgr2.trans hg3
     have HI3 := Lib.hid (HH.out.keep hgr3)
     have HB3 := Lib.hid (HB2.out.keep hg3)
     clear hHeld b3 c7 hg3 hgr2 HB2 HI2
     have z1 : w3.cell? ⟨Z2, 1, none⟩ = some (.map (some d.g)) := hP.cell 1
     have b0 : w3.cell? ⟨U, 0, none⟩ = some (.int .i64 f) := HB3.out.cell 0
     have b1 : w3.cell? ⟨U, 1, none⟩ = some (.int .i64 t) := HB3.out.cell 1
     have b2 : w3.cell? ⟨U, 2, none⟩ = some (.int .i64 kd) := HB3.out.cell 2
     have b3 : w3.cell? ⟨U, 3, none⟩ = some (.int .i64 tx) := HB3.out.cell 3
     have b4 : w3.cell? ⟨U, 4, none⟩ = some (.int .i64 n) := HB3.out.cell 4
     have hlk := HLD.out w3 HI3.out
     clear hP
     cases v with
     | true =>
       have HL1 : Hid (l1 = [repL s (f, t, kd, tx, n) 4]) := Lib.hid (by rw [HAL.out]; rfl)
       go_wp2_with fail
       refine (HR.out 4 w3 HI3.out).mono ?_
       intro e w10 hlet
       have HF : Hid (StepP B w s s l1 e w10) := Lib.hid (by rw [HL1.out]; exact StepP.of HI3.out (Ch.of hgr3) rfl (fun g hg => Or.inl hg) hlet)
       obtain ⟨A, c, rfl, -⟩ := HF.out.let5
       clear hlet b0 b1 b2 b3 b4 z1 hlk
       go_wp2_with fail
       go_ret
       exact HF.out
     | false =>
       have HL1 : Hid (l1 = []) := Lib.hid (by rw [HAL.out]; rfl)
       go_wp2_with fail
       go_ret
       rw [HL1.out]
       exact StepP.of HI3.out (Ch.of hgr3) rfl (fun g hg => Or.inl hg) (LetP_nil _)

set_option maxRecDepth 100000
set_option maxHeartbeats 80000000

def MvP (l : List Mv) (w : World) (e : Ending) (w' : World) : Prop := ∃ A c, e = .returned (.slice A l.length c) ∧ Pts w' A l ∧ Gr w w' ∧ l.length ≤ c
theorem filter_take {α : Type} (q : α → Bool) {ps : List α} {i : Nat} {p : α} (h : ps[i]? = some p) : (ps.take (i + 1)).filter q = (ps.take i).filter q ++ (if q p then [p] else []) := by
 rw [List.take_add_one, h, Option.toList_some, List.filter_append]
 congr 1
 cases hq : q p <;> simp [hq]
theorem filter_keep {α : Type} (q : α → Bool) {ps : List α} {i : Nat} {p : α} (h : ps[i]? = some p) (hq : q p = true) : (ps.take (i + 1)).filter q = (ps.take i).filter q ++ [p] := by rw [filter_take q h, if_pos hq]
theorem filter_skip {α : Type} (q : α → Bool) {ps : List α} {i : Nat} {p : α} (h : ps[i]? = some p) (hq : q p = false) : (ps.take (i + 1)).filter q = (ps.take i).filter q := by rw [filter_take q h, if_neg (by simp [hq]), List.append_nil]
theorem other_any (A : Option Addr) (n c : Nat) (ps : List Mv) (mv : Value) (f : Int) (w : World) (hn : ps.length = n) (hl : n ≤ 512) (hp : Pts w A ps) :
 Calls Tryz.prog 96 #[.agg #[.slice A n c, mv], .int .i64 f] w (MvP (otherL ps f) w) := by
 have HN := Lib.hid hn
 have HP := Lib.hid hp
 obtain ⟨i0, hi, hz0, hz1, hz2⟩ := info_parts Tryz.infoPtM
 have HI := Lib.hid (And.intro hi (And.intro hz0 (And.intro hz1 hz2)))
 have HQ := Lib.hid (show otherL ps f = ps.filter (fun p => p.1 != f) from rfl)
 obtain ⟨Q, hQ⟩ : ∃ Q : Mv → Bool, Q = fun p => p.1 != f := ⟨_, rfl⟩
 rw [← hQ] at HQ
 have HQQ := Lib.hid hQ
 clear hn hp hi hz0 hz1 hz2 hQ
 go_enter Tryz.func96, Tryz.ntmps96
 go_upto_region 2 with fail
 generalize hW1 : World.alloc w _ = w1
 obtain ⟨hg1, k0, -⟩ := box2q hW1
 generalize w.heap.size = T at k0 ⊢
 have hsz := hg1.size
 clear hW1
 go_wp2_with fail
 go_loopw [5, 11] (fun q z wr => ∃ (i : Nat) (A9 : Option Addr) (j c9 : Nat), i ≤ n ∧ z = .int .i64 (i : Int) ∧ q = .slice A9 j c9 ∧ Hid (((ps.take i).filter Q).length = j ∧ j ≤ i) ∧ Hid (wr.ownsRow w.heap.size 61 2 (.slice A9 j c9) j (flatE enc2 ((ps.take i).filter Q))) ∧ Gr w wr) (fun _ z _ => n - (intOf z).toNat)
 case atStart => exact ⟨0, none, 0, 0, Nat.zero_le _, rfl, rfl, Lib.hid ⟨by simp, by omega⟩, Lib.hid (World.ownsRow_nil _ _ _ _), hg1⟩
 case round =>
  obtain ⟨i, A9, j, c9, hin, rfl, rfl, hj, hown, hgr⟩ := hrel
  by_cases hlt : i < n
  ·obtain ⟨b, off, rfl, x0, x1⟩ := Pts_at (HP.out.keep hgr) (k := i) (by rw [HN.out]; exact hlt)
   have hpk : ps[i]? = some (ps.getD i (0, 0)) := getD_of (0, 0) (by rw [HN.out]; exact hlt)
   have HPK := Lib.hid hpk
   generalize ps.getD i (0, 0) = p at *
   obtain ⟨p1, p2⟩ := p
   dsimp only at x0 x1
   have hki : (i : Int) < (n : Int) := by omega
   clear hpk
   go_upto_region 5 with fail
   generalize hW : World.alloc wr _ = w5
   obtain ⟨hgW, k0, k1⟩ := box2q hW
   generalize wr.heap.size = Z at k0 k1 ⊢
   have HO5 := Lib.hid (owns_gr hown.out hgW)
   have hg5 := hgr.trans hgW
   clear hW hgW hown hgr x0 x1
   by_cases hpf : p1 = f
   ·have b1 : (p1 != f) = false := by simp [hpf]
    have b2 : (p1 == f) = true := by simp [hpf]
    have HSK := Lib.hid (filter_skip Q HPK.out (by rw [HQQ.out]; exact b1))
    have HJ : Hid (((ps.take (i + 1)).filter Q).length = j ∧ j ≤ i + 1) := Lib.hid (by rw [HSK.out]; exact ⟨hj.out.1, by have := hj.out.2; omega⟩)
    have HO6 : Hid (w5.ownsRow w.heap.size 61 2 (.slice A9 j c9) j (flatE enc2 ((ps.take (i + 1)).filter Q))) := Lib.hid (by rw [HSK.out]; exact HO5.out)
    clear hpf
    go_wp2_with fail
    go_roundw
    case rel => exact ⟨i + 1, A9, j, c9, by omega, by go_num, rfl, HJ, HO6, hg5⟩
    case measure => simp [intOf]; omega
   ·have b1 : (p1 != f) = true := by simp [hpf]
    have b2 : (p1 == f) = false := by simp [hpf]
    have HSK := Lib.hid (filter_keep Q HPK.out (by rw [HQQ.out]; exact b1))
    have HJ : Hid (((ps.take (i + 1)).filter Q).length = j + 1 ∧ j + 1 ≤ i + 1) := Lib.hid (by rw [HSK.out, List.length_append, hj.out.1]; exact ⟨rfl, by have := hj.out.2; omega⟩)
    have hj2 := hj.out.2
    clear hpf
    obtain ⟨hi, hz0, hz1, hz2⟩ := HI.out
    go_wp2_with (at_builtin; refine wpList_append_own _ rfl _ _ 38 rfl w.heap.size 61 i0 _ 2 16 Tryz.underlying38 hi hz0 hz1 hz2 rfl (by decide) _ _ _ rfl (HO5.out.alloc _) ⟨w5.heap.size, 0, none⟩ 1 1 (enc2 (p1, p2)) rfl rfl ?a1 ?a2 ?a3 ?a4 ?a5 ?_)
    case a1 =>
     intro t u ht
     first
     | (rw [Addr.add_lit]; exact alloc_new rfl (by rw [Nat.zero_add]; simpa [enc2] using ht))
     | simpa [enc2] using ht
    case a2 => exact fun u hu => enc2p_one _ u hu
    case a3 => unfold maxLen; omega
    case a4 => omega
    case a5 => have := hg5.size; simp; omega
    intro v' w10 hown' hgrow _
    have hal := hg5.alloc (.cells #[.int .i64 p1, .int .i64 p2] 61)
    have ho3 := HO5.out.alloc (.cells #[.int .i64 p1, .int .i64 p2] 61)
    have hgf : Gr w w10 := Below.grown hal hgrow hal.size (fun t ht => (ho3.lt t ht).1)
    have hown5 : w10.ownsRow w.heap.size 61 2 v' (j + 1) (flatE enc2 ((ps.take (i + 1)).filter Q)) := by
     rw [HSK.out, flatE_app]; simpa [flatE] using hown'
    obtain ⟨A8, c8, rfl, -, -, -⟩ := own_row enc2p_len HJ.out.1 hown5
    have HO8 := Lib.hid hown5
    clear hi hz0 hz1 hz2 hown' hgrow hal ho3 hown5 k0 k1
    go_wp2_with fail
    go_roundw
    case rel => exact ⟨i + 1, A8, j + 1, c8, by omega, by go_num, rfl, HJ, HO8, hgf⟩
    case measure => simp [intOf]; omega
  ·obtain rfl : i = n := by omega
   have htk : ps.take i = ps := List.take_of_length_le (by rw [HN.out]; exact Nat.le_refl _)
   rw [htk] at hown hj
   rw [← HQ.out] at hown hj
   clear htk
   go_wp2_with fail
   go_ret
   obtain ⟨A7, c7, e, h1, h2, -⟩ := own_row enc2p_len hj.out.1 hown.out
   injection e with e1 _ e2
   exact ⟨A9, c9, by rw [hj.out.1]; rfl, by rw [e1]; exact h2, hgr, by rw [hj.out.1, e2]; exact h1⟩

end Go.Proofs.YtnoeiocbmhkmeaaGreat
