/- Layer 5: a site is asked. -/
import Derived.Test.YtnoeiocbmhkmeaaPtX
namespace Go.Proofs.Ytnoeiocbmhkmeaa
open Go.RowKit
set_option linter.unusedSimpArgs false

section
variable {B : Nat} {w w1 w2 : World} {s : Sx}
theorem siteProm {l : List (Int × (Int × Int))} (h : Its B w (siteIt s)) (hb : Gb s.mp w w1) (hm : Mp Try.prog 3 intK promV w1 s.mp l) : Its B w1 (siteIt { s with prom := l }) := by
  have h2 : Its B w ([(s.p, .cells 81 (siteCs s))] ++ [(s.mp, .proms s.prom)] ++ ([(s.mq, .bools s.kept), (s.mr, .bools s.drop), (s.mo, .deals s.opn), (s.mg, .deals s.grt)] ++ (s.opn.flatMap dlIt ++ s.grt.flatMap dlIt))) := by
    unfold siteIt at h; simpa using h
  have h3 := h2.turn (D' := .proms l) hb hm
  unfold siteIt; exact h3
theorem siteKept {l : List (Int × Bool)} (h : Its B w (siteIt s)) (hb : Gb s.mq w w1) (hm : Mp Try.prog 3 intK boolV w1 s.mq l) : Its B w1 (siteIt { s with kept := l }) := by
  have h2 : Its B w ([(s.p, .cells 81 (siteCs s)), (s.mp, .proms s.prom)] ++ [(s.mq, .bools s.kept)] ++ ([(s.mr, .bools s.drop), (s.mo, .deals s.opn), (s.mg, .deals s.grt)] ++ (s.opn.flatMap dlIt ++ s.grt.flatMap dlIt))) := by
    unfold siteIt at h; simpa using h
  have h3 := h2.turn (D' := .bools l) hb hm
  unfold siteIt; exact h3
theorem siteDrop {l : List (Int × Bool)} (h : Its B w (siteIt s)) (hb : Gb s.mr w w1) (hm : Mp Try.prog 3 intK boolV w1 s.mr l) : Its B w1 (siteIt { s with drop := l }) := by
  have h2 : Its B w ([(s.p, .cells 81 (siteCs s)), (s.mp, .proms s.prom), (s.mq, .bools s.kept)] ++ [(s.mr, .bools s.drop)] ++ ([(s.mo, .deals s.opn), (s.mg, .deals s.grt)] ++ (s.opn.flatMap dlIt ++ s.grt.flatMap dlIt))) := by
    unfold siteIt at h; simpa using h
  have h3 := h2.turn (D' := .bools l) hb hm
  unfold siteIt; exact h3
theorem siteBlk_same {s' : Sx} (h : blks (siteIt s') = blks (siteIt s)) : ∀ g ∈ blks (siteIt s'), g ∈ blks (siteIt s) ∨ w.heap.size ≤ g := fun g hg => Or.inl (by rw [← h]; exact hg)
/-- A step that ends with letters in new memory. -/
theorem StepP.of {s' : Sx} {l : List Ml} {e : Ending} (hi : Its B w1 (siteIt s')) (hc : Ch (blks (siteIt s)) w w1) (hp : s'.p = s.p) (hb : ∀ g ∈ blks (siteIt s'), g ∈ blks (siteIt s) ∨ w.heap.size ≤ g) (hl : LetP l w1 e w2) : StepP B w s s' l e w2 := by
  obtain ⟨A, c, rfl, hr, hg, hcl⟩ := hl
  exact ⟨⟨A, c, rfl, hr, hcl⟩, hi.keep hg, hc.gr hg, hp, hb⟩
end
theorem LetP_nil (w : World) : LetP [] w (.returned (.slice none 0 0)) w := ⟨none, 0, rfl, Rd_nil _ _, Gr.refl _, Nat.le_refl _⟩
theorem outS_cases (s : Sx) (tx : Int) : outS s tx = 0 ∨ outS s tx = 1 ∨ outS s tx = 2 ∨ outS s tx = 3 := by
  unfold outS; repeat' split
  all_goals omega
def askS (s : Sx) (m : Ml) : Sx := if outS s m.2.2.2.1 ≠ 0 then s else if posS s m.2.2.2.2 then { s with prom := mput s.prom m.2.2.2.1 (m.1, m.2.2.2.2) } else { s with drop := mput s.drop m.2.2.2.1 true }
def askL (s : Sx) (m : Ml) : List Ml := if outS s m.2.2.2.1 = 1 then [repL s m 2] else if outS s m.2.2.2.1 = 2 then [] else if outS s m.2.2.2.1 = 3 then [repL s m 3] else if posS s m.2.2.2.2 then [repL s m 2] else [repL s m 3]

set_option maxRecDepth 100000 in
set_option maxHeartbeats 8000000 in
theorem ask_any {B : Nat} {s : Sx} (m : Ml) (w : World) (h : Its B w (siteIt s)) (htx : I64 m.2.2.2.1) (hs : 0 ≤ s.stock ∧ s.stock ≤ 1099511627776) (hc : -1099511627776 ≤ m.2.2.2.2 ∧ m.2.2.2.2 ≤ 1099511627776) (hb : PrB s.prom) :
    Calls Try.prog 69 #[.pointer (some ⟨s.p, 0, none⟩), .agg #[.int .i64 m.1, .int .i64 m.2.1, .int .i64 m.2.2.1, .int .i64 m.2.2.2.1, .int .i64 m.2.2.2.2]] w (StepP B w s (askS s m) (askL s m)) := by
  obtain ⟨f, t, kd, tx, n⟩ := m
  dsimp only at htx hc ⊢
  obtain ⟨kl, hkl⟩ := intp_key htx
  have HAS : Hid (askS s (f, t, kd, tx, n) = if outS s tx ≠ 0 then s else if posS s n then { s with prom := mput s.prom tx (f, n) } else { s with drop := mput s.drop tx true }) := Lib.hid rfl
  have HAL : Hid (askL s (f, t, kd, tx, n) = if outS s tx = 1 then [repL s (f, t, kd, tx, n) 2] else if outS s tx = 2 then [] else if outS s tx = 3 then [repL s (f, t, kd, tx, n) 3] else if posS s n then [repL s (f, t, kd, tx, n) 2] else [repL s (f, t, kd, tx, n) 3]) := Lib.hid rfl
  generalize askS s (f, t, kd, tx, n) = s1 at HAS ⊢
  generalize askL s (f, t, kd, tx, n) = l1 at HAL ⊢
  have HO := Lib.hid (fun W (hW : Gr w W) => outcome_any tx W (h.keep hW) htx)
  have HPS := Lib.hid (fun W (hW : Gr w W) => possible5_any n W (h.keep hW) hs hc hb)
  have HR := Lib.hid (fun (s' : Sx) (k : Int) W (hI : Its B W (siteIt s')) => reply_any (s := s') (f, t, kd, tx, n) k W hI)
  have HH := Lib.hid h
  have c3 := h.sCells.2.2.2.1
  have c5 := h.sCells.2.2.2.2.2.1
  have hlt : s.p < w.heap.size := (h.lt (g := s.p) (by simp [siteIt, blks])).1
  have hne1 : s.p ≠ s.mp := h.ne (i := 0) (j := 1) (by omega) rfl rfl
  have hne3 : s.p ≠ s.mr := h.ne (i := 0) (j := 3) (by omega) rfl rfl
  have hmp : s.mp < w.heap.size := h.sProm.lt
  have hmr : s.mr < w.heap.size := h.sDrop.lt
  clear htx hs hc hb h
  have HLT := Lib.hid (And.intro hlt (And.intro hne1 (And.intro hne3 (And.intro hmp hmr))))
  clear hlt hne1 hne3 hmp hmr
  go_enter Try.func69, Try.ntmps69
  go_upto_region 1 with fail
  generalize hW1 : World.alloc w _ = w1
  have hg1 : Gr w w1 := by rw [← hW1]; exact (Gr.refl w).alloc _
  have hbk : Blk w1 w.heap.size 87 #[.int .i64 f, .int .i64 t, .int .i64 kd, .int .i64 tx, .int .i64 n] := by rw [← hW1]; exact Blk.new w _ _ rfl
  obtain ⟨U, hU⟩ : ∃ U, w.heap.size = U := ⟨_, rfl⟩
  rw [hU] at hbk ⊢
  have HU := Lib.hid hU
  have HB := Lib.hid hbk
  clear hW1 hbk hU
  have b3 : w1.cell? ⟨U, 3, none⟩ = some (.int .i64 tx) := HB.out.cell 3
  go_wp2_with fail
  refine (HO.out _ hg1).mono ?_
  rintro e w2 ⟨rfl, hg2⟩
  have hgr2 := hg1.trans hg2
  have HB2 := Lib.hid (HB.out.keep hg2)
  clear b3 hg1 hg2 HB
  have b0 : w2.cell? ⟨U, 0, none⟩ = some (.int .i64 f) := HB2.out.cell 0
  have b1 : w2.cell? ⟨U, 1, none⟩ = some (.int .i64 t) := HB2.out.cell 1
  have b2 : w2.cell? ⟨U, 2, none⟩ = some (.int .i64 kd) := HB2.out.cell 2
  have b3 : w2.cell? ⟨U, 3, none⟩ = some (.int .i64 tx) := HB2.out.cell 3
  have b4 : w2.cell? ⟨U, 4, none⟩ = some (.int .i64 n) := HB2.out.cell 4
  have HI2 := Lib.hid (HH.out.keep hgr2)
  rcases outS_cases s tx with h0 | h0 | h0 | h0
  · rw [h0]
    go_wp2_with fail
    refine (HPS.out _ hgr2).mono ?_
    rintro e w3 ⟨rfl, hg3⟩
    have hgr3 := hgr2.trans hg3
    have HB3 := Lib.hid (HB2.out.keep hg3)
    have HI3 := Lib.hid (HH.out.keep hgr3)
    replace b0 := hg3.keep b0
    replace b1 := hg3.keep b1
    replace b2 := hg3.keep b2
    replace b3 := hg3.keep b3
    replace b4 := hg3.keep b4
    replace c3 := hgr3.keep c3
    replace c5 := hgr3.keep c5
    clear hg3
    cases hp : posS s n with
    | false =>
      have HS1 : Hid (s1 = { s with drop := mput s.drop tx true }) := Lib.hid (by rw [HAS.out, if_neg (by omega), hp]; rfl)
      have HL1 : Hid (l1 = [repL s (f, t, kd, tx, n) 3]) := Lib.hid (by rw [HAL.out, if_neg (by omega), if_neg (by omega), if_neg (by omega), hp]; rfl)
      clear h0 hp
      have HMM := Lib.hid ((HI3.out.keep (Gr.refl w3).drew).sDrop)
      have HLS : Hid ((s.p < w3.drew.heap.size ∧ s.p ≠ s.mr) ∧ (U < w3.drew.heap.size ∧ U ≠ s.mr)) := Lib.hid (by have h1 := HLT.out; have h2 := HU.out; have h3 := hgr3.size; have h4 := HB3.out.lt; exact ⟨⟨by show s.p < w3.heap.size; omega, h1.2.2.1⟩, h4, by omega⟩)
      go_upto_region 9 with fail
      refine wp_region_held_drew (S := (fun W' => W'.cell? ⟨s.p, 5, none⟩ = some (.map (some s.mr)) ∧ W'.cell? ⟨U, 0, none⟩ = some (.int .i64 f) ∧ W'.cell? ⟨U, 3, none⟩ = some (.int .i64 tx) ∧ W'.cell? ⟨U, 4, none⟩ = some (.int .i64 n))) ?_ ?_ (fun hHeld => ?_)
      · kernel_rfl
      · ((try dsimp only); ((try go_split_ands); (repeat' apply And.intro) <;> (repeat (first | assumption | (exact Gr.refl _) | (refine Gr.drew ?_) | (refine Gr.alloc ?_ _) | (refine alloc_old ?_) | (refine Gr.keep (by assumption) ?_) | (refine Gr.trans ?_ (by assumption))))))
      refine take_in (i := 0) (v := ?_) (d := (some 26)) rfl rfl ?_ ?_ ?_ ?_ ?_ ?_ ?_ ?_
      rotate_left
      · kernel_rfl
      · kernel_rfl
      · kernel_rfl
      · (intro _ _ _ hq; exact hq)
      · rfl
      · (intro _w hSw; (try dsimp only at hSw); go_simp; try with_reducible rfl)
      · assumption
      try simp only [Act.put, List.setIfInBounds_toArray, List.set_cons_zero, List.set_cons_succ]
      refine take_in (i := 1) (v := ?_) (d := (some 27)) rfl rfl ?_ ?_ ?_ ?_ ?_ ?_ ?_ ?_
      rotate_left
      · kernel_rfl
      · kernel_rfl
      · kernel_rfl
      · (intro _ _ _ hq; exact hq)
      · rfl
      · (intro _w hSw; (try dsimp only at hSw); go_simp; try with_reducible rfl)
      · assumption
      try simp only [Act.put, List.setIfInBounds_toArray, List.set_cons_zero, List.set_cons_succ]
      refine take_in (i := 2) (v := ?_) (d := (some 28)) rfl rfl ?_ ?_ ?_ ?_ ?_ ?_ ?_ ?_
      rotate_left
      · kernel_rfl
      · kernel_rfl
      · kernel_rfl
      · (intro _ _ _ hq; exact hq)
      · rfl
      · (intro _w hSw; (try dsimp only at hSw); go_simp; try with_reducible rfl)
      · assumption
      try simp only [Act.put, List.setIfInBounds_toArray, List.set_cons_zero, List.set_cons_succ]
      refine take_in (i := 3) (v := ?_) (d := (some 29)) rfl rfl ?_ ?_ ?_ ?_ ?_ ?_ ?_ ?_
      rotate_left
      · kernel_rfl
      · kernel_rfl
      · kernel_rfl
      · (intro _ _ _ hq; exact hq)
      · rfl
      · (intro _w hSw; (try dsimp only at hSw); go_simp; try with_reducible rfl)
      · assumption
      try simp only [Act.put, List.setIfInBounds_toArray, List.set_cons_zero, List.set_cons_succ]
      refine take_in (i := 4) (v := ?_) (d := (some 30)) rfl rfl ?_ ?_ ?_ ?_ ?_ ?_ ?_ ?_
      rotate_left
      · kernel_rfl
      · kernel_rfl
      · kernel_rfl
      · (intro _ _ _ hq; exact hq)
      · rfl
      · (intro _w hSw; (try dsimp only at hSw); go_simp; try with_reducible rfl)
      · assumption
      try simp only [Act.put, List.setIfInBounds_toArray, List.set_cons_zero, List.set_cons_succ]
      refine take_in (i := 5) (v := ?_) (d := (some 31)) rfl rfl ?_ ?_ ?_ ?_ ?_ ?_ ?_ ?_
      rotate_left
      · kernel_rfl
      · kernel_rfl
      · kernel_rfl
      · (intro _ _ _ hq; exact hq)
      · rfl
      · (intro _w hSw; (try dsimp only at hSw); go_simp; try with_reducible rfl)
      · assumption
      try simp only [Act.put, List.setIfInBounds_toArray, List.set_cons_zero, List.set_cons_succ]
      refine wpAnyH_ready (rs := [6]) ?_ ?_ ?_
      · kernel_rfl
      · simp
      refine (AllReadyH.cons rfl (fun K hK => ?_) AllReadyH.nil)
      first | (refine held_update (by rfl) (.tmp 29) (.tmp 31) (.const (.bool true)) _ (by rfl) HMM.out intK_inj intp_law _ Try.underlying78 tx true kl hkl (by rfl) (by rfl) (by rfl) (by rfl) ?_; intro w5 hm5 hb5; have y0 := gb_cell5 hb5 hHeld.1 HLS.out.1.1 HLS.out.1.2; have y1 := gb_cell5 hb5 hHeld.2.1 HLS.out.2.1 HLS.out.2.2; have y2 := gb_cell5 hb5 hHeld.2.2.1 HLS.out.2.1 HLS.out.2.2; have y3 := gb_cell5 hb5 hHeld.2.2.2 HLS.out.2.1 HLS.out.2.2; have HM5 := Lib.hid hm5; have HB5 := Lib.hid hb5; clear hm5 hb5)
      refine hK.out _ _ ?_ (fun hHeld => ?_)
      · ((try dsimp only); ((try go_split_ands); (repeat' apply And.intro) <;> (repeat (first | assumption | (exact Gr.refl _) | (refine Gr.drew ?_) | (refine Gr.alloc ?_ _) | (refine alloc_old ?_) | (refine Gr.keep (by assumption) ?_) | (refine Gr.trans ?_ (by assumption))))))
      clear hK K
      try simp only [Act.put, List.setIfInBounds_toArray, List.set_cons_zero, List.set_cons_succ]
      refine wpAnyH_done ?_ ?_ _
      · kernel_rfl
      rotate_left
      all_goals
        have HI5 := Lib.hid (siteDrop (HI3.out.keep (Gr.refl w3).drew) HB5.out HM5.out)
        have HC5 : Hid (Ch (blks (siteIt s)) w w5) := Lib.hid ((Ch.of (hgr3.trans (Gr.refl w3).drew)).trans (Ch.gb HB5.out (by simp [siteIt, blks])) (fun g hg => Or.inl hg))
        have HK5 : Hid (Blk w5 U 87 #[.int .i64 f, .int .i64 t, .int .i64 kd, .int .i64 tx, .int .i64 n]) := Lib.hid ((HB3.out.keep (Gr.refl w3).drew).grown HB5.out (fun e => HLS.out.2.2 (by injection e)))
        clear hHeld y0 y1 y2 y3 b0 b1 b2 b3 b4 c3 c5 hkl
        have b0 : w5.cell? ⟨U, 0, none⟩ = some (.int .i64 f) := HK5.out.cell 0
        have b1 : w5.cell? ⟨U, 1, none⟩ = some (.int .i64 t) := HK5.out.cell 1
        have b2 : w5.cell? ⟨U, 2, none⟩ = some (.int .i64 kd) := HK5.out.cell 2
        have b3 : w5.cell? ⟨U, 3, none⟩ = some (.int .i64 tx) := HK5.out.cell 3
        have b4 : w5.cell? ⟨U, 4, none⟩ = some (.int .i64 n) := HK5.out.cell 4
        go_wp2_with fail
        refine (HR.out _ 3 w5 HI5.out).mono ?_
        intro e w6 hlet
        have HF : Hid (StepP B w s s1 l1 e w6) := Lib.hid (by rw [HS1.out, HL1.out]; exact StepP.of HI5.out HC5.out rfl (fun g hg => Or.inl hg) hlet)
        obtain ⟨A, c, rfl, -⟩ := HF.out.let5
        clear hlet b0 b1 b2 b3 b4
        go_wp2_with fail
        go_ret
        exact HF.out
    | true =>
      have HS1 : Hid (s1 = { s with prom := mput s.prom tx (f, n) }) := Lib.hid (by rw [HAS.out, if_neg (by omega), hp]; rfl)
      have HL1 : Hid (l1 = [repL s (f, t, kd, tx, n) 2]) := Lib.hid (by rw [HAL.out, if_neg (by omega), if_neg (by omega), if_neg (by omega), hp]; rfl)
      clear h0 hp
      have HMM := Lib.hid ((HI3.out.keep (Gr.refl w3).drew).sProm)
      have HLS : Hid ((s.p < w3.drew.heap.size ∧ s.p ≠ s.mp) ∧ (U < w3.drew.heap.size ∧ U ≠ s.mp)) := Lib.hid (by have h1 := HLT.out; have h2 := HU.out; have h3 := hgr3.size; have h4 := HB3.out.lt; exact ⟨⟨by show s.p < w3.heap.size; omega, h1.2.1⟩, h4, by omega⟩)
      go_upto_region 11 with fail
      refine wp_region_held_drew (S := (fun W' => W'.cell? ⟨s.p, 3, none⟩ = some (.map (some s.mp)) ∧ W'.cell? ⟨U, 0, none⟩ = some (.int .i64 f) ∧ W'.cell? ⟨U, 3, none⟩ = some (.int .i64 tx) ∧ W'.cell? ⟨U, 4, none⟩ = some (.int .i64 n))) ?_ ?_ (fun hHeld => ?_)
      · kernel_rfl
      · ((try dsimp only); ((try go_split_ands); (repeat' apply And.intro) <;> (repeat (first | assumption | (exact Gr.refl _) | (refine Gr.drew ?_) | (refine Gr.alloc ?_ _) | (refine alloc_old ?_) | (refine Gr.keep (by assumption) ?_) | (refine Gr.trans ?_ (by assumption))))))
      refine take_in (i := 0) (v := ?_) (d := (some 35)) rfl rfl ?_ ?_ ?_ ?_ ?_ ?_ ?_ ?_
      rotate_left
      · kernel_rfl
      · kernel_rfl
      · kernel_rfl
      · (intro _ _ _ hq; exact hq)
      · rfl
      · (intro _w hSw; (try dsimp only at hSw); go_simp; try with_reducible rfl)
      · assumption
      try simp only [Act.put, List.setIfInBounds_toArray, List.set_cons_zero, List.set_cons_succ]
      refine take_in (i := 1) (v := ?_) (d := (some 36)) rfl rfl ?_ ?_ ?_ ?_ ?_ ?_ ?_ ?_
      rotate_left
      · kernel_rfl
      · kernel_rfl
      · kernel_rfl
      · (intro _ _ _ hq; exact hq)
      · rfl
      · (intro _w hSw; (try dsimp only at hSw); go_simp; try with_reducible rfl)
      · assumption
      try simp only [Act.put, List.setIfInBounds_toArray, List.set_cons_zero, List.set_cons_succ]
      refine take_in (i := 2) (v := ?_) (d := (some 37)) rfl rfl ?_ ?_ ?_ ?_ ?_ ?_ ?_ ?_
      rotate_left
      · kernel_rfl
      · kernel_rfl
      · kernel_rfl
      · (intro _ _ _ hq; exact hq)
      · rfl
      · (intro _w hSw; (try dsimp only at hSw); go_simp; try with_reducible rfl)
      · assumption
      try simp only [Act.put, List.setIfInBounds_toArray, List.set_cons_zero, List.set_cons_succ]
      refine take_in (i := 3) (v := ?_) (d := (some 38)) rfl rfl ?_ ?_ ?_ ?_ ?_ ?_ ?_ ?_
      rotate_left
      · kernel_rfl
      · kernel_rfl
      · kernel_rfl
      · (intro _ _ _ hq; exact hq)
      · rfl
      · (intro _w hSw; (try dsimp only at hSw); go_simp; try with_reducible rfl)
      · assumption
      try simp only [Act.put, List.setIfInBounds_toArray, List.set_cons_zero, List.set_cons_succ]
      refine take_in (i := 4) (v := ?_) (d := (some 39)) rfl rfl ?_ ?_ ?_ ?_ ?_ ?_ ?_ ?_
      rotate_left
      · kernel_rfl
      · kernel_rfl
      · kernel_rfl
      · (intro _ _ _ hq; exact hq)
      · rfl
      · (intro _w hSw; (try dsimp only at hSw); go_simp; try with_reducible rfl)
      · assumption
      try simp only [Act.put, List.setIfInBounds_toArray, List.set_cons_zero, List.set_cons_succ]
      refine take_in (i := 5) (v := ?_) (d := (some 40)) rfl rfl ?_ ?_ ?_ ?_ ?_ ?_ ?_ ?_
      rotate_left
      · kernel_rfl
      · kernel_rfl
      · kernel_rfl
      · (intro _ _ _ hq; exact hq)
      · rfl
      · (intro _w hSw; (try dsimp only at hSw); go_simp; try with_reducible rfl)
      · assumption
      try simp only [Act.put, List.setIfInBounds_toArray, List.set_cons_zero, List.set_cons_succ]
      refine take_in (i := 6) (v := ?_) (d := (some 41)) rfl rfl ?_ ?_ ?_ ?_ ?_ ?_ ?_ ?_
      rotate_left
      · kernel_rfl
      · kernel_rfl
      · kernel_rfl
      · (intro _ _ _ hq; exact hq)
      · rfl
      · (intro _w hSw; (try dsimp only at hSw); go_simp; try with_reducible rfl)
      · assumption
      try simp only [Act.put, List.setIfInBounds_toArray, List.set_cons_zero, List.set_cons_succ]
      refine take_in (i := 7) (v := ?_) (d := (some 42)) rfl rfl ?_ ?_ ?_ ?_ ?_ ?_ ?_ ?_
      rotate_left
      · kernel_rfl
      · kernel_rfl
      · kernel_rfl
      · (intro _ _ _ hq; exact hq)
      · rfl
      · (intro _w hSw; (try dsimp only at hSw); go_simp; try with_reducible rfl)
      · assumption
      try simp only [Act.put, List.setIfInBounds_toArray, List.set_cons_zero, List.set_cons_succ]
      refine take_in (i := 8) (v := ?_) (d := (some 43)) rfl rfl ?_ ?_ ?_ ?_ ?_ ?_ ?_ ?_
      rotate_left
      · kernel_rfl
      · kernel_rfl
      · kernel_rfl
      · (intro _ _ _ hq; exact hq)
      · rfl
      · (intro _w hSw; (try dsimp only at hSw); go_simp; try with_reducible rfl)
      · assumption
      try simp only [Act.put, List.setIfInBounds_toArray, List.set_cons_zero, List.set_cons_succ]
      refine take_in (i := 9) (v := ?_) (d := (some 44)) rfl rfl ?_ ?_ ?_ ?_ ?_ ?_ ?_ ?_
      rotate_left
      · kernel_rfl
      · kernel_rfl
      · kernel_rfl
      · (intro _ _ _ hq; exact hq)
      · rfl
      · (intro _w hSw; (try dsimp only at hSw); go_simp; try with_reducible rfl)
      · assumption
      try simp only [Act.put, List.setIfInBounds_toArray, List.set_cons_zero, List.set_cons_succ]
      refine take_in (i := 10) (v := ?_) (d := (some 45)) rfl rfl ?_ ?_ ?_ ?_ ?_ ?_ ?_ ?_
      rotate_left
      · kernel_rfl
      · kernel_rfl
      · kernel_rfl
      · (intro _ _ _ hq; exact hq)
      · rfl
      · (intro _w hSw; (try dsimp only at hSw); go_simp; try with_reducible rfl)
      · assumption
      try simp only [Act.put, List.setIfInBounds_toArray, List.set_cons_zero, List.set_cons_succ]
      refine wpAnyH_ready (rs := [11]) ?_ ?_ ?_
      · kernel_rfl
      · simp
      refine (AllReadyH.cons rfl (fun K hK => ?_) AllReadyH.nil)
      first | (refine held_update (by rfl) (.tmp 38) (.tmp 40) (.tmp 45) _ (by rfl) HMM.out intK_inj intp_law _ Try.underlying77 tx (f, n) kl hkl (by rfl) (by rfl) (by rfl) (by rfl) ?_; intro w5 hm5 hb5; have y0 := gb_cell5 hb5 hHeld.1 HLS.out.1.1 HLS.out.1.2; have y1 := gb_cell5 hb5 hHeld.2.1 HLS.out.2.1 HLS.out.2.2; have y2 := gb_cell5 hb5 hHeld.2.2.1 HLS.out.2.1 HLS.out.2.2; have y3 := gb_cell5 hb5 hHeld.2.2.2 HLS.out.2.1 HLS.out.2.2; have HM5 := Lib.hid hm5; have HB5 := Lib.hid hb5; clear hm5 hb5)
      refine hK.out _ _ ?_ (fun hHeld => ?_)
      · ((try dsimp only); ((try go_split_ands); (repeat' apply And.intro) <;> (repeat (first | assumption | (exact Gr.refl _) | (refine Gr.drew ?_) | (refine Gr.alloc ?_ _) | (refine alloc_old ?_) | (refine Gr.keep (by assumption) ?_) | (refine Gr.trans ?_ (by assumption))))))
      clear hK K
      try simp only [Act.put, List.setIfInBounds_toArray, List.set_cons_zero, List.set_cons_succ]
      refine wpAnyH_done ?_ ?_ _
      · kernel_rfl
      rotate_left
      all_goals
        have HI5 := Lib.hid (siteProm (HI3.out.keep (Gr.refl w3).drew) HB5.out HM5.out)
        have HC5 : Hid (Ch (blks (siteIt s)) w w5) := Lib.hid ((Ch.of (hgr3.trans (Gr.refl w3).drew)).trans (Ch.gb HB5.out (by simp [siteIt, blks])) (fun g hg => Or.inl hg))
        have HK5 : Hid (Blk w5 U 87 #[.int .i64 f, .int .i64 t, .int .i64 kd, .int .i64 tx, .int .i64 n]) := Lib.hid ((HB3.out.keep (Gr.refl w3).drew).grown HB5.out (fun e => HLS.out.2.2 (by injection e)))
        clear hHeld y0 y1 y2 y3 b0 b1 b2 b3 b4 c3 c5 hkl
        have b0 : w5.cell? ⟨U, 0, none⟩ = some (.int .i64 f) := HK5.out.cell 0
        have b1 : w5.cell? ⟨U, 1, none⟩ = some (.int .i64 t) := HK5.out.cell 1
        have b2 : w5.cell? ⟨U, 2, none⟩ = some (.int .i64 kd) := HK5.out.cell 2
        have b3 : w5.cell? ⟨U, 3, none⟩ = some (.int .i64 tx) := HK5.out.cell 3
        have b4 : w5.cell? ⟨U, 4, none⟩ = some (.int .i64 n) := HK5.out.cell 4
        go_wp2_with fail
        refine (HR.out _ 2 w5 HI5.out).mono ?_
        intro e w6 hlet
        have HF : Hid (StepP B w s s1 l1 e w6) := Lib.hid (by rw [HS1.out, HL1.out]; exact StepP.of HI5.out HC5.out rfl (fun g hg => Or.inl hg) hlet)
        obtain ⟨A, c, rfl, -⟩ := HF.out.let5
        clear hlet b0 b1 b2 b3 b4
        go_wp2_with fail
        go_ret
        exact HF.out
  · rw [h0]
    have HS1 : Hid (s1 = s) := Lib.hid (by rw [HAS.out, if_pos (by omega)])
    have HL1 : Hid (l1 = [repL s (f, t, kd, tx, n) 2]) := Lib.hid (by rw [HAL.out, if_pos h0])
    clear h0
    go_wp2_with fail
    refine (HR.out s 2 w2 HI2.out).mono ?_
    intro e w3 hlet
    have HF : Hid (StepP B w s s1 l1 e w3) := Lib.hid (by rw [HS1.out, HL1.out]; exact StepP.of HI2.out (Ch.of hgr2) rfl (fun g hg => Or.inl hg) hlet)
    obtain ⟨A, c, rfl, -⟩ := HF.out.let5
    clear hlet b0 b1 b2 b3 b4
    go_wp2_with fail
    go_ret
    exact HF.out
  · rw [h0]
    have HS1 : Hid (s1 = s) := Lib.hid (by rw [HAS.out, if_pos (by omega)])
    have HL1 : Hid (l1 = []) := Lib.hid (by rw [HAL.out, if_neg (by omega), if_pos h0])
    clear h0
    go_wp2_with fail
    go_ret
    rw [HS1.out, HL1.out]
    exact StepP.of HI2.out (Ch.of hgr2) rfl (fun g hg => Or.inl hg) (LetP_nil _)
  · rw [h0]
    have HS1 : Hid (s1 = s) := Lib.hid (by rw [HAS.out, if_pos (by omega)])
    have HL1 : Hid (l1 = [repL s (f, t, kd, tx, n) 3]) := Lib.hid (by rw [HAL.out, if_neg (by omega), if_neg (by omega), if_pos h0])
    clear h0
    go_wp2_with fail
    refine (HR.out s 3 w2 HI2.out).mono ?_
    intro e w3 hlet
    have HF : Hid (StepP B w s s1 l1 e w3) := Lib.hid (by rw [HS1.out, HL1.out]; exact StepP.of HI2.out (Ch.of hgr2) rfl (fun g hg => Or.inl hg) hlet)
    obtain ⟨A, c, rfl, -⟩ := HF.out.let5
    clear hlet b0 b1 b2 b3 b4
    go_wp2_with fail
    go_ret
    exact HF.out

end Go.Proofs.Ytnoeiocbmhkmeaa
