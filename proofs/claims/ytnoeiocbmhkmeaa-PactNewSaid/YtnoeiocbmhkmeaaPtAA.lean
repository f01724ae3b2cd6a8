/- Layer 5: a net's site handles a letter. -/
import Derived.Test.YtnoeiocbmhkmeaaPtZ
namespace Go.Proofs.Ytnoeiocbmhkmeaa
open Go.RowKit
set_option linter.unusedSimpArgs false

set_option maxRecDepth 100000 in
set_option maxHeartbeats 4000000 in
theorem netHandle_any {B : Nat} {w : World} {N : Nx} {k : Nat} {s : Sx} (m : Ml) (Q : Sx → List Ml → Prop) (h : NetR B w N) (hml : N.mail.length ≤ 1024) (hk : N.sites[k]? = some s) (hto : m.2.1 = (k : Int)) (hup : s.up = true)
    (hq : ∀ s' l, Q s' l → l.length ≤ 1024)
    (HC : ∀ W, Gr w W → Calls Try.prog 62 #[.pointer (some ⟨s.p, 0, none⟩), .agg #[.int .i64 m.1, .int .i64 m.2.1, .int .i64 m.2.2.1, .int .i64 m.2.2.2.1, .int .i64 m.2.2.2.2]] W (fun e w' => ∃ s' l, Q s' l ∧ StepP B W s s' l e w')) :
    Calls Try.prog 52 #[.pointer (some ⟨N.p, 0, none⟩), .agg #[.int .i64 m.1, .int .i64 m.2.1, .int .i64 m.2.2.1, .int .i64 m.2.2.2.1, .int .i64 m.2.2.2.2]] w
      (fun e w' => e = .returned (.tuple #[]) ∧ ∃ s' l lv', Q s' l ∧ NetTo B w N { N with sites := N.sites.set k s', mail := N.mail ++ l.take (1024 - N.mail.length), lv := lv' } w') := by
  obtain ⟨f, t, kd, tx, n⟩ := m
  dsimp only at hto HC ⊢
  subst hto
  have HCC := Lib.hid HC
  have HQ := Lib.hid hq
  have HH := Lib.hid h
  have HK := Lib.hid hk
  have HML := Lib.hid hml
  have hkn : k < N.sites.length := (List.getElem?_eq_some_iff.1 hk).1
  have hki : (k : Int) < (N.sites.length : Int) := by omega
  have hk0 : (0 : Int) ≤ (k : Int) := by omega
  have n0 := h.blk.cell 0
  obtain ⟨b, off, c, e1, nb⟩ := h.spot5 hk
  simp only [List.getElem?_toArray, List.getElem?_cons_zero] at n0
  rw [e1] at n0
  have hu : w.cell? ⟨s.p, 2, none⟩ = some (.bool true) := by rw [← hup]; exact (h.site (List.mem_of_getElem? hk)).cell 2
  generalize N.sites.length = q at n0 hki hkn
  clear HC hq h hk e1 hml hup
  go_enter Try.func52, Try.ntmps52
  go_upto_region 1 with fail
  generalize hW1 : World.alloc w _ = w1
  have hg1 : Gr w w1 := by rw [← hW1]; exact (Gr.refl w).alloc _
  have hbk : Blk w1 w.heap.size 87 #[.int .i64 f, .int .i64 (k : Int), .int .i64 kd, .int .i64 tx, .int .i64 n] := by rw [← hW1]; exact Blk.new w _ _ rfl
  generalize w.heap.size = U at hbk ⊢
  have HB := Lib.hid hbk
  have u1 : w1.cell? ⟨U, 1, none⟩ = some (.int .i64 (k : Int)) := hbk.cell 1
  replace n0 := hg1.keep n0
  replace nb := hg1.keep nb
  replace hu := hg1.keep hu
  clear hW1 hbk
  refine wp_region_held_drew (S := (fun W' => W'.cell? ⟨N.p, 0, none⟩ = some (.slice (some ⟨b, off, none⟩) q c) ∧ W'.cell? ⟨U, 1, none⟩ = some (.int .i64 (k : Int)) ∧ W'.cell? ⟨b, off + k, none⟩ = some (.pointer (some ⟨s.p, 0, none⟩)))) ?_ ?_ (fun hHeld => ?_)
  · kernel_rfl
  · ((try dsimp only); ((try go_split_ands); (repeat' apply And.intro) <;> (repeat (first | assumption | (exact Gr.refl _) | (refine Gr.drew ?_) | (refine Gr.alloc ?_ _) | (refine alloc_old ?_) | (refine Gr.keep (by assumption) ?_) | (refine Gr.trans ?_ (by assumption))))))
  refine take_in (i := 0) (v := ?_) (d := (some 5)) rfl rfl ?_ ?_ ?_ ?_ ?_ ?_ ?_ ?_
  rotate_left
  · kernel_rfl
  · kernel_rfl
  · kernel_rfl
  · (intro _ _ _ hq; exact hq)
  · rfl
  · (intro _w hSw; (try dsimp only at hSw); go_simp; try with_reducible rfl)
  · assumption
  try simp only [Act.put, List.setIfInBounds_toArray, List.set_cons_zero, List.set_cons_succ]
  refine take_in (i := 1) (v := ?_) (d := (some 6)) rfl rfl ?_ ?_ ?_ ?_ ?_ ?_ ?_ ?_
  rotate_left
  · kernel_rfl
  · kernel_rfl
  · kernel_rfl
  · (intro _ _ _ hq; exact hq)
  · rfl
  · (intro _w hSw; (try dsimp only at hSw); go_simp; try with_reducible rfl)
  · assumption
  try simp only [Act.put, List.setIfInBounds_toArray, List.set_cons_zero, List.set_cons_succ]
  refine take_in (i := 2) (v := ?_) (d := (some 7)) rfl rfl ?_ ?_ ?_ ?_ ?_ ?_ ?_ ?_
  rotate_left
  · kernel_rfl
  · kernel_rfl
  · kernel_rfl
  · (intro _ _ _ hq; exact hq)
  · rfl
  · (intro _w hSw; (try dsimp only at hSw); go_simp; try with_reducible rfl)
  · assumption
  try simp only [Act.put, List.setIfInBounds_toArray, List.set_cons_zero, List.set_cons_succ]
  refine take_in (i := 3) (v := ?_) (d := (some 8)) rfl rfl ?_ ?_ ?_ ?_ ?_ ?_ ?_ ?_
  rotate_left
  · kernel_rfl
  · kernel_rfl
  · kernel_rfl
  · (intro _ _ _ hq; exact hq)
  · rfl
  · (intro _w hSw; (try dsimp only at hSw); go_simp; try with_reducible rfl)
  · assumption
  try simp only [Act.put, List.setIfInBounds_toArray, List.set_cons_zero, List.set_cons_succ]
  refine take_in (i := 4) (v := ?_) (d := (some 9)) rfl rfl ?_ ?_ ?_ ?_ ?_ ?_ ?_ ?_
  rotate_left
  · kernel_rfl
  · kernel_rfl
  · kernel_rfl
  · (intro _ _ _ hq; exact hq)
  · rfl
  · (intro _w hSw; (try dsimp only at hSw); go_simp; try with_reducible rfl)
  · assumption
  try simp only [Act.put, List.setIfInBounds_toArray, List.set_cons_zero, List.set_cons_succ]
  refine take_in (i := 5) (v := ?_) (d := (some 10)) rfl rfl ?_ ?_ ?_ ?_ ?_ ?_ ?_ ?_
  rotate_left
  · kernel_rfl
  · kernel_rfl
  · kernel_rfl
  · (intro _ _ _ hq; exact hq)
  · rfl
  · (intro _w hSw; (try dsimp only at hSw); go_simp; try with_reducible rfl)
  · assumption
  try simp only [Act.put, List.setIfInBounds_toArray, List.set_cons_zero, List.set_cons_succ]
  refine take_in (i := 6) (v := ?_) (d := (some 11)) rfl rfl ?_ ?_ ?_ ?_ ?_ ?_ ?_ ?_
  rotate_left
  · kernel_rfl
  · kernel_rfl
  · kernel_rfl
  · (intro _ _ _ hq; exact hq)
  · rfl
  · (intro _w hSw; (try dsimp only at hSw); go_simp; try with_reducible rfl)
  · assumption
  try simp only [Act.put, List.setIfInBounds_toArray, List.set_cons_zero, List.set_cons_succ]
  refine take_in (i := 7) (v := ?_) (d := (some 12)) rfl rfl ?_ ?_ ?_ ?_ ?_ ?_ ?_ ?_
  rotate_left
  · kernel_rfl
  · kernel_rfl
  · kernel_rfl
  · (intro _ _ _ hq; exact hq)
  · rfl
  · (intro _w hSw; (try dsimp only at hSw); go_simp; try with_reducible rfl)
  · assumption
  try simp only [Act.put, List.setIfInBounds_toArray, List.set_cons_zero, List.set_cons_succ]
  refine take_in (i := 8) (v := ?_) (d := (some 4)) rfl rfl ?_ ?_ ?_ ?_ ?_ ?_ ?_ ?_
  rotate_left
  · kernel_rfl
  · kernel_rfl
  · kernel_rfl
  · (intro _ _ _ hq; exact hq)
  · rfl
  · (intro _w hSw; (try dsimp only at hSw); go_simp; try with_reducible rfl)
  · assumption
  try simp only [Act.put, List.setIfInBounds_toArray, List.set_cons_zero, List.set_cons_succ]
  refine wpAnyH_done ?_ ?_ _
  · kernel_rfl
  rotate_left
  all_goals
    have hd := (Gr.refl w1).drew
    have hgr := hg1.trans hd
    have HB2 := Lib.hid (HB.out.keep hd)
    have u2 := hd.keep hu
    generalize World.drew w1 = w2 at hgr HB2 u2 ⊢
    clear hHeld n0 nb hu u1 hd hg1 HB
    have b0 : w2.cell? ⟨U, 0, none⟩ = some (.int .i64 f) := HB2.out.cell 0
    have b1 : w2.cell? ⟨U, 1, none⟩ = some (.int .i64 (k : Int)) := HB2.out.cell 1
    have b2 : w2.cell? ⟨U, 2, none⟩ = some (.int .i64 kd) := HB2.out.cell 2
    have b3 : w2.cell? ⟨U, 3, none⟩ = some (.int .i64 tx) := HB2.out.cell 3
    have b4 : w2.cell? ⟨U, 4, none⟩ = some (.int .i64 n) := HB2.out.cell 4
    go_wp2_with fail
    refine (HCC.out _ hgr).mono ?_
    rintro e w3 ⟨s', l, hql, hst⟩
    obtain ⟨⟨A, c3, rfl, hr, hcl⟩, hi, hch, hp, hbk⟩ := hst
    have HN3 := Lib.hid ((HH.out.keep hgr).step HK.out hi hch hp hbk)
    have HS := Lib.hid (send5_any A l.length c3 l w3 HN3.out.net rfl (HQ.out _ _ hql) hcl HML.out hr)
    have HQL := Lib.hid hql
    clear b0 b1 b2 b3 b4 u2 hi hch hp hbk hr hcl hql
    go_wp2_with fail
    refine HS.out.mono ?_
    rintro e w4 ⟨rfl, lv', hto⟩
    have HF := Lib.hid (NetTo.trans (NetTo.pre HN3.out hgr) hto)
    clear hto
    go_wp2_with fail
    exact end0p (by rfl) (by rfl) ⟨rfl, s', l, lv', HQL.out, HF.out⟩

end Go.Proofs.Ytnoeiocbmhkmeaa
