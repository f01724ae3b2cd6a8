/- Where two edges meet; a place that two hulls share. -/
import Derived.Test.YtjkdjfagaakijaaPlace
namespace Go.Proofs.Ytjkdjfagaakijaa
open Go.RowKit
set_option linter.unusedSimpArgs false

/-- (x, y, d) of meeting, from the two double areas. -/
def meetV (s t x y x' y' : Int) : Int × Int × Int :=
  if s < t then (-s * x' - -t * x, -s * y' - -t * y, -s - -t) else (s * x' - t * x, s * y' - t * y, s - t)
def meetP (e f : (Int × Int) × (Int × Int)) : Int × Int × Int :=
  meetV (crs f.1.1 f.1.2 f.2.1 f.2.2 e.1.1 e.1.2) (crs f.1.1 f.1.2 f.2.1 f.2.2 e.2.1 e.2.2) e.1.1 e.1.2 e.2.1 e.2.2

theorem boxM {w W : World} {t u : TypeId} {a0 a1 a2 a3 b0 b1 b2 b3 : Value} {cs : Array Value} (hW : ((w.alloc (.cells #[a0, a1, a2, a3] t)).alloc (.cells #[b0, b1, b2, b3] t)).alloc (.cells cs u) = W) :
    Gr w W ∧ Blk W (w.heap.size + 1 + 1) u cs ∧ W.cell? ⟨w.heap.size, 0, none⟩ = some a0 ∧ W.cell? ⟨w.heap.size, 1, none⟩ = some a1 ∧ W.cell? ⟨w.heap.size, 2, none⟩ = some a2 ∧ W.cell? ⟨w.heap.size, 3, none⟩ = some a3 ∧ W.cell? ⟨w.heap.size + 1, 0, none⟩ = some b0 ∧ W.cell? ⟨w.heap.size + 1, 1, none⟩ = some b1 ∧ W.cell? ⟨w.heap.size + 1, 2, none⟩ = some b2 ∧ W.cell? ⟨w.heap.size + 1, 3, none⟩ = some b3 := by
  subst hW
  have hb := heap_alloc_new ((w.alloc (.cells #[a0, a1, a2, a3] t)).alloc (.cells #[b0, b1, b2, b3] t)) (.cells cs u)
  have e : ((w.alloc (.cells #[a0, a1, a2, a3] t)).alloc (.cells #[b0, b1, b2, b3] t)).heap.size = w.heap.size + 1 + 1 := by simp
  rw [e] at hb
  refine ⟨(((Gr.refl _).alloc _).alloc _).alloc _, hb, ?_, ?_, ?_, ?_, ?_, ?_, ?_, ?_⟩
  · exact alloc_old (alloc_old (alloc_new rfl rfl))
  · exact alloc_old (alloc_old (alloc_new rfl rfl))
  · exact alloc_old (alloc_old (alloc_new rfl rfl))
  · exact alloc_old (alloc_old (alloc_new rfl rfl))
  all_goals exact alloc_old (alloc_new (by simp) rfl)

set_option maxRecDepth 100000 in
set_option maxHeartbeats 4000000 in
theorem meeting_any (a0 a1 a2 a3 b0 b1 b2 b3 : Int) (w : World) (h1 : Co a0) (h2 : Co a1) (h3 : Co a2) (h4 : Co a3) (h5 : Co b0) (h6 : Co b1) (h7 : Co b2) (h8 : Co b3) (m : Int × Int × Int) (hm : meetP ((a0, a1), (a2, a3)) ((b0, b1), (b2, b3)) = m) :
    Calls Try.prog 85 #[.agg #[.int .i64 a0, .int .i64 a1, .int .i64 a2, .int .i64 a3], .agg #[.int .i64 b0, .int .i64 b1, .int .i64 b2, .int .i64 b3]] w fun e w' => e = .returned (.agg #[.int .i64 m.1, .int .i64 m.2.1, .int .i64 m.2.2]) ∧ Gr w w' := by
  have HM : Hid (meetV (crs b0 b1 b2 b3 a0 a1) (crs b0 b1 b2 b3 a2 a3) a0 a1 a2 a3 = m) := Lib.hid hm
  clear hm
  go_enter Try.func85, Try.ntmps85
  go_wp2_with fail
  generalize hW : World.alloc (World.alloc (World.alloc w _) _) _ = W
  obtain ⟨hWg, hBk, l0, l1, l2, l3, m0, m1, m2, m3⟩ := boxM hW
  clear hW
  refine wp_region_held_drew (S := (fun W' => Gr W W' ∧ W'.cell? ⟨w.heap.size, 0, none⟩ = some (.int .i64 a0) ∧ W'.cell? ⟨w.heap.size, 1, none⟩ = some (.int .i64 a1) ∧ W'.cell? ⟨w.heap.size, 2, none⟩ = some (.int .i64 a2) ∧ W'.cell? ⟨w.heap.size, 3, none⟩ = some (.int .i64 a3) ∧ W'.cell? ⟨w.heap.size + 1, 0, none⟩ = some (.int .i64 b0) ∧ W'.cell? ⟨w.heap.size + 1, 1, none⟩ = some (.int .i64 b1) ∧ W'.cell? ⟨w.heap.size + 1, 2, none⟩ = some (.int .i64 b2) ∧ W'.cell? ⟨w.heap.size + 1, 3, none⟩ = some (.int .i64 b3))) ?_ ?_ (fun hHeld => ?_)
  · kernel_rfl
  · ((try dsimp only); ((try go_split_ands); (repeat' apply And.intro) <;> (repeat (first | assumption | (exact Gr.refl _) | (refine Gr.drew ?_) | (refine Gr.alloc ?_ _) | (refine alloc_old ?_) | (refine Gr.keep (by assumption) ?_) | (refine Gr.trans ?_ (by assumption))))))
  refine take_in (i := 0) (v := ?_) (d := (some 7)) rfl rfl ?_ ?_ ?_ ?_ ?_ ?_ ?_ ?_
  rotate_left
  · kernel_rfl
  · kernel_rfl
  · kernel_rfl
  · (intro _ _ _ hq; exact hq)
  · rfl
  · (intro _w hSw; (try dsimp only at hSw); go_simp; try with_reducible rfl)
  · assumption
  try simp only [Act.put, List.setIfInBounds_toArray, List.set_cons_zero, List.set_cons_succ]
  refine take_in (i := 1) (v := ?_) (d := (some 8)) rfl rfl ?_ ?_ ?_ ?_ ?_ ?_ ?_ ?_
  rotate_left
  · kernel_rfl
  · kernel_rfl
  · kernel_rfl
  · (intro _ _ _ hq; exact hq)
  · rfl
  · (intro _w hSw; (try dsimp only at hSw); go_simp; try with_reducible rfl)
  · assumption
  try simp only [Act.put, List.setIfInBounds_toArray, List.set_cons_zero, List.set_cons_succ]
  refine take_in (i := 2) (v := ?_) (d := (some 9)) rfl rfl ?_ ?_ ?_ ?_ ?_ ?_ ?_ ?_
  rotate_left
  · kernel_rfl
  · kernel_rfl
  · kernel_rfl
  · (intro _ _ _ hq; exact hq)
  · rfl
  · (intro _w hSw; (try dsimp only at hSw); go_simp; try with_reducible rfl)
  · assumption
  try simp only [Act.put, List.setIfInBounds_toArray, List.set_cons_zero, List.set_cons_succ]
  refine take_in (i := 3) (v := ?_) (d := (some 10)) rfl rfl ?_ ?_ ?_ ?_ ?_ ?_ ?_ ?_
  rotate_left
  · kernel_rfl
  · kernel_rfl
  · kernel_rfl
  · (intro _ _ _ hq; exact hq)
  · rfl
  · (intro _w hSw; (try dsimp only at hSw); go_simp; try with_reducible rfl)
  · assumption
  try simp only [Act.put, List.setIfInBounds_toArray, List.set_cons_zero, List.set_cons_succ]
  refine take_in (i := 4) (v := ?_) (d := (some 11)) rfl rfl ?_ ?_ ?_ ?_ ?_ ?_ ?_ ?_
  rotate_left
  · kernel_rfl
  · kernel_rfl
  · kernel_rfl
  · (intro _ _ _ hq; exact hq)
  · rfl
  · (intro _w hSw; (try dsimp only at hSw); go_simp; try with_reducible rfl)
  · assumption
  try simp only [Act.put, List.setIfInBounds_toArray, List.set_cons_zero, List.set_cons_succ]
  refine take_in (i := 5) (v := ?_) (d := (some 12)) rfl rfl ?_ ?_ ?_ ?_ ?_ ?_ ?_ ?_
  rotate_left
  · kernel_rfl
  · kernel_rfl
  · kernel_rfl
  · (intro _ _ _ hq; exact hq)
  · rfl
  · (intro _w hSw; (try dsimp only at hSw); go_simp; try with_reducible rfl)
  · assumption
  try simp only [Act.put, List.setIfInBounds_toArray, List.set_cons_zero, List.set_cons_succ]
  refine take_in (i := 7) (v := ?_) (d := (some 14)) rfl rfl ?_ ?_ ?_ ?_ ?_ ?_ ?_ ?_
  rotate_left
  · kernel_rfl
  · kernel_rfl
  · kernel_rfl
  · (intro _ _ _ hq; exact hq)
  · rfl
  · (intro _w hSw; (try dsimp only at hSw); go_simp; try with_reducible rfl)
  · assumption
  try simp only [Act.put, List.setIfInBounds_toArray, List.set_cons_zero, List.set_cons_succ]
  refine take_in (i := 8) (v := ?_) (d := (some 15)) rfl rfl ?_ ?_ ?_ ?_ ?_ ?_ ?_ ?_
  rotate_left
  · kernel_rfl
  · kernel_rfl
  · kernel_rfl
  · (intro _ _ _ hq; exact hq)
  · rfl
  · (intro _w hSw; (try dsimp only at hSw); go_simp; try with_reducible rfl)
  · assumption
  try simp only [Act.put, List.setIfInBounds_toArray, List.set_cons_zero, List.set_cons_succ]
  refine take_in (i := 9) (v := ?_) (d := (some 16)) rfl rfl ?_ ?_ ?_ ?_ ?_ ?_ ?_ ?_
  rotate_left
  · kernel_rfl
  · kernel_rfl
  · kernel_rfl
  · (intro _ _ _ hq; exact hq)
  · rfl
  · (intro _w hSw; (try dsimp only at hSw); go_simp; try with_reducible rfl)
  · assumption
  try simp only [Act.put, List.setIfInBounds_toArray, List.set_cons_zero, List.set_cons_succ]
  refine take_in (i := 10) (v := ?_) (d := (some 17)) rfl rfl ?_ ?_ ?_ ?_ ?_ ?_ ?_ ?_
  rotate_left
  · kernel_rfl
  · kernel_rfl
  · kernel_rfl
  · (intro _ _ _ hq; exact hq)
  · rfl
  · (intro _w hSw; (try dsimp only at hSw); go_simp; try with_reducible rfl)
  · assumption
  try simp only [Act.put, List.setIfInBounds_toArray, List.set_cons_zero, List.set_cons_succ]
  refine take_in (i := 11) (v := ?_) (d := (some 18)) rfl rfl ?_ ?_ ?_ ?_ ?_ ?_ ?_ ?_
  rotate_left
  · kernel_rfl
  · kernel_rfl
  · kernel_rfl
  · (intro _ _ _ hq; exact hq)
  · rfl
  · (intro _w hSw; (try dsimp only at hSw); go_simp; try with_reducible rfl)
  · assumption
  try simp only [Act.put, List.setIfInBounds_toArray, List.set_cons_zero, List.set_cons_succ]
  refine take_in (i := 12) (v := ?_) (d := (some 19)) rfl rfl ?_ ?_ ?_ ?_ ?_ ?_ ?_ ?_
  rotate_left
  · kernel_rfl
  · kernel_rfl
  · kernel_rfl
  · (intro _ _ _ hq; exact hq)
  · rfl
  · (intro _w hSw; (try dsimp only at hSw); go_simp; try with_reducible rfl)
  · assumption
  try simp only [Act.put, List.setIfInBounds_toArray, List.set_cons_zero, List.set_cons_succ]
  refine wpAnyH_ready (rs := [6]) ?_ ?_ ?_
  · kernel_rfl
  · simp
  refine (AllReadyH.cons rfl (fun K hK => ?_) AllReadyH.nil)
  go_simp
  first | (go_at_call 62; refine (cross_any _ _ _ _ _ _ _ (by assumption) (by assumption) (by assumption) (by assumption) (by assumption) (by assumption)).mono ?_; rintro e w1 ⟨rfl, hb⟩)
  refine hK.out _ _ ?_ (fun hHeld => ?_)
  · ((try dsimp only); ((try go_split_ands); (repeat' apply And.intro) <;> (repeat (first | assumption | (exact Gr.refl _) | (refine Gr.drew ?_) | (refine Gr.alloc ?_ _) | (refine alloc_old ?_) | (refine Gr.keep (by assumption) ?_) | (refine Gr.trans ?_ (by assumption))))))
  clear hK K
  try simp only [Act.put, List.setIfInBounds_toArray, List.set_cons_zero, List.set_cons_succ]
  refine wpAnyH_ready (rs := [13]) ?_ ?_ ?_
  · kernel_rfl
  · simp
  refine (AllReadyH.cons rfl (fun K hK => ?_) AllReadyH.nil)
  go_simp
  first | (go_at_call 62; refine (cross_any _ _ _ _ _ _ _ (by assumption) (by assumption) (by assumption) (by assumption) (by assumption) (by assumption)).mono ?_; rintro e w1 ⟨rfl, hb⟩)
  refine hK.out _ _ ?_ (fun hHeld => ?_)
  · ((try dsimp only); ((try go_split_ands); (repeat' apply And.intro) <;> (repeat (first | assumption | (exact Gr.refl _) | (refine Gr.drew ?_) | (refine Gr.alloc ?_ _) | (refine alloc_old ?_) | (refine Gr.keep (by assumption) ?_) | (refine Gr.trans ?_ (by assumption))))))
  clear hK K
  try simp only [Act.put, List.setIfInBounds_toArray, List.set_cons_zero, List.set_cons_succ]
  refine take_in (i := 14) (v := ?_) (d := (some 5)) rfl rfl ?_ ?_ ?_ ?_ ?_ ?_ ?_ ?_
  rotate_left
  · kernel_rfl
  · kernel_rfl
  · kernel_rfl
  · (intro _ _ _ hq; exact hq)
  · rfl
  · (intro _w hSw; (try dsimp only at hSw); go_simp; try with_reducible rfl)
  · assumption
  try simp only [Act.put, List.setIfInBounds_toArray, List.set_cons_zero, List.set_cons_succ]
  refine take_in (i := 15) (v := ?_) (d := (some 6)) rfl rfl ?_ ?_ ?_ ?_ ?_ ?_ ?_ ?_
  rotate_left
  · kernel_rfl
  · kernel_rfl
  · kernel_rfl
  · (intro _ _ _ hq; exact hq)
  · rfl
  · (intro _w hSw; (try dsimp only at hSw); go_simp; try with_reducible rfl)
  · assumption
  try simp only [Act.put, List.setIfInBounds_toArray, List.set_cons_zero, List.set_cons_succ]
  refine wpAnyH_done ?_ ?_ _
  · kernel_rfl
  rotate_left
  clear l0 l1 l2 l3 m0 m1 m2 m3
  obtain ⟨hB, l0, l1, l2, l3, -, -, -, -⟩ := hHeld
  replace hBk := hBk.keep hB
  replace hB := hWg.trans hB
  have r0 : w1.cell? ⟨w.heap.size + 1 + 1, 0, none⟩ = some (.int .i64 0) := by rw [hBk.cell]; rfl
  have r1 : w1.cell? ⟨w.heap.size + 1 + 1, 1, none⟩ = some (.int .i64 0) := by rw [hBk.cell]; rfl
  have r2 : w1.cell? ⟨w.heap.size + 1 + 1, 2, none⟩ = some (.int .i64 0) := by rw [hBk.cell]; rfl
  have z0 : w1.frozen? ⟨w.heap.size + 1 + 1, 0, none⟩ = false := hBk.free _
  have z1 : w1.frozen? ⟨w.heap.size + 1 + 1, 1, none⟩ = false := hBk.free _
  have z2 : w1.frozen? ⟨w.heap.size + 1 + 1, 2, none⟩ = false := hBk.free _
  clear hBk
  have q1 := crs_bd h5 h6 h7 h8 h1 h2
  have q2 := crs_bd h5 h6 h7 h8 h3 h4
  generalize crs b0 b1 b2 b3 a0 a1 = s at q1 HM ⊢
  generalize crs b0 b1 b2 b3 a2 a3 = t at q2 HM ⊢
  have HC := Lib.hid (And.intro h1 (And.intro h2 (And.intro h3 h4)))
  unfold Co at h1 h2 h3 h4
  clear h5 h6 h7 h8
  by_cases hst : s < t
  · replace HM : Hid ((-s * a2 - -t * a0, -s * a3 - -t * a1, -s - -t) = m) := Lib.hid (by rw [← HM.out, meetV, if_pos hst])
    have p1 := mul_bd (a := -s) (b := a2) (A := 134217728) (B := 4096) (by omega) h3
    have p2 := mul_bd (a := -t) (b := a0) (A := 134217728) (B := 4096) (by omega) h1
    have p3 := mul_bd (a := -s) (b := a3) (A := 134217728) (B := 4096) (by omega) h4
    have p4 := mul_bd (a := -t) (b := a1) (A := 134217728) (B := 4096) (by omega) h2
    go_wp2_with fail
    refine bodyPost_ret (v := .agg #[.int .i64 m.1, .int .i64 m.2.1, .int .i64 m.2.2]) ?_ rfl ⟨rfl, ?_⟩
    · rw [← HM.out]
      simp [results, Try.results85, r0, r1, r2, go_sem]
    · repeat (first | exact hB | (refine Gr.setCell ?_ (by show w.heap.size ≤ w.heap.size + 1 + 1; omega) _))
  · replace HM : Hid ((s * a2 - t * a0, s * a3 - t * a1, s - t) = m) := Lib.hid (by rw [← HM.out, meetV, if_neg hst])
    have p1 := mul_bd (a := s) (b := a2) (A := 134217728) (B := 4096) (by omega) h3
    have p2 := mul_bd (a := t) (b := a0) (A := 134217728) (B := 4096) (by omega) h1
    have p3 := mul_bd (a := s) (b := a3) (A := 134217728) (B := 4096) (by omega) h4
    have p4 := mul_bd (a := t) (b := a1) (A := 134217728) (B := 4096) (by omega) h2
    go_wp2_with fail
    refine bodyPost_ret (v := .agg #[.int .i64 m.1, .int .i64 m.2.1, .int .i64 m.2.2]) ?_ rfl ⟨rfl, ?_⟩
    · rw [← HM.out]
      simp [results, Try.results85, r0, r1, r2, go_sem]
    · repeat (first | exact hB | (refine Gr.setCell ?_ (by show w.heap.size ≤ w.heap.size + 1 + 1; omega) _))

end Go.Proofs.Ytjkdjfagaakijaa
