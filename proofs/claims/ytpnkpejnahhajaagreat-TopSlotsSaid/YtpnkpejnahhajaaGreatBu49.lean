/- Where two edges meet; a place that two hulls share.
A place that two hulls share.
A line between two hulls. -/
import Derived.Test.YtpnkpejnahhajaaGreatBu48
namespace Go.Proofs.YtpnkpejnahhajaaGreat
open Go.RowKit
set_option linter.unusedSimpArgs false

/-- (x, y, d) of meeting, from the two double areas. -/
def meetV (s t x y x' y' : Int) : Int × Int × Int :=
  if s < t then (-s * x' - -t * x, -s * y' - -t * y, -s - -t) else (s * x' - t * x, s * y' - t * y, s - t)
def meetP (e f : (Int × Int) × (Int × Int)) : Int × Int × Int :=
  meetV (crs f.1.1 f.1.2 f.2.1 f.2.2 e.1.1 e.1.2) (crs f.1.1 f.1.2 f.2.1 f.2.2 e.2.1 e.2.2) e.1.1 e.1.2 e.2.1 e.2.2

theorem boxM {w W : World} {t u : TypeId} {a0 a1 a2 a3 b0 b1 b2 b3 : Value} {cs : Array Value} (hW : ((w.alloc (.cells #[a0, a1, a2, a3] t)).alloc (.cells #[b0, b1, b2, b3] t)).alloc (.cells cs u) = W) :
    Gr w W ∧ Blk W (w.heap.size + 1 + 1) u cs ∧ W.cell? ⟨w.heap.size, 0, none⟩ = some a0 ∧ W.cell? ⟨w.heap.size, 1, none⟩ = some a1 ∧ W.cell? ⟨w.heap.size, 2, none⟩ = some a2 ∧ W.cell? ⟨w.heap.size, 3, none⟩ = some a3 ∧ W.cell? ⟨w.heap.size + 1, 0, none⟩ = some b0 ∧ W.cell? ⟨w.heap.size + 1, 1, none⟩ = some b1 ∧ W.cell? ⟨w.heap.size + 1, 2, none⟩ = some b2 ∧ W.cell? ⟨w.heap.size + 1, 3, none⟩ = some b3 := by
  subst hW
  have hb := heap_alloc_new ((w.alloc (.cells #[a0, a1, a2, a3] t)).alloc (.cells #[b0, b1, b2, b3] t)) (.cells cs u)
  have e : ((w.alloc (.cells #[a0, a1, a2, a3] t)).alloc (.cells #[b0, b1, b2, b3] t)).heap.size = w.heap.size + 1 + 1 := by simp
  rw [e] at hb
  refine ⟨(((Gr.refl _).alloc _).alloc _).alloc _, hb, ?_, ?_, ?_, ?_, ?_, ?_, ?_, ?_⟩
  · exact alloc_old (alloc_old (alloc_new rfl rfl))
  · exact alloc_old (alloc_old (alloc_new rfl rfl))
  · exact alloc_old (alloc_old (alloc_new rfl rfl))
  · exact alloc_old (alloc_old (alloc_new rfl rfl))
  all_goals exact alloc_old (alloc_new (by simp) rfl)

set_option maxRecDepth 100000 in
set_option maxHeartbeats 4000000 in
theorem meeting_any (a0 a1 a2 a3 b0 b1 b2 b3 : Int) (w : World) (h1 : Co a0) (h2 : Co a1) (h3 : Co a2) (h4 : Co a3) (h5 : Co b0) (h6 : Co b1) (h7 : Co b2) (h8 : Co b3) (m : Int × Int × Int) (hm : meetP ((a0, a1), (a2, a3)) ((b0, b1), (b2, b3)) = m) :
    Calls Tryz.prog 127 #[.agg #[.int .i64 a0, .int .i64 a1, .int .i64 a2, .int .i64 a3], .agg #[.int .i64 b0, .int .i64 b1, .int .i64 b2, .int .i64 b3]] w fun e w' => e = .returned (.agg #[.int .i64 m.1, .int .i64 m.2.1, .int .i64 m.2.2]) ∧ Gr w w' := by
  have HM : Hid (meetV (crs b0 b1 b2 b3 a0 a1) (crs b0 b1 b2 b3 a2 a3) a0 a1 a2 a3 = m) := Lib.hid hm
  clear hm
  go_enter Tryz.func127, Tryz.ntmps127
  go_wp2_with fail
  generalize hW : World.alloc (World.alloc (World.alloc w _) _) _ = W
  obtain ⟨hWg, hBk, l0, l1, l2, l3, m0, m1, m2, m3⟩ := boxM hW
  clear hW
  refine wp_region_held_drew (S := (fun W' => Gr W W' ∧ W'.cell? ⟨w.heap.size, 0, none⟩ = some (.int .i64 a0) ∧ W'.cell? ⟨w.heap.size, 1, none⟩ = some (.int .i64 a1) ∧ W'.cell? ⟨w.heap.size, 2, none⟩ = some (.int .i64 a2) ∧ W'.cell? ⟨w.heap.size, 3, none⟩ = some (.int .i64 a3) ∧ W'.cell? ⟨w.heap.size + 1, 0, none⟩ = some (.int .i64 b0) ∧ W'.cell? ⟨w.heap.size + 1, 1, none⟩ = some (.int .i64 b1) ∧ W'.cell? ⟨w.heap.size + 1, 2, none⟩ = some (.int .i64 b2) ∧ W'.cell? ⟨w.heap.size + 1, 3, none⟩ = some (.int .i64 b3))) ?_ ?_ (fun hHeld => ?_)
  · kernel_rfl
  · ((try dsimp only); ((try go_split_ands); (repeat' apply And.intro) <;> (repeat (first | assumption | (exact Gr.refl _) | (refine Gr.drew ?_) | (refine Gr.alloc ?_ _) | (refine alloc_old ?_) | (refine Gr.keep (by assumption) ?_) | (refine Gr.trans ?_ (by assumption))))))
  refine take_in (i := 0) (v := ?_) (d := (some 7)) rfl rfl ?_ ?_ ?_ ?_ ?_ ?_ ?_ ?_
  rotate_left
  · kernel_rfl
  · kernel_rfl
  · kernel_rfl
  · (intro _ _ _ hq; exact hq)
  · rfl
  · (intro _w hSw; (try dsimp only at hSw); go_simp; try with_reducible rfl)
  · assumption
  try simp only [Act.put, List.setIfInBounds_toArray, List.set_cons_zero, List.set_cons_succ]
  refine take_in (i := 1) (v := ?_) (d := (some 8)) rfl rfl ?_ ?_ ?_ ?_ ?_ ?_ ?_ ?_
  rotate_left
  · kernel_rfl
  · kernel_rfl
  · kernel_rfl
  · (intro _ _ _ hq; exact hq)
  · rfl
  · (intro _w hSw; (try dsimp only at hSw); go_simp; try with_reducible rfl)
  · assumption
  try simp only [Act.put, List.setIfInBounds_toArray, List.set_cons_zero, List.set_cons_succ]
  refine take_in (i := 2) (v := ?_) (d := (some 9)) rfl rfl ?_ ?_ ?_ ?_ ?_ ?_ ?_ ?_
  rotate_left
  · kernel_rfl
  · kernel_rfl
  · kernel_rfl
  · (intro _ _ _ hq; exact hq)
  · rfl
  · (intro _w hSw; (try dsimp only at hSw); go_simp; try with_reducible rfl)
  · assumption
  try simp only [Act.put, List.setIfInBounds_toArray, List.set_cons_zero, List.set_cons_succ]
  refine take_in (i := 3) (v := ?_) (d := (some 10)) rfl rfl ?_ ?_ ?_ ?_ ?_ ?_ ?_ ?_
  rotate_left
  · kernel_rfl
  · kernel_rfl
  · kernel_rfl
  · (intro _ _ _ hq; exact hq)
  · rfl
  · (intro _w hSw; (try dsimp only at hSw); go_simp; try with_reducible rfl)
  · assumption
  try simp only [Act.put, List.setIfInBounds_toArray, List.set_cons_zero, List.set_cons_succ]
  refine take_in (i := 4) (v := ?_) (d := (some 11)) rfl rfl ?_ ?_ ?_ ?_ ?_ ?_ ?_ ?_
  rotate_left
  · kernel_rfl
  · kernel_rfl
  · kernel_rfl
  · (intro _ _ _ hq; exact hq)
  · rfl
  · (intro _w hSw; (try dsimp only at hSw); go_simp; try with_reducible rfl)
  · assumption
  try simp only [Act.put, List.setIfInBounds_toArray, List.set_cons_zero, List.set_cons_succ]
  refine take_in (i := 5) (v := ?_) (d := (some 12)) rfl rfl ?_ ?_ ?_ ?_ ?_ ?_ ?_ ?_
  rotate_left
  · kernel_rfl
  · kernel_rfl
  · kernel_rfl
  · (intro _ _ _ hq; exact hq)
  · rfl
  · (intro _w hSw; (try dsimp only at hSw); go_simp; try with_reducible rfl)
  · assumption
  try simp only [Act.put, List.setIfInBounds_toArray, List.set_cons_zero, List.set_cons_succ]
  refine take_in (i := 7) (v := ?_) (d := (some 14)) rfl rfl ?_ ?_ ?_ ?_ ?_ ?_ ?_ ?_
  rotate_left
  · kernel_rfl
  · kernel_rfl
  · kernel_rfl
  · (intro _ _ _ hq; exact hq)
  · rfl
  · (intro _w hSw; (try dsimp only at hSw); go_simp; try with_reducible rfl)
  · assumption
  try simp only [Act.put, List.setIfInBounds_toArray, List.set_cons_zero, List.set_cons_succ]
  refine take_in (i := 8) (v := ?_) (d := (some 15)) rfl rfl ?_ ?_ ?_ ?_ ?_ ?_ ?_ ?_
  rotate_left
  · kernel_rfl
  · kernel_rfl
  · kernel_rfl
  · (intro _ _ _ hq; exact hq)
  · rfl
  · (intro _w hSw; (try dsimp only at hSw); go_simp; try with_reducible rfl)
  · assumption
  try simp only [Act.put, List.setIfInBounds_toArray, List.set_cons_zero, List.set_cons_succ]
  refine take_in (i := 9) (v := ?_) (d := (some 16)) rfl rfl ?_ ?_ ?_ ?_ ?_ ?_ ?_ ?_
  rotate_left
  · kernel_rfl
  · kernel_rfl
  · kernel_rfl
  · (intro _ _ _ hq; exact hq)
  · rfl
  · (intro _w hSw; (try dsimp only at hSw); go_simp; try with_reducible rfl)
  · assumption
  try simp only [Act.put, List.setIfInBounds_toArray, List.set_cons_zero, List.set_cons_succ]
  refine take_in (i := 10) (v := ?_) (d := (some 17)) rfl rfl ?_ ?_ ?_ ?_ ?_ ?_ ?_ ?_
  rotate_left
  · kernel_rfl
  · kernel_rfl
  · kernel_rfl
  · (intro _ _ _ hq; exact hq)
  · rfl
  · (intro _w hSw; (try dsimp only at hSw); go_simp; try with_reducible rfl)
  · assumption
  try simp only [Act.put, List.setIfInBounds_toArray, List.set_cons_zero, List.set_cons_succ]
  refine take_in (i := 11) (v := ?_) (d := (some 18)) rfl rfl ?_ ?_ ?_ ?_ ?_ ?_ ?_ ?_
  rotate_left
  · kernel_rfl
  · kernel_rfl
  · kernel_rfl
  · (intro _ _ _ hq; exact hq)
  · rfl
  · (intro _w hSw; (try dsimp only at hSw); go_simp; try with_reducible rfl)
  · assumption
  try simp only [Act.put, List.setIfInBounds_toArray, List.set_cons_zero, List.set_cons_succ]
  refine take_in (i := 12) (v := ?_) (d := (some 19)) rfl rfl ?_ ?_ ?_ ?_ ?_ ?_ ?_ ?_
  rotate_left
  · kernel_rfl
  · kernel_rfl
  · kernel_rfl
  · (intro _ _ _ hq; exact hq)
  · rfl
  · (intro _w hSw; (try dsimp only at hSw); go_simp; try with_reducible rfl)
  · assumption
  try simp only [Act.put, List.setIfInBounds_toArray, List.set_cons_zero, List.set_cons_succ]
  refine wpAnyH_ready (rs := [6]) ?_ ?_ ?_
  · kernel_rfl
  · simp
  refine (AllReadyH.cons rfl (fun K hK => ?_) AllReadyH.nil)
  go_simp
  first | (go_at_call 121; refine (cross_any _ _ _ _ _ _ _ (by assumption) (by assumption) (by assumption) (by assumption) (by assumption) (by assumption)).mono ?_; rintro e w1 ⟨rfl, hb⟩)
  refine hK.out _ _ ?_ (fun hHeld => ?_)
  · ((try dsimp only); ((try go_split_ands); (repeat' apply And.intro) <;> (repeat (first | assumption | (exact Gr.refl _) | (refine Gr.drew ?_) | (refine Gr.alloc ?_ _) | (refine alloc_old ?_) | (refine Gr.keep (by assumption) ?_) | (refine Gr.trans ?_ (by assumption))))))
  clear hK K
  try simp only [Act.put, List.setIfInBounds_toArray, List.set_cons_zero, List.set_cons_succ]
  refine wpAnyH_ready (rs := [13]) ?_ ?_ ?_
  · kernel_rfl
  · simp
  refine (AllReadyH.cons rfl (fun K hK => ?_) AllReadyH.nil)
  go_simp
  first | (go_at_call 121; refine (cross_any _ _ _ _ _ _ _ (by assumption) (by assumption) (by assumption) (by assumption) (by assumption) (by assumption)).mono ?_; rintro e w1 ⟨rfl, hb⟩)
  refine hK.out _ _ ?_ (fun hHeld => ?_)
  · ((try dsimp only); ((try go_split_ands); (repeat' apply And.intro) <;> (repeat (first | assumption | (exact Gr.refl _) | (refine Gr.drew ?_) | (refine Gr.alloc ?_ _) | (refine alloc_old ?_) | (refine Gr.keep (by assumption) ?_) | (refine Gr.trans ?_ (by assumption))))))
  clear hK K
  try simp only [Act.put, List.setIfInBounds_toArray, List.set_cons_zero, List.set_cons_succ]
  refine take_in (i := 14) (v := ?_) (d := (some 5)) rfl rfl ?_ ?_ ?_ ?_ ?_ ?_ ?_ ?_
  rotate_left
  · kernel_rfl
  · kernel_rfl
  · kernel_rfl
  · (intro _ _ _ hq; exact hq)
  · rfl
  · (intro _w hSw; (try dsimp only at hSw); go_simp; try with_reducible rfl)
  · assumption
  try simp only [Act.put, List.setIfInBounds_toArray, List.set_cons_zero, List.set_cons_succ]
  refine take_in (i := 15) (v := ?_) (d := (some 6)) rfl rfl ?_ ?_ ?_ ?_ ?_ ?_ ?_ ?_
  rotate_left
  · kernel_rfl
  · kernel_rfl
  · kernel_rfl
  · (intro _ _ _ hq; exact hq)
  · rfl
  · (intro _w hSw; (try dsimp only at hSw); go_simp; try with_reducible rfl)
  · assumption
  try simp only [Act.put, List.setIfInBounds_toArray, List.set_cons_zero, List.set_cons_succ]
  refine wpAnyH_done ?_ ?_ _
  · kernel_rfl
  rotate_left
  clear l0 l1 l2 l3 m0 m1 m2 m3
  obtain ⟨hB, l0, l1, l2, l3, -, -, -, -⟩ := hHeld
  replace hBk := hBk.keep hB
  replace hB := hWg.trans hB
  have r0 : w1.cell? ⟨w.heap.size + 1 + 1, 0, none⟩ = some (.int .i64 0) := by rw [hBk.cell]; rfl
  have r1 : w1.cell? ⟨w.heap.size + 1 + 1, 1, none⟩ = some (.int .i64 0) := by rw [hBk.cell]; rfl
  have r2 : w1.cell? ⟨w.heap.size + 1 + 1, 2, none⟩ = some (.int .i64 0) := by rw [hBk.cell]; rfl
  have z0 : w1.frozen? ⟨w.heap.size + 1 + 1, 0, none⟩ = false := hBk.free _
  have z1 : w1.frozen? ⟨w.heap.size + 1 + 1, 1, none⟩ = false := hBk.free _
  have z2 : w1.frozen? ⟨w.heap.size + 1 + 1, 2, none⟩ = false := hBk.free _
  clear hBk
  have q1 := crs_bd h5 h6 h7 h8 h1 h2
  have q2 := crs_bd h5 h6 h7 h8 h3 h4
  generalize crs b0 b1 b2 b3 a0 a1 = s at q1 HM ⊢
  generalize crs b0 b1 b2 b3 a2 a3 = t at q2 HM ⊢
  have HC := Lib.hid (And.intro h1 (And.intro h2 (And.intro h3 h4)))
  unfold Co at h1 h2 h3 h4
  clear h5 h6 h7 h8
  by_cases hst : s < t
  · replace HM : Hid ((-s * a2 - -t * a0, -s * a3 - -t * a1, -s - -t) = m) := Lib.hid (by rw [← HM.out, meetV, if_pos hst])
    have p1 := mul_bd (a := -s) (b := a2) (A := 134217728) (B := 4096) (by omega) h3
    have p2 := mul_bd (a := -t) (b := a0) (A := 134217728) (B := 4096) (by omega) h1
    have p3 := mul_bd (a := -s) (b := a3) (A := 134217728) (B := 4096) (by omega) h4
    have p4 := mul_bd (a := -t) (b := a1) (A := 134217728) (B := 4096) (by omega) h2
    go_wp2_with fail
    refine bodyPost_ret (v := .agg #[.int .i64 m.1, .int .i64 m.2.1, .int .i64 m.2.2]) ?_ rfl ⟨rfl, ?_⟩
    · rw [← HM.out]
      simp [results, Tryz.results127, r0, r1, r2, go_sem]
    · repeat (first | exact hB | (refine Gr.setCell ?_ (by show w.heap.size ≤ w.heap.size + 1 + 1; omega) _))
  · replace HM : Hid ((s * a2 - t * a0, s * a3 - t * a1, s - t) = m) := Lib.hid (by rw [← HM.out, meetV, if_neg hst])
    have p1 := mul_bd (a := s) (b := a2) (A := 134217728) (B := 4096) (by omega) h3
    have p2 := mul_bd (a := t) (b := a0) (A := 134217728) (B := 4096) (by omega) h1
    have p3 := mul_bd (a := s) (b := a3) (A := 134217728) (B := 4096) (by omega) h4
    have p4 := mul_bd (a := t) (b := a1) (A := 134217728) (B := 4096) (by omega) h2
    go_wp2_with fail
    refine bodyPost_ret (v := .agg #[.int .i64 m.1, .int .i64 m.2.1, .int .i64 m.2.2]) ?_ rfl ⟨rfl, ?_⟩
    · rw [← HM.out]
      simp [results, Tryz.results127, r0, r1, r2, go_sem]
    · repeat (first | exact hB | (refine Gr.setCell ?_ (by show w.heap.size ≤ w.heap.size + 1 + 1; omega) _))

end Go.Proofs.YtpnkpejnahhajaaGreat

namespace Go.Proofs.YtpnkpejnahhajaaGreat
open Go.RowKit
set_option linter.unusedSimpArgs false

/-- The first that is there. -/
def firstN {α : Type} (f : Nat → Option α) : Nat → Option α
  | 0 => none
  | k + 1 => match firstN f k with
    | some a => some a
    | none => f k
theorem firstN_step {α : Type} {f : Nat → Option α} {k : Nat} (h : firstN f k = none) : firstN f (k + 1) = f k := by
  unfold firstN; rw [h]
theorem firstN_up {α : Type} {f : Nat → Option α} {a : α} {k : Nat} (h : firstN f k = some a) : ∀ d, firstN f (k + d) = some a
  | 0 => h
  | d + 1 => by
    have ih := firstN_up h d
    show firstN f (k + d + 1) = some a
    unfold firstN; rw [ih]
theorem firstN_at {α : Type} {f : Nat → Option α} {a : α} {k n : Nat} (h : firstN f k = none) (hf : f k = some a) (hk : k < n) : firstN f n = some a := by
  have h1 : firstN f (k + 1) = some a := (firstN_step h).trans hf
  have := firstN_up h1 (n - (k + 1))
  rwa [show k + 1 + (n - (k + 1)) = n by omega] at this

def crossR (ps qs : List (Int × Int)) (i : Nat) : Option (Int × Int × Int) :=
  firstN (fun j => if touchE (ed ps i) (ed qs j) then some (meetP (ed ps i) (ed qs j)) else none) qs.length
def crossL (ps qs : List (Int × Int)) : Int × Int × Int := (firstN (crossR ps qs) ps.length).getD (0, 0, 0)
def inQ (ps qs : List (Int × Int)) (i : Nat) : Option (Int × Int × Int) :=
  if holdsL qs (ps.getD i (0, 0)).1 (ps.getD i (0, 0)).2 1 then some ((ps.getD i (0, 0)).1, (ps.getD i (0, 0)).2, 1) else none
def sharedL (ps qs : List (Int × Int)) : Int × Int × Int :=
  match firstN (inQ ps qs) ps.length with
  | some m => m
  | none => match firstN (inQ qs ps) qs.length with
    | some m => m
    | none => crossL ps qs
def placeV (m : Int × Int × Int) : Value := .agg #[.int .i64 m.1, .int .i64 m.2.1, .int .i64 m.2.2]

theorem box4h {w W : World} {t : TypeId} {a0 a1 a2 a3 : Value} (hW : w.alloc (.cells #[a0, a1, a2, a3] t) = W) :
    Gr w W ∧ W.cell? ⟨w.heap.size, 0, none⟩ = some a0 ∧ W.cell? ⟨w.heap.size, 1, none⟩ = some a1 ∧ W.cell? ⟨w.heap.size, 2, none⟩ = some a2 ∧ W.cell? ⟨w.heap.size, 3, none⟩ = some a3 := box4 hW

theorem Blk3 {w : World} {g : Nat} {t : TypeId} {a b c : Value} (h : Blk w g t #[a, b, c]) :
    (w.cell? ⟨g, 0, none⟩ = some a ∧ w.cell? ⟨g, 1, none⟩ = some b ∧ w.cell? ⟨g, 2, none⟩ = some c) ∧ w.frozen? ⟨g, 0, none⟩ = false ∧ w.frozen? ⟨g, 1, none⟩ = false ∧ w.frozen? ⟨g, 2, none⟩ = false :=
  ⟨⟨h.cell _, h.cell _, h.cell _⟩, h.free _, h.free _, h.free _⟩

set_option maxRecDepth 100000 in
set_option maxHeartbeats 4000000 in
theorem crossing_any (A B : Option Addr) (n c n' c' : Nat) (ps qs : List (Int × Int)) (w : World) (hn : ps.length = n) (hn' : qs.length = n') (hl : n ≤ 1048576) (hl' : n' ≤ 1048576) (hp : Pts w A ps) (hq : Pts w B qs) (hv : Cos ps) (hv' : Cos qs) :
    Calls Tryz.prog 91 #[.slice A n c, .slice B n' c'] w fun e w' => e = .returned (placeV (crossL ps qs)) ∧ Gr w w' := by
  have HN := Lib.hid hn
  have HN' := Lib.hid hn'
  have HP := Lib.hid hp
  have HQ := Lib.hid hq
  have HV := Lib.hid hv
  have HV' := Lib.hid hv'
  have HCR : Hid (crossL ps qs = (firstN (crossR ps qs) n).getD (0, 0, 0)) := Lib.hid (by rw [← hn]; rfl)
  have HCJ : Hid (∀ i, crossR ps qs i = firstN (fun j => if touchE (ed ps i) (ed qs j) then some (meetP (ed ps i) (ed qs j)) else none) n') := Lib.hid (by intro i; rw [← hn']; rfl)
  clear hn hn' hp hq hv hv'
  go_enter Tryz.func91, Tryz.ntmps91
  go_wp2_with fail
  generalize hW : World.alloc w _ = W
  have hgW : Gr w W := by rw [← hW]; exact (Gr.refl _).alloc _
  have hBk : Blk W w.heap.size 119 #[.int .i64 0, .int .i64 0, .int .i64 0] := by rw [← hW]; exact heap_alloc_new w _
  clear hW
  refine (edges_any A n c ps _ HN.out (by omega) (HP.out.keep hgW)).mono ?_
  rintro e w3 ⟨g, rfl, hE, hg3⟩
  replace hBk := hBk.keep hg3
  replace hgW := hgW.trans hg3
  clear hg3
  rw [HN.out]
  have HE := Lib.hid hE
  clear hE HP
  have HB := Lib.hid hBk
  clear hBk
  go_wp2_with fail
  go_loopw [12] (fun i wr => ∃ k : Nat, k ≤ n ∧ i = .int .i64 k ∧ Hid (firstN (crossR ps qs) k = none) ∧ Gr w3 wr) (fun i _ => n - (intOf i).toNat)
  case atStart => exact ⟨0, Nat.zero_le _, rfl, Lib.hid rfl, Gr.refl _⟩
  case round =>
    obtain ⟨k, hk, rfl, hok, hg⟩ := hrel
    by_cases hlt : k < n
    · obtain ⟨k0, k1, k2, k3⟩ := Eds_at (HE.out.keep hg) (k := k) (by have := HN.out; omega)
      have HC4 := Lib.hid (ed_co HV.out k)
      have HCK := Lib.hid (HCJ.out k)
      have HSTEP : Hid (crossR ps qs k = none → firstN (crossR ps qs) (k + 1) = none) := Lib.hid (fun h => (firstN_step hok.out).trans h)
      have HFND : Hid (∀ m, crossR ps qs k = some m → crossL ps qs = m) := Lib.hid (fun m h => by rw [HCR.out, firstN_at hok.out h hlt]; rfl)
      generalize ed ps k = q at k0 k1 k2 k3 HC4 HCK
      obtain ⟨⟨x, y⟩, x', y'⟩ := q
      dsimp only at k0 k1 k2 k3
      go_wp2_with fail
      generalize hW : World.alloc wr _ = W
      obtain ⟨hWg, l0, l1, l2, l3⟩ := box4h hW
      clear hW k0 k1 k2 k3
      refine (edges_any B n' c' qs _ HN'.out (by omega) (HQ.out.keep ((hgW.trans hg).trans hWg))).mono ?_
      rintro e w4 ⟨g', rfl, hE', hg4⟩
      have HL : Hid (w4.cell? ⟨wr.heap.size, 0, none⟩ = some (.int .i64 x) ∧ w4.cell? ⟨wr.heap.size, 1, none⟩ = some (.int .i64 y) ∧ w4.cell? ⟨wr.heap.size, 2, none⟩ = some (.int .i64 x') ∧ w4.cell? ⟨wr.heap.size, 3, none⟩ = some (.int .i64 y')) := Lib.hid ⟨hg4.keep l0, hg4.keep l1, hg4.keep l2, hg4.keep l3⟩
      have hgr : Gr w3 w4 := (hg.trans hWg).trans hg4
      clear l0 l1 l2 l3 hg hWg hg4
      rw [HN'.out]
      have HE' := Lib.hid hE'
      clear hE'
      generalize wr.heap.size = eb at HL ⊢
      clear wr W
      go_wp2_with fail
      go_loopw [19] (fun i wr => ∃ j : Nat, j ≤ n' ∧ i = .int .i64 j ∧ Hid (firstN (fun j => if touchE ((x, y), x', y') (ed qs j) then some (meetP ((x, y), x', y') (ed qs j)) else none) j = none) ∧ Gr w4 wr) (fun i _ => n' - (intOf i).toNat)
      case atStart => exact ⟨0, Nat.zero_le _, rfl, Lib.hid rfl, Gr.refl _⟩
      case round =>
        obtain ⟨j, hj, rfl, hok2, hg⟩ := hrel
        obtain ⟨l0, l1, l2, l3⟩ := HL.out
        replace l0 := hg.keep l0
        replace l1 := hg.keep l1
        replace l2 := hg.keep l2
        replace l3 := hg.keep l3
        by_cases hltj : j < n'
        · obtain ⟨k0, k1, k2, k3⟩ := Eds_at (HE'.out.keep hg) (k := j) (by have := HN'.out; omega)
          have HC5 := Lib.hid (ed_co HV'.out j)
          have HST2 := Lib.hid (firstN_step hok2.out)
          have HFN2 : Hid (touchE ((x, y), x', y') (ed qs j) = true → crossL ps qs = meetP ((x, y), x', y') (ed qs j)) := Lib.hid (fun h => HFND.out _ (by rw [HCK.out]; exact firstN_at hok2.out (if_pos h) hltj))
          generalize ed qs j = q at k0 k1 k2 k3 HC5 HST2 HFN2
          obtain ⟨⟨a, b⟩, a', b'⟩ := q
          dsimp only at k0 k1 k2 k3
          have e0 : ∀ o, (wr.alloc o).cell? ⟨eb, 0, none⟩ = some (.int .i64 x) := fun o => alloc_old l0
          have e1 : ∀ o, (wr.alloc o).cell? ⟨eb, 1, none⟩ = some (.int .i64 y) := fun o => alloc_old l1
          have e2 : ∀ o, (wr.alloc o).cell? ⟨eb, 2, none⟩ = some (.int .i64 x') := fun o => alloc_old l2
          have e3 : ∀ o, (wr.alloc o).cell? ⟨eb, 3, none⟩ = some (.int .i64 y') := fun o => alloc_old l3
          go_wp2_with fail
          clear e0 e1 e2 e3
          generalize hW : World.alloc wr _ = W
          obtain ⟨hWg, t0, t1, t2, t3⟩ := box4h hW
          clear hW k0 k1 k2 k3
          obtain ⟨c1, c2, c3, c4⟩ := HC4.out
          obtain ⟨d1, d2, d3, d4⟩ := HC5.out
          rcases ht : touchL x y x' y' a b a' b' with _ | _
          · have HT := Lib.hid ht
            clear ht
            refine (touch_any _ _ _ _ _ _ _ _ _ c1 c2 c3 c4 d1 d2 d3 d4 _ HT.out).mono ?_
            rintro e w5 ⟨rfl, hb⟩
            clear c1 c2 c3 c4 d1 d2 d3 d4
            go_wp2_with fail
            go_roundw
            case rel => exact ⟨j + 1, by omega, by go_num, Lib.hid (HST2.out.trans (if_neg (by rw [show touchE ((x, y), x', y') ((a, b), a', b') = touchL x y x' y' a b a' b' from rfl, HT.out]; decide))), by (repeat (first | exact Gr.refl _ | assumption | (refine Gr.drew ?_) | (refine Gr.drewN ?_ _) | (refine Gr.alloc ?_ _) | (refine Gr.trans ?_ (by assumption))))⟩
            case measure => simp [intOf]; omega
          · have HT := Lib.hid ht
            have HM := Lib.hid (HFN2.out ht)
            clear ht
            refine (touch_any _ _ _ _ _ _ _ _ _ c1 c2 c3 c4 d1 d2 d3 d4 _ HT.out).mono ?_
            rintro e w5 ⟨rfl, hb⟩
            replace l0 := (hWg.trans hb).keep l0
            replace l1 := (hWg.trans hb).keep l1
            replace l2 := (hWg.trans hb).keep l2
            replace l3 := (hWg.trans hb).keep l3
            replace t0 := hb.keep t0
            replace t1 := hb.keep t1
            replace t2 := hb.keep t2
            replace t3 := hb.keep t3
            go_wp2_with fail
            refine (meeting_any _ _ _ _ _ _ _ _ _ c1 c2 c3 c4 d1 d2 d3 d4 _ rfl).mono ?_
            rintro e w6 ⟨rfl, hb6⟩
            have hgg : Gr w3 w6 := (((hgr.trans hg).trans hWg).trans hb).trans hb6
            obtain ⟨⟨r0, r1, r2⟩, z0, z1, z2⟩ := Blk3 (HB.out.keep hgg)
            rw [← HM.out]
            go_wp2_with fail
            refine bodyPost_ret (v := placeV (crossL ps qs)) ?_ rfl ⟨rfl, ?_⟩
            · simp [results, Tryz.results91, r0, r1, r2, go_sem, placeV]
            · replace hgg := hgW.trans hgg
              repeat (first | exact hgg | (refine Gr.setCell ?_ (by show w.heap.size ≤ w.heap.size; omega) _))
        · go_wp2_with fail
          go_roundw
          case rel => exact ⟨k + 1, by omega, by go_num, Lib.hid (HSTEP.out (by rw [HCK.out]; obtain rfl : j = n' := by omega
                                                                                exact hok2.out)), hgr.trans hg⟩
          case measure => simp [intOf]; omega
    · obtain ⟨⟨r0, r1, r2⟩, z0, z1, z2⟩ := Blk3 (HB.out.keep hg)
      go_wp2_with fail
      refine bodyPost_ret (v := placeV (crossL ps qs)) ?_ rfl ⟨rfl, ?_⟩
      · obtain rfl : k = n := by omega
        rw [HCR.out, hok.out]
        simp [results, Tryz.results91, r0, r1, r2, go_sem, placeV]
      · have hgg := hgW.trans hg
        repeat (first | exact hgg | (refine Gr.setCell ?_ (by show w.heap.size ≤ w.heap.size; omega) _))

theorem box2r {w W : World} {t u : TypeId} {a b c d e : Value} (hW : (w.alloc (.cells #[a, b] t)).alloc (.cells #[c, d, e] u) = W) :
    Gr w W ∧ W.cell? ⟨w.heap.size + 1, 0, none⟩ = some c ∧ W.cell? ⟨w.heap.size + 1, 1, none⟩ = some d ∧ W.cell? ⟨w.heap.size + 1, 2, none⟩ = some e := by
  subst hW
  exact ⟨((Gr.refl _).alloc _).alloc _, alloc_new (by simp) rfl, alloc_new (by simp) rfl, alloc_new (by simp) rfl⟩
theorem Pc_one {x y : Int} (hx : Co x) (hy : Co y) : Pc x y 1 := by unfold Pc Co at *; omega

set_option maxRecDepth 100000 in
set_option maxHeartbeats 4000000 in
theorem shared_any (A B : Option Addr) (n c n' c' : Nat) (ps qs : List (Int × Int)) (w : World) (hn : ps.length = n) (hn' : qs.length = n') (hl : n ≤ 1048576) (hl' : n' ≤ 1048576) (hp : Pts w A ps) (hq : Pts w B qs) (hv : Cos ps) (hv' : Cos qs) :
    Calls Tryz.prog 52 #[.slice A n c, .slice B n' c'] w fun e w' => e = .returned (placeV (sharedL ps qs)) ∧ Gr w w' := by
  have HN := Lib.hid hn
  have HN' := Lib.hid hn'
  have HP := Lib.hid hp
  have HQ := Lib.hid hq
  have HV := Lib.hid hv
  have HV' := Lib.hid hv'
  have HS1 : Hid (∀ m, firstN (inQ ps qs) n = some m → sharedL ps qs = m) := Lib.hid (by rw [← hn]; intro m h; unfold sharedL; rw [h])
  have HS2 : Hid (firstN (inQ ps qs) n = none → ∀ m, firstN (inQ qs ps) n' = some m → sharedL ps qs = m) := Lib.hid (by rw [← hn, ← hn']; intro h0 m h; unfold sharedL; rw [h0]; dsimp only; rw [h])
  have HS3 : Hid (firstN (inQ ps qs) n = none → firstN (inQ qs ps) n' = none → sharedL ps qs = crossL ps qs) := Lib.hid (by rw [← hn, ← hn']; intro h0 h; unfold sharedL; rw [h0]; dsimp only; rw [h])
  clear hn hn' hp hq hv hv'
  go_enter Tryz.func52, Tryz.ntmps52
  go_wp2_with fail
  generalize hW : World.alloc w _ = W
  have hgW : Gr w W := by rw [← hW]; exact (Gr.refl _).alloc _
  have hBk : Blk W w.heap.size 119 #[.int .i64 0, .int .i64 0, .int .i64 0] := by rw [← hW]; exact heap_alloc_new w _
  clear hW
  have HB := Lib.hid hBk
  clear hBk
  go_wp2_with fail
  go_loopw [13] (fun i wr => ∃ k : Nat, k ≤ n ∧ i = .int .i64 k ∧ Hid (firstN (inQ ps qs) k = none) ∧ Gr W wr) (fun i _ => n - (intOf i).toNat)
  case atStart => exact ⟨0, Nat.zero_le _, rfl, Lib.hid rfl, Gr.refl _⟩
  case round =>
    obtain ⟨k, hk, rfl, hok, hg⟩ := hrel
    by_cases hlt : k < n
    · obtain ⟨b', o', rfl, x0, x1⟩ := Pts_at (HP.out.keep (hgW.trans hg)) (k := k) (by have := HN.out; omega)
      have HIN : Hid (inQ ps qs k = if holdsL qs (ps.getD k (0, 0)).1 (ps.getD k (0, 0)).2 1 then some ((ps.getD k (0, 0)).1, (ps.getD k (0, 0)).2, 1) else none) := Lib.hid rfl
      obtain ⟨a0, a1⟩ := HV.out k
      generalize ps.getD k (0, 0) = p at x0 x1 a0 a1 HIN
      obtain ⟨x, y⟩ := p
      dsimp only at x0 x1 a0 a1 HIN
      go_wp2_with fail
      generalize hW : World.alloc (World.alloc wr _) _ = W2
      obtain ⟨hWg, l0, l1, l2⟩ := box2r hW
      clear hW
      rcases hh : holdsL qs x y 1 with _ | _
      · have HST := Lib.hid ((firstN_step hok.out).trans (HIN.out.trans (if_neg (by rw [hh]; decide))))
        have HHH := Lib.hid hh
        clear hh
        refine (holds_any B n' c' qs x y 1 _ HN'.out (by omega) (HQ.out.keep ((hgW.trans hg).trans hWg)) HV'.out (Pc_one a0 a1)).mono ?_
        rintro e w5 ⟨rfl, hb⟩
        rw [HHH.out]
        go_wp2_with fail
        go_roundw
        case rel => exact ⟨k + 1, by omega, by go_num, HST, by (repeat (first | exact Gr.refl _ | assumption | (refine Gr.drew ?_) | (refine Gr.drewN ?_ _) | (refine Gr.alloc ?_ _) | (refine Gr.trans ?_ (by assumption))))⟩
        case measure => simp [intOf]; omega
      · have HFD := Lib.hid (HS1.out (x, y, 1) (firstN_at hok.out (HIN.out.trans (if_pos hh)) hlt))
        have HHH := Lib.hid hh
        clear hh
        refine (holds_any B n' c' qs x y 1 _ HN'.out (by omega) (HQ.out.keep ((hgW.trans hg).trans hWg)) HV'.out (Pc_one a0 a1)).mono ?_
        rintro e w5 ⟨rfl, hb⟩
        rw [HHH.out]
        have hgg : Gr W w5 := (hg.trans hWg).trans hb
        obtain ⟨⟨r0, r1, r2⟩, z0, z1, z2⟩ := Blk3 (HB.out.keep hgg)
        replace l0 := hb.keep l0
        replace l1 := hb.keep l1
        replace l2 := hb.keep l2
        go_wp2_with fail
        refine bodyPost_ret (v := placeV (x, y, 1)) ?_ rfl ⟨by rw [HFD.out], ?_⟩
        · simp [results, Tryz.results52, r0, r1, r2, go_sem, placeV]
        · replace hgg := hgW.trans hgg
          repeat (first | exact hgg | (refine Gr.setCell ?_ (by show w.heap.size ≤ w.heap.size; omega) _))
    · obtain rfl : k = n := by omega
      go_wp2_with fail
      obtain ⟨w8, hw8⟩ : ∃ w8, w8 = wr := ⟨_, rfl⟩
      have hg8 : Gr W w8 := by rw [hw8]; exact hg
      rw [← hw8]
      clear hw8 hg
      go_loopw [29] (fun i wr => ∃ j : Nat, j ≤ n' ∧ i = .int .i64 j ∧ Hid (firstN (inQ qs ps) j = none) ∧ Gr w8 wr) (fun i _ => n' - (intOf i).toNat)
      case atStart => exact ⟨0, Nat.zero_le _, rfl, Lib.hid rfl, Gr.refl _⟩
      case round =>
        obtain ⟨j, hj, rfl, hok2, hg⟩ := hrel
        by_cases hlt : j < n'
        · obtain ⟨b', o', rfl, x0, x1⟩ := Pts_at (HQ.out.keep ((hgW.trans hg8).trans hg)) (k := j) (by have := HN'.out; omega)
          have HIN : Hid (inQ qs ps j = if holdsL ps (qs.getD j (0, 0)).1 (qs.getD j (0, 0)).2 1 then some ((qs.getD j (0, 0)).1, (qs.getD j (0, 0)).2, 1) else none) := Lib.hid rfl
          obtain ⟨a0, a1⟩ := HV'.out j
          generalize qs.getD j (0, 0) = p at x0 x1 a0 a1 HIN
          obtain ⟨x, y⟩ := p
          dsimp only at x0 x1 a0 a1 HIN
          go_wp2_with fail
          generalize hW : World.alloc (World.alloc wr _) _ = W2
          obtain ⟨hWg, l0, l1, l2⟩ := box2r hW
          clear hW
          rcases hh : holdsL ps x y 1 with _ | _
          · have HST := Lib.hid ((firstN_step hok2.out).trans (HIN.out.trans (if_neg (by rw [hh]; decide))))
            have HHH := Lib.hid hh
            clear hh
            refine (holds_any A k c ps x y 1 _ HN.out (by omega) (HP.out.keep (((hgW.trans hg8).trans hg).trans hWg)) HV.out (Pc_one a0 a1)).mono ?_
            rintro e w5 ⟨rfl, hb⟩
            rw [HHH.out]
            go_wp2_with fail
            go_roundw
            case rel => exact ⟨j + 1, by omega, by go_num, HST, by (repeat (first | exact Gr.refl _ | assumption | (refine Gr.drew ?_) | (refine Gr.drewN ?_ _) | (refine Gr.alloc ?_ _) | (refine Gr.trans ?_ (by assumption))))⟩
            case measure => simp [intOf]; omega
          · have HFD := Lib.hid (HS2.out hok.out (x, y, 1) (firstN_at hok2.out (HIN.out.trans (if_pos hh)) hlt))
            have HHH := Lib.hid hh
            clear hh
            refine (holds_any A k c ps x y 1 _ HN.out (by omega) (HP.out.keep (((hgW.trans hg8).trans hg).trans hWg)) HV.out (Pc_one a0 a1)).mono ?_
            rintro e w5 ⟨rfl, hb⟩
            rw [HHH.out]
            have hgg : Gr W w5 := hg8.trans ((hg.trans hWg).trans hb)
            obtain ⟨⟨r0, r1, r2⟩, z0, z1, z2⟩ := Blk3 (HB.out.keep hgg)
            replace l0 := hb.keep l0
            replace l1 := hb.keep l1
            replace l2 := hb.keep l2
            go_wp2_with fail
            refine bodyPost_ret (v := placeV (x, y, 1)) ?_ rfl ⟨by rw [HFD.out], ?_⟩
            · simp [results, Tryz.results52, r0, r1, r2, go_sem, placeV]
            · replace hgg := hgW.trans hgg
              repeat (first | exact hgg | (refine Gr.setCell ?_ (by show w.heap.size ≤ w.heap.size; omega) _))
        · obtain rfl : j = n' := by omega
          go_wp2_with fail
          refine (crossing_any A B k c j c' ps qs _ HN.out HN'.out (by omega) (by omega) (HP.out.keep (hgW.trans (hg8.trans hg))) (HQ.out.keep (hgW.trans (hg8.trans hg))) HV.out HV'.out).mono ?_
          rintro e w6 ⟨rfl, hb6⟩
          have HS4 := Lib.hid (HS3.out hok.out hok2.out)
          have hgg : Gr W w6 := (hg8.trans hg).trans hb6
          obtain ⟨⟨r0, r1, r2⟩, z0, z1, z2⟩ := Blk3 (HB.out.keep hgg)
          generalize crossL ps qs = m at HS4 ⊢
          simp only [placeV]
          go_wp2_with fail
          refine bodyPost_ret (v := placeV m) ?_ rfl ⟨by rw [HS4.out], ?_⟩
          · simp [results, Tryz.results52, r0, r1, r2, go_sem, placeV]
          · replace hgg := hgW.trans hgg
            repeat (first | exact hgg | (refine Gr.setCell ?_ (by show w.heap.size ≤ w.heap.size; omega) _))


end Go.Proofs.YtpnkpejnahhajaaGreat

namespace Go.Proofs.YtpnkpejnahhajaaGreat
open Go.RowKit
set_option linter.unusedSimpArgs false

def two {α : Type} (a b : α) : Nat → α
  | 0 => a
  | _ + 1 => b
def lineE (ps qs : List (Int × Int)) (v : Int × Int) : Option (Int × Int × Int) :=
  if hiL v ps < loL v qs then some (2 * v.1, 2 * v.2, hiL v ps + loL v qs)
  else if hiL v qs < loL v ps then some (-2 * v.1, -2 * v.2, -(hiL v qs + loL v ps)) else none
def lineL (ps qs : List (Int × Int)) : Option (Int × Int × Int) :=
  firstN (fun k => lineE ps qs ((dirsL (two ps qs)).getD k (0, 0))) (dirsL (two ps qs)).length
def apartV (m : Bool) (x y d u v w : Int) : Value := .agg #[.bool m, .int .i64 x, .int .i64 y, .int .i64 d, .int .i64 u, .int .i64 v, .int .i64 w]
def lineV : Option (Int × Int × Int) → Value
  | some t => .tuple #[apartV false 0 0 0 t.1 t.2.1 t.2.2, .bool true]
  | none => .tuple #[apartV false 0 0 0 0 0 0, .bool false]
def Vd (v : Int × Int) : Prop := (-8192 ≤ v.1 ∧ v.1 ≤ 8192) ∧ (-8192 ≤ v.2 ∧ v.2 ≤ 8192)
theorem nrm_bd {ps : List (Int × Int)} (h : Cos ps) : ∀ v ∈ (edgesL ps).map nrm, Vd v := by
  intro v hv
  obtain ⟨e, he, rfl⟩ := List.mem_map.1 hv
  unfold edgesL at he
  obtain ⟨i, -, rfl⟩ := List.mem_map.1 he
  obtain ⟨h1, h2, h3, h4⟩ := ed_co h i
  unfold Co at h1 h2 h3 h4
  unfold Vd nrm
  dsimp only
  omega
theorem dirs_bd {ps qs : List (Int × Int)} (h : Cos ps) (h' : Cos qs) : ∀ v ∈ dirsL (two ps qs), Vd v := by
  intro v hv
  have e : dirsL (two ps qs) = ([((qs.getD 0 (0, 0)).1 - (ps.getD 0 (0, 0)).1, (qs.getD 0 (0, 0)).2 - (ps.getD 0 (0, 0)).2)] ++ (edgesL ps).map nrm) ++ (edgesL qs).map nrm := rfl
  rw [e, List.mem_append, List.mem_append] at hv
  rcases hv with (hv | hv) | hv
  · obtain rfl := List.mem_singleton.1 hv
    obtain ⟨h1, h2⟩ := h 0
    obtain ⟨h3, h4⟩ := h' 0
    unfold Co at h1 h2 h3 h4
    unfold Vd
    dsimp only
    omega
  · exact nrm_bd h v hv
  · exact nrm_bd h' v hv
theorem dirs_at {ps qs : List (Int × Int)} (h : Cos ps) (h' : Cos qs) (k : Nat) : Vd ((dirsL (two ps qs)).getD k (0, 0)) := by
  rw [List.getD_eq_getElem?_getD]
  rcases hk : (dirsL (two ps qs))[k]? with _ | v
  · exact ⟨⟨by decide, by decide⟩, by decide, by decide⟩
  · exact dirs_bd h h' v (List.mem_of_getElem? hk)
theorem dirs_len (ps qs : List (Int × Int)) : (dirsL (two ps qs)).length = 1 + ps.length + qs.length := by
  have e : dirsL (two ps qs) = ([((qs.getD 0 (0, 0)).1 - (ps.getD 0 (0, 0)).1, (qs.getD 0 (0, 0)).2 - (ps.getD 0 (0, 0)).2)] ++ (edgesL ps).map nrm) ++ (edgesL qs).map nrm := rfl
  rw [e, List.length_append, List.length_append, List.length_map, List.length_map, edgesL_len, edgesL_len]; rfl
theorem Vd.vc {v : Int × Int} (h : Vd v) : Vc v := by unfold Vd at h; unfold Vc; omega
theorem Blk7 {w : World} {g : Nat} {t : TypeId} {a0 a1 a2 a3 a4 a5 a6 : Value} (h : Blk w g t #[a0, a1, a2, a3, a4, a5, a6]) :
    (w.cell? ⟨g, 0, none⟩ = some a0 ∧ w.cell? ⟨g, 1, none⟩ = some a1 ∧ w.cell? ⟨g, 2, none⟩ = some a2 ∧ w.cell? ⟨g, 3, none⟩ = some a3 ∧ w.cell? ⟨g, 4, none⟩ = some a4 ∧ w.cell? ⟨g, 5, none⟩ = some a5 ∧ w.cell? ⟨g, 6, none⟩ = some a6) ∧ w.frozen? ⟨g, 0, none⟩ = false ∧ w.frozen? ⟨g, 1, none⟩ = false ∧ w.frozen? ⟨g, 2, none⟩ = false ∧ w.frozen? ⟨g, 3, none⟩ = false ∧ w.frozen? ⟨g, 4, none⟩ = false ∧ w.frozen? ⟨g, 5, none⟩ = false ∧ w.frozen? ⟨g, 6, none⟩ = false :=
  ⟨⟨h.cell _, h.cell _, h.cell _, h.cell _, h.cell _, h.cell _, h.cell _⟩, h.free _, h.free _, h.free _, h.free _, h.free _, h.free _, h.free _⟩
theorem Gr.set7 {a W : World} {b : Nat} {v0 v1 v2 v3 v4 v5 v6 : Value} (h : Gr a W) (hb : a.heap.size ≤ b) :
    Gr a (((((((W.setCell ⟨b, 0, none⟩ v0).setCell ⟨b, 1, none⟩ v1).setCell ⟨b, 2, none⟩ v2).setCell ⟨b, 3, none⟩ v3).setCell ⟨b, 4, none⟩ v4).setCell ⟨b, 5, none⟩ v5).setCell ⟨b, 6, none⟩ v6) :=
  ((((((h.setCell (p := ⟨b, 0, none⟩) hb v0).setCell (p := ⟨b, 1, none⟩) hb v1).setCell (p := ⟨b, 2, none⟩) hb v2).setCell (p := ⟨b, 3, none⟩) hb v3).setCell (p := ⟨b, 4, none⟩) hb v4).setCell (p := ⟨b, 5, none⟩) hb v5).setCell (p := ⟨b, 6, none⟩) hb v6
theorem box2h {w W : World} {t : TypeId} {a b : Value} (hW : w.alloc (.cells #[a, b] t) = W) : Gr w W ∧ W.cell? ⟨w.heap.size, 0, none⟩ = some a ∧ W.cell? ⟨w.heap.size, 1, none⟩ = some b := by
  subst hW; exact ⟨(Gr.refl _).alloc _, alloc_new rfl rfl, alloc_new rfl rfl⟩

set_option maxRecDepth 100000 in
set_option maxHeartbeats 4000000 in
theorem line_any (g n c g' n' c' : Nat) (ps qs : List (Int × Int)) (w : World) (hn : ps.length = n) (hn' : qs.length = n') (h1 : 1 ≤ n) (h1' : 1 ≤ n') (hl : n ≤ 1024) (hl' : n' ≤ 1024) (hc : n ≤ c) (hc' : n' ≤ c')
    (hp : Pts w (some ⟨g, 0, none⟩) ps) (hq : Pts w (some ⟨g', 0, none⟩) qs) (hv : Cos ps) (hv' : Cos qs) :
    Calls Tryz.prog 51 #[.slice (some ⟨g, 0, none⟩) n c, .slice (some ⟨g', 0, none⟩) n' c'] w fun e w' => e = .returned (lineV (lineL ps qs)) ∧ Gr w w' := by
  have HN := Lib.hid hn
  have HN' := Lib.hid hn'
  have HP := Lib.hid hp
  have HQ := Lib.hid hq
  have HV := Lib.hid hv
  have HV' := Lib.hid hv'
  have HD : Hid (∀ W, Gr w W → Calls Tryz.prog 88 #[.slice (some ⟨g, 0, none⟩) n c, .slice (some ⟨g', 0, none⟩) n' c'] W (DirsPost (two ps qs) W)) := Lib.hid (fun W hW => by
    have h := dirs_any (two g g') (two n n') (two c c') (two ps qs) W (fun k hk => by
      match k, hk with
      | 0, _ => exact ⟨hn, ⟨h1, hl⟩, hp.keep hW, hv⟩
      | 1, _ => exact ⟨hn', ⟨h1', hl'⟩, hq.keep hW, hv'⟩)
    exact h)
  have HDB := Lib.hid (dirs_at hv hv')
  have HDN := Lib.hid (dirs_len ps qs)
  have HLL : Hid (lineL ps qs = firstN (fun k => lineE ps qs ((dirsL (two ps qs)).getD k (0, 0))) (dirsL (two ps qs)).length) := Lib.hid rfl
  clear hn hn' hp hq hv hv'
  go_enter Tryz.func51, Tryz.ntmps51
  go_wp2_with fail
  generalize hW : World.alloc w _ = W
  have hgW : Gr w W := by rw [← hW]; exact (Gr.refl _).alloc _
  have hBk : Blk W w.heap.size 74 #[.bool false, .int .i64 0, .int .i64 0, .int .i64 0, .int .i64 0, .int .i64 0, .int .i64 0] := by rw [← hW]; exact heap_alloc_new w _
  clear hW
  refine (HD.out W hgW).mono ?_
  rintro e w3 ⟨gd, cd, rfl, hD, hg3⟩
  replace hBk := hBk.keep hg3
  replace hgW := hgW.trans hg3
  clear hg3 HD
  have HB := Lib.hid hBk
  clear hBk
  generalize dirsL (two ps qs) = ds at HDB HDN HLL hD ⊢
  obtain ⟨N, hN⟩ : ∃ N, ds.length = N := ⟨_, rfl⟩
  have hNb : N ≤ 2049 := by rw [← hN, HDN.out, HN.out, HN'.out]; omega
  rw [hN] at HLL ⊢
  have HNN := Lib.hid hN
  have HDD := Lib.hid hD
  clear hN hD HDN
  go_wp2_with fail
  go_loopw [16] (fun i wr => ∃ k : Nat, k ≤ N ∧ i = .int .i64 k ∧ Hid (firstN (fun k => lineE ps qs (ds.getD k (0, 0))) k = none) ∧ Gr w3 wr) (fun i _ => N - (intOf i).toNat)
  case atStart => exact ⟨0, Nat.zero_le _, rfl, Lib.hid rfl, Gr.refl _⟩
  case round =>
    obtain ⟨k, hk, rfl, hok, hg⟩ := hrel
    by_cases hlt : k < N
    · obtain ⟨b', o', e', x0, x1⟩ := Pts_at (HDD.out.keep hg) (k := k) (by have := HNN.out; omega)
      obtain ⟨rfl, rfl⟩ : gd = b' ∧ 0 = o' := by simpa using e'
      clear e'
      have HST : Hid (lineE ps qs (ds.getD k (0, 0)) = none → firstN (fun k => lineE ps qs (ds.getD k (0, 0))) (k + 1) = none) := Lib.hid (fun h => (firstN_step hok.out).trans h)
      have HFD : Hid (∀ t, lineE ps qs (ds.getD k (0, 0)) = some t → lineL ps qs = some t) := Lib.hid (fun t h => by rw [HLL.out]; exact firstN_at hok.out h hlt)
      have HVD := Lib.hid (HDB.out k)
      generalize ds.getD k (0, 0) = p at x0 x1 HST HFD HVD
      obtain ⟨x, y⟩ := p
      dsimp only at x0 x1
      simp only [Nat.zero_add] at x0 x1
      go_wp2_with fail
      generalize hW : World.alloc wr _ = W2
      obtain ⟨hWg, l0, l1⟩ := box2h hW
      clear hW x0 x1
      refine (reach_any g n c ps x y _ HN.out (by omega) (by omega) (by omega) (HP.out.keep ((hgW.trans hg).trans hWg)) HV.out HVD.out.vc).mono ?_
      rintro e w5 ⟨rfl, hb⟩
      replace l0 := hb.keep l0
      replace l1 := hb.keep l1
      replace hg := (hg.trans hWg).trans hb
      clear hWg hb
      go_wp2_with fail
      refine (reach_any g' n' c' qs x y _ HN'.out (by omega) (by omega) (by omega) (HQ.out.keep (hgW.trans hg)) HV'.out HVD.out.vc).mono ?_
      rintro e w6 ⟨rfl, hb⟩
      replace l0 := hb.keep l0
      replace l1 := hb.keep l1
      replace hg := hg.trans hb
      clear hb
      have q1 := hiT_bd HVD.out.vc HV.out (ps.length - 1)
      have q2 := hiT_bd HVD.out.vc HV'.out (qs.length - 1)
      have q3 := loT_bd HVD.out.vc HV.out (ps.length - 1)
      have q4 := loT_bd HVD.out.vc HV'.out (qs.length - 1)
      have HLE : Hid (lineE ps qs (x, y) = if hiL (x, y) ps < loL (x, y) qs then some (2 * x, 2 * y, hiL (x, y) ps + loL (x, y) qs) else if hiL (x, y) qs < loL (x, y) ps then some (-2 * x, -2 * y, -(hiL (x, y) qs + loL (x, y) ps)) else none) := Lib.hid rfl
      obtain ⟨⟨u1, u2⟩, v1, v2⟩ : Vd (x, y) := HVD.out
      dsimp only at u1 u2 v1 v2
      change -8796093022208 ≤ hiL (x, y) ps ∧ hiL (x, y) ps ≤ 8796093022208 at q1
      change -8796093022208 ≤ hiL (x, y) qs ∧ hiL (x, y) qs ≤ 8796093022208 at q2
      change -8796093022208 ≤ loL (x, y) ps ∧ loL (x, y) ps ≤ 8796093022208 at q3
      change -8796093022208 ≤ loL (x, y) qs ∧ loL (x, y) qs ≤ 8796093022208 at q4
      generalize hiL (x, y) ps = h1 at q1 HLE ⊢
      generalize hiL (x, y) qs = h2 at q2 HLE ⊢
      generalize loL (x, y) ps = o1 at q3 HLE ⊢
      generalize loL (x, y) qs = o2 at q4 HLE ⊢
      obtain ⟨⟨r0, r1, r2, r3, r4, r5, r6⟩, z0, z1, z2, z3, z4, z5, z6⟩ := Blk7 (HB.out.keep hg)
      by_cases ha : h1 < o2
      · have HR := Lib.hid (HFD.out _ (HLE.out.trans (if_pos ha)))
        go_wp2_with fail
        refine bodyPost_ret (v := lineV (some (2 * x, 2 * y, h1 + o2))) ?_ rfl ⟨by rw [HR.out], ?_⟩
        · simp [results, Tryz.results51, r0, r1, r2, r3, r4, r5, r6, go_sem, lineV, apartV]
        · exact Gr.set7 (hgW.trans hg) (Nat.le_refl _)
      · by_cases hb : h2 < o1
        · have HR := Lib.hid (HFD.out _ (HLE.out.trans ((if_neg ha).trans (if_pos hb))))
          go_wp2_with fail
          refine bodyPost_ret (v := lineV (some (-2 * x, -2 * y, -(h2 + o1)))) ?_ rfl ⟨by rw [HR.out], ?_⟩
          · simp [results, Tryz.results51, r0, r1, r2, r3, r4, r5, r6, go_sem, lineV, apartV]
          · exact Gr.set7 (hgW.trans hg) (Nat.le_refl _)
        · have HR := Lib.hid (HST.out (HLE.out.trans ((if_neg ha).trans (if_neg hb))))
          go_wp2_with fail
          go_roundw
          case rel => exact ⟨k + 1, by omega, by go_num, HR, hg⟩
          case measure => simp [intOf]; omega
    · obtain ⟨⟨r0, r1, r2, r3, r4, r5, r6⟩, z0, z1, z2, z3, z4, z5, z6⟩ := Blk7 (HB.out.keep hg)
      go_wp2_with fail
      refine bodyPost_ret (v := lineV none) ?_ rfl ⟨?_, ?_⟩
      · simp [results, Tryz.results51, r0, r1, r2, r3, r4, r5, r6, go_sem, lineV, apartV]
      · obtain rfl : k = N := by omega
        rw [HLL.out, hok.out]
      · exact Gr.set7 (hgW.trans hg) (Nat.le_refl _)

end Go.Proofs.YtpnkpejnahhajaaGreat
