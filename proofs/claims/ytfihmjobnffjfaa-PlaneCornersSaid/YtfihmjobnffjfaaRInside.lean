/- Where a point lies, as the reference tells it. -/
import Derived.Test.YtfihmjobnffjfaaInside
import Derived.Test.YtfihmjobnffjfaaMeet
import Derived.Test.YtfihmjobnffjfaaRArea
namespace Go.Proofs.Ytfihmjobnffjfaa
open Go.RowKit
set_option linter.unusedSimpArgs false

theorem boxes2d {w W : World} {t u : TypeId} {ax ay bx by_ : Value} (hW : ((w.alloc (.cells #[ax, ay] t)).alloc (.cells #[bx, by_] u)).drew = W) :
    Gr w W ∧ W.cell? ⟨w.heap.size, 0, none⟩ = some ax ∧ W.cell? ⟨w.heap.size, 1, none⟩ = some ay ∧ W.cell? ⟨w.heap.size + 1, 0, none⟩ = some bx ∧ W.cell? ⟨w.heap.size + 1, 1, none⟩ = some by_ := by
  subst hW
  exact ⟨(((Gr.refl _).alloc _).alloc _).drew, alloc_old (alloc_new rfl rfl), alloc_old (alloc_new rfl rfl), alloc_new (by simp) rfl, alloc_new (by simp) rfl⟩
def oddB (ps : List (Int × Int)) (x y : Int) (k : Nat) : Bool := decide (plT ps x y k = 1)
theorem plT_two (ps : List (Int × Int)) (x y : Int) : ∀ k, plT ps x y k = 1 ∨ plT ps x y k = -1
  | 0 => Or.inr rfl
  | k + 1 => by have := plT_two ps x y k; unfold plT; split <;> omega
theorem oddB_succ (ps : List (Int × Int)) (x y : Int) (k : Nat) : oddB ps x y (k + 1) = if rayE ps x y k then !oddB ps x y k else oddB ps x y k := by
  have h := plT_two ps x y k
  unfold oddB
  rw [show plT ps x y (k + 1) = if rayE ps x y k then -plT ps x y k else plT ps x y k from rfl]
  split <;> rcases h with h | h <;> rw [h] <;> rfl
theorem plT_odd (ps : List (Int × Int)) (x y : Int) (k : Nat) : plT ps x y k = if oddB ps x y k then 1 else -1 := by
  have h := plT_two ps x y k
  unfold oddB
  rcases h with h | h <;> rw [h] <;> rfl

set_option maxRecDepth 100000 in
set_option maxHeartbeats 8000000 in
theorem rInside_any (A : Option Addr) (n c : Nat) (ps : List (Int × Int)) (px py : Int) (w : World) (hn : ps.length = n) (hl : n ≤ 512) (hp : Pts w A ps) (hv : Cos ps) (hpx : Co px) (hpy : Co py) :
    Calls Try.prog 39 #[.slice A n c, .agg #[.int .i64 px, .int .i64 py]] w fun e w' => e = .returned (.int .i64 (insideL ps px py)) ∧ Gr w w' := by
  have HN := Lib.hid hn
  have HP := Lib.hid hp
  have HV := Lib.hid hv
  clear hn hp hv
  go_enter Try.func39, Try.ntmps39
  go_wp2_with fail
  generalize hW : World.alloc w _ = W
  have hgW : Gr w W := by rw [← hW]; exact (Gr.refl _).alloc _
  have b0 : W.cell? ⟨w.heap.size, 0, none⟩ = some (.int .i64 px) := by rw [← hW]; exact alloc_new rfl rfl
  have b1 : W.cell? ⟨w.heap.size, 1, none⟩ = some (.int .i64 py) := by rw [← hW]; exact alloc_new rfl rfl
  clear hW
  go_loopw [5, 6] (fun s i wr => ∃ (k : Nat) (o : Bool), k ≤ n ∧ i = .int .i64 k ∧ s = .bool o ∧ Hid (oddB ps px py k = o) ∧ Hid (∀ i, i < k → onE ps px py i = false) ∧ Gr W wr) (fun _ i _ => n - (intOf i).toNat)
  case atStart => exact ⟨0, false, Nat.zero_le _, rfl, rfl, Lib.hid rfl, Lib.hid (fun i h => by omega), Gr.refl _⟩
  case round =>
    obtain ⟨k, o, hk, rfl, rfl, ho, hok, hg⟩ := hrel
    replace b0 := hg.keep b0
    replace b1 := hg.keep b1
    by_cases hlt : k < n
    · have hmn : (k + 1) % n < n := Nat.mod_lt _ (by omega)
      obtain ⟨b, off, rfl, p0, p1⟩ := Pts_at (HP.out.keep (hgW.trans hg)) (k := k) (by have := HN.out; omega)
      obtain ⟨b', off', e', q0, q1⟩ := Pts_at (HP.out.keep (hgW.trans hg)) (k := (k + 1) % n) (by have := HN.out; omega)
      obtain ⟨rfl, rfl⟩ : b = b' ∧ off = off' := by simpa using e'
      obtain ⟨c1, c2⟩ := HV.out k
      obtain ⟨c3, c4⟩ := HV.out ((k + 1) % n)
      have HON : Hid (onE ps px py k = onL (ps.getD k (0, 0)).1 (ps.getD k (0, 0)).2 (ps.getD ((k + 1) % n) (0, 0)).1 (ps.getD ((k + 1) % n) (0, 0)).2 px py) := Lib.hid (by unfold onE touchE ed; rw [HN.out, touch_point])
      have HRY : Hid (rayE ps px py k = rayL (ps.getD k (0, 0)).1 (ps.getD k (0, 0)).2 (ps.getD ((k + 1) % n) (0, 0)).1 (ps.getD ((k + 1) % n) (0, 0)).2 px py) := Lib.hid (by unfold rayE ed; rw [HN.out])
      have HOS := Lib.hid (oddB_succ ps px py k)
      have HX := Lib.hid (fun W => next_is k n _ W rfl hlt (by omega))
      generalize ps.getD k (0, 0) = u at p0 p1 c1 c2 HON HRY
      generalize ps.getD ((k + 1) % n) (0, 0) = v at q0 q1 c3 c4 HON HRY
      generalize (k + 1) % n = m at hmn q0 q1 HX
      obtain ⟨x, y⟩ := u
      obtain ⟨x', y'⟩ := v
      dsimp only at HON HRY p0 p1 q0 q1 c1 c2 c3 c4
      clear e'
      have hm0 : (0 : Int) ≤ (m : Int) := by omega
      have hm1 : (m : Int) < (n : Int) := by omega
      have KS : Hid (∀ W', Gr wr W' → (Gr wr W' ∧ W'.cell? ⟨b, off + k * 2, none⟩ = some (.int .i64 x) ∧ W'.cell? ⟨b, off + k * 2 + 1, none⟩ = some (.int .i64 y) ∧ W'.cell? ⟨b, off + m * 2, none⟩ = some (.int .i64 x') ∧ W'.cell? ⟨b, off + m * 2 + 1, none⟩ = some (.int .i64 y'))) := Lib.hid (fun W' h => ⟨h, h.keep p0, h.keep p1, h.keep q0, h.keep q1⟩)
      have a0 : ∀ W', Gr wr W' → W'.cell? ⟨w.heap.size, 0, none⟩ = some (.int .i64 px) := fun W' h => h.keep b0
      have a1 : ∀ W', Gr wr W' → W'.cell? ⟨w.heap.size, 1, none⟩ = some (.int .i64 py) := fun W' h => h.keep b1
      have A0 := Lib.hid a0
      have A1 := Lib.hid a1
      clear a0 a1 b0 b1
      go_wp2_with fail
      refine wp_region_held_drew (S := (fun W' => Gr wr W' ∧ W'.cell? ⟨b, off + k * 2, none⟩ = some (.int .i64 x) ∧ W'.cell? ⟨b, off + k * 2 + 1, none⟩ = some (.int .i64 y) ∧ W'.cell? ⟨b, off + m * 2, none⟩ = some (.int .i64 x') ∧ W'.cell? ⟨b, off + m * 2 + 1, none⟩ = some (.int .i64 y'))) ?_ ?_ (fun hHeld => ?_)
      · kernel_rfl
      · ((try dsimp only); (refine KS.out _ ?_; (repeat (first | exact Gr.refl _ | exact hHeld.1 | (refine Gr.drew ?_) | (refine Gr.alloc ?_ _) | (refine Gr.setCell ?_ (by simp) _)))))
      refine take_in (i := 0) (v := ?_) (d := (some 15)) rfl rfl ?_ ?_ ?_ ?_ ?_ ?_ ?_ ?_
      rotate_left
      · kernel_rfl
      · kernel_rfl
      · kernel_rfl
      · (intro _ _ _ hq; exact hq)
      · rfl
      · (intro _w hSw; (try dsimp only at hSw); go_simp; try with_reducible rfl)
      · assumption
      try simp only [Act.put, List.setIfInBounds_toArray, List.set_cons_zero, List.set_cons_succ]
      refine take_in (i := 1) (v := ?_) (d := (some 16)) rfl rfl ?_ ?_ ?_ ?_ ?_ ?_ ?_ ?_
      rotate_left
      · kernel_rfl
      · kernel_rfl
      · kernel_rfl
      · (intro _ _ _ hq; exact hq)
      · rfl
      · (intro _w hSw; (try dsimp only at hSw); go_simp; try with_reducible rfl)
      · assumption
      try simp only [Act.put, List.setIfInBounds_toArray, List.set_cons_zero, List.set_cons_succ]
      refine take_in (i := 2) (v := ?_) (d := (some 17)) rfl rfl ?_ ?_ ?_ ?_ ?_ ?_ ?_ ?_
      rotate_left
      · kernel_rfl
      · kernel_rfl
      · kernel_rfl
      · (intro _ _ _ hq; exact hq)
      · rfl
      · (intro _w hSw; (try dsimp only at hSw); go_simp; try with_reducible rfl)
      · assumption
      try simp only [Act.put, List.setIfInBounds_toArray, List.set_cons_zero, List.set_cons_succ]
      refine take_in (i := 3) (v := ?_) (d := (some 18)) rfl rfl ?_ ?_ ?_ ?_ ?_ ?_ ?_ ?_
      rotate_left
      · kernel_rfl
      · kernel_rfl
      · kernel_rfl
      · (intro _ _ _ hq; exact hq)
      · rfl
      · (intro _w hSw; (try dsimp only at hSw); go_simp; try with_reducible rfl)
      · assumption
      try simp only [Act.put, List.setIfInBounds_toArray, List.set_cons_zero, List.set_cons_succ]
      refine take_in (i := 4) (v := ?_) (d := (some 19)) rfl rfl ?_ ?_ ?_ ?_ ?_ ?_ ?_ ?_
      rotate_left
      · kernel_rfl
      · kernel_rfl
      · kernel_rfl
      · (intro _ _ _ hq; exact hq)
      · rfl
      · (intro _w hSw; (try dsimp only at hSw); go_simp; try with_reducible rfl)
      · assumption
      try simp only [Act.put, List.setIfInBounds_toArray, List.set_cons_zero, List.set_cons_succ]
      refine take_in (i := 5) (v := ?_) (d := (some 20)) rfl rfl ?_ ?_ ?_ ?_ ?_ ?_ ?_ ?_
      rotate_left
      · kernel_rfl
      · kernel_rfl
      · kernel_rfl
      · (intro _ _ _ hq; exact hq)
      · rfl
      · (intro _w hSw; (try dsimp only at hSw); go_simp; try with_reducible rfl)
      · assumption
      try simp only [Act.put, List.setIfInBounds_toArray, List.set_cons_zero, List.set_cons_succ]
      refine take_in (i := 6) (v := ?_) (d := (some 21)) rfl rfl ?_ ?_ ?_ ?_ ?_ ?_ ?_ ?_
      rotate_left
      · kernel_rfl
      · kernel_rfl
      · kernel_rfl
      · (intro _ _ _ hq; exact hq)
      · rfl
      · (intro _w hSw; (try dsimp only at hSw); go_simp; try with_reducible rfl)
      · assumption
      try simp only [Act.put, List.setIfInBounds_toArray, List.set_cons_zero, List.set_cons_succ]
      refine take_in (i := 7) (v := ?_) (d := (some 22)) rfl rfl ?_ ?_ ?_ ?_ ?_ ?_ ?_ ?_
      rotate_left
      · kernel_rfl
      · kernel_rfl
      · kernel_rfl
      · (intro _ _ _ hq; exact hq)
      · rfl
      · (intro _w hSw; (try dsimp only at hSw); go_simp; try with_reducible rfl)
      · assumption
      try simp only [Act.put, List.setIfInBounds_toArray, List.set_cons_zero, List.set_cons_succ]
      refine wpAnyH_ready (rs := [8, 11, 12]) ?_ ?_ ?_
      · kernel_rfl
      · simp
      refine (AllReadyH.cons rfl (fun K hK => ?_) (AllReadyH.cons rfl (fun K hK => ?_) (AllReadyH.cons rfl (fun K hK => ?_) AllReadyH.nil)))
      go_simp
      first | (go_at_call 57; (with_reducible refine (HX.out _).mono ?_); rintro e w3 ⟨rfl, rfl⟩)
      refine hK.out _ _ ?_ (fun hHeld => ?_)
      · ((try dsimp only); (refine KS.out _ ?_; (repeat (first | exact Gr.refl _ | exact hHeld.1 | (refine Gr.drew ?_) | (refine Gr.alloc ?_ _) | (refine Gr.setCell ?_ (by simp) _)))))
      clear hK K
      try simp only [Act.put, List.setIfInBounds_toArray, List.set_cons_zero, List.set_cons_succ]
      refine take_in (i := 9) (v := ?_) (d := (some 24)) rfl rfl ?_ ?_ ?_ ?_ ?_ ?_ ?_ ?_
      rotate_left
      · kernel_rfl
      · kernel_rfl
      · kernel_rfl
      · (intro _ _ _ hq; exact hq)
      · rfl
      · (intro _w hSw; (try dsimp only at hSw); go_simp; try with_reducible rfl)
      · assumption
      try simp only [Act.put, List.setIfInBounds_toArray, List.set_cons_zero, List.set_cons_succ]
      refine take_in (i := 10) (v := ?_) (d := (some 25)) rfl rfl ?_ ?_ ?_ ?_ ?_ ?_ ?_ ?_
      rotate_left
      · kernel_rfl
      · kernel_rfl
      · kernel_rfl
      · (intro _ _ _ hq; exact hq)
      · rfl
      · (intro _w hSw; (try dsimp only at hSw); go_simp; try with_reducible rfl)
      · assumption
      try simp only [Act.put, List.setIfInBounds_toArray, List.set_cons_zero, List.set_cons_succ]
      refine wpAnyH_ready (rs := [11, 12]) ?_ ?_ ?_
      · kernel_rfl
      · simp
      refine (AllReadyH.cons rfl (fun K hK => ?_) (AllReadyH.cons rfl (fun K hK => ?_) AllReadyH.nil))
      go_simp
      refine hK.out _ _ ?_ (fun hHeld => ?_)
      · ((try dsimp only); (refine KS.out _ ?_; (repeat (first | exact Gr.refl _ | exact hHeld.1 | (refine Gr.drew ?_) | (refine Gr.alloc ?_ _) | (refine Gr.setCell ?_ (by simp) _)))))
      clear hK K
      try simp only [Act.put, List.setIfInBounds_toArray, List.set_cons_zero, List.set_cons_succ]
      refine wpAnyH_ready (rs := [12]) ?_ ?_ ?_
      · kernel_rfl
      · simp
      refine (AllReadyH.cons rfl (fun K hK => ?_) AllReadyH.nil)
      go_simp
      refine hK.out _ _ ?_ (fun hHeld => ?_)
      · ((try dsimp only); (refine KS.out _ ?_; (repeat (first | exact Gr.refl _ | exact hHeld.1 | (refine Gr.drew ?_) | (refine Gr.alloc ?_ _) | (refine Gr.setCell ?_ (by simp) _)))))
      clear hK K
      try simp only [Act.put, List.setIfInBounds_toArray, List.set_cons_zero, List.set_cons_succ]
      refine wpAnyH_ready (rs := [13]) ?_ ?_ ?_
      · kernel_rfl
      · simp
      refine (AllReadyH.cons rfl (fun K hK => ?_) AllReadyH.nil)
      go_simp
      refine hK.out _ _ ?_ (fun hHeld => ?_)
      · ((try dsimp only); (refine KS.out _ ?_; (repeat (first | exact Gr.refl _ | exact hHeld.1 | (refine Gr.drew ?_) | (refine Gr.alloc ?_ _) | (refine Gr.setCell ?_ (by simp) _)))))
      clear hK K
      try simp only [Act.put, List.setIfInBounds_toArray, List.set_cons_zero, List.set_cons_succ]
      refine wpAnyH_ready (rs := [14]) ?_ ?_ ?_
      · kernel_rfl
      · simp
      refine (AllReadyH.cons rfl (fun K hK => ?_) AllReadyH.nil)
      go_simp
      refine hK.out _ _ ?_ (fun hHeld => ?_)
      · ((try dsimp only); (refine KS.out _ ?_; (repeat (first | exact Gr.refl _ | exact hHeld.1 | (refine Gr.drew ?_) | (refine Gr.alloc ?_ _) | (refine Gr.setCell ?_ (by simp) _)))))
      clear hK K
      try simp only [Act.put, List.setIfInBounds_toArray, List.set_cons_zero, List.set_cons_succ]
      refine wpAnyH_done ?_ ?_ _
      · kernel_rfl
      rotate_left
      go_simp
      refine hK.out _ _ ?_ (fun hHeld => ?_)
      · ((try dsimp only); (refine KS.out _ ?_; (repeat (first | exact Gr.refl _ | exact hHeld.1 | (refine Gr.drew ?_) | (refine Gr.alloc ?_ _) | (refine Gr.setCell ?_ (by simp) _)))))
      clear hK K
      try simp only [Act.put, List.setIfInBounds_toArray, List.set_cons_zero, List.set_cons_succ]
      refine wpAnyH_ready (rs := [11]) ?_ ?_ ?_
      · kernel_rfl
      · simp
      refine (AllReadyH.cons rfl (fun K hK => ?_) AllReadyH.nil)
      go_simp
      refine hK.out _ _ ?_ (fun hHeld => ?_)
      · ((try dsimp only); (refine KS.out _ ?_; (repeat (first | exact Gr.refl _ | exact hHeld.1 | (refine Gr.drew ?_) | (refine Gr.alloc ?_ _) | (refine Gr.setCell ?_ (by simp) _)))))
      clear hK K
      try simp only [Act.put, List.setIfInBounds_toArray, List.set_cons_zero, List.set_cons_succ]
      refine wpAnyH_ready (rs := [13]) ?_ ?_ ?_
      · kernel_rfl
      · simp
      refine (AllReadyH.cons rfl (fun K hK => ?_) AllReadyH.nil)
      go_simp
      refine hK.out _ _ ?_ (fun hHeld => ?_)
      · ((try dsimp only); (refine KS.out _ ?_; (repeat (first | exact Gr.refl _ | exact hHeld.1 | (refine Gr.drew ?_) | (refine Gr.alloc ?_ _) | (refine Gr.setCell ?_ (by simp) _)))))
      clear hK K
      try simp only [Act.put, List.setIfInBounds_toArray, List.set_cons_zero, List.set_cons_succ]
      refine wpAnyH_ready (rs := [14]) ?_ ?_ ?_
      · kernel_rfl
      · simp
      refine (AllReadyH.cons rfl (fun K hK => ?_) AllReadyH.nil)
      go_simp
      refine hK.out _ _ ?_ (fun hHeld => ?_)
      · ((try dsimp only); (refine KS.out _ ?_; (repeat (first | exact Gr.refl _ | exact hHeld.1 | (refine Gr.drew ?_) | (refine Gr.alloc ?_ _) | (refine Gr.setCell ?_ (by simp) _)))))
      clear hK K
      try simp only [Act.put, List.setIfInBounds_toArray, List.set_cons_zero, List.set_cons_succ]
      refine wpAnyH_done ?_ ?_ _
      · kernel_rfl
      rotate_left
      go_simp
      refine hK.out _ _ ?_ (fun hHeld => ?_)
      · ((try dsimp only); (refine KS.out _ ?_; (repeat (first | exact Gr.refl _ | exact hHeld.1 | (refine Gr.drew ?_) | (refine Gr.alloc ?_ _) | (refine Gr.setCell ?_ (by simp) _)))))
      clear hK K
      try simp only [Act.put, List.setIfInBounds_toArray, List.set_cons_zero, List.set_cons_succ]
      refine wpAnyH_ready (rs := [8, 12]) ?_ ?_ ?_
      · kernel_rfl
      · simp
      refine (AllReadyH.cons rfl (fun K hK => ?_) (AllReadyH.cons rfl (fun K hK => ?_) AllReadyH.nil))
      go_simp
      first | (go_at_call 57; (with_reducible refine (HX.out _).mono ?_); rintro e w3 ⟨rfl, rfl⟩)
      refine hK.out _ _ ?_ (fun hHeld => ?_)
      · ((try dsimp only); (refine KS.out _ ?_; (repeat (first | exact Gr.refl _ | exact hHeld.1 | (refine Gr.drew ?_) | (refine Gr.alloc ?_ _) | (refine Gr.setCell ?_ (by simp) _)))))
      clear hK K
      try simp only [Act.put, List.setIfInBounds_toArray, List.set_cons_zero, List.set_cons_succ]
      refine take_in (i := 9) (v := ?_) (d := (some 24)) rfl rfl ?_ ?_ ?_ ?_ ?_ ?_ ?_ ?_
      rotate_left
      · kernel_rfl
      · kernel_rfl
      · kernel_rfl
      · (intro _ _ _ hq; exact hq)
      · rfl
      · (intro _w hSw; (try dsimp only at hSw); go_simp; try with_reducible rfl)
      · assumption
      try simp only [Act.put, List.setIfInBounds_toArray, List.set_cons_zero, List.set_cons_succ]
      refine take_in (i := 10) (v := ?_) (d := (some 25)) rfl rfl ?_ ?_ ?_ ?_ ?_ ?_ ?_ ?_
      rotate_left
      · kernel_rfl
      · kernel_rfl
      · kernel_rfl
      · (intro _ _ _ hq; exact hq)
      · rfl
      · (intro _w hSw; (try dsimp only at hSw); go_simp; try with_reducible rfl)
      · assumption
      try simp only [Act.put, List.setIfInBounds_toArray, List.set_cons_zero, List.set_cons_succ]
      refine wpAnyH_ready (rs := [12]) ?_ ?_ ?_
      · kernel_rfl
      · simp
      refine (AllReadyH.cons rfl (fun K hK => ?_) AllReadyH.nil)
      go_simp
      refine hK.out _ _ ?_ (fun hHeld => ?_)
      · ((try dsimp only); (refine KS.out _ ?_; (repeat (first | exact Gr.refl _ | exact hHeld.1 | (refine Gr.drew ?_) | (refine Gr.alloc ?_ _) | (refine Gr.setCell ?_ (by simp) _)))))
      clear hK K
      try simp only [Act.put, List.setIfInBounds_toArray, List.set_cons_zero, List.set_cons_succ]
      refine wpAnyH_ready (rs := [13]) ?_ ?_ ?_
      · kernel_rfl
      · simp
      refine (AllReadyH.cons rfl (fun K hK => ?_) AllReadyH.nil)
      go_simp
      refine hK.out _ _ ?_ (fun hHeld => ?_)
      · ((try dsimp only); (refine KS.out _ ?_; (repeat (first | exact Gr.refl _ | exact hHeld.1 | (refine Gr.drew ?_) | (refine Gr.alloc ?_ _) | (refine Gr.setCell ?_ (by simp) _)))))
      clear hK K
      try simp only [Act.put, List.setIfInBounds_toArray, List.set_cons_zero, List.set_cons_succ]
      refine wpAnyH_ready (rs := [14]) ?_ ?_ ?_
      · kernel_rfl
      · simp
      refine (AllReadyH.cons rfl (fun K hK => ?_) AllReadyH.nil)
      go_simp
      refine hK.out _ _ ?_ (fun hHeld => ?_)
      · ((try dsimp only); (refine KS.out _ ?_; (repeat (first | exact Gr.refl _ | exact hHeld.1 | (refine Gr.drew ?_) | (refine Gr.alloc ?_ _) | (refine Gr.setCell ?_ (by simp) _)))))
      clear hK K
      try simp only [Act.put, List.setIfInBounds_toArray, List.set_cons_zero, List.set_cons_succ]
      refine wpAnyH_done ?_ ?_ _
      · kernel_rfl
      rotate_left
      go_simp
      refine hK.out _ _ ?_ (fun hHeld => ?_)
      · ((try dsimp only); (refine KS.out _ ?_; (repeat (first | exact Gr.refl _ | exact hHeld.1 | (refine Gr.drew ?_) | (refine Gr.alloc ?_ _) | (refine Gr.setCell ?_ (by simp) _)))))
      clear hK K
      try simp only [Act.put, List.setIfInBounds_toArray, List.set_cons_zero, List.set_cons_succ]
      refine wpAnyH_ready (rs := [8]) ?_ ?_ ?_
      · kernel_rfl
      · simp
      refine (AllReadyH.cons rfl (fun K hK => ?_) AllReadyH.nil)
      go_simp
      first | (go_at_call 57; (with_reducible refine (HX.out _).mono ?_); rintro e w3 ⟨rfl, rfl⟩)
      refine hK.out _ _ ?_ (fun hHeld => ?_)
      · ((try dsimp only); (refine KS.out _ ?_; (repeat (first | exact Gr.refl _ | exact hHeld.1 | (refine Gr.drew ?_) | (refine Gr.alloc ?_ _) | (refine Gr.setCell ?_ (by simp) _)))))
      clear hK K
      try simp only [Act.put, List.setIfInBounds_toArray, List.set_cons_zero, List.set_cons_succ]
      refine take_in (i := 9) (v := ?_) (d := (some 24)) rfl rfl ?_ ?_ ?_ ?_ ?_ ?_ ?_ ?_
      rotate_left
      · kernel_rfl
      · kernel_rfl
      · kernel_rfl
      · (intro _ _ _ hq; exact hq)
      · rfl
      · (intro _w hSw; (try dsimp only at hSw); go_simp; try with_reducible rfl)
      · assumption
      try simp only [Act.put, List.setIfInBounds_toArray, List.set_cons_zero, List.set_cons_succ]
      refine take_in (i := 10) (v := ?_) (d := (some 25)) rfl rfl ?_ ?_ ?_ ?_ ?_ ?_ ?_ ?_
      rotate_left
      · kernel_rfl
      · kernel_rfl
      · kernel_rfl
      · (intro _ _ _ hq; exact hq)
      · rfl
      · (intro _w hSw; (try dsimp only at hSw); go_simp; try with_reducible rfl)
      · assumption
      try simp only [Act.put, List.setIfInBounds_toArray, List.set_cons_zero, List.set_cons_succ]
      refine wpAnyH_ready (rs := [13]) ?_ ?_ ?_
      · kernel_rfl
      · simp
      refine (AllReadyH.cons rfl (fun K hK => ?_) AllReadyH.nil)
      go_simp
      refine hK.out _ _ ?_ (fun hHeld => ?_)
      · ((try dsimp only); (refine KS.out _ ?_; (repeat (first | exact Gr.refl _ | exact hHeld.1 | (refine Gr.drew ?_) | (refine Gr.alloc ?_ _) | (refine Gr.setCell ?_ (by simp) _)))))
      clear hK K
      try simp only [Act.put, List.setIfInBounds_toArray, List.set_cons_zero, List.set_cons_succ]
      refine wpAnyH_ready (rs := [14]) ?_ ?_ ?_
      · kernel_rfl
      · simp
      refine (AllReadyH.cons rfl (fun K hK => ?_) AllReadyH.nil)
      go_simp
      refine hK.out _ _ ?_ (fun hHeld => ?_)
      · ((try dsimp only); (refine KS.out _ ?_; (repeat (first | exact Gr.refl _ | exact hHeld.1 | (refine Gr.drew ?_) | (refine Gr.alloc ?_ _) | (refine Gr.setCell ?_ (by simp) _)))))
      clear hK K
      try simp only [Act.put, List.setIfInBounds_toArray, List.set_cons_zero, List.set_cons_succ]
      refine wpAnyH_done ?_ ?_ _
      · kernel_rfl
      rotate_left
      go_simp
      refine hK.out _ _ ?_ (fun hHeld => ?_)
      · ((try dsimp only); (refine KS.out _ ?_; (repeat (first | exact Gr.refl _ | exact hHeld.1 | (refine Gr.drew ?_) | (refine Gr.alloc ?_ _) | (refine Gr.setCell ?_ (by simp) _)))))
      clear hK K
      try simp only [Act.put, List.setIfInBounds_toArray, List.set_cons_zero, List.set_cons_succ]
      refine wpAnyH_ready (rs := [8, 11]) ?_ ?_ ?_
      · kernel_rfl
      · simp
      refine (AllReadyH.cons rfl (fun K hK => ?_) (AllReadyH.cons rfl (fun K hK => ?_) AllReadyH.nil))
      go_simp
      first | (go_at_call 57; (with_reducible refine (HX.out _).mono ?_); rintro e w3 ⟨rfl, rfl⟩)
      refine hK.out _ _ ?_ (fun hHeld => ?_)
      · ((try dsimp only); (refine KS.out _ ?_; (repeat (first | exact Gr.refl _ | exact hHeld.1 | (refine Gr.drew ?_) | (refine Gr.alloc ?_ _) | (refine Gr.setCell ?_ (by simp) _)))))
      clear hK K
      try simp only [Act.put, List.setIfInBounds_toArray, List.set_cons_zero, List.set_cons_succ]
      refine take_in (i := 9) (v := ?_) (d := (some 24)) rfl rfl ?_ ?_ ?_ ?_ ?_ ?_ ?_ ?_
      rotate_left
      · kernel_rfl
      · kernel_rfl
      · kernel_rfl
      · (intro _ _ _ hq; exact hq)
      · rfl
      · (intro _w hSw; (try dsimp only at hSw); go_simp; try with_reducible rfl)
      · assumption
      try simp only [Act.put, List.setIfInBounds_toArray, List.set_cons_zero, List.set_cons_succ]
      refine take_in (i := 10) (v := ?_) (d := (some 25)) rfl rfl ?_ ?_ ?_ ?_ ?_ ?_ ?_ ?_
      rotate_left
      · kernel_rfl
      · kernel_rfl
      · kernel_rfl
      · (intro _ _ _ hq; exact hq)
      · rfl
      · (intro _w hSw; (try dsimp only at hSw); go_simp; try with_reducible rfl)
      · assumption
      try simp only [Act.put, List.setIfInBounds_toArray, List.set_cons_zero, List.set_cons_succ]
      refine wpAnyH_ready (rs := [11]) ?_ ?_ ?_
      · kernel_rfl
      · simp
      refine (AllReadyH.cons rfl (fun K hK => ?_) AllReadyH.nil)
      go_simp
      refine hK.out _ _ ?_ (fun hHeld => ?_)
      · ((try dsimp only); (refine KS.out _ ?_; (repeat (first | exact Gr.refl _ | exact hHeld.1 | (refine Gr.drew ?_) | (refine Gr.alloc ?_ _) | (refine Gr.setCell ?_ (by simp) _)))))
      clear hK K
      try simp only [Act.put, List.setIfInBounds_toArray, List.set_cons_zero, List.set_cons_succ]
      refine wpAnyH_ready (rs := [13]) ?_ ?_ ?_
      · kernel_rfl
      · simp
      refine (AllReadyH.cons rfl (fun K hK => ?_) AllReadyH.nil)
      go_simp
      refine hK.out _ _ ?_ (fun hHeld => ?_)
      · ((try dsimp only); (refine KS.out _ ?_; (repeat (first | exact Gr.refl _ | exact hHeld.1 | (refine Gr.drew ?_) | (refine Gr.alloc ?_ _) | (refine Gr.setCell ?_ (by simp) _)))))
      clear hK K
      try simp only [Act.put, List.setIfInBounds_toArray, List.set_cons_zero, List.set_cons_succ]
      refine wpAnyH_ready (rs := [14]) ?_ ?_ ?_
      · kernel_rfl
      · simp
      refine (AllReadyH.cons rfl (fun K hK => ?_) AllReadyH.nil)
      go_simp
      refine hK.out _ _ ?_ (fun hHeld => ?_)
      · ((try dsimp only); (refine KS.out _ ?_; (repeat (first | exact Gr.refl _ | exact hHeld.1 | (refine Gr.drew ?_) | (refine Gr.alloc ?_ _) | (refine Gr.setCell ?_ (by simp) _)))))
      clear hK K
      try simp only [Act.put, List.setIfInBounds_toArray, List.set_cons_zero, List.set_cons_succ]
      refine wpAnyH_done ?_ ?_ _
      · kernel_rfl
      rotate_left
      go_simp
      refine hK.out _ _ ?_ (fun hHeld => ?_)
      · ((try dsimp only); (refine KS.out _ ?_; (repeat (first | exact Gr.refl _ | exact hHeld.1 | (refine Gr.drew ?_) | (refine Gr.alloc ?_ _) | (refine Gr.setCell ?_ (by simp) _)))))
      clear hK K
      try simp only [Act.put, List.setIfInBounds_toArray, List.set_cons_zero, List.set_cons_succ]
      refine wpAnyH_ready (rs := [8]) ?_ ?_ ?_
      · kernel_rfl
      · simp
      refine (AllReadyH.cons rfl (fun K hK => ?_) AllReadyH.nil)
      go_simp
      first | (go_at_call 57; (with_reducible refine (HX.out _).mono ?_); rintro e w3 ⟨rfl, rfl⟩)
      refine hK.out _ _ ?_ (fun hHeld => ?_)
      · ((try dsimp only); (refine KS.out _ ?_; (repeat (first | exact Gr.refl _ | exact hHeld.1 | (refine Gr.drew ?_) | (refine Gr.alloc ?_ _) | (refine Gr.setCell ?_ (by simp) _)))))
      clear hK K
      try simp only [Act.put, List.setIfInBounds_toArray, List.set_cons_zero, List.set_cons_succ]
      refine take_in (i := 9) (v := ?_) (d := (some 24)) rfl rfl ?_ ?_ ?_ ?_ ?_ ?_ ?_ ?_
      rotate_left
      · kernel_rfl
      · kernel_rfl
      · kernel_rfl
      · (intro _ _ _ hq; exact hq)
      · rfl
      · (intro _w hSw; (try dsimp only at hSw); go_simp; try with_reducible rfl)
      · assumption
      try simp only [Act.put, List.setIfInBounds_toArray, List.set_cons_zero, List.set_cons_succ]
      refine take_in (i := 10) (v := ?_) (d := (some 25)) rfl rfl ?_ ?_ ?_ ?_ ?_ ?_ ?_ ?_
      rotate_left
      · kernel_rfl
      · kernel_rfl
      · kernel_rfl
      · (intro _ _ _ hq; exact hq)
      · rfl
      · (intro _w hSw; (try dsimp only at hSw); go_simp; try with_reducible rfl)
      · assumption
      try simp only [Act.put, List.setIfInBounds_toArray, List.set_cons_zero, List.set_cons_succ]
      refine wpAnyH_ready (rs := [13]) ?_ ?_ ?_
      · kernel_rfl
      · simp
      refine (AllReadyH.cons rfl (fun K hK => ?_) AllReadyH.nil)
      go_simp
      refine hK.out _ _ ?_ (fun hHeld => ?_)
      · ((try dsimp only); (refine KS.out _ ?_; (repeat (first | exact Gr.refl _ | exact hHeld.1 | (refine Gr.drew ?_) | (refine Gr.alloc ?_ _) | (refine Gr.setCell ?_ (by simp) _)))))
      clear hK K
      try simp only [Act.put, List.setIfInBounds_toArray, List.set_cons_zero, List.set_cons_succ]
      refine wpAnyH_ready (rs := [14]) ?_ ?_ ?_
      · kernel_rfl
      · simp
      refine (AllReadyH.cons rfl (fun K hK => ?_) AllReadyH.nil)
      go_simp
      refine hK.out _ _ ?_ (fun hHeld => ?_)
      · ((try dsimp only); (refine KS.out _ ?_; (repeat (first | exact Gr.refl _ | exact hHeld.1 | (refine Gr.drew ?_) | (refine Gr.alloc ?_ _) | (refine Gr.setCell ?_ (by simp) _)))))
      clear hK K
      try simp only [Act.put, List.setIfInBounds_toArray, List.set_cons_zero, List.set_cons_succ]
      refine wpAnyH_done ?_ ?_ _
      · kernel_rfl
      rotate_left
      all_goals
        generalize hW2 : World.drew _ = W2
        obtain ⟨hWg, l0, l1, l2, l3⟩ := boxes2d hW2
        clear hW2 hHeld p0 p1 q0 q1 KS
        have b0 := A0.out _ hWg
        have b1 := A1.out _ hWg
        go_wp2_with fail
        rcases ht : onL x y x' y' px py with _ | _
        · have HT := Lib.hid ht
          clear ht
          refine (on_any _ _ _ _ _ _ _ c1 c2 c3 c4 hpx hpy _ HT.out).mono ?_
          rintro e w4 ⟨rfl, hb⟩
          replace b0 := hb.keep b0
          replace b1 := hb.keep b1
          replace l0 := hb.keep l0
          replace l1 := hb.keep l1
          replace l2 := hb.keep l2
          replace l3 := hb.keep l3
          replace hWg := hWg.trans hb
          clear hb
          have HRR : Hid (rayE ps px py k = rayR x y x' y' px py) := Lib.hid (HRY.out.trans (ray_eq HT.out))
          have HKN : Hid (∀ i, i < k + 1 → onE ps px py i = false) := Lib.hid (fun i hi => by
            rcases Nat.lt_succ_iff_lt_or_eq.1 hi with h | rfl
            · exact hok.out i h
            · rw [HON.out, HT.out])
          obtain ⟨s, hs⟩ : ∃ s, sgn (crs x y x' y' px py) = s := ⟨_, rfl⟩
          obtain ⟨s', hs'⟩ : ∃ s', sgn (crs x' y' x y px py) = s' := ⟨_, rfl⟩
          have HS := Lib.hid hs
          have HS' := Lib.hid hs'
          have hrd : rayR x y x' y' px py = ((decide (y ≤ py ∧ py < y') && decide (0 < s)) || (decide (y' ≤ py ∧ py < y) && decide (0 < s'))) := by unfold rayR; rw [hs, hs']
          clear hs hs'
          rcases Int.lt_or_le py y with h1 | h1 <;> rcases Int.lt_or_le py y' with h2 | h2
          · have HNW : Hid (oddB ps px py (k + 1) = o) := Lib.hid (by rw [HOS.out, HRR.out, hrd, ho.out]; simp; omega)
            clear hrd
            go_wp2_with fail
            go_roundw
            case rel => exact ⟨k + 1, _, by omega, by go_num, rfl, HNW, HKN, hg.trans hWg⟩
            case measure => simp [intOf]; omega
          · rcases Int.lt_or_le 0 s' with h3 | h3
            · have HNW : Hid (oddB ps px py (k + 1) = !o) := Lib.hid (by rw [HOS.out, HRR.out, hrd, ho.out]; simp [h1, h2, h3])
              clear hrd
              go_wp2_with fail
              refine (rTurn_is _ _ _ _ _ _ _ _ HS'.out c3 c4 c1 c2 hpx hpy).mono ?_
              rintro e w5 ⟨rfl, hb⟩
              go_wp2_with fail
              go_roundw
              case rel => exact ⟨k + 1, _, by omega, by go_num, rfl, HNW, HKN, (hg.trans hWg).trans hb⟩
              case measure => simp [intOf]; omega
            · have HNW : Hid (oddB ps px py (k + 1) = o) := Lib.hid (by rw [HOS.out, HRR.out, hrd, ho.out]; simp; omega)
              clear hrd
              go_wp2_with fail
              refine (rTurn_is _ _ _ _ _ _ _ _ HS'.out c3 c4 c1 c2 hpx hpy).mono ?_
              rintro e w5 ⟨rfl, hb⟩
              go_wp2_with fail
              go_roundw
              case rel => exact ⟨k + 1, _, by omega, by go_num, rfl, HNW, HKN, (hg.trans hWg).trans hb⟩
              case measure => simp [intOf]; omega
          · rcases Int.lt_or_le 0 s with h3 | h3
            · have HNW : Hid (oddB ps px py (k + 1) = !o) := Lib.hid (by rw [HOS.out, HRR.out, hrd, ho.out]; simp [h1, h2, h3])
              clear hrd
              go_wp2_with fail
              refine (rTurn_is _ _ _ _ _ _ _ _ HS.out c1 c2 c3 c4 hpx hpy).mono ?_
              rintro e w5 ⟨rfl, hb⟩
              go_wp2_with fail
              go_roundw
              case rel => exact ⟨k + 1, _, by omega, by go_num, rfl, HNW, HKN, (hg.trans hWg).trans hb⟩
              case measure => simp [intOf]; omega
            · have HNW : Hid (oddB ps px py (k + 1) = o) := Lib.hid (by rw [HOS.out, HRR.out, hrd, ho.out]; simp; omega)
              clear hrd
              go_wp2_with fail
              refine (rTurn_is _ _ _ _ _ _ _ _ HS.out c1 c2 c3 c4 hpx hpy).mono ?_
              rintro e w5 ⟨rfl, hb⟩
              replace b0 := hb.keep b0
              replace b1 := hb.keep b1
              replace l0 := hb.keep l0
              replace l1 := hb.keep l1
              replace l2 := hb.keep l2
              replace l3 := hb.keep l3
              go_wp2_with fail
              go_roundw
              case rel => exact ⟨k + 1, _, by omega, by go_num, rfl, HNW, HKN, (hg.trans hWg).trans hb⟩
              case measure => simp [intOf]; omega
          · have HNW : Hid (oddB ps px py (k + 1) = o) := Lib.hid (by rw [HOS.out, HRR.out, hrd, ho.out]; simp; omega)
            clear hrd
            go_wp2_with fail
            go_roundw
            case rel => exact ⟨k + 1, _, by omega, by go_num, rfl, HNW, HKN, hg.trans hWg⟩
            case measure => simp [intOf]; omega
        · have HT := Lib.hid ht
          clear ht
          refine (on_any _ _ _ _ _ _ _ c1 c2 c3 c4 hpx hpy _ HT.out).mono ?_
          rintro e w4 ⟨rfl, hb⟩
          have HI : Hid (insideL ps px py = 0) := Lib.hid (by
            unfold insideL
            rw [if_pos (List.any_eq_true.2 ⟨k, by simp [HN.out]; exact hlt, HON.out.trans HT.out⟩)])
          go_wp2_with fail
          go_ret
          exact ⟨ret_int HI.out.symm, hgW.trans ((hg.trans hWg).trans hb)⟩
    · obtain rfl : k = n := by omega
      have HI : Hid (insideL ps px py = if o then 1 else -1) := Lib.hid (by
        unfold insideL
        rw [if_neg (fun h => by
          obtain ⟨i, hi, h2⟩ := List.any_eq_true.1 h
          rw [hok.out i (by simpa [HN.out] using hi)] at h2; cases h2), HN.out, plT_odd, ho.out])
      cases o
      all_goals
        go_wp2_with fail
        go_ret
        exact ⟨ret_int HI.out.symm, hgW.trans hg⟩

end Go.Proofs.Ytfihmjobnffjfaa
