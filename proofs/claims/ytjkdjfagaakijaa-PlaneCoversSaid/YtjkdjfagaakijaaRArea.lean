/- The double area, as the reference reckons it. -/
import Derived.Test.YtjkdjfagaakijaaArea
import Derived.Test.YtjkdjfagaakijaaHeld
namespace Go.Proofs.Ytjkdjfagaakijaa
open Go.RowKit
set_option linter.unusedSimpArgs false

theorem next_is (k n m : Nat) (w : World) (h : (k + 1) % n = m) (hk : k < n) (hn : n ≤ 1048576) : Calls Try.prog 33 #[.int .i64 k, .int .i64 n] w fun e w' => e = .returned (.int .i64 m) ∧ w = w' := by
  have e : (if (k : Int) + 1 < (n : Int) then (k : Int) + 1 else 0) = (m : Int) := by
    rcases Nat.lt_or_ge (k + 1) n with h1 | h1
    · rw [if_pos (by omega), ← h, Nat.mod_eq_of_lt h1]; push_cast; rfl
    · obtain rfl : k + 1 = n := by omega
      rw [if_neg (by omega), ← h, Nat.mod_self]; rfl
  have := next_any (k : Int) (n : Int) w (by omega)
  rw [e] at this
  exact this

set_option maxRecDepth 100000 in
set_option maxHeartbeats 4000000 in
theorem rArea_any (A : Option Addr) (n c : Nat) (ps : List (Int × Int)) (w : World) (hn : ps.length = n) (hl : n ≤ 1048576) (hp : Pts w A ps) (hv : Cos ps) :
    Calls Try.prog 39 #[.slice A n c] w fun e w' => e = .returned (.int .i64 (areaL ps)) ∧ Gr w w' := by
  have HN := Lib.hid hn
  have HP := Lib.hid hp
  have HV := Lib.hid hv
  clear hn hp hv
  go_enter Try.func39, Try.ntmps39
  go_wp2_with fail
  go_loopw [3, 4] (fun s i wr => ∃ k : Nat, k ≤ n ∧ i = .int .i64 k ∧ s = .int .i64 (arT ps k) ∧ Gr w wr) (fun _ i _ => n - (intOf i).toNat)
  case atStart => exact ⟨0, Nat.zero_le _, rfl, rfl, Gr.refl _⟩
  case round =>
    obtain ⟨k, hk, rfl, rfl, hgr⟩ := hrel
    by_cases hlt : k < n
    · have hmn : (k + 1) % n < n := Nat.mod_lt _ (by omega)
      obtain ⟨b, off, rfl, p0, p1⟩ := Pts_at (HP.out.keep hgr) (k := k) (by have := HN.out; omega)
      obtain ⟨b', off', e', q0, q1⟩ := Pts_at (HP.out.keep hgr) (k := (k + 1) % n) (by have := HN.out; omega)
      obtain ⟨rfl, rfl⟩ : b = b' ∧ off = off' := by simpa using e'
      have hb := arT_bd HV.out k
      obtain ⟨c1, c2, c3, c4⟩ := ed_co HV.out k
      have b1 := mul_bd (A := 4096) (B := 4096) c1 c4
      have b2 := mul_bd (A := 4096) (B := 4096) c3 c2
      have HS : Hid (arT ps (k + 1) = arT ps k + (ed ps k).1.1 * (ed ps k).2.2 - (ed ps k).2.1 * (ed ps k).1.2) := Lib.hid (by simp only [arT]; omega)
      have HX := Lib.hid (fun W => next_is k n _ W rfl hlt hl)
      rw [show ed ps k = (ps.getD k (0, 0), ps.getD ((k + 1) % n) (0, 0)) from by unfold ed; rw [HN.out]] at HS b1 b2
      generalize arT ps k = s at hb HS ⊢
      generalize ps.getD k (0, 0) = u at p0 p1 b1 b2 HS
      generalize ps.getD ((k + 1) % n) (0, 0) = v at q0 q1 b1 b2 HS
      generalize (k + 1) % n = m at hmn q0 q1 HX
      obtain ⟨x, y⟩ := u
      obtain ⟨x', y'⟩ := v
      dsimp only at b1 b2 HS p0 p1 q0 q1
      clear c1 c2 c3 c4 e'
      have hm0 : (0 : Int) ≤ (m : Int) := by omega
      have hm1 : (m : Int) < (n : Int) := by omega
      have KS : Hid (∀ W', Gr wr W' → (Gr wr W' ∧ W'.cell? ⟨b, off + k * 2, none⟩ = some (.int .i64 x) ∧ W'.cell? ⟨b, off + k * 2 + 1, none⟩ = some (.int .i64 y) ∧ W'.cell? ⟨b, off + m * 2, none⟩ = some (.int .i64 x') ∧ W'.cell? ⟨b, off + m * 2 + 1, none⟩ = some (.int .i64 y'))) := Lib.hid (fun W' h => ⟨h, h.keep p0, h.keep p1, h.keep q0, h.keep q1⟩)
      go_wp2_with fail
      refine wp_region_held_drew (S := (fun W' => Gr wr W' ∧ W'.cell? ⟨b, off + k * 2, none⟩ = some (.int .i64 x) ∧ W'.cell? ⟨b, off + k * 2 + 1, none⟩ = some (.int .i64 y) ∧ W'.cell? ⟨b, off + m * 2, none⟩ = some (.int .i64 x') ∧ W'.cell? ⟨b, off + m * 2 + 1, none⟩ = some (.int .i64 y'))) ?_ ?_ (fun hHeld => ?_)
      · kernel_rfl
      · ((try dsimp only); (refine KS.out _ ?_; (repeat (first | exact Gr.refl _ | exact hHeld.1 | (refine Gr.drew ?_) | (refine Gr.alloc ?_ _) | (refine Gr.setCell ?_ (by simp) _)))))
      refine take_in (i := 0) (v := ?_) (d := (some 13)) rfl rfl ?_ ?_ ?_ ?_ ?_ ?_ ?_ ?_
      rotate_left
      · kernel_rfl
      · kernel_rfl
      · kernel_rfl
      · (intro _ _ _ hq; exact hq)
      · rfl
      · (intro _w hSw; (try dsimp only at hSw); go_simp; try with_reducible rfl)
      · assumption
      try simp only [Act.put, List.setIfInBounds_toArray, List.set_cons_zero, List.set_cons_succ]
      refine take_in (i := 1) (v := ?_) (d := (some 14)) rfl rfl ?_ ?_ ?_ ?_ ?_ ?_ ?_ ?_
      rotate_left
      · kernel_rfl
      · kernel_rfl
      · kernel_rfl
      · (intro _ _ _ hq; exact hq)
      · rfl
      · (intro _w hSw; (try dsimp only at hSw); go_simp; try with_reducible rfl)
      · assumption
      try simp only [Act.put, List.setIfInBounds_toArray, List.set_cons_zero, List.set_cons_succ]
      refine take_in (i := 2) (v := ?_) (d := (some 15)) rfl rfl ?_ ?_ ?_ ?_ ?_ ?_ ?_ ?_
      rotate_left
      · kernel_rfl
      · kernel_rfl
      · kernel_rfl
      · (intro _ _ _ hq; exact hq)
      · rfl
      · (intro _w hSw; (try dsimp only at hSw); go_simp; try with_reducible rfl)
      · assumption
      try simp only [Act.put, List.setIfInBounds_toArray, List.set_cons_zero, List.set_cons_succ]
      refine take_in (i := 3) (v := ?_) (d := (some 16)) rfl rfl ?_ ?_ ?_ ?_ ?_ ?_ ?_ ?_
      rotate_left
      · kernel_rfl
      · kernel_rfl
      · kernel_rfl
      · (intro _ _ _ hq; exact hq)
      · rfl
      · (intro _w hSw; (try dsimp only at hSw); go_simp; try with_reducible rfl)
      · assumption
      try simp only [Act.put, List.setIfInBounds_toArray, List.set_cons_zero, List.set_cons_succ]
      refine take_in (i := 4) (v := ?_) (d := (some 17)) rfl rfl ?_ ?_ ?_ ?_ ?_ ?_ ?_ ?_
      rotate_left
      · kernel_rfl
      · kernel_rfl
      · kernel_rfl
      · (intro _ _ _ hq; exact hq)
      · rfl
      · (intro _w hSw; (try dsimp only at hSw); go_simp; try with_reducible rfl)
      · assumption
      try simp only [Act.put, List.setIfInBounds_toArray, List.set_cons_zero, List.set_cons_succ]
      refine take_in (i := 5) (v := ?_) (d := (some 18)) rfl rfl ?_ ?_ ?_ ?_ ?_ ?_ ?_ ?_
      rotate_left
      · kernel_rfl
      · kernel_rfl
      · kernel_rfl
      · (intro _ _ _ hq; exact hq)
      · rfl
      · (intro _w hSw; (try dsimp only at hSw); go_simp; try with_reducible rfl)
      · assumption
      try simp only [Act.put, List.setIfInBounds_toArray, List.set_cons_zero, List.set_cons_succ]
      refine take_in (i := 6) (v := ?_) (d := (some 19)) rfl rfl ?_ ?_ ?_ ?_ ?_ ?_ ?_ ?_
      rotate_left
      · kernel_rfl
      · kernel_rfl
      · kernel_rfl
      · (intro _ _ _ hq; exact hq)
      · rfl
      · (intro _w hSw; (try dsimp only at hSw); go_simp; try with_reducible rfl)
      · assumption
      try simp only [Act.put, List.setIfInBounds_toArray, List.set_cons_zero, List.set_cons_succ]
      refine take_in (i := 7) (v := ?_) (d := (some 20)) rfl rfl ?_ ?_ ?_ ?_ ?_ ?_ ?_ ?_
      rotate_left
      · kernel_rfl
      · kernel_rfl
      · kernel_rfl
      · (intro _ _ _ hq; exact hq)
      · rfl
      · (intro _w hSw; (try dsimp only at hSw); go_simp; try with_reducible rfl)
      · assumption
      try simp only [Act.put, List.setIfInBounds_toArray, List.set_cons_zero, List.set_cons_succ]
      refine wpAnyH_ready (rs := [8, 11, 12]) ?_ ?_ ?_
      · kernel_rfl
      · simp
      refine (AllReadyH.cons rfl (fun K hK => ?_) (AllReadyH.cons rfl (fun K hK => ?_) (AllReadyH.cons rfl (fun K hK => ?_) AllReadyH.nil)))
      go_simp
      first | (go_at_call 33; refine (HX.out _).mono ?_; rintro e w3 ⟨rfl, rfl⟩)
      refine hK.out _ _ ?_ (fun hHeld => ?_)
      · ((try dsimp only); (refine KS.out _ ?_; (repeat (first | exact Gr.refl _ | exact hHeld.1 | (refine Gr.drew ?_) | (refine Gr.alloc ?_ _) | (refine Gr.setCell ?_ (by simp) _)))))
      clear hK K
      try simp only [Act.put, List.setIfInBounds_toArray, List.set_cons_zero, List.set_cons_succ]
      refine take_in (i := 9) (v := ?_) (d := (some 22)) rfl rfl ?_ ?_ ?_ ?_ ?_ ?_ ?_ ?_
      rotate_left
      · kernel_rfl
      · kernel_rfl
      · kernel_rfl
      · (intro _ _ _ hq; exact hq)
      · rfl
      · (intro _w hSw; (try dsimp only at hSw); go_simp; try with_reducible rfl)
      · assumption
      try simp only [Act.put, List.setIfInBounds_toArray, List.set_cons_zero, List.set_cons_succ]
      refine take_in (i := 10) (v := ?_) (d := (some 23)) rfl rfl ?_ ?_ ?_ ?_ ?_ ?_ ?_ ?_
      rotate_left
      · kernel_rfl
      · kernel_rfl
      · kernel_rfl
      · (intro _ _ _ hq; exact hq)
      · rfl
      · (intro _w hSw; (try dsimp only at hSw); go_simp; try with_reducible rfl)
      · assumption
      try simp only [Act.put, List.setIfInBounds_toArray, List.set_cons_zero, List.set_cons_succ]
      refine wpAnyH_ready (rs := [11, 12]) ?_ ?_ ?_
      · kernel_rfl
      · simp
      refine (AllReadyH.cons rfl (fun K hK => ?_) (AllReadyH.cons rfl (fun K hK => ?_) AllReadyH.nil))
      go_simp
      refine hK.out _ _ ?_ (fun hHeld => ?_)
      · ((try dsimp only); (refine KS.out _ ?_; (repeat (first | exact Gr.refl _ | exact hHeld.1 | (refine Gr.drew ?_) | (refine Gr.alloc ?_ _) | (refine Gr.setCell ?_ (by simp) _)))))
      clear hK K
      try simp only [Act.put, List.setIfInBounds_toArray, List.set_cons_zero, List.set_cons_succ]
      refine wpAnyH_ready (rs := [12]) ?_ ?_ ?_
      · kernel_rfl
      · simp
      refine (AllReadyH.cons rfl (fun K hK => ?_) AllReadyH.nil)
      go_simp
      refine hK.out _ _ ?_ (fun hHeld => ?_)
      · ((try dsimp only); (refine KS.out _ ?_; (repeat (first | exact Gr.refl _ | exact hHeld.1 | (refine Gr.drew ?_) | (refine Gr.alloc ?_ _) | (refine Gr.setCell ?_ (by simp) _)))))
      clear hK K
      try simp only [Act.put, List.setIfInBounds_toArray, List.set_cons_zero, List.set_cons_succ]
      refine wpAnyH_ready (rs := [13]) ?_ ?_ ?_
      · kernel_rfl
      · simp
      refine (AllReadyH.cons rfl (fun K hK => ?_) AllReadyH.nil)
      go_simp
      refine hK.out _ _ ?_ (fun hHeld => ?_)
      · ((try dsimp only); (refine KS.out _ ?_; (repeat (first | exact Gr.refl _ | exact hHeld.1 | (refine Gr.drew ?_) | (refine Gr.alloc ?_ _) | (refine Gr.setCell ?_ (by simp) _)))))
      clear hK K
      try simp only [Act.put, List.setIfInBounds_toArray, List.set_cons_zero, List.set_cons_succ]
      refine wpAnyH_ready (rs := [14]) ?_ ?_ ?_
      · kernel_rfl
      · simp
      refine (AllReadyH.cons rfl (fun K hK => ?_) AllReadyH.nil)
      go_simp
      refine hK.out _ _ ?_ (fun hHeld => ?_)
      · ((try dsimp only); (refine KS.out _ ?_; (repeat (first | exact Gr.refl _ | exact hHeld.1 | (refine Gr.drew ?_) | (refine Gr.alloc ?_ _) | (refine Gr.setCell ?_ (by simp) _)))))
      clear hK K
      try simp only [Act.put, List.setIfInBounds_toArray, List.set_cons_zero, List.set_cons_succ]
      refine wpAnyH_done ?_ ?_ _
      · kernel_rfl
      rotate_left
      go_simp
      refine hK.out _ _ ?_ (fun hHeld => ?_)
      · ((try dsimp only); (refine KS.out _ ?_; (repeat (first | exact Gr.refl _ | exact hHeld.1 | (refine Gr.drew ?_) | (refine Gr.alloc ?_ _) | (refine Gr.setCell ?_ (by simp) _)))))
      clear hK K
      try simp only [Act.put, List.setIfInBounds_toArray, List.set_cons_zero, List.set_cons_succ]
      refine wpAnyH_ready (rs := [11]) ?_ ?_ ?_
      · kernel_rfl
      · simp
      refine (AllReadyH.cons rfl (fun K hK => ?_) AllReadyH.nil)
      go_simp
      refine hK.out _ _ ?_ (fun hHeld => ?_)
      · ((try dsimp only); (refine KS.out _ ?_; (repeat (first | exact Gr.refl _ | exact hHeld.1 | (refine Gr.drew ?_) | (refine Gr.alloc ?_ _) | (refine Gr.setCell ?_ (by simp) _)))))
      clear hK K
      try simp only [Act.put, List.setIfInBounds_toArray, List.set_cons_zero, List.set_cons_succ]
      refine wpAnyH_ready (rs := [13]) ?_ ?_ ?_
      · kernel_rfl
      · simp
      refine (AllReadyH.cons rfl (fun K hK => ?_) AllReadyH.nil)
      go_simp
      refine hK.out _ _ ?_ (fun hHeld => ?_)
      · ((try dsimp only); (refine KS.out _ ?_; (repeat (first | exact Gr.refl _ | exact hHeld.1 | (refine Gr.drew ?_) | (refine Gr.alloc ?_ _) | (refine Gr.setCell ?_ (by simp) _)))))
      clear hK K
      try simp only [Act.put, List.setIfInBounds_toArray, List.set_cons_zero, List.set_cons_succ]
      refine wpAnyH_ready (rs := [14]) ?_ ?_ ?_
      · kernel_rfl
      · simp
      refine (AllReadyH.cons rfl (fun K hK => ?_) AllReadyH.nil)
      go_simp
      refine hK.out _ _ ?_ (fun hHeld => ?_)
      · ((try dsimp only); (refine KS.out _ ?_; (repeat (first | exact Gr.refl _ | exact hHeld.1 | (refine Gr.drew ?_) | (refine Gr.alloc ?_ _) | (refine Gr.setCell ?_ (by simp) _)))))
      clear hK K
      try simp only [Act.put, List.setIfInBounds_toArray, List.set_cons_zero, List.set_cons_succ]
      refine wpAnyH_done ?_ ?_ _
      · kernel_rfl
      rotate_left
      go_simp
      refine hK.out _ _ ?_ (fun hHeld => ?_)
      · ((try dsimp only); (refine KS.out _ ?_; (repeat (first | exact Gr.refl _ | exact hHeld.1 | (refine Gr.drew ?_) | (refine Gr.alloc ?_ _) | (refine Gr.setCell ?_ (by simp) _)))))
      clear hK K
      try simp only [Act.put, List.setIfInBounds_toArray, List.set_cons_zero, List.set_cons_succ]
      refine wpAnyH_ready (rs := [8, 12]) ?_ ?_ ?_
      · kernel_rfl
      · simp
      refine (AllReadyH.cons rfl (fun K hK => ?_) (AllReadyH.cons rfl (fun K hK => ?_) AllReadyH.nil))
      go_simp
      first | (go_at_call 33; refine (HX.out _).mono ?_; rintro e w3 ⟨rfl, rfl⟩)
      refine hK.out _ _ ?_ (fun hHeld => ?_)
      · ((try dsimp only); (refine KS.out _ ?_; (repeat (first | exact Gr.refl _ | exact hHeld.1 | (refine Gr.drew ?_) | (refine Gr.alloc ?_ _) | (refine Gr.setCell ?_ (by simp) _)))))
      clear hK K
      try simp only [Act.put, List.setIfInBounds_toArray, List.set_cons_zero, List.set_cons_succ]
      refine take_in (i := 9) (v := ?_) (d := (some 22)) rfl rfl ?_ ?_ ?_ ?_ ?_ ?_ ?_ ?_
      rotate_left
      · kernel_rfl
      · kernel_rfl
      · kernel_rfl
      · (intro _ _ _ hq; exact hq)
      · rfl
      · (intro _w hSw; (try dsimp only at hSw); go_simp; try with_reducible rfl)
      · assumption
      try simp only [Act.put, List.setIfInBounds_toArray, List.set_cons_zero, List.set_cons_succ]
      refine take_in (i := 10) (v := ?_) (d := (some 23)) rfl rfl ?_ ?_ ?_ ?_ ?_ ?_ ?_ ?_
      rotate_left
      · kernel_rfl
      · kernel_rfl
      · kernel_rfl
      · (intro _ _ _ hq; exact hq)
      · rfl
      · (intro _w hSw; (try dsimp only at hSw); go_simp; try with_reducible rfl)
      · assumption
      try simp only [Act.put, List.setIfInBounds_toArray, List.set_cons_zero, List.set_cons_succ]
      refine wpAnyH_ready (rs := [12]) ?_ ?_ ?_
      · kernel_rfl
      · simp
      refine (AllReadyH.cons rfl (fun K hK => ?_) AllReadyH.nil)
      go_simp
      refine hK.out _ _ ?_ (fun hHeld => ?_)
      · ((try dsimp only); (refine KS.out _ ?_; (repeat (first | exact Gr.refl _ | exact hHeld.1 | (refine Gr.drew ?_) | (refine Gr.alloc ?_ _) | (refine Gr.setCell ?_ (by simp) _)))))
      clear hK K
      try simp only [Act.put, List.setIfInBounds_toArray, List.set_cons_zero, List.set_cons_succ]
      refine wpAnyH_ready (rs := [13]) ?_ ?_ ?_
      · kernel_rfl
      · simp
      refine (AllReadyH.cons rfl (fun K hK => ?_) AllReadyH.nil)
      go_simp
      refine hK.out _ _ ?_ (fun hHeld => ?_)
      · ((try dsimp only); (refine KS.out _ ?_; (repeat (first | exact Gr.refl _ | exact hHeld.1 | (refine Gr.drew ?_) | (refine Gr.alloc ?_ _) | (refine Gr.setCell ?_ (by simp) _)))))
      clear hK K
      try simp only [Act.put, List.setIfInBounds_toArray, List.set_cons_zero, List.set_cons_succ]
      refine wpAnyH_ready (rs := [14]) ?_ ?_ ?_
      · kernel_rfl
      · simp
      refine (AllReadyH.cons rfl (fun K hK => ?_) AllReadyH.nil)
      go_simp
      refine hK.out _ _ ?_ (fun hHeld => ?_)
      · ((try dsimp only); (refine KS.out _ ?_; (repeat (first | exact Gr.refl _ | exact hHeld.1 | (refine Gr.drew ?_) | (refine Gr.alloc ?_ _) | (refine Gr.setCell ?_ (by simp) _)))))
      clear hK K
      try simp only [Act.put, List.setIfInBounds_toArray, List.set_cons_zero, List.set_cons_succ]
      refine wpAnyH_done ?_ ?_ _
      · kernel_rfl
      rotate_left
      go_simp
      refine hK.out _ _ ?_ (fun hHeld => ?_)
      · ((try dsimp only); (refine KS.out _ ?_; (repeat (first | exact Gr.refl _ | exact hHeld.1 | (refine Gr.drew ?_) | (refine Gr.alloc ?_ _) | (refine Gr.setCell ?_ (by simp) _)))))
      clear hK K
      try simp only [Act.put, List.setIfInBounds_toArray, List.set_cons_zero, List.set_cons_succ]
      refine wpAnyH_ready (rs := [8]) ?_ ?_ ?_
      · kernel_rfl
      · simp
      refine (AllReadyH.cons rfl (fun K hK => ?_) AllReadyH.nil)
      go_simp
      first | (go_at_call 33; refine (HX.out _).mono ?_; rintro e w3 ⟨rfl, rfl⟩)
      refine hK.out _ _ ?_ (fun hHeld => ?_)
      · ((try dsimp only); (refine KS.out _ ?_; (repeat (first | exact Gr.refl _ | exact hHeld.1 | (refine Gr.drew ?_) | (refine Gr.alloc ?_ _) | (refine Gr.setCell ?_ (by simp) _)))))
      clear hK K
      try simp only [Act.put, List.setIfInBounds_toArray, List.set_cons_zero, List.set_cons_succ]
      refine take_in (i := 9) (v := ?_) (d := (some 22)) rfl rfl ?_ ?_ ?_ ?_ ?_ ?_ ?_ ?_
      rotate_left
      · kernel_rfl
      · kernel_rfl
      · kernel_rfl
      · (intro _ _ _ hq; exact hq)
      · rfl
      · (intro _w hSw; (try dsimp only at hSw); go_simp; try with_reducible rfl)
      · assumption
      try simp only [Act.put, List.setIfInBounds_toArray, List.set_cons_zero, List.set_cons_succ]
      refine take_in (i := 10) (v := ?_) (d := (some 23)) rfl rfl ?_ ?_ ?_ ?_ ?_ ?_ ?_ ?_
      rotate_left
      · kernel_rfl
      · kernel_rfl
      · kernel_rfl
      · (intro _ _ _ hq; exact hq)
      · rfl
      · (intro _w hSw; (try dsimp only at hSw); go_simp; try with_reducible rfl)
      · assumption
      try simp only [Act.put, List.setIfInBounds_toArray, List.set_cons_zero, List.set_cons_succ]
      refine wpAnyH_ready (rs := [13]) ?_ ?_ ?_
      · kernel_rfl
      · simp
      refine (AllReadyH.cons rfl (fun K hK => ?_) AllReadyH.nil)
      go_simp
      refine hK.out _ _ ?_ (fun hHeld => ?_)
      · ((try dsimp only); (refine KS.out _ ?_; (repeat (first | exact Gr.refl _ | exact hHeld.1 | (refine Gr.drew ?_) | (refine Gr.alloc ?_ _) | (refine Gr.setCell ?_ (by simp) _)))))
      clear hK K
      try simp only [Act.put, List.setIfInBounds_toArray, List.set_cons_zero, List.set_cons_succ]
      refine wpAnyH_ready (rs := [14]) ?_ ?_ ?_
      · kernel_rfl
      · simp
      refine (AllReadyH.cons rfl (fun K hK => ?_) AllReadyH.nil)
      go_simp
      refine hK.out _ _ ?_ (fun hHeld => ?_)
      · ((try dsimp only); (refine KS.out _ ?_; (repeat (first | exact Gr.refl _ | exact hHeld.1 | (refine Gr.drew ?_) | (refine Gr.alloc ?_ _) | (refine Gr.setCell ?_ (by simp) _)))))
      clear hK K
      try simp only [Act.put, List.setIfInBounds_toArray, List.set_cons_zero, List.set_cons_succ]
      refine wpAnyH_done ?_ ?_ _
      · kernel_rfl
      rotate_left
      go_simp
      refine hK.out _ _ ?_ (fun hHeld => ?_)
      · ((try dsimp only); (refine KS.out _ ?_; (repeat (first | exact Gr.refl _ | exact hHeld.1 | (refine Gr.drew ?_) | (refine Gr.alloc ?_ _) | (refine Gr.setCell ?_ (by simp) _)))))
      clear hK K
      try simp only [Act.put, List.setIfInBounds_toArray, List.set_cons_zero, List.set_cons_succ]
      refine wpAnyH_ready (rs := [8, 11]) ?_ ?_ ?_
      · kernel_rfl
      · simp
      refine (AllReadyH.cons rfl (fun K hK => ?_) (AllReadyH.cons rfl (fun K hK => ?_) AllReadyH.nil))
      go_simp
      first | (go_at_call 33; refine (HX.out _).mono ?_; rintro e w3 ⟨rfl, rfl⟩)
      refine hK.out _ _ ?_ (fun hHeld => ?_)
      · ((try dsimp only); (refine KS.out _ ?_; (repeat (first | exact Gr.refl _ | exact hHeld.1 | (refine Gr.drew ?_) | (refine Gr.alloc ?_ _) | (refine Gr.setCell ?_ (by simp) _)))))
      clear hK K
      try simp only [Act.put, List.setIfInBounds_toArray, List.set_cons_zero, List.set_cons_succ]
      refine take_in (i := 9) (v := ?_) (d := (some 22)) rfl rfl ?_ ?_ ?_ ?_ ?_ ?_ ?_ ?_
      rotate_left
      · kernel_rfl
      · kernel_rfl
      · kernel_rfl
      · (intro _ _ _ hq; exact hq)
      · rfl
      · (intro _w hSw; (try dsimp only at hSw); go_simp; try with_reducible rfl)
      · assumption
      try simp only [Act.put, List.setIfInBounds_toArray, List.set_cons_zero, List.set_cons_succ]
      refine take_in (i := 10) (v := ?_) (d := (some 23)) rfl rfl ?_ ?_ ?_ ?_ ?_ ?_ ?_ ?_
      rotate_left
      · kernel_rfl
      · kernel_rfl
      · kernel_rfl
      · (intro _ _ _ hq; exact hq)
      · rfl
      · (intro _w hSw; (try dsimp only at hSw); go_simp; try with_reducible rfl)
      · assumption
      try simp only [Act.put, List.setIfInBounds_toArray, List.set_cons_zero, List.set_cons_succ]
      refine wpAnyH_ready (rs := [11]) ?_ ?_ ?_
      · kernel_rfl
      · simp
      refine (AllReadyH.cons rfl (fun K hK => ?_) AllReadyH.nil)
      go_simp
      refine hK.out _ _ ?_ (fun hHeld => ?_)
      · ((try dsimp only); (refine KS.out _ ?_; (repeat (first | exact Gr.refl _ | exact hHeld.1 | (refine Gr.drew ?_) | (refine Gr.alloc ?_ _) | (refine Gr.setCell ?_ (by simp) _)))))
      clear hK K
      try simp only [Act.put, List.setIfInBounds_toArray, List.set_cons_zero, List.set_cons_succ]
      refine wpAnyH_ready (rs := [13]) ?_ ?_ ?_
      · kernel_rfl
      · simp
      refine (AllReadyH.cons rfl (fun K hK => ?_) AllReadyH.nil)
      go_simp
      refine hK.out _ _ ?_ (fun hHeld => ?_)
      · ((try dsimp only); (refine KS.out _ ?_; (repeat (first | exact Gr.refl _ | exact hHeld.1 | (refine Gr.drew ?_) | (refine Gr.alloc ?_ _) | (refine Gr.setCell ?_ (by simp) _)))))
      clear hK K
      try simp only [Act.put, List.setIfInBounds_toArray, List.set_cons_zero, List.set_cons_succ]
      refine wpAnyH_ready (rs := [14]) ?_ ?_ ?_
      · kernel_rfl
      · simp
      refine (AllReadyH.cons rfl (fun K hK => ?_) AllReadyH.nil)
      go_simp
      refine hK.out _ _ ?_ (fun hHeld => ?_)
      · ((try dsimp only); (refine KS.out _ ?_; (repeat (first | exact Gr.refl _ | exact hHeld.1 | (refine Gr.drew ?_) | (refine Gr.alloc ?_ _) | (refine Gr.setCell ?_ (by simp) _)))))
      clear hK K
      try simp only [Act.put, List.setIfInBounds_toArray, List.set_cons_zero, List.set_cons_succ]
      refine wpAnyH_done ?_ ?_ _
      · kernel_rfl
      rotate_left
      go_simp
      refine hK.out _ _ ?_ (fun hHeld => ?_)
      · ((try dsimp only); (refine KS.out _ ?_; (repeat (first | exact Gr.refl _ | exact hHeld.1 | (refine Gr.drew ?_) | (refine Gr.alloc ?_ _) | (refine Gr.setCell ?_ (by simp) _)))))
      clear hK K
      try simp only [Act.put, List.setIfInBounds_toArray, List.set_cons_zero, List.set_cons_succ]
      refine wpAnyH_ready (rs := [8]) ?_ ?_ ?_
      · kernel_rfl
      · simp
      refine (AllReadyH.cons rfl (fun K hK => ?_) AllReadyH.nil)
      go_simp
      first | (go_at_call 33; refine (HX.out _).mono ?_; rintro e w3 ⟨rfl, rfl⟩)
      refine hK.out _ _ ?_ (fun hHeld => ?_)
      · ((try dsimp only); (refine KS.out _ ?_; (repeat (first | exact Gr.refl _ | exact hHeld.1 | (refine Gr.drew ?_) | (refine Gr.alloc ?_ _) | (refine Gr.setCell ?_ (by simp) _)))))
      clear hK K
      try simp only [Act.put, List.setIfInBounds_toArray, List.set_cons_zero, List.set_cons_succ]
      refine take_in (i := 9) (v := ?_) (d := (some 22)) rfl rfl ?_ ?_ ?_ ?_ ?_ ?_ ?_ ?_
      rotate_left
      · kernel_rfl
      · kernel_rfl
      · kernel_rfl
      · (intro _ _ _ hq; exact hq)
      · rfl
      · (intro _w hSw; (try dsimp only at hSw); go_simp; try with_reducible rfl)
      · assumption
      try simp only [Act.put, List.setIfInBounds_toArray, List.set_cons_zero, List.set_cons_succ]
      refine take_in (i := 10) (v := ?_) (d := (some 23)) rfl rfl ?_ ?_ ?_ ?_ ?_ ?_ ?_ ?_
      rotate_left
      · kernel_rfl
      · kernel_rfl
      · kernel_rfl
      · (intro _ _ _ hq; exact hq)
      · rfl
      · (intro _w hSw; (try dsimp only at hSw); go_simp; try with_reducible rfl)
      · assumption
      try simp only [Act.put, List.setIfInBounds_toArray, List.set_cons_zero, List.set_cons_succ]
      refine wpAnyH_ready (rs := [13]) ?_ ?_ ?_
      · kernel_rfl
      · simp
      refine (AllReadyH.cons rfl (fun K hK => ?_) AllReadyH.nil)
      go_simp
      refine hK.out _ _ ?_ (fun hHeld => ?_)
      · ((try dsimp only); (refine KS.out _ ?_; (repeat (first | exact Gr.refl _ | exact hHeld.1 | (refine Gr.drew ?_) | (refine Gr.alloc ?_ _) | (refine Gr.setCell ?_ (by simp) _)))))
      clear hK K
      try simp only [Act.put, List.setIfInBounds_toArray, List.set_cons_zero, List.set_cons_succ]
      refine wpAnyH_ready (rs := [14]) ?_ ?_ ?_
      · kernel_rfl
      · simp
      refine (AllReadyH.cons rfl (fun K hK => ?_) AllReadyH.nil)
      go_simp
      refine hK.out _ _ ?_ (fun hHeld => ?_)
      · ((try dsimp only); (refine KS.out _ ?_; (repeat (first | exact Gr.refl _ | exact hHeld.1 | (refine Gr.drew ?_) | (refine Gr.alloc ?_ _) | (refine Gr.setCell ?_ (by simp) _)))))
      clear hK K
      try simp only [Act.put, List.setIfInBounds_toArray, List.set_cons_zero, List.set_cons_succ]
      refine wpAnyH_done ?_ ?_ _
      · kernel_rfl
      rotate_left
      all_goals
        go_wp2_with fail
        go_roundw
        case rel => exact ⟨k + 1, by omega, by go_num, congrArg (Value.int .i64) HS.out.symm, hgr.trans (by repeat (first | exact Gr.refl _ | (refine Gr.drew ?_) | (refine Gr.alloc ?_ _) | (refine Gr.setCell ?_ (by simp) _)))⟩
        case measure => simp [intOf]; omega
    · go_wp2_with fail
      go_ret
      obtain rfl : k = n := by omega
      exact ⟨ret_int (by unfold areaL; rw [HN.out]), by (repeat (first | exact Gr.refl _ | assumption | (refine Gr.drew ?_) | (refine Gr.drewN ?_ _) | (refine Gr.alloc ?_ _) | (refine Gr.trans ?_ (by assumption))))⟩

end Go.Proofs.Ytjkdjfagaakijaa
