/- Layer 4: slots in order. -/
import Derived.Test.YtpnkpejnahhajaaGreatBc34
import Derived.Test.YtpnkpejnahhajaaGreatBc35
namespace Go.Proofs.YtpnkpejnahhajaaGreat
open Go.RowKit Go.Shelf Go.Lib Go.Sort
set_option linter.unusedSimpArgs false

theorem orI_any (g : Nat) (a b : Int) (w : World) (ha : w.cell? ⟨g, 0, none⟩ = some (.int .i64 a)) (hb : w.cell? ⟨g, 1, none⟩ = some (.int .i64 b)) :
    Calls Tryz.prog 119 #[.slice (some ⟨g, 0, none⟩) 2 2] w fun e w' => e = .returned (.int .i64 (if a = 0 then b else a)) ∧ w = w' := by
  by_cases h : a = 0
  · subst h
    by_cases h' : b = 0
    · subst h'
      go_enter Tryz.func119, Tryz.ntmps119
      go_wp2_with fail
      go_loop [8] (fun i => i = .int .i64 0 ∨ i = .int .i64 1 ∨ i = .int .i64 2) (fun i => 2 - (intOf i).toNat)
      case atStart => exact Or.inl rfl
      case round =>
        rcases hrel with rfl | rfl | rfl
        · go_wp2_with fail
          go_round
          case rel => exact Or.inr (Or.inl rfl)
          case measure => simp [intOf]
        · go_wp2_with fail
          go_round
          case rel => exact Or.inr (Or.inr rfl)
          case measure => simp [intOf]
        · go_wp2_with fail
          go_ret
          exact ⟨rfl, rfl⟩
    · have hz : (b != 0) = true := by simpa using h'
      go_enter Tryz.func119, Tryz.ntmps119
      go_wp2_with fail
      go_loop [8] (fun i => i = .int .i64 0 ∨ i = .int .i64 1) (fun i => 2 - (intOf i).toNat)
      case atStart => exact Or.inl rfl
      case round =>
        rcases hrel with rfl | rfl
        · go_wp2_with fail
          go_round
          case rel => exact Or.inr rfl
          case measure => simp [intOf]
        · go_wp2_with fail
          go_ret
          exact ⟨rfl, rfl⟩
  · have hz : (a != 0) = true := by simpa using h
    go_enter Tryz.func119, Tryz.ntmps119
    go_wp2_with fail
    go_loop [8] (fun i => i = .int .i64 0) (fun i => 2 - (intOf i).toNat)
    case atStart => rfl
    case round =>
      subst hrel
      go_wp2_with fail
      go_ret
      exact ⟨rfl, rfl⟩

/-- The order of slots of an owner. -/
def cfS (ow : Sl → Int) (x y : Sl) : Int := if sgn (ow x - ow y) = 0 then sgn (x.2.2.1 - y.2.2.1) else sgn (ow x - ow y)
theorem ltS (ow : Sl → Int) (x y : Sl) : ltOf (cfS ow) x y = decide (ow x < ow y ∨ (ow x = ow y ∧ x.2.2.1 < y.2.2.1)) := by
  unfold ltOf cfS
  congr 1
  apply propext
  unfold sgn
  constructor
  · intro h; split at h <;> (repeat' split at h) <;> omega
  · intro h; split <;> (repeat' split) <;> omega
theorem swoS (ow : Sl → Int) : SWO (ltOf (cfS ow)) where
  irrefl x := by rw [ltS]; simp
  trans x y z h1 h2 := by rw [ltS] at *; simp only [decide_eq_true_eq] at *; omega
  ntrans x y z h1 h2 := by rw [ltS] at *; simp only [decide_eq_false_iff_not] at *; omega

set_option maxRecDepth 100000 in
set_option maxHeartbeats 1000000 in
theorem benchOf_any (x : Sl) (w : World) : Calls Tryz.prog 77 #[.agg #[.int .i64 x.1, .int .i64 x.2.1, .int .i64 x.2.2.1, .int .i64 x.2.2.2]] w fun e w' => e = .returned (.int .i64 x.2.1) ∧ ∃ n os, w' = Sort.grow (w.drewN n) os := by
  go_enter Tryz.func77, Tryz.ntmps77
  go_wp2_with fail
  go_ret
  exact ⟨rfl, 0, #[_], by rw [Sort.alloc_eq_grow]; rfl⟩
/-- Nothing but new blocks and draws. -/
def Gw (w w' : World) : Prop := ∃ n os, w' = Sort.grow (w.drewN n) os
theorem Gw.refl (w : World) : Gw w w := ⟨0, #[], by simp [Sort.grow, World.drewN]⟩
theorem grow_drewN (w : World) (n m : Nat) (os : Array Obj) : (Sort.grow (w.drewN n) os).drewN m = Sort.grow (w.drewN (n + m)) os := by simp [Sort.grow, World.drewN, Nat.add_assoc]
theorem Gw.trans {a b c : World} (h : Gw a b) (k : Gw b c) : Gw a c := by
  obtain ⟨n, os, rfl⟩ := h
  obtain ⟨m, os', rfl⟩ := k
  exact ⟨n + m, os ++ os', by rw [grow_drewN, Sort.grow_grow]⟩
theorem Gw.alloc {a w : World} (h : Gw a w) (o : Obj) : Gw a (w.alloc o) := h.trans ⟨0, #[o], by rw [Sort.alloc_eq_grow]; rfl⟩
theorem drew_grow (w : World) : w.drew = Sort.grow (w.drewN 1) #[] := by
  show w.drewN 1 = Sort.grow (w.drewN 1) #[]
  unfold Sort.grow World.drewN
  simp
theorem Gw.drew {a w : World} (h : Gw a w) : Gw a w.drew := h.trans ⟨1, #[], drew_grow w⟩
theorem Gw.gr {w w' : World} (h : Gw w w') : Gr w w' := by
  obtain ⟨n, os, rfl⟩ := h
  exact ((Gr.refl w).drewN n).trans (gr_grow _ os)

set_option maxRecDepth 100000 in
set_option maxHeartbeats 8000000 in
theorem cmp_benchOf (ob : Nat) (a b : Sl) (w : World) (h : w.cell? ⟨ob, 0, none⟩ = some (.func (.func 77) #[] #[])) :
    Calls Tryz.prog 118 #[.agg #[.int .i64 a.1, .int .i64 a.2.1, .int .i64 a.2.2.1, .int .i64 a.2.2.2], .agg #[.int .i64 b.1, .int .i64 b.2.1, .int .i64 b.2.2.1, .int .i64 b.2.2.2], .pointer (some ⟨ob, 0, none⟩)] w fun e w' => e = .returned (.int .i64 (cfS (fun x => x.2.1) a b)) ∧ Gw w w' := by
  have HA := Lib.hid (fun W => benchOf_any a W)
  have HB := Lib.hid (fun W => benchOf_any b W)
  obtain ⟨a1, a2, a3, a4⟩ := a
  obtain ⟨b1, b2, b3, b4⟩ := b
  dsimp only at HA HB
  obtain ⟨cf, hcf⟩ : ∃ v, cfS (fun x => x.2.1) (a1, a2, a3, a4) (b1, b2, b3, b4) = v := ⟨_, rfl⟩
  rw [hcf]
  have HCF : Hid ((if sgn (a2 - b2) = 0 then sgn (a3 - b3) else sgn (a2 - b2)) = cf) := Lib.hid hcf
  clear hcf
  go_enter Tryz.func118, Tryz.ntmps118
  go_upto_region 1 with fail
  generalize hW1 : World.alloc (World.alloc w _) _ = w1
  have hg1 : Gw w w1 := by rw [← hW1]; exact ((Gw.refl w).alloc _).alloc _
  have hX : Blk w1 w.heap.size 35 #[.int .i64 a1, .int .i64 a2, .int .i64 a3, .int .i64 a4] := by rw [← hW1]; exact (Blk.new w _ _ rfl).alloc _
  have hY : Blk w1 (w.heap.size + 1) 35 #[.int .i64 b1, .int .i64 b2, .int .i64 b3, .int .i64 b4] := by rw [← hW1]; exact Blk.new _ _ _ (by simp)
  generalize w.heap.size = X at hX hY ⊢
  have h' := hg1.gr.keep h
  have HX := Lib.hid hX
  have HY := Lib.hid hY
  have KS : Hid (∀ W', Gw w1 W' → Gw w1 W' ∧ W'.cell? ⟨ob, 0, none⟩ = some (.func (.func 77) #[] #[]) ∧ W'.cell? ⟨X, 0, none⟩ = some (.int .i64 a1) ∧ W'.cell? ⟨X, 1, none⟩ = some (.int .i64 a2) ∧ W'.cell? ⟨X, 2, none⟩ = some (.int .i64 a3) ∧ W'.cell? ⟨X, 3, none⟩ = some (.int .i64 a4) ∧ W'.cell? ⟨X + 1, 0, none⟩ = some (.int .i64 b1) ∧ W'.cell? ⟨X + 1, 1, none⟩ = some (.int .i64 b2) ∧ W'.cell? ⟨X + 1, 2, none⟩ = some (.int .i64 b3) ∧ W'.cell? ⟨X + 1, 3, none⟩ = some (.int .i64 b4)) := Lib.hid (fun W' hg => ⟨hg, hg.gr.keep h', (HX.out.keep hg.gr).cell 0, (HX.out.keep hg.gr).cell 1, (HX.out.keep hg.gr).cell 2, (HX.out.keep hg.gr).cell 3, (HY.out.keep hg.gr).cell 0, (HY.out.keep hg.gr).cell 1, (HY.out.keep hg.gr).cell 2, (HY.out.keep hg.gr).cell 3⟩)
  clear hW1 hX hY
  refine wp_region_held_drew (S := (fun W' => Gw w1 W' ∧ W'.cell? ⟨ob, 0, none⟩ = some (.func (.func 77) #[] #[]) ∧ W'.cell? ⟨X, 0, none⟩ = some (.int .i64 a1) ∧ W'.cell? ⟨X, 1, none⟩ = some (.int .i64 a2) ∧ W'.cell? ⟨X, 2, none⟩ = some (.int .i64 a3) ∧ W'.cell? ⟨X, 3, none⟩ = some (.int .i64 a4) ∧ W'.cell? ⟨X + 1, 0, none⟩ = some (.int .i64 b1) ∧ W'.cell? ⟨X + 1, 1, none⟩ = some (.int .i64 b2) ∧ W'.cell? ⟨X + 1, 2, none⟩ = some (.int .i64 b3) ∧ W'.cell? ⟨X + 1, 3, none⟩ = some (.int .i64 b4))) ?_ ?_ (fun hHeld => ?_)
  · kernel_rfl
  · ((try dsimp only); (first | exact hHeld | exact KS.out _ (Gw.refl w1).drew | exact KS.out _ HGA.out | exact KS.out _ HGB.out | exact KS.out _ (hHeld.1.alloc _)))
  refine take_in (i := 0) (v := ?_) (d := (some 6)) rfl rfl ?_ ?_ ?_ ?_ ?_ ?_ ?_ ?_
  rotate_left
  · kernel_rfl
  · kernel_rfl
  · kernel_rfl
  · (intro _ _ _ hq; exact hq)
  · rfl
  · (intro _w hSw; (try dsimp only at hSw); go_simp; try with_reducible rfl)
  · assumption
  try simp only [Act.put, List.setIfInBounds_toArray, List.set_cons_zero, List.set_cons_succ]
  refine take_in (i := 1) (v := ?_) (d := (some 7)) rfl rfl ?_ ?_ ?_ ?_ ?_ ?_ ?_ ?_
  rotate_left
  · kernel_rfl
  · kernel_rfl
  · kernel_rfl
  · (intro _ _ _ hq; exact hq)
  · rfl
  · (intro _w hSw; (try dsimp only at hSw); go_simp; try with_reducible rfl)
  · assumption
  try simp only [Act.put, List.setIfInBounds_toArray, List.set_cons_zero, List.set_cons_succ]
  refine take_in (i := 3) (v := ?_) (d := (some 9)) rfl rfl ?_ ?_ ?_ ?_ ?_ ?_ ?_ ?_
  rotate_left
  · kernel_rfl
  · kernel_rfl
  · kernel_rfl
  · (intro _ _ _ hq; exact hq)
  · rfl
  · (intro _w hSw; (try dsimp only at hSw); go_simp; try with_reducible rfl)
  · assumption
  try simp only [Act.put, List.setIfInBounds_toArray, List.set_cons_zero, List.set_cons_succ]
  refine take_in (i := 4) (v := ?_) (d := (some 10)) rfl rfl ?_ ?_ ?_ ?_ ?_ ?_ ?_ ?_
  rotate_left
  · kernel_rfl
  · kernel_rfl
  · kernel_rfl
  · (intro _ _ _ hq; exact hq)
  · rfl
  · (intro _w hSw; (try dsimp only at hSw); go_simp; try with_reducible rfl)
  · assumption
  try simp only [Act.put, List.setIfInBounds_toArray, List.set_cons_zero, List.set_cons_succ]
  refine take_in (i := 7) (v := ?_) (d := (some 13)) rfl rfl ?_ ?_ ?_ ?_ ?_ ?_ ?_ ?_
  rotate_left
  · kernel_rfl
  · kernel_rfl
  · kernel_rfl
  · (intro _ _ _ hq; exact hq)
  · rfl
  · (intro _w hSw; (try dsimp only at hSw); go_simp; try with_reducible rfl)
  · assumption
  try simp only [Act.put, List.setIfInBounds_toArray, List.set_cons_zero, List.set_cons_succ]
  refine take_in (i := 8) (v := ?_) (d := (some 14)) rfl rfl ?_ ?_ ?_ ?_ ?_ ?_ ?_ ?_
  rotate_left
  · kernel_rfl
  · kernel_rfl
  · kernel_rfl
  · (intro _ _ _ hq; exact hq)
  · rfl
  · (intro _w hSw; (try dsimp only at hSw); go_simp; try with_reducible rfl)
  · assumption
  try simp only [Act.put, List.setIfInBounds_toArray, List.set_cons_zero, List.set_cons_succ]
  refine take_in (i := 9) (v := ?_) (d := (some 15)) rfl rfl ?_ ?_ ?_ ?_ ?_ ?_ ?_ ?_
  rotate_left
  · kernel_rfl
  · kernel_rfl
  · kernel_rfl
  · (intro _ _ _ hq; exact hq)
  · rfl
  · (intro _w hSw; (try dsimp only at hSw); go_simp; try with_reducible rfl)
  · assumption
  try simp only [Act.put, List.setIfInBounds_toArray, List.set_cons_zero, List.set_cons_succ]
  refine take_in (i := 10) (v := ?_) (d := (some 16)) rfl rfl ?_ ?_ ?_ ?_ ?_ ?_ ?_ ?_
  rotate_left
  · kernel_rfl
  · kernel_rfl
  · kernel_rfl
  · (intro _ _ _ hq; exact hq)
  · rfl
  · (intro _w hSw; (try dsimp only at hSw); go_simp; try with_reducible rfl)
  · assumption
  try simp only [Act.put, List.setIfInBounds_toArray, List.set_cons_zero, List.set_cons_succ]
  refine wpAnyH_ready (rs := [2]) ?_ ?_ ?_
  · kernel_rfl
  · simp
  refine (AllReadyH.cons rfl (fun K hK => ?_) AllReadyH.nil)
  go_simp
  first | (go_at_call 77; (with_reducible refine (HA.out _).mono ?_); rintro e w3 ⟨rfl, n3, os3, hw3⟩; have HGA := Lib.hid (hHeld.1.trans ⟨n3, os3, hw3⟩); clear hw3) | (go_at_call 77; (with_reducible refine (HB.out _).mono ?_); rintro e w4 ⟨rfl, n4, os4, hw4⟩; have HGB := Lib.hid (hHeld.1.trans ⟨n4, os4, hw4⟩); clear hw4) | (go_at_call 71; refine (cmp_any _ _ _).mono ?_; rintro e w5 ⟨rfl, rfl⟩) | (go_at_call 119; refine (orI_any _ _ _ _ (alloc_new rfl rfl) (alloc_new rfl rfl)).mono ?_; rintro e w6 ⟨rfl, rfl⟩; rw [HCF.out])
  refine hK.out _ _ ?_ (fun hHeld => ?_)
  · ((try dsimp only); (first | exact hHeld | exact KS.out _ (Gw.refl w1).drew | exact KS.out _ HGA.out | exact KS.out _ HGB.out | exact KS.out _ (hHeld.1.alloc _)))
  clear hK K
  try simp only [Act.put, List.setIfInBounds_toArray, List.set_cons_zero, List.set_cons_succ]
  refine wpAnyH_ready (rs := [5]) ?_ ?_ ?_
  · kernel_rfl
  · simp
  refine (AllReadyH.cons rfl (fun K hK => ?_) AllReadyH.nil)
  go_simp
  first | (go_at_call 77; (with_reducible refine (HA.out _).mono ?_); rintro e w3 ⟨rfl, n3, os3, hw3⟩; have HGA := Lib.hid (hHeld.1.trans ⟨n3, os3, hw3⟩); clear hw3) | (go_at_call 77; (with_reducible refine (HB.out _).mono ?_); rintro e w4 ⟨rfl, n4, os4, hw4⟩; have HGB := Lib.hid (hHeld.1.trans ⟨n4, os4, hw4⟩); clear hw4) | (go_at_call 71; refine (cmp_any _ _ _).mono ?_; rintro e w5 ⟨rfl, rfl⟩) | (go_at_call 119; refine (orI_any _ _ _ _ (alloc_new rfl rfl) (alloc_new rfl rfl)).mono ?_; rintro e w6 ⟨rfl, rfl⟩; rw [HCF.out])
  refine hK.out _ _ ?_ (fun hHeld => ?_)
  · ((try dsimp only); (first | exact hHeld | exact KS.out _ (Gw.refl w1).drew | exact KS.out _ HGA.out | exact KS.out _ HGB.out | exact KS.out _ (hHeld.1.alloc _)))
  clear hK K
  try simp only [Act.put, List.setIfInBounds_toArray, List.set_cons_zero, List.set_cons_succ]
  refine wpAnyH_ready (rs := [6]) ?_ ?_ ?_
  · kernel_rfl
  · simp
  refine (AllReadyH.cons rfl (fun K hK => ?_) AllReadyH.nil)
  go_simp
  first | (go_at_call 77; (with_reducible refine (HA.out _).mono ?_); rintro e w3 ⟨rfl, n3, os3, hw3⟩; have HGA := Lib.hid (hHeld.1.trans ⟨n3, os3, hw3⟩); clear hw3) | (go_at_call 77; (with_reducible refine (HB.out _).mono ?_); rintro e w4 ⟨rfl, n4, os4, hw4⟩; have HGB := Lib.hid (hHeld.1.trans ⟨n4, os4, hw4⟩); clear hw4) | (go_at_call 71; refine (cmp_any _ _ _).mono ?_; rintro e w5 ⟨rfl, rfl⟩) | (go_at_call 119; refine (orI_any _ _ _ _ (alloc_new rfl rfl) (alloc_new rfl rfl)).mono ?_; rintro e w6 ⟨rfl, rfl⟩; rw [HCF.out])
  refine hK.out _ _ ?_ (fun hHeld => ?_)
  · ((try dsimp only); (first | exact hHeld | exact KS.out _ (Gw.refl w1).drew | exact KS.out _ HGA.out | exact KS.out _ HGB.out | exact KS.out _ (hHeld.1.alloc _)))
  clear hK K
  try simp only [Act.put, List.setIfInBounds_toArray, List.set_cons_zero, List.set_cons_succ]
  refine wpAnyH_ready (rs := [11]) ?_ ?_ ?_
  · kernel_rfl
  · simp
  refine (AllReadyH.cons rfl (fun K hK => ?_) AllReadyH.nil)
  go_simp
  first | (go_at_call 77; (with_reducible refine (HA.out _).mono ?_); rintro e w3 ⟨rfl, n3, os3, hw3⟩; have HGA := Lib.hid (hHeld.1.trans ⟨n3, os3, hw3⟩); clear hw3) | (go_at_call 77; (with_reducible refine (HB.out _).mono ?_); rintro e w4 ⟨rfl, n4, os4, hw4⟩; have HGB := Lib.hid (hHeld.1.trans ⟨n4, os4, hw4⟩); clear hw4) | (go_at_call 71; refine (cmp_any _ _ _).mono ?_; rintro e w5 ⟨rfl, rfl⟩) | (go_at_call 119; refine (orI_any _ _ _ _ (alloc_new rfl rfl) (alloc_new rfl rfl)).mono ?_; rintro e w6 ⟨rfl, rfl⟩; rw [HCF.out])
  refine hK.out _ _ ?_ (fun hHeld => ?_)
  · ((try dsimp only); (first | exact hHeld | exact KS.out _ (Gw.refl w1).drew | exact KS.out _ HGA.out | exact KS.out _ HGB.out | exact KS.out _ (hHeld.1.alloc _)))
  clear hK K
  try simp only [Act.put, List.setIfInBounds_toArray, List.set_cons_zero, List.set_cons_succ]
  refine wpAnyH_ready (rs := [12]) ?_ ?_ ?_
  · kernel_rfl
  · simp
  refine (AllReadyH.cons rfl (fun K hK => ?_) AllReadyH.nil)
  go_simp
  refine hK.out _ _ ?_ (fun hHeld => ?_)
  · ((try dsimp only); (first | exact hHeld | exact KS.out _ (Gw.refl w1).drew | exact KS.out _ HGA.out | exact KS.out _ HGB.out | exact KS.out _ (hHeld.1.alloc _)))
  clear hK K
  try simp only [Act.put, List.setIfInBounds_toArray, List.set_cons_zero, List.set_cons_succ]
  refine wpAnyH_ready (rs := [13]) ?_ ?_ ?_
  · kernel_rfl
  · simp
  refine (AllReadyH.cons rfl (fun K hK => ?_) AllReadyH.nil)
  go_simp
  first | (go_at_call 77; (with_reducible refine (HA.out _).mono ?_); rintro e w3 ⟨rfl, n3, os3, hw3⟩; have HGA := Lib.hid (hHeld.1.trans ⟨n3, os3, hw3⟩); clear hw3) | (go_at_call 77; (with_reducible refine (HB.out _).mono ?_); rintro e w4 ⟨rfl, n4, os4, hw4⟩; have HGB := Lib.hid (hHeld.1.trans ⟨n4, os4, hw4⟩); clear hw4) | (go_at_call 71; refine (cmp_any _ _ _).mono ?_; rintro e w5 ⟨rfl, rfl⟩) | (go_at_call 119; refine (orI_any _ _ _ _ (alloc_new rfl rfl) (alloc_new rfl rfl)).mono ?_; rintro e w6 ⟨rfl, rfl⟩; rw [HCF.out])
  refine hK.out _ _ ?_ (fun hHeld => ?_)
  · ((try dsimp only); (first | exact hHeld | exact KS.out _ (Gw.refl w1).drew | exact KS.out _ HGA.out | exact KS.out _ HGB.out | exact KS.out _ (hHeld.1.alloc _)))
  clear hK K
  try simp only [Act.put, List.setIfInBounds_toArray, List.set_cons_zero, List.set_cons_succ]
  refine take_in (i := 14) (v := ?_) (d := (some 5)) rfl rfl ?_ ?_ ?_ ?_ ?_ ?_ ?_ ?_
  rotate_left
  · kernel_rfl
  · kernel_rfl
  · kernel_rfl
  · (intro _ _ _ hq; exact hq)
  · rfl
  · (intro _w hSw; (try dsimp only at hSw); go_simp; try with_reducible rfl)
  · assumption
  try simp only [Act.put, List.setIfInBounds_toArray, List.set_cons_zero, List.set_cons_succ]
  refine wpAnyH_done ?_ ?_ _
  · kernel_rfl
  rotate_left
  all_goals
    go_wp2_with fail
    go_ret
    exact ⟨rfl, hg1.trans hHeld.1⟩

end Go.Proofs.YtpnkpejnahhajaaGreat
