/- Layer 2: a plan that begins with a cut. -/
import Derived.Test.YtcojionipffanabCPlan2
namespace Go.Proofs.Ytcojionipffanab
open Go.RowKit
set_option linter.unusedSimpArgs false

theorem Makes.pos {bs : List Bl} {w h : Nat} {P : List St} {m : List Bl} (k : Makes bs w h P m) : 1 ≤ P.length := by cases k <;> simp
theorem two_len {bs : List Bl} {x1 y1 x2 y2 : Nat} {P Q : List St} {m n : List Bl} (h : Makes bs x1 y1 P m) (k : Makes bs x2 y2 Q n) : ∀ p ∈ [P, Q], 1 ≤ p.length := fun p hp => by
  simp at hp
  rcases hp with rfl | rfl
  · exact h.pos
  · exact k.pos
theorem Makes.small {bs : List Bl} {w h : Nat} {P : List St} {m : List Bl} (k : Makes bs w h P m) (h1 : 1 ≤ w) (h2 : 1 ≤ h) (h3 : w ≤ 48) (h4 : h ≤ 48) : P.length ≤ 4607 := by
  have e := k.len h1 h2
  have : w * h ≤ 48 * 48 := Nat.mul_le_mul h3 h4
  omega
theorem two_flat {bs : List Bl} {x1 y1 x2 y2 : Nat} {P Q : List St} {m n : List Bl} (h : Makes bs x1 y1 P m) (k : Makes bs x2 y2 Q n) (a1 : 1 ≤ x1) (a2 : 1 ≤ y1) (a3 : x1 ≤ 48) (a4 : y1 ≤ 48) (b1 : 1 ≤ x2) (b2 : 1 ≤ y2) (b3 : x2 ≤ 48) (b4 : y2 ≤ 48) :
    ∀ i, (([P, Q]).take i).flatten.length ≤ 65536 := fun i => by
  have e1 := h.small a1 a2 a3 a4
  have e2 := k.small b1 b2 b3 b4
  match i with
  | 0 => simp
  | 1 => simp; omega
  | i + 2 => simp; omega
theorem two_parts {w1 w2 : World} {t : TypeId} {g1 g2 c1 c2 : Nat} {P Q : List St} (h : Pts w1 (some ⟨g1, 0, none⟩) P) (k : Pts w2 (some ⟨g2, 0, none⟩) Q) (hg : Gr w1 w2) :
    RdParts (w2.alloc (.cells #[.slice (some ⟨g1, 0, none⟩) P.length c1, .slice (some ⟨g2, 0, none⟩) Q.length c2] t)) (some ⟨w2.heap.size, 0, none⟩) [P, Q] := fun i part hp => by
  have ha : Gr w2 (w2.alloc (.cells #[.slice (some ⟨g1, 0, none⟩) P.length c1, .slice (some ⟨g2, 0, none⟩) Q.length c2] t)) := (Gr.refl _).alloc _
  match i, hp with
  | 0, hp =>
    obtain rfl : P = part := by simpa using hp
    exact ⟨_, 0, g1, 0, c1, rfl, alloc_new rfl rfl, h.keep (hg.trans ha)⟩
  | 1, hp =>
    obtain rfl : Q = part := by simpa using hp
    exact ⟨_, 0, g2, 0, c2, rfl, alloc_new rfl rfl, k.keep ha⟩
  | i + 2, hp => simp at hp

set_option maxRecDepth 100000 in
set_option maxHeartbeats 2000000 in
theorem plan_across (bs : List Bl) (W H g x y a : Nat) (w : World) (hW : W ≤ 48) (hH : H ≤ 48) (hx1 : 1 ≤ x) (hx : x ≤ W) (hy1 : 1 ≤ y) (hy : y ≤ H) (wt : Nat → Nat → Int) (ft : Nat → Nat → St) (hT : Tab w g wt ft)
    (ha1 : 1 ≤ a) (ha : a < x) (hf : ft x y = (2, (a : Int))) (hv : mst bs x y = mst bs a y + mst bs (x - a) y)
    (h1 : ∀ W', Gr w W' → Calls Try.prog 42 #[.pointer (some ⟨g, 0, none⟩), .int .i64 (a : Int), .int .i64 (y : Int)] W' (PPost bs a y W'))
    (h2 : ∀ W', Gr w W' → Calls Try.prog 42 #[.pointer (some ⟨g, 0, none⟩), .int .i64 ((x : Int) - (a : Int)), .int .i64 (y : Int)] W' (PPost bs (x - a) y W')) :
    Calls Try.prog 42 #[.pointer (some ⟨g, 0, none⟩), .int .i64 (x : Int), .int .i64 (y : Int)] w (PPost bs x y w) := by
  obtain ⟨c1, c2⟩ := hT.first (x := x) (y := y) (by omega) (by omega)
  rw [hf] at c1 c2
  have HV := Lib.hid hv
  have HA := Lib.hid h1
  have HB := Lib.hid h2
  have i1 : (0 : Int) ≤ (x : Int) := by omega
  have i2 : (x : Int) < 49 := by omega
  have i3 : (0 : Int) ≤ (y : Int) := by omega
  have i4 : (y : Int) < 49 := by omega
  have i5 : IntKind.i64.wrap ((x : Int) - (a : Int)) = (x : Int) - (a : Int) := IntWalk.i64_in _ (by omega)
  clear hf hv h1 h2 hT
  dsimp only at c1 c2
  go_enter Try.func42, Try.ntmps42
  go_wp2_with fail
  generalize hWa : World.alloc w _ = Wa
  have hga : Gr w Wa := by rw [← hWa]; exact (Gr.refl w).alloc _
  have d0 : Wa.cell? ⟨w.heap.size, 0, none⟩ = some (.int .i64 2) := by rw [← hWa]; exact alloc_new rfl rfl
  have d1 : Wa.cell? ⟨w.heap.size, 1, none⟩ = some (.int .i64 (a : Int)) := by rw [← hWa]; exact alloc_new rfl rfl
  clear hWa c1 c2
  have hdr := (Gr.refl Wa).drew
  refine wp_region_held_drew (S := (fun W' => Gr w W' ∧ W'.cell? ⟨w.heap.size, 0, none⟩ = some (.int .i64 2) ∧ W'.cell? ⟨w.heap.size, 1, none⟩ = some (.int .i64 (a : Int)))) ?_ ?_ (fun hHeld => ?_)
  · kernel_rfl
  · ((try dsimp only); (first | exact ⟨hga.drew, hdr.keep d0, hdr.keep d1⟩ | exact ⟨hHeld.1.trans HG1.out, HG1.out.keep hHeld.2.1, HG1.out.keep hHeld.2.2⟩ | exact ⟨hHeld.1.trans HG2.out, HG2.out.keep hHeld.2.1, HG2.out.keep hHeld.2.2⟩ | exact ⟨hHeld.1.alloc _, ((Gr.refl _).alloc _).keep hHeld.2.1, ((Gr.refl _).alloc _).keep hHeld.2.2⟩ | exact ⟨hHeld.1.trans HG3.out, HG3.out.keep hHeld.2.1, HG3.out.keep hHeld.2.2⟩))
  refine take_in (i := 0) (v := ?_) (d := (some 20)) rfl rfl ?_ ?_ ?_ ?_ ?_ ?_ ?_ ?_
  rotate_left
  · kernel_rfl
  · kernel_rfl
  · kernel_rfl
  · (intro _ _ _ hq; exact hq)
  · rfl
  · (intro _w hSw; (try dsimp only at hSw); go_simp; try with_reducible rfl)
  · assumption
  try simp only [Act.put, List.setIfInBounds_toArray, List.set_cons_zero, List.set_cons_succ]
  refine take_in (i := 1) (v := ?_) (d := (some 21)) rfl rfl ?_ ?_ ?_ ?_ ?_ ?_ ?_ ?_
  rotate_left
  · kernel_rfl
  · kernel_rfl
  · kernel_rfl
  · (intro _ _ _ hq; exact hq)
  · rfl
  · (intro _w hSw; (try dsimp only at hSw); go_simp; try with_reducible rfl)
  · assumption
  try simp only [Act.put, List.setIfInBounds_toArray, List.set_cons_zero, List.set_cons_succ]
  refine take_in (i := 2) (v := ?_) (d := (some 22)) rfl rfl ?_ ?_ ?_ ?_ ?_ ?_ ?_ ?_
  rotate_left
  · kernel_rfl
  · kernel_rfl
  · kernel_rfl
  · (intro _ _ _ hq; exact hq)
  · rfl
  · (intro _w hSw; (try dsimp only at hSw); go_simp; try with_reducible rfl)
  · assumption
  try simp only [Act.put, List.setIfInBounds_toArray, List.set_cons_zero, List.set_cons_succ]
  refine take_in (i := 3) (v := ?_) (d := (some 23)) rfl rfl ?_ ?_ ?_ ?_ ?_ ?_ ?_ ?_
  rotate_left
  · kernel_rfl
  · kernel_rfl
  · kernel_rfl
  · (intro _ _ _ hq; exact hq)
  · rfl
  · (intro _w hSw; (try dsimp only at hSw); go_simp; try with_reducible rfl)
  · assumption
  try simp only [Act.put, List.setIfInBounds_toArray, List.set_cons_zero, List.set_cons_succ]
  refine take_in (i := 4) (v := ?_) (d := (some 24)) rfl rfl ?_ ?_ ?_ ?_ ?_ ?_ ?_ ?_
  rotate_left
  · kernel_rfl
  · kernel_rfl
  · kernel_rfl
  · (intro _ _ _ hq; exact hq)
  · rfl
  · (intro _w hSw; (try dsimp only at hSw); go_simp; try with_reducible rfl)
  · assumption
  try simp only [Act.put, List.setIfInBounds_toArray, List.set_cons_zero, List.set_cons_succ]
  refine take_in (i := 6) (v := ?_) (d := (some 26)) rfl rfl ?_ ?_ ?_ ?_ ?_ ?_ ?_ ?_
  rotate_left
  · kernel_rfl
  · kernel_rfl
  · kernel_rfl
  · (intro _ _ _ hq; exact hq)
  · rfl
  · (intro _w hSw; (try dsimp only at hSw); go_simp; try with_reducible rfl)
  · assumption
  try simp only [Act.put, List.setIfInBounds_toArray, List.set_cons_zero, List.set_cons_succ]
  refine take_in (i := 7) (v := ?_) (d := (some 27)) rfl rfl ?_ ?_ ?_ ?_ ?_ ?_ ?_ ?_
  rotate_left
  · kernel_rfl
  · kernel_rfl
  · kernel_rfl
  · (intro _ _ _ hq; exact hq)
  · rfl
  · (intro _w hSw; (try dsimp only at hSw); go_simp; try with_reducible rfl)
  · assumption
  try simp only [Act.put, List.setIfInBounds_toArray, List.set_cons_zero, List.set_cons_succ]
  refine take_in (i := 8) (v := ?_) (d := (some 28)) rfl rfl ?_ ?_ ?_ ?_ ?_ ?_ ?_ ?_
  rotate_left
  · kernel_rfl
  · kernel_rfl
  · kernel_rfl
  · (intro _ _ _ hq; exact hq)
  · rfl
  · (intro _w hSw; (try dsimp only at hSw); go_simp; try with_reducible rfl)
  · assumption
  try simp only [Act.put, List.setIfInBounds_toArray, List.set_cons_zero, List.set_cons_succ]
  refine take_in (i := 9) (v := ?_) (d := (some 29)) rfl rfl ?_ ?_ ?_ ?_ ?_ ?_ ?_ ?_
  rotate_left
  · kernel_rfl
  · kernel_rfl
  · kernel_rfl
  · (intro _ _ _ hq; exact hq)
  · rfl
  · (intro _w hSw; (try dsimp only at hSw); go_simp; try with_reducible rfl)
  · assumption
  try simp only [Act.put, List.setIfInBounds_toArray, List.set_cons_zero, List.set_cons_succ]
  refine take_in (i := 10) (v := ?_) (d := (some 30)) rfl rfl ?_ ?_ ?_ ?_ ?_ ?_ ?_ ?_
  rotate_left
  · kernel_rfl
  · kernel_rfl
  · kernel_rfl
  · (intro _ _ _ hq; exact hq)
  · rfl
  · (intro _w hSw; (try dsimp only at hSw); go_simp; try with_reducible rfl)
  · assumption
  try simp only [Act.put, List.setIfInBounds_toArray, List.set_cons_zero, List.set_cons_succ]
  refine take_in (i := 11) (v := ?_) (d := (some 31)) rfl rfl ?_ ?_ ?_ ?_ ?_ ?_ ?_ ?_
  rotate_left
  · kernel_rfl
  · kernel_rfl
  · kernel_rfl
  · (intro _ _ _ hq; exact hq)
  · rfl
  · (intro _w hSw; (try dsimp only at hSw); go_simp; try with_reducible rfl)
  · assumption
  try simp only [Act.put, List.setIfInBounds_toArray, List.set_cons_zero, List.set_cons_succ]
  refine wpAnyH_ready (rs := [5]) ?_ ?_ ?_
  · kernel_rfl
  · simp
  refine (AllReadyH.cons rfl (fun K hK => ?_) AllReadyH.nil)
  go_simp
  first | (go_at_call 42; (with_reducible refine (HA.out _ hHeld.1).mono ?_); rintro e w3 ⟨P1, m1, hM1, hs1, g1, k1, rfl, hl1, hb1, hown1, hg1⟩; have HG1 := Lib.hid hg1; have HM1 := Lib.hid hM1; have HS1 := Lib.hid hs1; have HO1 := Lib.hid (PlanPost.pts hown1); clear hM1 hs1 hown1 hg1 hl1 hb1) | (go_at_call 42; (with_reducible refine (HB.out _ hHeld.1).mono ?_); rintro e w4 ⟨P2, m2, hM2, hs2, g2, k2, rfl, hl2, hb2, hown2, hg2⟩; have HG2 := Lib.hid hg2; have HM2 := Lib.hid hM2; have HS2 := Lib.hid hs2; have HO2 := Lib.hid (PlanPost.pts hown2); clear hM2 hs2 hown2 hg2 hl2 hb2) | (go_at_call 61; refine (planOf_any (2, (a : Int)) _ 2 2 [P1, P2] _ rfl (by omega) (two_len HM1.out HM2.out) (two_flat HM1.out HM2.out (by omega) (by omega) (by omega) (by omega) (by omega) (by omega) (by omega) (by omega)) (two_parts HO1.out HO2.out HG2.out)).mono ?_; rintro e w5 ⟨g3, k3, rfl, hl3, hb3, hown3, hg3⟩; have HG3 := Lib.hid hg3; have HO3 := Lib.hid hown3; clear hown3 hg3)
  refine hK.out _ _ ?_ (fun hHeld => ?_)
  · ((try dsimp only); (first | exact ⟨hga.drew, hdr.keep d0, hdr.keep d1⟩ | exact ⟨hHeld.1.trans HG1.out, HG1.out.keep hHeld.2.1, HG1.out.keep hHeld.2.2⟩ | exact ⟨hHeld.1.trans HG2.out, HG2.out.keep hHeld.2.1, HG2.out.keep hHeld.2.2⟩ | exact ⟨hHeld.1.alloc _, ((Gr.refl _).alloc _).keep hHeld.2.1, ((Gr.refl _).alloc _).keep hHeld.2.2⟩ | exact ⟨hHeld.1.trans HG3.out, HG3.out.keep hHeld.2.1, HG3.out.keep hHeld.2.2⟩))
  clear hK K
  try simp only [Act.put, List.setIfInBounds_toArray, List.set_cons_zero, List.set_cons_succ]
  refine wpAnyH_ready (rs := [12]) ?_ ?_ ?_
  · kernel_rfl
  · simp
  refine (AllReadyH.cons rfl (fun K hK => ?_) AllReadyH.nil)
  go_simp
  first | (go_at_call 42; (with_reducible refine (HA.out _ hHeld.1).mono ?_); rintro e w3 ⟨P1, m1, hM1, hs1, g1, k1, rfl, hl1, hb1, hown1, hg1⟩; have HG1 := Lib.hid hg1; have HM1 := Lib.hid hM1; have HS1 := Lib.hid hs1; have HO1 := Lib.hid (PlanPost.pts hown1); clear hM1 hs1 hown1 hg1 hl1 hb1) | (go_at_call 42; (with_reducible refine (HB.out _ hHeld.1).mono ?_); rintro e w4 ⟨P2, m2, hM2, hs2, g2, k2, rfl, hl2, hb2, hown2, hg2⟩; have HG2 := Lib.hid hg2; have HM2 := Lib.hid hM2; have HS2 := Lib.hid hs2; have HO2 := Lib.hid (PlanPost.pts hown2); clear hM2 hs2 hown2 hg2 hl2 hb2) | (go_at_call 61; refine (planOf_any (2, (a : Int)) _ 2 2 [P1, P2] _ rfl (by omega) (two_len HM1.out HM2.out) (two_flat HM1.out HM2.out (by omega) (by omega) (by omega) (by omega) (by omega) (by omega) (by omega) (by omega)) (two_parts HO1.out HO2.out HG2.out)).mono ?_; rintro e w5 ⟨g3, k3, rfl, hl3, hb3, hown3, hg3⟩; have HG3 := Lib.hid hg3; have HO3 := Lib.hid hown3; clear hown3 hg3)
  refine hK.out _ _ ?_ (fun hHeld => ?_)
  · ((try dsimp only); (first | exact ⟨hga.drew, hdr.keep d0, hdr.keep d1⟩ | exact ⟨hHeld.1.trans HG1.out, HG1.out.keep hHeld.2.1, HG1.out.keep hHeld.2.2⟩ | exact ⟨hHeld.1.trans HG2.out, HG2.out.keep hHeld.2.1, HG2.out.keep hHeld.2.2⟩ | exact ⟨hHeld.1.alloc _, ((Gr.refl _).alloc _).keep hHeld.2.1, ((Gr.refl _).alloc _).keep hHeld.2.2⟩ | exact ⟨hHeld.1.trans HG3.out, HG3.out.keep hHeld.2.1, HG3.out.keep hHeld.2.2⟩))
  clear hK K
  try simp only [Act.put, List.setIfInBounds_toArray, List.set_cons_zero, List.set_cons_succ]
  refine wpAnyH_ready (rs := [13]) ?_ ?_ ?_
  · kernel_rfl
  · simp
  refine (AllReadyH.cons rfl (fun K hK => ?_) AllReadyH.nil)
  go_simp
  refine hK.out _ _ ?_ (fun hHeld => ?_)
  · ((try dsimp only); (first | exact ⟨hga.drew, hdr.keep d0, hdr.keep d1⟩ | exact ⟨hHeld.1.trans HG1.out, HG1.out.keep hHeld.2.1, HG1.out.keep hHeld.2.2⟩ | exact ⟨hHeld.1.trans HG2.out, HG2.out.keep hHeld.2.1, HG2.out.keep hHeld.2.2⟩ | exact ⟨hHeld.1.alloc _, ((Gr.refl _).alloc _).keep hHeld.2.1, ((Gr.refl _).alloc _).keep hHeld.2.2⟩ | exact ⟨hHeld.1.trans HG3.out, HG3.out.keep hHeld.2.1, HG3.out.keep hHeld.2.2⟩))
  clear hK K
  try simp only [Act.put, List.setIfInBounds_toArray, List.set_cons_zero, List.set_cons_succ]
  refine wpAnyH_ready (rs := [14]) ?_ ?_ ?_
  · kernel_rfl
  · simp
  refine (AllReadyH.cons rfl (fun K hK => ?_) AllReadyH.nil)
  go_simp
  first | (go_at_call 42; (with_reducible refine (HA.out _ hHeld.1).mono ?_); rintro e w3 ⟨P1, m1, hM1, hs1, g1, k1, rfl, hl1, hb1, hown1, hg1⟩; have HG1 := Lib.hid hg1; have HM1 := Lib.hid hM1; have HS1 := Lib.hid hs1; have HO1 := Lib.hid (PlanPost.pts hown1); clear hM1 hs1 hown1 hg1 hl1 hb1) | (go_at_call 42; (with_reducible refine (HB.out _ hHeld.1).mono ?_); rintro e w4 ⟨P2, m2, hM2, hs2, g2, k2, rfl, hl2, hb2, hown2, hg2⟩; have HG2 := Lib.hid hg2; have HM2 := Lib.hid hM2; have HS2 := Lib.hid hs2; have HO2 := Lib.hid (PlanPost.pts hown2); clear hM2 hs2 hown2 hg2 hl2 hb2) | (go_at_call 61; refine (planOf_any (2, (a : Int)) _ 2 2 [P1, P2] _ rfl (by omega) (two_len HM1.out HM2.out) (two_flat HM1.out HM2.out (by omega) (by omega) (by omega) (by omega) (by omega) (by omega) (by omega) (by omega)) (two_parts HO1.out HO2.out HG2.out)).mono ?_; rintro e w5 ⟨g3, k3, rfl, hl3, hb3, hown3, hg3⟩; have HG3 := Lib.hid hg3; have HO3 := Lib.hid hown3; clear hown3 hg3)
  refine hK.out _ _ ?_ (fun hHeld => ?_)
  · ((try dsimp only); (first | exact ⟨hga.drew, hdr.keep d0, hdr.keep d1⟩ | exact ⟨hHeld.1.trans HG1.out, HG1.out.keep hHeld.2.1, HG1.out.keep hHeld.2.2⟩ | exact ⟨hHeld.1.trans HG2.out, HG2.out.keep hHeld.2.1, HG2.out.keep hHeld.2.2⟩ | exact ⟨hHeld.1.alloc _, ((Gr.refl _).alloc _).keep hHeld.2.1, ((Gr.refl _).alloc _).keep hHeld.2.2⟩ | exact ⟨hHeld.1.trans HG3.out, HG3.out.keep hHeld.2.1, HG3.out.keep hHeld.2.2⟩))
  clear hK K
  try simp only [Act.put, List.setIfInBounds_toArray, List.set_cons_zero, List.set_cons_succ]
  refine take_in (i := 15) (v := ?_) (d := (some 6)) rfl rfl ?_ ?_ ?_ ?_ ?_ ?_ ?_ ?_
  rotate_left
  · kernel_rfl
  · kernel_rfl
  · kernel_rfl
  · (intro _ _ _ hq; exact hq)
  · rfl
  · (intro _w hSw; (try dsimp only at hSw); go_simp; try with_reducible rfl)
  · assumption
  try simp only [Act.put, List.setIfInBounds_toArray, List.set_cons_zero, List.set_cons_succ]
  refine wpAnyH_done ?_ ?_ _
  · kernel_rfl
  rotate_left
  all_goals
    go_wp2_with fail
    go_ret
    refine ⟨_, _, Makes.across x y a P1 P2 m1 m2 ha1 ha HM1.out HM2.out, by rw [sumV_app, HS1.out, HS2.out, HV.out], g3, k3, ?_, ?_, ?_, ?_, hHeld.1⟩
    · simp [List.flatten]
    · simpa [List.flatten] using hl3
    · have h4 := (hga.trans (hdr.trans (HG1.out.trans HG2.out))).size
      have h5 := hb3
      simp at h5
      omega
    · have h5 := owns_base HO3.out (hga.trans (hdr.trans ((HG1.out.trans HG2.out).alloc (.cells #[.slice (some ⟨g1, 0, none⟩) P1.length k1, .slice (some ⟨g2, 0, none⟩) P2.length k2] 25)))).size
      simpa [List.flatten] using h5

set_option maxRecDepth 100000 in
set_option maxHeartbeats 2000000 in
theorem plan_along (bs : List Bl) (W H g x y a : Nat) (w : World) (hW : W ≤ 48) (hH : H ≤ 48) (hx1 : 1 ≤ x) (hx : x ≤ W) (hy1 : 1 ≤ y) (hy : y ≤ H) (wt : Nat → Nat → Int) (ft : Nat → Nat → St) (hT : Tab w g wt ft)
    (ha1 : 1 ≤ a) (ha : a < y) (hf : ft x y = (3, (a : Int))) (hv : mst bs x y = mst bs x a + mst bs x (y - a))
    (h1 : ∀ W', Gr w W' → Calls Try.prog 42 #[.pointer (some ⟨g, 0, none⟩), .int .i64 (x : Int), .int .i64 (a : Int)] W' (PPost bs x a W'))
    (h2 : ∀ W', Gr w W' → Calls Try.prog 42 #[.pointer (some ⟨g, 0, none⟩), .int .i64 (x : Int), .int .i64 ((y : Int) - (a : Int))] W' (PPost bs x (y - a) W')) :
    Calls Try.prog 42 #[.pointer (some ⟨g, 0, none⟩), .int .i64 (x : Int), .int .i64 (y : Int)] w (PPost bs x y w) := by
  obtain ⟨c1, c2⟩ := hT.first (x := x) (y := y) (by omega) (by omega)
  rw [hf] at c1 c2
  have HV := Lib.hid hv
  have HA := Lib.hid h1
  have HB := Lib.hid h2
  have i1 : (0 : Int) ≤ (x : Int) := by omega
  have i2 : (x : Int) < 49 := by omega
  have i3 : (0 : Int) ≤ (y : Int) := by omega
  have i4 : (y : Int) < 49 := by omega
  have i5 : IntKind.i64.wrap ((y : Int) - (a : Int)) = (y : Int) - (a : Int) := IntWalk.i64_in _ (by omega)
  clear hf hv h1 h2 hT
  dsimp only at c1 c2
  go_enter Try.func42, Try.ntmps42
  go_wp2_with fail
  generalize hWa : World.alloc w _ = Wa
  have hga : Gr w Wa := by rw [← hWa]; exact (Gr.refl w).alloc _
  have d0 : Wa.cell? ⟨w.heap.size, 0, none⟩ = some (.int .i64 3) := by rw [← hWa]; exact alloc_new rfl rfl
  have d1 : Wa.cell? ⟨w.heap.size, 1, none⟩ = some (.int .i64 (a : Int)) := by rw [← hWa]; exact alloc_new rfl rfl
  clear hWa c1 c2
  have hdr := (Gr.refl Wa).drew
  refine wp_region_held_drew (S := (fun W' => Gr w W' ∧ W'.cell? ⟨w.heap.size, 0, none⟩ = some (.int .i64 3) ∧ W'.cell? ⟨w.heap.size, 1, none⟩ = some (.int .i64 (a : Int)))) ?_ ?_ (fun hHeld => ?_)
  · kernel_rfl
  · ((try dsimp only); (first | exact ⟨hga.drew, hdr.keep d0, hdr.keep d1⟩ | exact ⟨hHeld.1.trans HG1.out, HG1.out.keep hHeld.2.1, HG1.out.keep hHeld.2.2⟩ | exact ⟨hHeld.1.trans HG2.out, HG2.out.keep hHeld.2.1, HG2.out.keep hHeld.2.2⟩ | exact ⟨hHeld.1.alloc _, ((Gr.refl _).alloc _).keep hHeld.2.1, ((Gr.refl _).alloc _).keep hHeld.2.2⟩ | exact ⟨hHeld.1.trans HG3.out, HG3.out.keep hHeld.2.1, HG3.out.keep hHeld.2.2⟩))
  refine take_in (i := 0) (v := ?_) (d := (some 37)) rfl rfl ?_ ?_ ?_ ?_ ?_ ?_ ?_ ?_
  rotate_left
  · kernel_rfl
  · kernel_rfl
  · kernel_rfl
  · (intro _ _ _ hq; exact hq)
  · rfl
  · (intro _w hSw; (try dsimp only at hSw); go_simp; try with_reducible rfl)
  · assumption
  try simp only [Act.put, List.setIfInBounds_toArray, List.set_cons_zero, List.set_cons_succ]
  refine take_in (i := 1) (v := ?_) (d := (some 38)) rfl rfl ?_ ?_ ?_ ?_ ?_ ?_ ?_ ?_
  rotate_left
  · kernel_rfl
  · kernel_rfl
  · kernel_rfl
  · (intro _ _ _ hq; exact hq)
  · rfl
  · (intro _w hSw; (try dsimp only at hSw); go_simp; try with_reducible rfl)
  · assumption
  try simp only [Act.put, List.setIfInBounds_toArray, List.set_cons_zero, List.set_cons_succ]
  refine take_in (i := 2) (v := ?_) (d := (some 39)) rfl rfl ?_ ?_ ?_ ?_ ?_ ?_ ?_ ?_
  rotate_left
  · kernel_rfl
  · kernel_rfl
  · kernel_rfl
  · (intro _ _ _ hq; exact hq)
  · rfl
  · (intro _w hSw; (try dsimp only at hSw); go_simp; try with_reducible rfl)
  · assumption
  try simp only [Act.put, List.setIfInBounds_toArray, List.set_cons_zero, List.set_cons_succ]
  refine take_in (i := 3) (v := ?_) (d := (some 40)) rfl rfl ?_ ?_ ?_ ?_ ?_ ?_ ?_ ?_
  rotate_left
  · kernel_rfl
  · kernel_rfl
  · kernel_rfl
  · (intro _ _ _ hq; exact hq)
  · rfl
  · (intro _w hSw; (try dsimp only at hSw); go_simp; try with_reducible rfl)
  · assumption
  try simp only [Act.put, List.setIfInBounds_toArray, List.set_cons_zero, List.set_cons_succ]
  refine take_in (i := 4) (v := ?_) (d := (some 41)) rfl rfl ?_ ?_ ?_ ?_ ?_ ?_ ?_ ?_
  rotate_left
  · kernel_rfl
  · kernel_rfl
  · kernel_rfl
  · (intro _ _ _ hq; exact hq)
  · rfl
  · (intro _w hSw; (try dsimp only at hSw); go_simp; try with_reducible rfl)
  · assumption
  try simp only [Act.put, List.setIfInBounds_toArray, List.set_cons_zero, List.set_cons_succ]
  refine take_in (i := 6) (v := ?_) (d := (some 43)) rfl rfl ?_ ?_ ?_ ?_ ?_ ?_ ?_ ?_
  rotate_left
  · kernel_rfl
  · kernel_rfl
  · kernel_rfl
  · (intro _ _ _ hq; exact hq)
  · rfl
  · (intro _w hSw; (try dsimp only at hSw); go_simp; try with_reducible rfl)
  · assumption
  try simp only [Act.put, List.setIfInBounds_toArray, List.set_cons_zero, List.set_cons_succ]
  refine take_in (i := 7) (v := ?_) (d := (some 44)) rfl rfl ?_ ?_ ?_ ?_ ?_ ?_ ?_ ?_
  rotate_left
  · kernel_rfl
  · kernel_rfl
  · kernel_rfl
  · (intro _ _ _ hq; exact hq)
  · rfl
  · (intro _w hSw; (try dsimp only at hSw); go_simp; try with_reducible rfl)
  · assumption
  try simp only [Act.put, List.setIfInBounds_toArray, List.set_cons_zero, List.set_cons_succ]
  refine take_in (i := 8) (v := ?_) (d := (some 45)) rfl rfl ?_ ?_ ?_ ?_ ?_ ?_ ?_ ?_
  rotate_left
  · kernel_rfl
  · kernel_rfl
  · kernel_rfl
  · (intro _ _ _ hq; exact hq)
  · rfl
  · (intro _w hSw; (try dsimp only at hSw); go_simp; try with_reducible rfl)
  · assumption
  try simp only [Act.put, List.setIfInBounds_toArray, List.set_cons_zero, List.set_cons_succ]
  refine take_in (i := 9) (v := ?_) (d := (some 46)) rfl rfl ?_ ?_ ?_ ?_ ?_ ?_ ?_ ?_
  rotate_left
  · kernel_rfl
  · kernel_rfl
  · kernel_rfl
  · (intro _ _ _ hq; exact hq)
  · rfl
  · (intro _w hSw; (try dsimp only at hSw); go_simp; try with_reducible rfl)
  · assumption
  try simp only [Act.put, List.setIfInBounds_toArray, List.set_cons_zero, List.set_cons_succ]
  refine take_in (i := 10) (v := ?_) (d := (some 47)) rfl rfl ?_ ?_ ?_ ?_ ?_ ?_ ?_ ?_
  rotate_left
  · kernel_rfl
  · kernel_rfl
  · kernel_rfl
  · (intro _ _ _ hq; exact hq)
  · rfl
  · (intro _w hSw; (try dsimp only at hSw); go_simp; try with_reducible rfl)
  · assumption
  try simp only [Act.put, List.setIfInBounds_toArray, List.set_cons_zero, List.set_cons_succ]
  refine take_in (i := 11) (v := ?_) (d := (some 48)) rfl rfl ?_ ?_ ?_ ?_ ?_ ?_ ?_ ?_
  rotate_left
  · kernel_rfl
  · kernel_rfl
  · kernel_rfl
  · (intro _ _ _ hq; exact hq)
  · rfl
  · (intro _w hSw; (try dsimp only at hSw); go_simp; try with_reducible rfl)
  · assumption
  try simp only [Act.put, List.setIfInBounds_toArray, List.set_cons_zero, List.set_cons_succ]
  refine wpAnyH_ready (rs := [5]) ?_ ?_ ?_
  · kernel_rfl
  · simp
  refine (AllReadyH.cons rfl (fun K hK => ?_) AllReadyH.nil)
  go_simp
  first | (go_at_call 42; (with_reducible refine (HA.out _ hHeld.1).mono ?_); rintro e w3 ⟨P1, m1, hM1, hs1, g1, k1, rfl, hl1, hb1, hown1, hg1⟩; have HG1 := Lib.hid hg1; have HM1 := Lib.hid hM1; have HS1 := Lib.hid hs1; have HO1 := Lib.hid (PlanPost.pts hown1); clear hM1 hs1 hown1 hg1 hl1 hb1) | (go_at_call 42; (with_reducible refine (HB.out _ hHeld.1).mono ?_); rintro e w4 ⟨P2, m2, hM2, hs2, g2, k2, rfl, hl2, hb2, hown2, hg2⟩; have HG2 := Lib.hid hg2; have HM2 := Lib.hid hM2; have HS2 := Lib.hid hs2; have HO2 := Lib.hid (PlanPost.pts hown2); clear hM2 hs2 hown2 hg2 hl2 hb2) | (go_at_call 61; refine (planOf_any (3, (a : Int)) _ 2 2 [P1, P2] _ rfl (by omega) (two_len HM1.out HM2.out) (two_flat HM1.out HM2.out (by omega) (by omega) (by omega) (by omega) (by omega) (by omega) (by omega) (by omega)) (two_parts HO1.out HO2.out HG2.out)).mono ?_; rintro e w5 ⟨g3, k3, rfl, hl3, hb3, hown3, hg3⟩; have HG3 := Lib.hid hg3; have HO3 := Lib.hid hown3; clear hown3 hg3)
  refine hK.out _ _ ?_ (fun hHeld => ?_)
  · ((try dsimp only); (first | exact ⟨hga.drew, hdr.keep d0, hdr.keep d1⟩ | exact ⟨hHeld.1.trans HG1.out, HG1.out.keep hHeld.2.1, HG1.out.keep hHeld.2.2⟩ | exact ⟨hHeld.1.trans HG2.out, HG2.out.keep hHeld.2.1, HG2.out.keep hHeld.2.2⟩ | exact ⟨hHeld.1.alloc _, ((Gr.refl _).alloc _).keep hHeld.2.1, ((Gr.refl _).alloc _).keep hHeld.2.2⟩ | exact ⟨hHeld.1.trans HG3.out, HG3.out.keep hHeld.2.1, HG3.out.keep hHeld.2.2⟩))
  clear hK K
  try simp only [Act.put, List.setIfInBounds_toArray, List.set_cons_zero, List.set_cons_succ]
  refine wpAnyH_ready (rs := [12]) ?_ ?_ ?_
  · kernel_rfl
  · simp
  refine (AllReadyH.cons rfl (fun K hK => ?_) AllReadyH.nil)
  go_simp
  first | (go_at_call 42; (with_reducible refine (HA.out _ hHeld.1).mono ?_); rintro e w3 ⟨P1, m1, hM1, hs1, g1, k1, rfl, hl1, hb1, hown1, hg1⟩; have HG1 := Lib.hid hg1; have HM1 := Lib.hid hM1; have HS1 := Lib.hid hs1; have HO1 := Lib.hid (PlanPost.pts hown1); clear hM1 hs1 hown1 hg1 hl1 hb1) | (go_at_call 42; (with_reducible refine (HB.out _ hHeld.1).mono ?_); rintro e w4 ⟨P2, m2, hM2, hs2, g2, k2, rfl, hl2, hb2, hown2, hg2⟩; have HG2 := Lib.hid hg2; have HM2 := Lib.hid hM2; have HS2 := Lib.hid hs2; have HO2 := Lib.hid (PlanPost.pts hown2); clear hM2 hs2 hown2 hg2 hl2 hb2) | (go_at_call 61; refine (planOf_any (3, (a : Int)) _ 2 2 [P1, P2] _ rfl (by omega) (two_len HM1.out HM2.out) (two_flat HM1.out HM2.out (by omega) (by omega) (by omega) (by omega) (by omega) (by omega) (by omega) (by omega)) (two_parts HO1.out HO2.out HG2.out)).mono ?_; rintro e w5 ⟨g3, k3, rfl, hl3, hb3, hown3, hg3⟩; have HG3 := Lib.hid hg3; have HO3 := Lib.hid hown3; clear hown3 hg3)
  refine hK.out _ _ ?_ (fun hHeld => ?_)
  · ((try dsimp only); (first | exact ⟨hga.drew, hdr.keep d0, hdr.keep d1⟩ | exact ⟨hHeld.1.trans HG1.out, HG1.out.keep hHeld.2.1, HG1.out.keep hHeld.2.2⟩ | exact ⟨hHeld.1.trans HG2.out, HG2.out.keep hHeld.2.1, HG2.out.keep hHeld.2.2⟩ | exact ⟨hHeld.1.alloc _, ((Gr.refl _).alloc _).keep hHeld.2.1, ((Gr.refl _).alloc _).keep hHeld.2.2⟩ | exact ⟨hHeld.1.trans HG3.out, HG3.out.keep hHeld.2.1, HG3.out.keep hHeld.2.2⟩))
  clear hK K
  try simp only [Act.put, List.setIfInBounds_toArray, List.set_cons_zero, List.set_cons_succ]
  refine wpAnyH_ready (rs := [13]) ?_ ?_ ?_
  · kernel_rfl
  · simp
  refine (AllReadyH.cons rfl (fun K hK => ?_) AllReadyH.nil)
  go_simp
  refine hK.out _ _ ?_ (fun hHeld => ?_)
  · ((try dsimp only); (first | exact ⟨hga.drew, hdr.keep d0, hdr.keep d1⟩ | exact ⟨hHeld.1.trans HG1.out, HG1.out.keep hHeld.2.1, HG1.out.keep hHeld.2.2⟩ | exact ⟨hHeld.1.trans HG2.out, HG2.out.keep hHeld.2.1, HG2.out.keep hHeld.2.2⟩ | exact ⟨hHeld.1.alloc _, ((Gr.refl _).alloc _).keep hHeld.2.1, ((Gr.refl _).alloc _).keep hHeld.2.2⟩ | exact ⟨hHeld.1.trans HG3.out, HG3.out.keep hHeld.2.1, HG3.out.keep hHeld.2.2⟩))
  clear hK K
  try simp only [Act.put, List.setIfInBounds_toArray, List.set_cons_zero, List.set_cons_succ]
  refine wpAnyH_ready (rs := [14]) ?_ ?_ ?_
  · kernel_rfl
  · simp
  refine (AllReadyH.cons rfl (fun K hK => ?_) AllReadyH.nil)
  go_simp
  first | (go_at_call 42; (with_reducible refine (HA.out _ hHeld.1).mono ?_); rintro e w3 ⟨P1, m1, hM1, hs1, g1, k1, rfl, hl1, hb1, hown1, hg1⟩; have HG1 := Lib.hid hg1; have HM1 := Lib.hid hM1; have HS1 := Lib.hid hs1; have HO1 := Lib.hid (PlanPost.pts hown1); clear hM1 hs1 hown1 hg1 hl1 hb1) | (go_at_call 42; (with_reducible refine (HB.out _ hHeld.1).mono ?_); rintro e w4 ⟨P2, m2, hM2, hs2, g2, k2, rfl, hl2, hb2, hown2, hg2⟩; have HG2 := Lib.hid hg2; have HM2 := Lib.hid hM2; have HS2 := Lib.hid hs2; have HO2 := Lib.hid (PlanPost.pts hown2); clear hM2 hs2 hown2 hg2 hl2 hb2) | (go_at_call 61; refine (planOf_any (3, (a : Int)) _ 2 2 [P1, P2] _ rfl (by omega) (two_len HM1.out HM2.out) (two_flat HM1.out HM2.out (by omega) (by omega) (by omega) (by omega) (by omega) (by omega) (by omega) (by omega)) (two_parts HO1.out HO2.out HG2.out)).mono ?_; rintro e w5 ⟨g3, k3, rfl, hl3, hb3, hown3, hg3⟩; have HG3 := Lib.hid hg3; have HO3 := Lib.hid hown3; clear hown3 hg3)
  refine hK.out _ _ ?_ (fun hHeld => ?_)
  · ((try dsimp only); (first | exact ⟨hga.drew, hdr.keep d0, hdr.keep d1⟩ | exact ⟨hHeld.1.trans HG1.out, HG1.out.keep hHeld.2.1, HG1.out.keep hHeld.2.2⟩ | exact ⟨hHeld.1.trans HG2.out, HG2.out.keep hHeld.2.1, HG2.out.keep hHeld.2.2⟩ | exact ⟨hHeld.1.alloc _, ((Gr.refl _).alloc _).keep hHeld.2.1, ((Gr.refl _).alloc _).keep hHeld.2.2⟩ | exact ⟨hHeld.1.trans HG3.out, HG3.out.keep hHeld.2.1, HG3.out.keep hHeld.2.2⟩))
  clear hK K
  try simp only [Act.put, List.setIfInBounds_toArray, List.set_cons_zero, List.set_cons_succ]
  refine take_in (i := 15) (v := ?_) (d := (some 6)) rfl rfl ?_ ?_ ?_ ?_ ?_ ?_ ?_ ?_
  rotate_left
  · kernel_rfl
  · kernel_rfl
  · kernel_rfl
  · (intro _ _ _ hq; exact hq)
  · rfl
  · (intro _w hSw; (try dsimp only at hSw); go_simp; try with_reducible rfl)
  · assumption
  try simp only [Act.put, List.setIfInBounds_toArray, List.set_cons_zero, List.set_cons_succ]
  refine wpAnyH_done ?_ ?_ _
  · kernel_rfl
  rotate_left
  all_goals
    go_wp2_with fail
    go_ret
    refine ⟨_, _, Makes.along x y a P1 P2 m1 m2 ha1 ha HM1.out HM2.out, by rw [sumV_app, HS1.out, HS2.out, HV.out], g3, k3, ?_, ?_, ?_, ?_, hHeld.1⟩
    · simp [List.flatten]
    · simpa [List.flatten] using hl3
    · have h4 := (hga.trans (hdr.trans (HG1.out.trans HG2.out))).size
      have h5 := hb3
      simp at h5
      omega
    · have h5 := owns_base HO3.out (hga.trans (hdr.trans ((HG1.out.trans HG2.out).alloc (.cells #[.slice (some ⟨g1, 0, none⟩) P1.length k1, .slice (some ⟨g2, 0, none⟩) P2.length k2] 25)))).size
      simpa [List.flatten] using h5

theorem plan_any (bs : List Bl) (W H g : Nat) (hW : W ≤ 48) (hH : H ≤ 48) : ∀ (d x y : Nat) (w : World), x + y ≤ d → 1 ≤ x → x ≤ W → 1 ≤ y → y ≤ H → TFull bs W H g w →
    Calls Try.prog 42 #[.pointer (some ⟨g, 0, none⟩), .int .i64 (x : Int), .int .i64 (y : Int)] w (PPost bs x y w) := by
  intro d
  induction d with
  | zero => intro x y w hd hx1; omega
  | succ d ih =>
    intro x y w hd hx1 hx hy1 hy hT
    obtain ⟨wt, ft, hTab, hgood⟩ := hT
    rcases (hgood x y hx hy).2 hx1 hy1 with ⟨hs, hv⟩ | ⟨i, hi, hf, hs, hv⟩ | ⟨a, ha1, ha, hs, hv⟩ | ⟨a, ha1, ha, hs, hv⟩
    · refine plan_leaf bs W H g x y w hW hH hx1 hx hy1 hy wt ft hTab [] (by rw [hs]; exact Makes.waste x y) (by rw [hv]; rfl) (Or.inl (by rw [hs]))
    · refine plan_leaf bs W H g x y w hW hH hx1 hx hy1 hy wt ft hTab [bl bs i] (by rw [hs]; exact Makes.make x y i hi hf) (by rw [hv]; simp [sumV]) (Or.inr (by rw [hs]))
    · refine plan_across bs W H g x y a w hW hH hx1 hx hy1 hy wt ft hTab ha1 ha hs hv (fun W' hg => ih a y W' (by omega) ha1 (by omega) hy1 hy ⟨wt, ft, hTab.keep hg, hgood⟩) (fun W' hg => ?_)
      have := ih (x - a) y W' (by omega) (by omega) (by omega) hy1 hy ⟨wt, ft, hTab.keep hg, hgood⟩
      rwa [show ((x - a : Nat) : Int) = (x : Int) - (a : Int) by omega] at this
    · refine plan_along bs W H g x y a w hW hH hx1 hx hy1 hy wt ft hTab ha1 ha hs hv (fun W' hg => ih x a W' (by omega) hx1 hx ha1 (by omega) ⟨wt, ft, hTab.keep hg, hgood⟩) (fun W' hg => ?_)
      have := ih x (y - a) W' (by omega) hx1 hx (by omega) (by omega) ⟨wt, ft, hTab.keep hg, hgood⟩
      rwa [show ((y - a : Nat) : Int) = (y : Int) - (a : Int) by omega] at this

end Go.Proofs.Ytcojionipffanab
