/- The least distance, as the program reckons it. -/
import Derived.Test.YtfihmjobnffjfaaHullE
import Derived.Test.YtfihmjobnffjfaaRArea
import Derived.Deep.LoopGhost
namespace Go.Proofs.Ytfihmjobnffjfaa
open Go.RowKit
set_option linter.unusedSimpArgs false

def NearPost (ps : List (Int × Int)) (w : World) (e : Ending) (w' : World) : Prop := ∃ v, e = .returned (.tuple #[.int .i64 v, .int .i64 0]) ∧ MinOn ps (fun _ _ => True) v ∧ Gr w w'

theorem near_ways {x y x' y' : Int} (h : ¬ (x, y) = (x', y')) : (x == x') = false ∨ ((x == x') = true ∧ (y == y') = false) := by
  cases h1 : (x == x') with
  | false => exact Or.inl rfl
  | true =>
    refine Or.inr ⟨rfl, ?_⟩
    cases h2 : (y == y') with
    | false => rfl
    | true => simp at h1 h2; exact absurd (by rw [h1, h2]) h

set_option maxRecDepth 100000 in
set_option maxHeartbeats 4000000 in
theorem Nearest_yes (A : Option Addr) (n c : Nat) (ps : List (Int × Int)) (w : World) (hn : ps.length = n) (h2 : 2 ≤ n) (hl : n ≤ 512) (hc : n ≤ c) (hp : Pts w A ps) (hv : (ps.all fun p => vld p.1 p.2) = true) :
    Calls Try.prog 32 #[.slice A n c] w (NearPost ps w) := by
  have HN := Lib.hid hn
  have HV0 := Lib.hid hv
  have HV := Lib.hid (Cos_of hv)
  have HM0 : Hid (MinOn ps (fun _ _ => False) (sqP (ps.getD 0 (0, 0)) (ps.getD 1 (0, 0)))) := Lib.hid ⟨fun _ _ _ _ h => h.elim, 0, 1, by omega, by omega, rfl⟩
  have HP := Lib.hid hp
  have ck := HV.out 0
  have cj := HV.out 1
  obtain ⟨b, off, rfl, p0, p1⟩ := Pts_at hp (k := 0) (by omega)
  obtain ⟨b', off', e', q0, q1⟩ := Pts_at hp (k := 1) (by omega)
  obtain ⟨rfl, rfl⟩ : b = b' ∧ off = off' := by simpa using e'
  generalize ps.getD 0 (0, 0) = u at p0 p1 ck HM0
  generalize ps.getD 1 (0, 0) = v at q0 q1 cj HM0
  obtain ⟨x, y⟩ := u
  obtain ⟨x', y'⟩ := v
  unfold sqP at HM0
  dsimp only at p0 p1 q0 q1 ck cj HM0
  simp only [Nat.zero_mul, Nat.add_zero, Nat.one_mul] at p0 p1 q0 q1
  have HD := Lib.hid (fun W => distance_any x y x' y' W ck.1 ck.2 cj.1 cj.2)
  generalize sqd x y x' y' = d at HM0 HD
  have n0 : (0 : Int) < (n : Int) := by omega
  have n1 : (1 : Int) < (n : Int) := by omega
  have n2 : 0 < n := by omega
  have n3 : 1 < n := by omega
  have n4 : ((n : Int) == 1) = false := by simp; omega
  clear hn hp hv e'
  go_enter Try.func32, Try.ntmps32
  go_wp2_with fail
  try go_step3
  go_wp2_with fail
  try go_step3
  go_wp2_with fail
  refine (isSet_any _ n c ps _ HN.out (by omega) HP.out true (by rw [HV0.out]; simp; omega)).mono ?_
  rintro e w1 ⟨rfl, hgs⟩
  replace p0 := hgs.keep p0
  replace p1 := hgs.keep p1
  replace q0 := hgs.keep q0
  replace q1 := hgs.keep q1
  have KS : Hid (∀ W', Gr w1 W' → (Gr w1 W' ∧ W'.cell? ⟨b, off, none⟩ = some (.int .i64 x) ∧ W'.cell? ⟨b, off + 1, none⟩ = some (.int .i64 y) ∧ W'.cell? ⟨b, off + 2, none⟩ = some (.int .i64 x') ∧ W'.cell? ⟨b, off + 2 + 1, none⟩ = some (.int .i64 y'))) := Lib.hid (fun W' h => ⟨h, h.keep p0, h.keep p1, h.keep q0, h.keep q1⟩)
  go_wp2_with fail
  refine wp_region_held_drew (S := (fun W' => Gr w1 W' ∧ W'.cell? ⟨b, off, none⟩ = some (.int .i64 x) ∧ W'.cell? ⟨b, off + 1, none⟩ = some (.int .i64 y) ∧ W'.cell? ⟨b, off + 2, none⟩ = some (.int .i64 x') ∧ W'.cell? ⟨b, off + 2 + 1, none⟩ = some (.int .i64 y'))) ?_ ?_ (fun hHeld => ?_)
  · kernel_rfl
  · ((try dsimp only); (refine KS.out _ ?_; (repeat (first | exact Gr.refl _ | exact hHeld.1 | (refine Gr.drew ?_) | (refine Gr.alloc ?_ _) | (refine Gr.trans ?_ (by assumption))))))
  refine take_in (i := 0) (v := ?_) (d := (some 17)) rfl rfl ?_ ?_ ?_ ?_ ?_ ?_ ?_ ?_
  rotate_left
  · kernel_rfl
  · kernel_rfl
  · kernel_rfl
  · (intro _ _ _ hq; exact hq)
  · rfl
  · (intro _w hSw; (try dsimp only at hSw); go_simp; try with_reducible rfl)
  · assumption
  try simp only [Act.put, List.setIfInBounds_toArray, List.set_cons_zero, List.set_cons_succ]
  refine take_in (i := 1) (v := ?_) (d := (some 18)) rfl rfl ?_ ?_ ?_ ?_ ?_ ?_ ?_ ?_
  rotate_left
  · kernel_rfl
  · kernel_rfl
  · kernel_rfl
  · (intro _ _ _ hq; exact hq)
  · rfl
  · (intro _w hSw; (try dsimp only at hSw); go_simp; try with_reducible rfl)
  · assumption
  try simp only [Act.put, List.setIfInBounds_toArray, List.set_cons_zero, List.set_cons_succ]
  refine take_in (i := 2) (v := ?_) (d := (some 19)) rfl rfl ?_ ?_ ?_ ?_ ?_ ?_ ?_ ?_
  rotate_left
  · kernel_rfl
  · kernel_rfl
  · kernel_rfl
  · (intro _ _ _ hq; exact hq)
  · rfl
  · (intro _w hSw; (try dsimp only at hSw); go_simp; try with_reducible rfl)
  · assumption
  try simp only [Act.put, List.setIfInBounds_toArray, List.set_cons_zero, List.set_cons_succ]
  refine take_in (i := 3) (v := ?_) (d := (some 20)) rfl rfl ?_ ?_ ?_ ?_ ?_ ?_ ?_ ?_
  rotate_left
  · kernel_rfl
  · kernel_rfl
  · kernel_rfl
  · (intro _ _ _ hq; exact hq)
  · rfl
  · (intro _w hSw; (try dsimp only at hSw); go_simp; try with_reducible rfl)
  · assumption
  try simp only [Act.put, List.setIfInBounds_toArray, List.set_cons_zero, List.set_cons_succ]
  refine take_in (i := 4) (v := ?_) (d := (some 21)) rfl rfl ?_ ?_ ?_ ?_ ?_ ?_ ?_ ?_
  rotate_left
  · kernel_rfl
  · kernel_rfl
  · kernel_rfl
  · (intro _ _ _ hq; exact hq)
  · rfl
  · (intro _w hSw; (try dsimp only at hSw); go_simp; try with_reducible rfl)
  · assumption
  try simp only [Act.put, List.setIfInBounds_toArray, List.set_cons_zero, List.set_cons_succ]
  refine take_in (i := 5) (v := ?_) (d := (some 22)) rfl rfl ?_ ?_ ?_ ?_ ?_ ?_ ?_ ?_
  rotate_left
  · kernel_rfl
  · kernel_rfl
  · kernel_rfl
  · (intro _ _ _ hq; exact hq)
  · rfl
  · (intro _w hSw; (try dsimp only at hSw); go_simp; try with_reducible rfl)
  · assumption
  try simp only [Act.put, List.setIfInBounds_toArray, List.set_cons_zero, List.set_cons_succ]
  refine wpAnyH_ready (rs := [6]) ?_ ?_ ?_
  · kernel_rfl
  · simp
  refine (AllReadyH.cons rfl (fun K hK => ?_) AllReadyH.nil)
  go_simp
  first | (go_at_call 61; (with_reducible refine (HD.out _).mono ?_); rintro e w4 ⟨rfl, hb⟩)
  refine hK.out _ _ ?_ (fun hHeld => ?_)
  · ((try dsimp only); (refine KS.out _ ?_; (repeat (first | exact Gr.refl _ | exact hHeld.1 | (refine Gr.drew ?_) | (refine Gr.alloc ?_ _) | (refine Gr.trans ?_ (by assumption))))))
  clear hK K
  try simp only [Act.put, List.setIfInBounds_toArray, List.set_cons_zero, List.set_cons_succ]
  refine take_in (i := 7) (v := ?_) (d := (some 4)) rfl rfl ?_ ?_ ?_ ?_ ?_ ?_ ?_ ?_
  rotate_left
  · kernel_rfl
  · kernel_rfl
  · kernel_rfl
  · (intro _ _ _ hq; exact hq)
  · rfl
  · (intro _w hSw; (try dsimp only at hSw); go_simp; try with_reducible rfl)
  · assumption
  try simp only [Act.put, List.setIfInBounds_toArray, List.set_cons_zero, List.set_cons_succ]
  refine wpAnyH_done ?_ ?_ _
  · kernel_rfl
  rotate_left
  all_goals
    obtain ⟨hB, -⟩ := hHeld
    have hgw0 := hgs.trans hB
    clear KS p0 p1 q0 q1 n4
    go_wp2_with fail
    try go_step3
    go_wp2_with fail
    try go_step3
    go_wp2_with fail
    go_loopw [4, 26] (fun s i wr => ∃ (k : Nat) (v : Int), k ≤ n ∧ i = .int .i64 k ∧ s = .int .i64 v ∧ Hid (MinOn ps (fun i' _ => i' < k) v) ∧ Gr w wr) (fun _ i _ => n - (intOf i).toNat)
    case atStart => exact ⟨0, d, Nat.zero_le _, rfl, rfl, Lib.hid (HM0.out.imp (fun _ _ _ _ h => by omega)), hgw0⟩
    case round =>
      obtain ⟨wo, rfl⟩ : ∃ wo : World, wo = wr := ⟨_, rfl⟩
      obtain ⟨k, v0, hk, rfl, rfl, hmin, hg⟩ := hrel
      by_cases hlt : k < n
      · obtain ⟨b', off', e', p0, p1⟩ := Pts_at (HP.out.keep hg) (k := k) (by have := HN.out; omega)
        obtain ⟨rfl, rfl⟩ : b = b' ∧ off = off' := by simpa using e'
        have cp := HV.out k
        obtain ⟨pk, hpk⟩ : ∃ p, ps.getD k (0, 0) = p := ⟨_, rfl⟩
        rw [hpk] at p0 p1 cp
        have HPK := Lib.hid hpk
        obtain ⟨x1, y1⟩ := pk
        dsimp only at p0 p1 cp
        clear e' hpk
        have hsplit : c = k + 1 ∨ c ≠ k + 1 := by omega
        rcases hsplit with rfl | hcc
        all_goals
          go_wp2_with fail
          generalize hr : n - (k + 1) = r
          have hrq : r + (k + 1) = n := by omega
          clear hr
          generalize hW : World.alloc wo _ = W
          obtain ⟨hWg, l0, l1⟩ := box2h hW
          clear hW p0 p1
          go_loopw [4, 36] (fun s jv w3 => ∃ (j : Nat) (v : Int), j ≤ r ∧ jv = .int .i64 j ∧ s = .int .i64 v ∧ Hid (MinOn ps (fun i' j' => i' < k ∨ (i' = k ∧ j' < k + 1 + j)) v) ∧ Gr W w3) (fun _ jv _ => r - (intOf jv).toNat)
          case atStart => exact ⟨0, v0, Nat.zero_le _, rfl, rfl, Lib.hid (hmin.out.imp (fun _ _ _ _ h => by omega)), Gr.refl _⟩
          case round =>
            obtain ⟨j, v, hj, rfl, rfl, hmin2, hgj⟩ := hrel
            by_cases hltj : j < r
            · first
                | (exfalso; omega)
                | (replace l0 := hgj.keep l0
                   replace l1 := hgj.keep l1
                   obtain ⟨b', off', e', z0, z1⟩ := Pts_at (HP.out.keep (hg.trans (hWg.trans hgj))) (k := k + 1 + j) (by have := HN.out; omega)
                   obtain ⟨rfl, rfl⟩ : b = b' ∧ off = off' := by simpa using e'
                   rw [show off + (k + 1 + j) * 2 = off + (k + 1) * 2 + j * 2 by omega] at z0 z1
                   have cq := HV.out (k + 1 + j)
                   have hvb := hmin2.out.bd HV.out
                   have hsq := sqP_bd (HV.out k) cq
                   have HMS : Hid (MinOn ps (fun i' j' => i' < k ∨ (i' = k ∧ j' < k + 1 + (j + 1))) (min v (sqP (x1, y1) (ps.getD (k + 1 + j) (0, 0))))) := Lib.hid (by
                     rw [← HPK.out]
                     exact hmin2.out.step (by omega) (by have := HN.out; omega) (fun i' j' h => by omega))
                   have HZ : Hid ((x1, y1) = ps.getD (k + 1 + j) (0, 0) → MinOn ps (fun _ _ => True) 0) := Lib.hid (fun h => by
                     have hs0 : sqP (ps.getD k (0, 0)) (ps.getD (k + 1 + j) (0, 0)) = 0 := by rw [HPK.out, ← h]; unfold sqP sqd; grind
                     exact ⟨fun i' j' _ _ _ => (sqP_bd (HV.out i') (HV.out j')).1, k, k + 1 + j, by omega, by have := HN.out; omega, hs0.symm⟩)
                   rw [HPK.out] at hsq
                   generalize ps.getD (k + 1 + j) (0, 0) = pj at z0 z1 cq hsq HMS HZ
                   obtain ⟨x2, y2⟩ := pj
                   unfold sqP at hsq HMS
                   dsimp only at z0 z1 cq hsq HMS
                   clear e'
                   have d0 : ∀ o, (wr.alloc o).cell? ⟨wo.heap.size, 0, none⟩ = some (.int .i64 x1) := fun o => alloc_old l0
                   have d1 : ∀ o, (wr.alloc o).cell? ⟨wo.heap.size, 1, none⟩ = some (.int .i64 y1) := fun o => alloc_old l1
                   have HD2 := Lib.hid (fun W => distance_any x1 y1 x2 y2 W cp.1 cp.2 cq.1 cq.2)
                   generalize sqd x1 y1 x2 y2 = d2 at hsq HMS HD2
                   by_cases he : (x1, y1) = (x2, y2)
                   · have HZ0 := Lib.hid (HZ.out he)
                     have e1 : (x1 == x2) = true := by simpa using congrArg Prod.fst he
                     have e2 : (y1 == y2) = true := by simpa using congrArg Prod.snd he
                     clear he
                     go_wp2_with fail
                     try rw [Exit.noGoto_ret]
                     go_ret2
                     exact ⟨0, rfl, HZ0.out, (hg.trans (hWg.trans hgj)).alloc _⟩
                   · have e3 := near_ways he
                     clear he
                     rcases e3 with e1 | ⟨e1, e2⟩
                     all_goals
                       go_wp2_with fail
                       refine (HD2.out _).mono ?_
                       rintro e w5 ⟨rfl, hb⟩
                       clear d0 d1 e1
                       try clear e2
                       go_wp2_with fail
                       go_roundw
                       case rel => exact ⟨j + 1, _, by omega, by go_num, rfl, HMS, (hgj.alloc _).trans hb⟩
                       case measure => simp [intOf]; omega)
            · have HJR : Hid (MinOn ps (fun i' _ => i' < k + 1) v) := Lib.hid (hmin2.out.imp (fun i' j' h1 h2 h3 => by have := HN.out; omega))
              go_wp2_with fail
              go_roundw
              case rel => exact ⟨k + 1, v, by omega, by go_num, rfl, HJR, hg.trans (hWg.trans hgj)⟩
              case measure => simp [intOf]; omega
      · have HJR : Hid (MinOn ps (fun _ _ => True) v0) := Lib.hid (hmin.out.imp (fun i' j' h1 h2 h3 => by have := HN.out; omega))
        go_wp2_with fail
        try rw [Exit.noGoto_ret]
        go_ret2
        exact ⟨v0, rfl, HJR.out, hg⟩

end Go.Proofs.Ytfihmjobnffjfaa
