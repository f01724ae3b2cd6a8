/- Meets, as the reference says it. -/
import Derived.Test.YtjkdjfagaakijaaRIn
import Derived.Test.YtjkdjfagaakijaaRHull
import Derived.Test.YtjkdjfagaakijaaNumC
import Derived.Test.YtjkdjfagaakijaaMeetsM
namespace Go.Proofs.Ytjkdjfagaakijaa
open Go.RowKit
set_option linter.unusedSimpArgs false

theorem meets_no {P Q : List (Int × Int)} (h1 : ∀ k, k < P.length → inL Q (P.getD k (0, 0)).1 (P.getD k (0, 0)).2 1 = false) (h2 : ∀ k, k < Q.length → inL P (Q.getD k (0, 0)).1 (Q.getD k (0, 0)).2 1 = false) (h3 : ∀ i, i < P.length → ∀ j, j < Q.length → meetE (ed P i) (ed Q j) = false) : meetsL P Q = false := by
  cases k : meetsL P Q with
  | false => rfl
  | true =>
    unfold meetsL at k
    rw [Bool.or_eq_true, Bool.or_eq_true] at k
    rcases k with k | k | k
    · obtain ⟨i, hi, c⟩ := of_any k; rw [h1 i hi] at c; cases c
    · obtain ⟨i, hi, c⟩ := of_any k; rw [h2 i hi] at c; cases c
    · obtain ⟨i, hi, c⟩ := of_any k
      obtain ⟨j, hj, c⟩ := of_any c
      rw [h3 i hi j hj] at c; cases c
theorem meets_1 {P Q : List (Int × Int)} {k : Nat} (hk : k < P.length) (h : inL Q (P.getD k (0, 0)).1 (P.getD k (0, 0)).2 1 = true) : meetsL P Q = true := by
  unfold meetsL
  rw [any_of (f := fun i => inL Q (P.getD i (0, 0)).1 (P.getD i (0, 0)).2 1) hk h, Bool.true_or]
theorem meets_2 {P Q : List (Int × Int)} {k : Nat} (hk : k < Q.length) (h : inL P (Q.getD k (0, 0)).1 (Q.getD k (0, 0)).2 1 = true) : meetsL P Q = true := by
  unfold meetsL
  rw [any_of (f := fun i => inL P (Q.getD i (0, 0)).1 (Q.getD i (0, 0)).2 1) hk h, Bool.true_or, Bool.or_true]
theorem meets_3 {P Q : List (Int × Int)} {i j : Nat} (hi : i < P.length) (hj : j < Q.length) (h : meetE (ed P i) (ed Q j) = true) : meetsL P Q = true := by
  unfold meetsL
  rw [any_of (f := fun i => (List.range Q.length).any fun j => meetE (ed P i) (ed Q j)) hi (any_of (f := fun j => meetE (ed P i) (ed Q j)) hj h), Bool.or_true, Bool.or_true]

set_option maxRecDepth 100000 in
set_option maxHeartbeats 16000000 in
theorem rMeets_any (A B : Option Addr) (n c n' c' : Nat) (ps qs : List (Int × Int)) (w : World) (hn : ps.length = n) (hn' : qs.length = n') (h1 : 1 ≤ n) (h1' : 1 ≤ n') (hl : n ≤ 512) (hl' : n' ≤ 512)
    (hp : Pts w A ps) (hq : Pts w B qs) (hv : Cos ps) (hv' : Cos qs) :
    Calls Try.prog 20 #[.slice A n c, .slice B n' c'] w fun e w' => e = .returned (.bool (meetsL (cornersL ps) (cornersL qs))) ∧ Gr w w' := by
  have HHA := Lib.hid (fun W (hW : Gr w W) => rHull_any A n c ps W hn h1 hl (hp.keep hW) hv)
  have HHB := Lib.hid (fun W (hW : Gr w W) => rHull_any B n' c' qs W hn' h1' hl' (hq.keep hW) hv')
  have hL1 := cornersL_len ps (by omega)
  have hL2 := cornersL_len qs (by omega)
  have HC1 := Lib.hid (cornersL_co hv)
  have HC2 := Lib.hid (cornersL_co hv')
  generalize cornersL ps = H1 at hL1 HC1 HHA ⊢
  generalize cornersL qs = H2 at hL2 HC2 HHB ⊢
  obtain ⟨m1, hm⟩ : ∃ m, H1.length = m := ⟨_, rfl⟩
  have HM1 := Lib.hid hm
  obtain ⟨m2, hmm⟩ : ∃ m, H2.length = m := ⟨_, rfl⟩
  have HM2 := Lib.hid hmm
  have hm1 : 1 ≤ m1 := by omega
  have hm1' : m1 ≤ 1048576 := by omega
  have hm2 : 1 ≤ m2 := by omega
  have hm2' : m2 ≤ 1048576 := by omega
  have HR1 := Lib.hid (fun k (hk : k < m1) => meets_1 (P := H1) (Q := H2) (by rw [hm]; exact hk))
  have HR2 := Lib.hid (fun k (hk : k < m2) => meets_2 (P := H1) (Q := H2) (by rw [hmm]; exact hk))
  have HR3 := Lib.hid (fun i j (hi : i < m1) (hj : j < m2) => meets_3 (P := H1) (Q := H2) (by rw [hm]; exact hi) (by rw [hmm]; exact hj))
  have HR0 := Lib.hid (meets_no (P := H1) (Q := H2))
  rw [hm, hmm] at HR0
  generalize meetsL H1 H2 = r at HR1 HR2 HR3 HR0 ⊢
  clear hn hn' h1 h1' hl hl' hp hq hv hv' hL1 hL2 hm hmm
  go_enter Try.func20, Try.ntmps20
  go_wp2_with fail
  refine (HHA.out _ (by (repeat (first | exact Gr.refl _ | assumption | (refine Gr.drew ?_) | (refine Gr.drewN ?_ _) | (refine Gr.alloc ?_ _) | (refine Gr.trans ?_ (by assumption)))))).mono ?_
  rintro e w1 ⟨g1, c1, rfl, hP1, hg1⟩
  have HP1a := Lib.hid hP1
  clear hP1
  rw [HM1.out]
  go_wp2_with fail
  refine (HHB.out _ hg1).mono ?_
  rintro e w2 ⟨g2, c2, rfl, hP2, hg2⟩
  have HP2 := Lib.hid hP2
  have HP1 := Lib.hid (HP1a.out.keep hg2)
  have hgw := hg1.trans hg2
  clear hP2 HP1a hg1 hg2 HHA HHB
  rw [HM2.out]
  go_wp2_with fail
  go_loopw [7] (fun i wr => ∃ k : Nat, k ≤ m1 ∧ i = .int .i64 k ∧ Hid (∀ i, i < k → inL H2 (H1.getD i (0, 0)).1 (H1.getD i (0, 0)).2 1 = false) ∧ Gr w2 wr) (fun i _ => m1 - (intOf i).toNat)
  case atStart => exact ⟨0, Nat.zero_le _, rfl, Lib.hid (fun i h => by omega), Gr.refl _⟩
  case round =>
    obtain ⟨k, hk, rfl, hno, hg⟩ := hrel
    by_cases hlt : k < m1
    · obtain ⟨b, off, e2, p0, p1⟩ := Pts_at (HP1.out.keep hg) (k := k) (by have := HM1.out; omega)
      obtain ⟨rfl, rfl⟩ : g1 = b ∧ 0 = off := by simpa using e2
      simp only [Nat.zero_add] at p0 p1
      have ck := HC1.out k
      have HNX := Lib.hid (fun (h : inL H2 (H1.getD k (0, 0)).1 (H1.getD k (0, 0)).2 1 = false) i (hi : i < k + 1) => by
        rcases Nat.lt_succ_iff_lt_or_eq.1 hi with j | rfl
        · exact hno.out i j
        · exact h)
      have HYE := Lib.hid (HR1.out k hlt)
      generalize H1.getD k (0, 0) = p at p0 p1 ck HNX HYE
      obtain ⟨x, y⟩ := p
      dsimp only at p0 p1 ck HNX HYE
      have HPC := Lib.hid (Pc_one ck.1 ck.2)
      have KS : Hid (∀ W', Gr wr W' → (Gr wr W' ∧ W'.cell? ⟨g1, k * 2, none⟩ = some (.int .i64 x) ∧ W'.cell? ⟨g1, k * 2 + 1, none⟩ = some (.int .i64 y))) := Lib.hid (fun W' h => ⟨h, h.keep p0, h.keep p1⟩)
      clear e2 hk
      rcases hin : inL H2 x y 1 with _ | _
      · have HI := Lib.hid hin
        clear hin
        go_wp2_with fail
        refine wp_region_held_drew (S := (fun W' => Gr wr W' ∧ W'.cell? ⟨g1, k * 2, none⟩ = some (.int .i64 x) ∧ W'.cell? ⟨g1, k * 2 + 1, none⟩ = some (.int .i64 y))) ?_ ?_ (fun hHeld => ?_)
        · kernel_rfl
        · ((try dsimp only); (refine KS.out _ ?_; (repeat (first | exact Gr.refl _ | exact hHeld.1 | (refine Gr.drew ?_) | (refine Gr.alloc ?_ _) | (refine Gr.trans ?_ (by assumption))))))
        refine take_in (i := 0) (v := ?_) (d := (some 21)) rfl rfl ?_ ?_ ?_ ?_ ?_ ?_ ?_ ?_
        rotate_left
        · kernel_rfl
        · kernel_rfl
        · kernel_rfl
        · (intro _ _ _ hq; exact hq)
        · rfl
        · (intro _w hSw; (try dsimp only at hSw); go_simp; try with_reducible rfl)
        · assumption
        try simp only [Act.put, List.setIfInBounds_toArray, List.set_cons_zero, List.set_cons_succ]
        refine take_in (i := 1) (v := ?_) (d := (some 22)) rfl rfl ?_ ?_ ?_ ?_ ?_ ?_ ?_ ?_
        rotate_left
        · kernel_rfl
        · kernel_rfl
        · kernel_rfl
        · (intro _ _ _ hq; exact hq)
        · rfl
        · (intro _w hSw; (try dsimp only at hSw); go_simp; try with_reducible rfl)
        · assumption
        try simp only [Act.put, List.setIfInBounds_toArray, List.set_cons_zero, List.set_cons_succ]
        refine take_in (i := 2) (v := ?_) (d := (some 23)) rfl rfl ?_ ?_ ?_ ?_ ?_ ?_ ?_ ?_
        rotate_left
        · kernel_rfl
        · kernel_rfl
        · kernel_rfl
        · (intro _ _ _ hq; exact hq)
        · rfl
        · (intro _w hSw; (try dsimp only at hSw); go_simp; try with_reducible rfl)
        · assumption
        try simp only [Act.put, List.setIfInBounds_toArray, List.set_cons_zero, List.set_cons_succ]
        refine take_in (i := 3) (v := ?_) (d := (some 24)) rfl rfl ?_ ?_ ?_ ?_ ?_ ?_ ?_ ?_
        rotate_left
        · kernel_rfl
        · kernel_rfl
        · kernel_rfl
        · (intro _ _ _ hq; exact hq)
        · rfl
        · (intro _w hSw; (try dsimp only at hSw); go_simp; try with_reducible rfl)
        · assumption
        try simp only [Act.put, List.setIfInBounds_toArray, List.set_cons_zero, List.set_cons_succ]
        refine take_in (i := 4) (v := ?_) (d := (some 25)) rfl rfl ?_ ?_ ?_ ?_ ?_ ?_ ?_ ?_
        rotate_left
        · kernel_rfl
        · kernel_rfl
        · kernel_rfl
        · (intro _ _ _ hq; exact hq)
        · rfl
        · (intro _w hSw; (try dsimp only at hSw); go_simp; try with_reducible rfl)
        · assumption
        try simp only [Act.put, List.setIfInBounds_toArray, List.set_cons_zero, List.set_cons_succ]
        refine take_in (i := 5) (v := ?_) (d := (some 26)) rfl rfl ?_ ?_ ?_ ?_ ?_ ?_ ?_ ?_
        rotate_left
        · kernel_rfl
        · kernel_rfl
        · kernel_rfl
        · (intro _ _ _ hq; exact hq)
        · rfl
        · (intro _w hSw; (try dsimp only at hSw); go_simp; try with_reducible rfl)
        · assumption
        try simp only [Act.put, List.setIfInBounds_toArray, List.set_cons_zero, List.set_cons_succ]
        refine take_in (i := 6) (v := ?_) (d := (some 27)) rfl rfl ?_ ?_ ?_ ?_ ?_ ?_ ?_ ?_
        rotate_left
        · kernel_rfl
        · kernel_rfl
        · kernel_rfl
        · (intro _ _ _ hq; exact hq)
        · rfl
        · (intro _w hSw; (try dsimp only at hSw); go_simp; try with_reducible rfl)
        · assumption
        try simp only [Act.put, List.setIfInBounds_toArray, List.set_cons_zero, List.set_cons_succ]
        refine take_in (i := 7) (v := ?_) (d := (some 28)) rfl rfl ?_ ?_ ?_ ?_ ?_ ?_ ?_ ?_
        rotate_left
        · kernel_rfl
        · kernel_rfl
        · kernel_rfl
        · (intro _ _ _ hq; exact hq)
        · rfl
        · (intro _w hSw; (try dsimp only at hSw); go_simp; try with_reducible rfl)
        · assumption
        try simp only [Act.put, List.setIfInBounds_toArray, List.set_cons_zero, List.set_cons_succ]
        refine take_in (i := 8) (v := ?_) (d := (some 29)) rfl rfl ?_ ?_ ?_ ?_ ?_ ?_ ?_ ?_
        rotate_left
        · kernel_rfl
        · kernel_rfl
        · kernel_rfl
        · (intro _ _ _ hq; exact hq)
        · rfl
        · (intro _w hSw; (try dsimp only at hSw); go_simp; try with_reducible rfl)
        · assumption
        try simp only [Act.put, List.setIfInBounds_toArray, List.set_cons_zero, List.set_cons_succ]
        refine take_in (i := 9) (v := ?_) (d := (some 30)) rfl rfl ?_ ?_ ?_ ?_ ?_ ?_ ?_ ?_
        rotate_left
        · kernel_rfl
        · kernel_rfl
        · kernel_rfl
        · (intro _ _ _ hq; exact hq)
        · rfl
        · (intro _w hSw; (try dsimp only at hSw); go_simp; try with_reducible rfl)
        · assumption
        try simp only [Act.put, List.setIfInBounds_toArray, List.set_cons_zero, List.set_cons_succ]
        refine take_in (i := 10) (v := ?_) (d := (some 31)) rfl rfl ?_ ?_ ?_ ?_ ?_ ?_ ?_ ?_
        rotate_left
        · kernel_rfl
        · kernel_rfl
        · kernel_rfl
        · (intro _ _ _ hq; exact hq)
        · rfl
        · (intro _w hSw; (try dsimp only at hSw); go_simp; try with_reducible rfl)
        · assumption
        try simp only [Act.put, List.setIfInBounds_toArray, List.set_cons_zero, List.set_cons_succ]
        refine wpAnyH_ready (rs := [11]) ?_ ?_ ?_
        · kernel_rfl
        · simp
        refine (AllReadyH.cons rfl (fun K hK => ?_) AllReadyH.nil)
        go_simp
        first | (go_at_call 47; (with_reducible refine (rIn_any _ m2 c2 H2 x y 1 _ HM2.out hm2 hm2' (HP2.out.keep (hg.trans (by (repeat (first | exact Gr.refl _ | assumption | (refine Gr.drew ?_) | (refine Gr.drewN ?_ _) | (refine Gr.alloc ?_ _) | (refine Gr.trans ?_ (by assumption))))))) HC2.out HPC.out).mono ?_); rintro e w3 ⟨rfl, hb⟩; rw [HI.out])
        refine hK.out _ _ ?_ (fun hHeld => ?_)
        · ((try dsimp only); (refine KS.out _ ?_; (repeat (first | exact Gr.refl _ | exact hHeld.1 | (refine Gr.drew ?_) | (refine Gr.alloc ?_ _) | (refine Gr.trans ?_ (by assumption))))))
        clear hK K
        try simp only [Act.put, List.setIfInBounds_toArray, List.set_cons_zero, List.set_cons_succ]
        refine wpAnyH_done ?_ ?_ _
        · kernel_rfl
        rotate_left
        all_goals
          obtain ⟨hB, -⟩ := hHeld
          go_wp2_with fail
          go_roundw
          case rel => exact ⟨k + 1, by omega, by go_num, Lib.hid (HNX.out HI.out), hg.trans hB⟩
          case measure => simp [intOf]; omega
      · have HI := Lib.hid hin
        have HF := Lib.hid (HYE.out hin)
        clear hin
        go_wp2_with fail
        refine wp_region_held_drew (S := (fun W' => Gr wr W' ∧ W'.cell? ⟨g1, k * 2, none⟩ = some (.int .i64 x) ∧ W'.cell? ⟨g1, k * 2 + 1, none⟩ = some (.int .i64 y))) ?_ ?_ (fun hHeld => ?_)
        · kernel_rfl
        · ((try dsimp only); (refine KS.out _ ?_; (repeat (first | exact Gr.refl _ | exact hHeld.1 | (refine Gr.drew ?_) | (refine Gr.alloc ?_ _) | (refine Gr.trans ?_ (by assumption))))))
        refine take_in (i := 0) (v := ?_) (d := (some 21)) rfl rfl ?_ ?_ ?_ ?_ ?_ ?_ ?_ ?_
        rotate_left
        · kernel_rfl
        · kernel_rfl
        · kernel_rfl
        · (intro _ _ _ hq; exact hq)
        · rfl
        · (intro _w hSw; (try dsimp only at hSw); go_simp; try with_reducible rfl)
        · assumption
        try simp only [Act.put, List.setIfInBounds_toArray, List.set_cons_zero, List.set_cons_succ]
        refine take_in (i := 1) (v := ?_) (d := (some 22)) rfl rfl ?_ ?_ ?_ ?_ ?_ ?_ ?_ ?_
        rotate_left
        · kernel_rfl
        · kernel_rfl
        · kernel_rfl
        · (intro _ _ _ hq; exact hq)
        · rfl
        · (intro _w hSw; (try dsimp only at hSw); go_simp; try with_reducible rfl)
        · assumption
        try simp only [Act.put, List.setIfInBounds_toArray, List.set_cons_zero, List.set_cons_succ]
        refine take_in (i := 2) (v := ?_) (d := (some 23)) rfl rfl ?_ ?_ ?_ ?_ ?_ ?_ ?_ ?_
        rotate_left
        · kernel_rfl
        · kernel_rfl
        · kernel_rfl
        · (intro _ _ _ hq; exact hq)
        · rfl
        · (intro _w hSw; (try dsimp only at hSw); go_simp; try with_reducible rfl)
        · assumption
        try simp only [Act.put, List.setIfInBounds_toArray, List.set_cons_zero, List.set_cons_succ]
        refine take_in (i := 3) (v := ?_) (d := (some 24)) rfl rfl ?_ ?_ ?_ ?_ ?_ ?_ ?_ ?_
        rotate_left
        · kernel_rfl
        · kernel_rfl
        · kernel_rfl
        · (intro _ _ _ hq; exact hq)
        · rfl
        · (intro _w hSw; (try dsimp only at hSw); go_simp; try with_reducible rfl)
        · assumption
        try simp only [Act.put, List.setIfInBounds_toArray, List.set_cons_zero, List.set_cons_succ]
        refine take_in (i := 4) (v := ?_) (d := (some 25)) rfl rfl ?_ ?_ ?_ ?_ ?_ ?_ ?_ ?_
        rotate_left
        · kernel_rfl
        · kernel_rfl
        · kernel_rfl
        · (intro _ _ _ hq; exact hq)
        · rfl
        · (intro _w hSw; (try dsimp only at hSw); go_simp; try with_reducible rfl)
        · assumption
        try simp only [Act.put, List.setIfInBounds_toArray, List.set_cons_zero, List.set_cons_succ]
        refine take_in (i := 5) (v := ?_) (d := (some 26)) rfl rfl ?_ ?_ ?_ ?_ ?_ ?_ ?_ ?_
        rotate_left
        · kernel_rfl
        · kernel_rfl
        · kernel_rfl
        · (intro _ _ _ hq; exact hq)
        · rfl
        · (intro _w hSw; (try dsimp only at hSw); go_simp; try with_reducible rfl)
        · assumption
        try simp only [Act.put, List.setIfInBounds_toArray, List.set_cons_zero, List.set_cons_succ]
        refine take_in (i := 6) (v := ?_) (d := (some 27)) rfl rfl ?_ ?_ ?_ ?_ ?_ ?_ ?_ ?_
        rotate_left
        · kernel_rfl
        · kernel_rfl
        · kernel_rfl
        · (intro _ _ _ hq; exact hq)
        · rfl
        · (intro _w hSw; (try dsimp only at hSw); go_simp; try with_reducible rfl)
        · assumption
        try simp only [Act.put, List.setIfInBounds_toArray, List.set_cons_zero, List.set_cons_succ]
        refine take_in (i := 7) (v := ?_) (d := (some 28)) rfl rfl ?_ ?_ ?_ ?_ ?_ ?_ ?_ ?_
        rotate_left
        · kernel_rfl
        · kernel_rfl
        · kernel_rfl
        · (intro _ _ _ hq; exact hq)
        · rfl
        · (intro _w hSw; (try dsimp only at hSw); go_simp; try with_reducible rfl)
        · assumption
        try simp only [Act.put, List.setIfInBounds_toArray, List.set_cons_zero, List.set_cons_succ]
        refine take_in (i := 8) (v := ?_) (d := (some 29)) rfl rfl ?_ ?_ ?_ ?_ ?_ ?_ ?_ ?_
        rotate_left
        · kernel_rfl
        · kernel_rfl
        · kernel_rfl
        · (intro _ _ _ hq; exact hq)
        · rfl
        · (intro _w hSw; (try dsimp only at hSw); go_simp; try with_reducible rfl)
        · assumption
        try simp only [Act.put, List.setIfInBounds_toArray, List.set_cons_zero, List.set_cons_succ]
        refine take_in (i := 9) (v := ?_) (d := (some 30)) rfl rfl ?_ ?_ ?_ ?_ ?_ ?_ ?_ ?_
        rotate_left
        · kernel_rfl
        · kernel_rfl
        · kernel_rfl
        · (intro _ _ _ hq; exact hq)
        · rfl
        · (intro _w hSw; (try dsimp only at hSw); go_simp; try with_reducible rfl)
        · assumption
        try simp only [Act.put, List.setIfInBounds_toArray, List.set_cons_zero, List.set_cons_succ]
        refine take_in (i := 10) (v := ?_) (d := (some 31)) rfl rfl ?_ ?_ ?_ ?_ ?_ ?_ ?_ ?_
        rotate_left
        · kernel_rfl
        · kernel_rfl
        · kernel_rfl
        · (intro _ _ _ hq; exact hq)
        · rfl
        · (intro _w hSw; (try dsimp only at hSw); go_simp; try with_reducible rfl)
        · assumption
        try simp only [Act.put, List.setIfInBounds_toArray, List.set_cons_zero, List.set_cons_succ]
        refine wpAnyH_ready (rs := [11]) ?_ ?_ ?_
        · kernel_rfl
        · simp
        refine (AllReadyH.cons rfl (fun K hK => ?_) AllReadyH.nil)
        go_simp
        first | (go_at_call 47; (with_reducible refine (rIn_any _ m2 c2 H2 x y 1 _ HM2.out hm2 hm2' (HP2.out.keep (hg.trans (by (repeat (first | exact Gr.refl _ | assumption | (refine Gr.drew ?_) | (refine Gr.drewN ?_ _) | (refine Gr.alloc ?_ _) | (refine Gr.trans ?_ (by assumption))))))) HC2.out HPC.out).mono ?_); rintro e w3 ⟨rfl, hb⟩; rw [HI.out])
        refine hK.out _ _ ?_ (fun hHeld => ?_)
        · ((try dsimp only); (refine KS.out _ ?_; (repeat (first | exact Gr.refl _ | exact hHeld.1 | (refine Gr.drew ?_) | (refine Gr.alloc ?_ _) | (refine Gr.trans ?_ (by assumption))))))
        clear hK K
        try simp only [Act.put, List.setIfInBounds_toArray, List.set_cons_zero, List.set_cons_succ]
        refine wpAnyH_done ?_ ?_ _
        · kernel_rfl
        rotate_left
        all_goals
          obtain ⟨hB, -⟩ := hHeld
          go_wp2_with fail
          go_ret
          exact ⟨ret_bool HF.out.symm, (hgw.trans hg).trans hB⟩
    · obtain rfl : k = m1 := by omega
      have HN1 := Lib.hid hno.out
      have HQ1 := Lib.hid (HP1.out.keep hg)
      have HQ2 := Lib.hid (HP2.out.keep hg)
      have hgw2 := hgw.trans hg
      clear hno hgw hg HP1 HP2 HR1
      rename World => wa
      go_wp2_with fail
      go_loopw [8] (fun i wr => ∃ j : Nat, j ≤ m2 ∧ i = .int .i64 j ∧ Hid (∀ i, i < j → inL H1 (H2.getD i (0, 0)).1 (H2.getD i (0, 0)).2 1 = false) ∧ Gr wa wr) (fun i _ => m2 - (intOf i).toNat)
      case atStart => exact ⟨0, Nat.zero_le _, rfl, Lib.hid (fun i h => by omega), Gr.refl _⟩
      case round =>
        obtain ⟨j, hj, rfl, hno, hg⟩ := hrel
        by_cases hlt : j < m2
        · obtain ⟨b, off, e2, p0, p1⟩ := Pts_at (HQ2.out.keep hg) (k := j) (by have := HM2.out; omega)
          obtain ⟨rfl, rfl⟩ : g2 = b ∧ 0 = off := by simpa using e2
          simp only [Nat.zero_add] at p0 p1
          have ck := HC2.out j
          have HNX := Lib.hid (fun (h : inL H1 (H2.getD j (0, 0)).1 (H2.getD j (0, 0)).2 1 = false) i (hi : i < j + 1) => by
            rcases Nat.lt_succ_iff_lt_or_eq.1 hi with l | rfl
            · exact hno.out i l
            · exact h)
          have HYE := Lib.hid (HR2.out j hlt)
          generalize H2.getD j (0, 0) = p at p0 p1 ck HNX HYE
          obtain ⟨x, y⟩ := p
          dsimp only at p0 p1 ck HNX HYE
          have HPC := Lib.hid (Pc_one ck.1 ck.2)
          have KS : Hid (∀ W', Gr wr W' → (Gr wr W' ∧ W'.cell? ⟨g2, j * 2, none⟩ = some (.int .i64 x) ∧ W'.cell? ⟨g2, j * 2 + 1, none⟩ = some (.int .i64 y))) := Lib.hid (fun W' h => ⟨h, h.keep p0, h.keep p1⟩)
          clear e2 hj
          rcases hin : inL H1 x y 1 with _ | _
          · have HI := Lib.hid hin
            clear hin
            go_wp2_with fail
            refine wp_region_held_drew (S := (fun W' => Gr wr W' ∧ W'.cell? ⟨g2, j * 2, none⟩ = some (.int .i64 x) ∧ W'.cell? ⟨g2, j * 2 + 1, none⟩ = some (.int .i64 y))) ?_ ?_ (fun hHeld => ?_)
            · kernel_rfl
            · ((try dsimp only); (refine KS.out _ ?_; (repeat (first | exact Gr.refl _ | exact hHeld.1 | (refine Gr.drew ?_) | (refine Gr.alloc ?_ _) | (refine Gr.trans ?_ (by assumption))))))
            refine take_in (i := 0) (v := ?_) (d := (some 39)) rfl rfl ?_ ?_ ?_ ?_ ?_ ?_ ?_ ?_
            rotate_left
            · kernel_rfl
            · kernel_rfl
            · kernel_rfl
            · (intro _ _ _ hq; exact hq)
            · rfl
            · (intro _w hSw; (try dsimp only at hSw); go_simp; try with_reducible rfl)
            · assumption
            try simp only [Act.put, List.setIfInBounds_toArray, List.set_cons_zero, List.set_cons_succ]
            refine take_in (i := 1) (v := ?_) (d := (some 40)) rfl rfl ?_ ?_ ?_ ?_ ?_ ?_ ?_ ?_
            rotate_left
            · kernel_rfl
            · kernel_rfl
            · kernel_rfl
            · (intro _ _ _ hq; exact hq)
            · rfl
            · (intro _w hSw; (try dsimp only at hSw); go_simp; try with_reducible rfl)
            · assumption
            try simp only [Act.put, List.setIfInBounds_toArray, List.set_cons_zero, List.set_cons_succ]
            refine take_in (i := 2) (v := ?_) (d := (some 41)) rfl rfl ?_ ?_ ?_ ?_ ?_ ?_ ?_ ?_
            rotate_left
            · kernel_rfl
            · kernel_rfl
            · kernel_rfl
            · (intro _ _ _ hq; exact hq)
            · rfl
            · (intro _w hSw; (try dsimp only at hSw); go_simp; try with_reducible rfl)
            · assumption
            try simp only [Act.put, List.setIfInBounds_toArray, List.set_cons_zero, List.set_cons_succ]
            refine take_in (i := 3) (v := ?_) (d := (some 42)) rfl rfl ?_ ?_ ?_ ?_ ?_ ?_ ?_ ?_
            rotate_left
            · kernel_rfl
            · kernel_rfl
            · kernel_rfl
            · (intro _ _ _ hq; exact hq)
            · rfl
            · (intro _w hSw; (try dsimp only at hSw); go_simp; try with_reducible rfl)
            · assumption
            try simp only [Act.put, List.setIfInBounds_toArray, List.set_cons_zero, List.set_cons_succ]
            refine take_in (i := 4) (v := ?_) (d := (some 43)) rfl rfl ?_ ?_ ?_ ?_ ?_ ?_ ?_ ?_
            rotate_left
            · kernel_rfl
            · kernel_rfl
            · kernel_rfl
            · (intro _ _ _ hq; exact hq)
            · rfl
            · (intro _w hSw; (try dsimp only at hSw); go_simp; try with_reducible rfl)
            · assumption
            try simp only [Act.put, List.setIfInBounds_toArray, List.set_cons_zero, List.set_cons_succ]
            refine take_in (i := 5) (v := ?_) (d := (some 44)) rfl rfl ?_ ?_ ?_ ?_ ?_ ?_ ?_ ?_
            rotate_left
            · kernel_rfl
            · kernel_rfl
            · kernel_rfl
            · (intro _ _ _ hq; exact hq)
            · rfl
            · (intro _w hSw; (try dsimp only at hSw); go_simp; try with_reducible rfl)
            · assumption
            try simp only [Act.put, List.setIfInBounds_toArray, List.set_cons_zero, List.set_cons_succ]
            refine take_in (i := 6) (v := ?_) (d := (some 45)) rfl rfl ?_ ?_ ?_ ?_ ?_ ?_ ?_ ?_
            rotate_left
            · kernel_rfl
            · kernel_rfl
            · kernel_rfl
            · (intro _ _ _ hq; exact hq)
            · rfl
            · (intro _w hSw; (try dsimp only at hSw); go_simp; try with_reducible rfl)
            · assumption
            try simp only [Act.put, List.setIfInBounds_toArray, List.set_cons_zero, List.set_cons_succ]
            refine take_in (i := 7) (v := ?_) (d := (some 46)) rfl rfl ?_ ?_ ?_ ?_ ?_ ?_ ?_ ?_
            rotate_left
            · kernel_rfl
            · kernel_rfl
            · kernel_rfl
            · (intro _ _ _ hq; exact hq)
            · rfl
            · (intro _w hSw; (try dsimp only at hSw); go_simp; try with_reducible rfl)
            · assumption
            try simp only [Act.put, List.setIfInBounds_toArray, List.set_cons_zero, List.set_cons_succ]
            refine take_in (i := 8) (v := ?_) (d := (some 47)) rfl rfl ?_ ?_ ?_ ?_ ?_ ?_ ?_ ?_
            rotate_left
            · kernel_rfl
            · kernel_rfl
            · kernel_rfl
            · (intro _ _ _ hq; exact hq)
            · rfl
            · (intro _w hSw; (try dsimp only at hSw); go_simp; try with_reducible rfl)
            · assumption
            try simp only [Act.put, List.setIfInBounds_toArray, List.set_cons_zero, List.set_cons_succ]
            refine take_in (i := 9) (v := ?_) (d := (some 48)) rfl rfl ?_ ?_ ?_ ?_ ?_ ?_ ?_ ?_
            rotate_left
            · kernel_rfl
            · kernel_rfl
            · kernel_rfl
            · (intro _ _ _ hq; exact hq)
            · rfl
            · (intro _w hSw; (try dsimp only at hSw); go_simp; try with_reducible rfl)
            · assumption
            try simp only [Act.put, List.setIfInBounds_toArray, List.set_cons_zero, List.set_cons_succ]
            refine take_in (i := 10) (v := ?_) (d := (some 49)) rfl rfl ?_ ?_ ?_ ?_ ?_ ?_ ?_ ?_
            rotate_left
            · kernel_rfl
            · kernel_rfl
            · kernel_rfl
            · (intro _ _ _ hq; exact hq)
            · rfl
            · (intro _w hSw; (try dsimp only at hSw); go_simp; try with_reducible rfl)
            · assumption
            try simp only [Act.put, List.setIfInBounds_toArray, List.set_cons_zero, List.set_cons_succ]
            refine wpAnyH_ready (rs := [11]) ?_ ?_ ?_
            · kernel_rfl
            · simp
            refine (AllReadyH.cons rfl (fun K hK => ?_) AllReadyH.nil)
            go_simp
            first | (go_at_call 47; (with_reducible refine (rIn_any _ k c1 H1 x y 1 _ HM1.out hm1 hm1' (HQ1.out.keep (hg.trans (by (repeat (first | exact Gr.refl _ | assumption | (refine Gr.drew ?_) | (refine Gr.drewN ?_ _) | (refine Gr.alloc ?_ _) | (refine Gr.trans ?_ (by assumption))))))) HC1.out HPC.out).mono ?_); rintro e w3 ⟨rfl, hb⟩; rw [HI.out])
            refine hK.out _ _ ?_ (fun hHeld => ?_)
            · ((try dsimp only); (refine KS.out _ ?_; (repeat (first | exact Gr.refl _ | exact hHeld.1 | (refine Gr.drew ?_) | (refine Gr.alloc ?_ _) | (refine Gr.trans ?_ (by assumption))))))
            clear hK K
            try simp only [Act.put, List.setIfInBounds_toArray, List.set_cons_zero, List.set_cons_succ]
            refine wpAnyH_done ?_ ?_ _
            · kernel_rfl
            rotate_left
            all_goals
              obtain ⟨hB, -⟩ := hHeld
              go_wp2_with fail
              go_roundw
              case rel => exact ⟨j + 1, by omega, by go_num, Lib.hid (HNX.out HI.out), hg.trans hB⟩
              case measure => simp [intOf]; omega
          · have HI := Lib.hid hin
            have HF := Lib.hid (HYE.out hin)
            clear hin
            go_wp2_with fail
            refine wp_region_held_drew (S := (fun W' => Gr wr W' ∧ W'.cell? ⟨g2, j * 2, none⟩ = some (.int .i64 x) ∧ W'.cell? ⟨g2, j * 2 + 1, none⟩ = some (.int .i64 y))) ?_ ?_ (fun hHeld => ?_)
            · kernel_rfl
            · ((try dsimp only); (refine KS.out _ ?_; (repeat (first | exact Gr.refl _ | exact hHeld.1 | (refine Gr.drew ?_) | (refine Gr.alloc ?_ _) | (refine Gr.trans ?_ (by assumption))))))
            refine take_in (i := 0) (v := ?_) (d := (some 39)) rfl rfl ?_ ?_ ?_ ?_ ?_ ?_ ?_ ?_
            rotate_left
            · kernel_rfl
            · kernel_rfl
            · kernel_rfl
            · (intro _ _ _ hq; exact hq)
            · rfl
            · (intro _w hSw; (try dsimp only at hSw); go_simp; try with_reducible rfl)
            · assumption
            try simp only [Act.put, List.setIfInBounds_toArray, List.set_cons_zero, List.set_cons_succ]
            refine take_in (i := 1) (v := ?_) (d := (some 40)) rfl rfl ?_ ?_ ?_ ?_ ?_ ?_ ?_ ?_
            rotate_left
            · kernel_rfl
            · kernel_rfl
            · kernel_rfl
            · (intro _ _ _ hq; exact hq)
            · rfl
            · (intro _w hSw; (try dsimp only at hSw); go_simp; try with_reducible rfl)
            · assumption
            try simp only [Act.put, List.setIfInBounds_toArray, List.set_cons_zero, List.set_cons_succ]
            refine take_in (i := 2) (v := ?_) (d := (some 41)) rfl rfl ?_ ?_ ?_ ?_ ?_ ?_ ?_ ?_
            rotate_left
            · kernel_rfl
            · kernel_rfl
            · kernel_rfl
            · (intro _ _ _ hq; exact hq)
            · rfl
            · (intro _w hSw; (try dsimp only at hSw); go_simp; try with_reducible rfl)
            · assumption
            try simp only [Act.put, List.setIfInBounds_toArray, List.set_cons_zero, List.set_cons_succ]
            refine take_in (i := 3) (v := ?_) (d := (some 42)) rfl rfl ?_ ?_ ?_ ?_ ?_ ?_ ?_ ?_
            rotate_left
            · kernel_rfl
            · kernel_rfl
            · kernel_rfl
            · (intro _ _ _ hq; exact hq)
            · rfl
            · (intro _w hSw; (try dsimp only at hSw); go_simp; try with_reducible rfl)
            · assumption
            try simp only [Act.put, List.setIfInBounds_toArray, List.set_cons_zero, List.set_cons_succ]
            refine take_in (i := 4) (v := ?_) (d := (some 43)) rfl rfl ?_ ?_ ?_ ?_ ?_ ?_ ?_ ?_
            rotate_left
            · kernel_rfl
            · kernel_rfl
            · kernel_rfl
            · (intro _ _ _ hq; exact hq)
            · rfl
            · (intro _w hSw; (try dsimp only at hSw); go_simp; try with_reducible rfl)
            · assumption
            try simp only [Act.put, List.setIfInBounds_toArray, List.set_cons_zero, List.set_cons_succ]
            refine take_in (i := 5) (v := ?_) (d := (some 44)) rfl rfl ?_ ?_ ?_ ?_ ?_ ?_ ?_ ?_
            rotate_left
            · kernel_rfl
            · kernel_rfl
            · kernel_rfl
            · (intro _ _ _ hq; exact hq)
            · rfl
            · (intro _w hSw; (try dsimp only at hSw); go_simp; try with_reducible rfl)
            · assumption
            try simp only [Act.put, List.setIfInBounds_toArray, List.set_cons_zero, List.set_cons_succ]
            refine take_in (i := 6) (v := ?_) (d := (some 45)) rfl rfl ?_ ?_ ?_ ?_ ?_ ?_ ?_ ?_
            rotate_left
            · kernel_rfl
            · kernel_rfl
            · kernel_rfl
            · (intro _ _ _ hq; exact hq)
            · rfl
            · (intro _w hSw; (try dsimp only at hSw); go_simp; try with_reducible rfl)
            · assumption
            try simp only [Act.put, List.setIfInBounds_toArray, List.set_cons_zero, List.set_cons_succ]
            refine take_in (i := 7) (v := ?_) (d := (some 46)) rfl rfl ?_ ?_ ?_ ?_ ?_ ?_ ?_ ?_
            rotate_left
            · kernel_rfl
            · kernel_rfl
            · kernel_rfl
            · (intro _ _ _ hq; exact hq)
            · rfl
            · (intro _w hSw; (try dsimp only at hSw); go_simp; try with_reducible rfl)
            · assumption
            try simp only [Act.put, List.setIfInBounds_toArray, List.set_cons_zero, List.set_cons_succ]
            refine take_in (i := 8) (v := ?_) (d := (some 47)) rfl rfl ?_ ?_ ?_ ?_ ?_ ?_ ?_ ?_
            rotate_left
            · kernel_rfl
            · kernel_rfl
            · kernel_rfl
            · (intro _ _ _ hq; exact hq)
            · rfl
            · (intro _w hSw; (try dsimp only at hSw); go_simp; try with_reducible rfl)
            · assumption
            try simp only [Act.put, List.setIfInBounds_toArray, List.set_cons_zero, List.set_cons_succ]
            refine take_in (i := 9) (v := ?_) (d := (some 48)) rfl rfl ?_ ?_ ?_ ?_ ?_ ?_ ?_ ?_
            rotate_left
            · kernel_rfl
            · kernel_rfl
            · kernel_rfl
            · (intro _ _ _ hq; exact hq)
            · rfl
            · (intro _w hSw; (try dsimp only at hSw); go_simp; try with_reducible rfl)
            · assumption
            try simp only [Act.put, List.setIfInBounds_toArray, List.set_cons_zero, List.set_cons_succ]
            refine take_in (i := 10) (v := ?_) (d := (some 49)) rfl rfl ?_ ?_ ?_ ?_ ?_ ?_ ?_ ?_
            rotate_left
            · kernel_rfl
            · kernel_rfl
            · kernel_rfl
            · (intro _ _ _ hq; exact hq)
            · rfl
            · (intro _w hSw; (try dsimp only at hSw); go_simp; try with_reducible rfl)
            · assumption
            try simp only [Act.put, List.setIfInBounds_toArray, List.set_cons_zero, List.set_cons_succ]
            refine wpAnyH_ready (rs := [11]) ?_ ?_ ?_
            · kernel_rfl
            · simp
            refine (AllReadyH.cons rfl (fun K hK => ?_) AllReadyH.nil)
            go_simp
            first | (go_at_call 47; (with_reducible refine (rIn_any _ k c1 H1 x y 1 _ HM1.out hm1 hm1' (HQ1.out.keep (hg.trans (by (repeat (first | exact Gr.refl _ | assumption | (refine Gr.drew ?_) | (refine Gr.drewN ?_ _) | (refine Gr.alloc ?_ _) | (refine Gr.trans ?_ (by assumption))))))) HC1.out HPC.out).mono ?_); rintro e w3 ⟨rfl, hb⟩; rw [HI.out])
            refine hK.out _ _ ?_ (fun hHeld => ?_)
            · ((try dsimp only); (refine KS.out _ ?_; (repeat (first | exact Gr.refl _ | exact hHeld.1 | (refine Gr.drew ?_) | (refine Gr.alloc ?_ _) | (refine Gr.trans ?_ (by assumption))))))
            clear hK K
            try simp only [Act.put, List.setIfInBounds_toArray, List.set_cons_zero, List.set_cons_succ]
            refine wpAnyH_done ?_ ?_ _
            · kernel_rfl
            rotate_left
            all_goals
              obtain ⟨hB, -⟩ := hHeld
              go_wp2_with fail
              go_ret
              exact ⟨ret_bool HF.out.symm, (hgw2.trans hg).trans hB⟩
        · obtain rfl : j = m2 := by omega
          have HN2 := Lib.hid hno.out
          have HS1 := Lib.hid (HQ1.out.keep hg)
          have HS2 := Lib.hid (HQ2.out.keep hg)
          have hgw3 := hgw2.trans hg
          have HF0 : Hid ((∀ i, i < k → ∀ l, l < j → meetE (ed H1 i) (ed H2 l) = false) → r = false) := Lib.hid (HR0.out HN1.out HN2.out)
          clear hno hgw2 hg HQ1 HQ2 HR2 HR0 HN1 HN2
          go_wp2_with fail
          go_loopw [9] (fun i wr => ∃ a : Nat, a ≤ k ∧ i = .int .i64 a ∧ Hid (∀ i, i < a → ∀ l, l < j → meetE (ed H1 i) (ed H2 l) = false) ∧ Gr w wr ∧ Hid (Pts wr (some ⟨g1, 0, none⟩) H1) ∧ Hid (Pts wr (some ⟨g2, 0, none⟩) H2)) (fun i _ => k - (intOf i).toNat)
          case atStart => exact ⟨0, Nat.zero_le _, rfl, Lib.hid (fun i h => by omega), hgw3, HS1, HS2⟩
          case round =>
            obtain ⟨wo, rfl⟩ : ∃ wo : World, wo = wr := ⟨_, rfl⟩
            obtain ⟨a, ha, rfl, hna, hga, HT1, HT2⟩ := hrel
            by_cases hlt : a < k
            · obtain ⟨ma, hma⟩ : ∃ m, (a + 1) % k = m := ⟨_, rfl⟩
              have hman : ma < k := by rw [← hma]; exact Nat.mod_lt _ (by omega)
              have XA := Lib.hid (fun W => next_is a k ma W hma hlt hm1')
              obtain ⟨b, off, e2, p0, p1⟩ := Pts_at HT1.out (k := a) (by have := HM1.out; omega)
              obtain ⟨rfl, rfl⟩ : g1 = b ∧ 0 = off := by simpa using e2
              obtain ⟨b, off, e3, q0, q1⟩ := Pts_at HT1.out (k := ma) (by have := HM1.out; omega)
              obtain ⟨rfl, rfl⟩ : g1 = b ∧ 0 = off := by simpa using e3
              simp only [Nat.zero_add] at p0 p1 q0 q1
              have ca := HC1.out a
              have cm := HC1.out ma
              have HEA : Hid (ed H1 a = (H1.getD a (0, 0), H1.getD ma (0, 0))) := Lib.hid (by unfold ed; rw [HM1.out, hma])
              have HAE := Lib.hid (fun l => HR3.out a l hlt)
              have HNA : Hid ((∀ l, l < j → meetE (ed H1 a) (ed H2 l) = false) → ∀ i, i < a + 1 → ∀ l, l < j → meetE (ed H1 i) (ed H2 l) = false) := Lib.hid (fun h i hi => by
                rcases Nat.lt_succ_iff_lt_or_eq.1 hi with u | rfl
                · exact hna.out i u
                · exact h)
              generalize ed H1 a = ea at HEA HAE HNA
              generalize H1.getD a (0, 0) = pa at p0 p1 ca HEA
              generalize H1.getD ma (0, 0) = pm at q0 q1 cm HEA
              obtain ⟨x, y⟩ := pa
              obtain ⟨x1, y1⟩ := pm
              dsimp only at p0 p1 q0 q1 ca cm
              clear e2 e3 hma hna ha
              go_wp2_with fail
              go_loopw [10] (fun i wr => ∃ l : Nat, l ≤ j ∧ i = .int .i64 l ∧ Hid (∀ i, i < l → meetE ea (ed H2 i) = false) ∧ Gr wo wr) (fun i _ => j - (intOf i).toNat)
              case atStart => exact ⟨0, Nat.zero_le _, rfl, Lib.hid (fun i h => by omega), Gr.refl _⟩
              case round =>
                obtain ⟨l, hl, rfl, hnl, hgl⟩ := hrel
                by_cases hltl : l < j
                · obtain ⟨ml, hml⟩ : ∃ m, (l + 1) % j = m := ⟨_, rfl⟩
                  have hmln : ml < j := by rw [← hml]; exact Nat.mod_lt _ (by omega)
                  have XL := Lib.hid (fun W => next_is l j ml W hml hltl hm2')
                  obtain ⟨b, off, e2, s0, s1⟩ := Pts_at (HT2.out.keep hgl) (k := l) (by have := HM2.out; omega)
                  obtain ⟨rfl, rfl⟩ : g2 = b ∧ 0 = off := by simpa using e2
                  obtain ⟨b, off, e3, t0, t1⟩ := Pts_at (HT2.out.keep hgl) (k := ml) (by have := HM2.out; omega)
                  obtain ⟨rfl, rfl⟩ : g2 = b ∧ 0 = off := by simpa using e3
                  simp only [Nat.zero_add] at s0 s1 t0 t1
                  have cl := HC2.out l
                  have cn := HC2.out ml
                  have HEL : Hid (ed H2 l = (H2.getD l (0, 0), H2.getD ml (0, 0))) := Lib.hid (by unfold ed; rw [HM2.out, hml])
                  have HLE := Lib.hid (HAE.out l hltl)
                  have HNL : Hid (meetE ea (ed H2 l) = false → ∀ i, i < l + 1 → meetE ea (ed H2 i) = false) := Lib.hid (fun h i hi => by
                    rcases Nat.lt_succ_iff_lt_or_eq.1 hi with u | rfl
                    · exact hnl.out i u
                    · exact h)
                  generalize ed H2 l = el at HEL HLE HNL
                  generalize H2.getD l (0, 0) = pl at s0 s1 cl HEL
                  generalize H2.getD ml (0, 0) = pn at t0 t1 cn HEL
                  obtain ⟨x2, y2⟩ := pl
                  obtain ⟨x3, y3⟩ := pn
                  dsimp only at s0 s1 t0 t1 cl cn
                  have HME : Hid (meetE ea el = meetL x y x1 y1 x2 y2 x3 y3) := Lib.hid (by rw [HEA.out, HEL.out]; rfl)
                  generalize meetE ea el = me at HME HLE HNL
                  have r0 := hgl.keep p0
                  have r1 := hgl.keep p1
                  have v0 := hgl.keep q0
                  have v1 := hgl.keep q1
                  have i0 : (0 : Int) ≤ (ma : Int) := by omega
                  have i1 : (ma : Int) < (k : Int) := by omega
                  have i2 : (0 : Int) ≤ (ml : Int) := by omega
                  have i3 : (ml : Int) < (j : Int) := by omega
                  clear e2 e3 hml hl hnl
                  have KS : Hid (∀ W', Gr wr W' → (Gr wr W' ∧ W'.cell? ⟨g1, a * 2, none⟩ = some (.int .i64 x) ∧ W'.cell? ⟨g1, a * 2 + 1, none⟩ = some (.int .i64 y) ∧ W'.cell? ⟨g1, ma * 2, none⟩ = some (.int .i64 x1) ∧ W'.cell? ⟨g1, ma * 2 + 1, none⟩ = some (.int .i64 y1) ∧ W'.cell? ⟨g2, l * 2, none⟩ = some (.int .i64 x2) ∧ W'.cell? ⟨g2, l * 2 + 1, none⟩ = some (.int .i64 y2) ∧ W'.cell? ⟨g2, ml * 2, none⟩ = some (.int .i64 x3) ∧ W'.cell? ⟨g2, ml * 2 + 1, none⟩ = some (.int .i64 y3))) := Lib.hid (fun W' h => ⟨h, h.keep r0, h.keep r1, h.keep v0, h.keep v1, h.keep s0, h.keep s1, h.keep t0, h.keep t1⟩)
                  rcases ht : meetL x y x1 y1 x2 y2 x3 y3 with _ | _
                  · have HT := Lib.hid ht
                    have HN := Lib.hid (HNL.out (HME.out.trans ht))
                    clear ht
                    go_wp2_with fail
                    refine wp_region_held_drew (S := (fun W' => Gr wr W' ∧ W'.cell? ⟨g1, a * 2, none⟩ = some (.int .i64 x) ∧ W'.cell? ⟨g1, a * 2 + 1, none⟩ = some (.int .i64 y) ∧ W'.cell? ⟨g1, ma * 2, none⟩ = some (.int .i64 x1) ∧ W'.cell? ⟨g1, ma * 2 + 1, none⟩ = some (.int .i64 y1) ∧ W'.cell? ⟨g2, l * 2, none⟩ = some (.int .i64 x2) ∧ W'.cell? ⟨g2, l * 2 + 1, none⟩ = some (.int .i64 y2) ∧ W'.cell? ⟨g2, ml * 2, none⟩ = some (.int .i64 x3) ∧ W'.cell? ⟨g2, ml * 2 + 1, none⟩ = some (.int .i64 y3))) ?_ ?_ (fun hHeld => ?_)
                    · kernel_rfl
                    · ((try dsimp only); (refine KS.out _ ?_; (repeat (first | exact Gr.refl _ | exact hHeld.1 | (refine Gr.drew ?_) | (refine Gr.alloc ?_ _) | (refine Gr.trans ?_ (by assumption))))))
                    refine take_in (i := 0) (v := ?_) (d := (some 63)) rfl rfl ?_ ?_ ?_ ?_ ?_ ?_ ?_ ?_
                    rotate_left
                    · kernel_rfl
                    · kernel_rfl
                    · kernel_rfl
                    · (intro _ _ _ hq; exact hq)
                    · rfl
                    · (intro _w hSw; (try dsimp only at hSw); go_simp; try with_reducible rfl)
                    · assumption
                    try simp only [Act.put, List.setIfInBounds_toArray, List.set_cons_zero, List.set_cons_succ]
                    refine take_in (i := 1) (v := ?_) (d := (some 64)) rfl rfl ?_ ?_ ?_ ?_ ?_ ?_ ?_ ?_
                    rotate_left
                    · kernel_rfl
                    · kernel_rfl
                    · kernel_rfl
                    · (intro _ _ _ hq; exact hq)
                    · rfl
                    · (intro _w hSw; (try dsimp only at hSw); go_simp; try with_reducible rfl)
                    · assumption
                    try simp only [Act.put, List.setIfInBounds_toArray, List.set_cons_zero, List.set_cons_succ]
                    refine take_in (i := 2) (v := ?_) (d := (some 65)) rfl rfl ?_ ?_ ?_ ?_ ?_ ?_ ?_ ?_
                    rotate_left
                    · kernel_rfl
                    · kernel_rfl
                    · kernel_rfl
                    · (intro _ _ _ hq; exact hq)
                    · rfl
                    · (intro _w hSw; (try dsimp only at hSw); go_simp; try with_reducible rfl)
                    · assumption
                    try simp only [Act.put, List.setIfInBounds_toArray, List.set_cons_zero, List.set_cons_succ]
                    refine take_in (i := 3) (v := ?_) (d := (some 66)) rfl rfl ?_ ?_ ?_ ?_ ?_ ?_ ?_ ?_
                    rotate_left
                    · kernel_rfl
                    · kernel_rfl
                    · kernel_rfl
                    · (intro _ _ _ hq; exact hq)
                    · rfl
                    · (intro _w hSw; (try dsimp only at hSw); go_simp; try with_reducible rfl)
                    · assumption
                    try simp only [Act.put, List.setIfInBounds_toArray, List.set_cons_zero, List.set_cons_succ]
                    refine take_in (i := 4) (v := ?_) (d := (some 67)) rfl rfl ?_ ?_ ?_ ?_ ?_ ?_ ?_ ?_
                    rotate_left
                    · kernel_rfl
                    · kernel_rfl
                    · kernel_rfl
                    · (intro _ _ _ hq; exact hq)
                    · rfl
                    · (intro _w hSw; (try dsimp only at hSw); go_simp; try with_reducible rfl)
                    · assumption
                    try simp only [Act.put, List.setIfInBounds_toArray, List.set_cons_zero, List.set_cons_succ]
                    refine take_in (i := 5) (v := ?_) (d := (some 68)) rfl rfl ?_ ?_ ?_ ?_ ?_ ?_ ?_ ?_
                    rotate_left
                    · kernel_rfl
                    · kernel_rfl
                    · kernel_rfl
                    · (intro _ _ _ hq; exact hq)
                    · rfl
                    · (intro _w hSw; (try dsimp only at hSw); go_simp; try with_reducible rfl)
                    · assumption
                    try simp only [Act.put, List.setIfInBounds_toArray, List.set_cons_zero, List.set_cons_succ]
                    refine take_in (i := 6) (v := ?_) (d := (some 69)) rfl rfl ?_ ?_ ?_ ?_ ?_ ?_ ?_ ?_
                    rotate_left
                    · kernel_rfl
                    · kernel_rfl
                    · kernel_rfl
                    · (intro _ _ _ hq; exact hq)
                    · rfl
                    · (intro _w hSw; (try dsimp only at hSw); go_simp; try with_reducible rfl)
                    · assumption
                    try simp only [Act.put, List.setIfInBounds_toArray, List.set_cons_zero, List.set_cons_succ]
                    refine take_in (i := 7) (v := ?_) (d := (some 70)) rfl rfl ?_ ?_ ?_ ?_ ?_ ?_ ?_ ?_
                    rotate_left
                    · kernel_rfl
                    · kernel_rfl
                    · kernel_rfl
                    · (intro _ _ _ hq; exact hq)
                    · rfl
                    · (intro _w hSw; (try dsimp only at hSw); go_simp; try with_reducible rfl)
                    · assumption
                    try simp only [Act.put, List.setIfInBounds_toArray, List.set_cons_zero, List.set_cons_succ]
                    refine take_in (i := 11) (v := ?_) (d := (some 74)) rfl rfl ?_ ?_ ?_ ?_ ?_ ?_ ?_ ?_
                    rotate_left
                    · kernel_rfl
                    · kernel_rfl
                    · kernel_rfl
                    · (intro _ _ _ hq; exact hq)
                    · rfl
                    · (intro _w hSw; (try dsimp only at hSw); go_simp; try with_reducible rfl)
                    · assumption
                    try simp only [Act.put, List.setIfInBounds_toArray, List.set_cons_zero, List.set_cons_succ]
                    refine take_in (i := 12) (v := ?_) (d := (some 75)) rfl rfl ?_ ?_ ?_ ?_ ?_ ?_ ?_ ?_
                    rotate_left
                    · kernel_rfl
                    · kernel_rfl
                    · kernel_rfl
                    · (intro _ _ _ hq; exact hq)
                    · rfl
                    · (intro _w hSw; (try dsimp only at hSw); go_simp; try with_reducible rfl)
                    · assumption
                    try simp only [Act.put, List.setIfInBounds_toArray, List.set_cons_zero, List.set_cons_succ]
                    refine take_in (i := 13) (v := ?_) (d := (some 76)) rfl rfl ?_ ?_ ?_ ?_ ?_ ?_ ?_ ?_
                    rotate_left
                    · kernel_rfl
                    · kernel_rfl
                    · kernel_rfl
                    · (intro _ _ _ hq; exact hq)
                    · rfl
                    · (intro _w hSw; (try dsimp only at hSw); go_simp; try with_reducible rfl)
                    · assumption
                    try simp only [Act.put, List.setIfInBounds_toArray, List.set_cons_zero, List.set_cons_succ]
                    refine take_in (i := 14) (v := ?_) (d := (some 77)) rfl rfl ?_ ?_ ?_ ?_ ?_ ?_ ?_ ?_
                    rotate_left
                    · kernel_rfl
                    · kernel_rfl
                    · kernel_rfl
                    · (intro _ _ _ hq; exact hq)
                    · rfl
                    · (intro _w hSw; (try dsimp only at hSw); go_simp; try with_reducible rfl)
                    · assumption
                    try simp only [Act.put, List.setIfInBounds_toArray, List.set_cons_zero, List.set_cons_succ]
                    refine take_in (i := 15) (v := ?_) (d := (some 78)) rfl rfl ?_ ?_ ?_ ?_ ?_ ?_ ?_ ?_
                    rotate_left
                    · kernel_rfl
                    · kernel_rfl
                    · kernel_rfl
                    · (intro _ _ _ hq; exact hq)
                    · rfl
                    · (intro _w hSw; (try dsimp only at hSw); go_simp; try with_reducible rfl)
                    · assumption
                    try simp only [Act.put, List.setIfInBounds_toArray, List.set_cons_zero, List.set_cons_succ]
                    refine take_in (i := 16) (v := ?_) (d := (some 79)) rfl rfl ?_ ?_ ?_ ?_ ?_ ?_ ?_ ?_
                    rotate_left
                    · kernel_rfl
                    · kernel_rfl
                    · kernel_rfl
                    · (intro _ _ _ hq; exact hq)
                    · rfl
                    · (intro _w hSw; (try dsimp only at hSw); go_simp; try with_reducible rfl)
                    · assumption
                    try simp only [Act.put, List.setIfInBounds_toArray, List.set_cons_zero, List.set_cons_succ]
                    refine take_in (i := 17) (v := ?_) (d := (some 80)) rfl rfl ?_ ?_ ?_ ?_ ?_ ?_ ?_ ?_
                    rotate_left
                    · kernel_rfl
                    · kernel_rfl
                    · kernel_rfl
                    · (intro _ _ _ hq; exact hq)
                    · rfl
                    · (intro _w hSw; (try dsimp only at hSw); go_simp; try with_reducible rfl)
                    · assumption
                    try simp only [Act.put, List.setIfInBounds_toArray, List.set_cons_zero, List.set_cons_succ]
                    refine take_in (i := 18) (v := ?_) (d := (some 81)) rfl rfl ?_ ?_ ?_ ?_ ?_ ?_ ?_ ?_
                    rotate_left
                    · kernel_rfl
                    · kernel_rfl
                    · kernel_rfl
                    · (intro _ _ _ hq; exact hq)
                    · rfl
                    · (intro _w hSw; (try dsimp only at hSw); go_simp; try with_reducible rfl)
                    · assumption
                    try simp only [Act.put, List.setIfInBounds_toArray, List.set_cons_zero, List.set_cons_succ]
                    refine wpAnyH_ready (rs := [8]) ?_ ?_ ?_
                    · kernel_rfl
                    · simp
                    refine (AllReadyH.cons rfl (fun K hK => ?_) AllReadyH.nil)
                    go_simp
                    first | (go_at_call 33; (with_reducible refine (XA.out _).mono ?_); rintro e w4 ⟨rfl, rfl⟩) | (go_at_call 33; (with_reducible refine (XL.out _).mono ?_); rintro e w4 ⟨rfl, rfl⟩) | (go_at_call 36; (with_reducible refine (meet_any x y x1 y1 x2 y2 x3 y3 _ ca.1 ca.2 cm.1 cm.2 cl.1 cl.2 cn.1 cn.2 _ HT.out).mono ?_); rintro e w4 ⟨rfl, hb⟩)
                    refine hK.out _ _ ?_ (fun hHeld => ?_)
                    · ((try dsimp only); (refine KS.out _ ?_; (repeat (first | exact Gr.refl _ | exact hHeld.1 | (refine Gr.drew ?_) | (refine Gr.alloc ?_ _) | (refine Gr.trans ?_ (by assumption))))))
                    clear hK K
                    try simp only [Act.put, List.setIfInBounds_toArray, List.set_cons_zero, List.set_cons_succ]
                    refine take_in (i := 9) (v := ?_) (d := (some 72)) rfl rfl ?_ ?_ ?_ ?_ ?_ ?_ ?_ ?_
                    rotate_left
                    · kernel_rfl
                    · kernel_rfl
                    · kernel_rfl
                    · (intro _ _ _ hq; exact hq)
                    · rfl
                    · (intro _w hSw; (try dsimp only at hSw); go_simp; try with_reducible rfl)
                    · assumption
                    try simp only [Act.put, List.setIfInBounds_toArray, List.set_cons_zero, List.set_cons_succ]
                    refine take_in (i := 10) (v := ?_) (d := (some 73)) rfl rfl ?_ ?_ ?_ ?_ ?_ ?_ ?_ ?_
                    rotate_left
                    · kernel_rfl
                    · kernel_rfl
                    · kernel_rfl
                    · (intro _ _ _ hq; exact hq)
                    · rfl
                    · (intro _w hSw; (try dsimp only at hSw); go_simp; try with_reducible rfl)
                    · assumption
                    try simp only [Act.put, List.setIfInBounds_toArray, List.set_cons_zero, List.set_cons_succ]
                    refine wpAnyH_ready (rs := [19]) ?_ ?_ ?_
                    · kernel_rfl
                    · simp
                    refine (AllReadyH.cons rfl (fun K hK => ?_) AllReadyH.nil)
                    go_simp
                    first | (go_at_call 33; (with_reducible refine (XA.out _).mono ?_); rintro e w4 ⟨rfl, rfl⟩) | (go_at_call 33; (with_reducible refine (XL.out _).mono ?_); rintro e w4 ⟨rfl, rfl⟩) | (go_at_call 36; (with_reducible refine (meet_any x y x1 y1 x2 y2 x3 y3 _ ca.1 ca.2 cm.1 cm.2 cl.1 cl.2 cn.1 cn.2 _ HT.out).mono ?_); rintro e w4 ⟨rfl, hb⟩)
                    refine hK.out _ _ ?_ (fun hHeld => ?_)
                    · ((try dsimp only); (refine KS.out _ ?_; (repeat (first | exact Gr.refl _ | exact hHeld.1 | (refine Gr.drew ?_) | (refine Gr.alloc ?_ _) | (refine Gr.trans ?_ (by assumption))))))
                    clear hK K
                    try simp only [Act.put, List.setIfInBounds_toArray, List.set_cons_zero, List.set_cons_succ]
                    refine take_in (i := 20) (v := ?_) (d := (some 83)) rfl rfl ?_ ?_ ?_ ?_ ?_ ?_ ?_ ?_
                    rotate_left
                    · kernel_rfl
                    · kernel_rfl
                    · kernel_rfl
                    · (intro _ _ _ hq; exact hq)
                    · rfl
                    · (intro _w hSw; (try dsimp only at hSw); go_simp; try with_reducible rfl)
                    · assumption
                    try simp only [Act.put, List.setIfInBounds_toArray, List.set_cons_zero, List.set_cons_succ]
                    refine take_in (i := 21) (v := ?_) (d := (some 84)) rfl rfl ?_ ?_ ?_ ?_ ?_ ?_ ?_ ?_
                    rotate_left
                    · kernel_rfl
                    · kernel_rfl
                    · kernel_rfl
                    · (intro _ _ _ hq; exact hq)
                    · rfl
                    · (intro _w hSw; (try dsimp only at hSw); go_simp; try with_reducible rfl)
                    · assumption
                    try simp only [Act.put, List.setIfInBounds_toArray, List.set_cons_zero, List.set_cons_succ]
                    refine wpAnyH_ready (rs := [22]) ?_ ?_ ?_
                    · kernel_rfl
                    · simp
                    refine (AllReadyH.cons rfl (fun K hK => ?_) AllReadyH.nil)
                    go_simp
                    first | (go_at_call 33; (with_reducible refine (XA.out _).mono ?_); rintro e w4 ⟨rfl, rfl⟩) | (go_at_call 33; (with_reducible refine (XL.out _).mono ?_); rintro e w4 ⟨rfl, rfl⟩) | (go_at_call 36; (with_reducible refine (meet_any x y x1 y1 x2 y2 x3 y3 _ ca.1 ca.2 cm.1 cm.2 cl.1 cl.2 cn.1 cn.2 _ HT.out).mono ?_); rintro e w4 ⟨rfl, hb⟩)
                    refine hK.out _ _ ?_ (fun hHeld => ?_)
                    · ((try dsimp only); (refine KS.out _ ?_; (repeat (first | exact Gr.refl _ | exact hHeld.1 | (refine Gr.drew ?_) | (refine Gr.alloc ?_ _) | (refine Gr.trans ?_ (by assumption))))))
                    clear hK K
                    try simp only [Act.put, List.setIfInBounds_toArray, List.set_cons_zero, List.set_cons_succ]
                    refine wpAnyH_done ?_ ?_ _
                    · kernel_rfl
                    rotate_left
                    all_goals
                      obtain ⟨hB, -⟩ := hHeld
                      go_wp2_with fail
                      go_roundw
                      case rel => exact ⟨l + 1, by omega, by go_num, HN, hgl.trans hB⟩
                      case measure => simp [intOf]; omega
                  · have HT := Lib.hid ht
                    have HF := Lib.hid (HLE.out (HME.out.trans ht))
                    clear ht
                    go_wp2_with fail
                    refine wp_region_held_drew (S := (fun W' => Gr wr W' ∧ W'.cell? ⟨g1, a * 2, none⟩ = some (.int .i64 x) ∧ W'.cell? ⟨g1, a * 2 + 1, none⟩ = some (.int .i64 y) ∧ W'.cell? ⟨g1, ma * 2, none⟩ = some (.int .i64 x1) ∧ W'.cell? ⟨g1, ma * 2 + 1, none⟩ = some (.int .i64 y1) ∧ W'.cell? ⟨g2, l * 2, none⟩ = some (.int .i64 x2) ∧ W'.cell? ⟨g2, l * 2 + 1, none⟩ = some (.int .i64 y2) ∧ W'.cell? ⟨g2, ml * 2, none⟩ = some (.int .i64 x3) ∧ W'.cell? ⟨g2, ml * 2 + 1, none⟩ = some (.int .i64 y3))) ?_ ?_ (fun hHeld => ?_)
                    · kernel_rfl
                    · ((try dsimp only); (refine KS.out _ ?_; (repeat (first | exact Gr.refl _ | exact hHeld.1 | (refine Gr.drew ?_) | (refine Gr.alloc ?_ _) | (refine Gr.trans ?_ (by assumption))))))
                    refine take_in (i := 0) (v := ?_) (d := (some 63)) rfl rfl ?_ ?_ ?_ ?_ ?_ ?_ ?_ ?_
                    rotate_left
                    · kernel_rfl
                    · kernel_rfl
                    · kernel_rfl
                    · (intro _ _ _ hq; exact hq)
                    · rfl
                    · (intro _w hSw; (try dsimp only at hSw); go_simp; try with_reducible rfl)
                    · assumption
                    try simp only [Act.put, List.setIfInBounds_toArray, List.set_cons_zero, List.set_cons_succ]
                    refine take_in (i := 1) (v := ?_) (d := (some 64)) rfl rfl ?_ ?_ ?_ ?_ ?_ ?_ ?_ ?_
                    rotate_left
                    · kernel_rfl
                    · kernel_rfl
                    · kernel_rfl
                    · (intro _ _ _ hq; exact hq)
                    · rfl
                    · (intro _w hSw; (try dsimp only at hSw); go_simp; try with_reducible rfl)
                    · assumption
                    try simp only [Act.put, List.setIfInBounds_toArray, List.set_cons_zero, List.set_cons_succ]
                    refine take_in (i := 2) (v := ?_) (d := (some 65)) rfl rfl ?_ ?_ ?_ ?_ ?_ ?_ ?_ ?_
                    rotate_left
                    · kernel_rfl
                    · kernel_rfl
                    · kernel_rfl
                    · (intro _ _ _ hq; exact hq)
                    · rfl
                    · (intro _w hSw; (try dsimp only at hSw); go_simp; try with_reducible rfl)
                    · assumption
                    try simp only [Act.put, List.setIfInBounds_toArray, List.set_cons_zero, List.set_cons_succ]
                    refine take_in (i := 3) (v := ?_) (d := (some 66)) rfl rfl ?_ ?_ ?_ ?_ ?_ ?_ ?_ ?_
                    rotate_left
                    · kernel_rfl
                    · kernel_rfl
                    · kernel_rfl
                    · (intro _ _ _ hq; exact hq)
                    · rfl
                    · (intro _w hSw; (try dsimp only at hSw); go_simp; try with_reducible rfl)
                    · assumption
                    try simp only [Act.put, List.setIfInBounds_toArray, List.set_cons_zero, List.set_cons_succ]
                    refine take_in (i := 4) (v := ?_) (d := (some 67)) rfl rfl ?_ ?_ ?_ ?_ ?_ ?_ ?_ ?_
                    rotate_left
                    · kernel_rfl
                    · kernel_rfl
                    · kernel_rfl
                    · (intro _ _ _ hq; exact hq)
                    · rfl
                    · (intro _w hSw; (try dsimp only at hSw); go_simp; try with_reducible rfl)
                    · assumption
                    try simp only [Act.put, List.setIfInBounds_toArray, List.set_cons_zero, List.set_cons_succ]
                    refine take_in (i := 5) (v := ?_) (d := (some 68)) rfl rfl ?_ ?_ ?_ ?_ ?_ ?_ ?_ ?_
                    rotate_left
                    · kernel_rfl
                    · kernel_rfl
                    · kernel_rfl
                    · (intro _ _ _ hq; exact hq)
                    · rfl
                    · (intro _w hSw; (try dsimp only at hSw); go_simp; try with_reducible rfl)
                    · assumption
                    try simp only [Act.put, List.setIfInBounds_toArray, List.set_cons_zero, List.set_cons_succ]
                    refine take_in (i := 6) (v := ?_) (d := (some 69)) rfl rfl ?_ ?_ ?_ ?_ ?_ ?_ ?_ ?_
                    rotate_left
                    · kernel_rfl
                    · kernel_rfl
                    · kernel_rfl
                    · (intro _ _ _ hq; exact hq)
                    · rfl
                    · (intro _w hSw; (try dsimp only at hSw); go_simp; try with_reducible rfl)
                    · assumption
                    try simp only [Act.put, List.setIfInBounds_toArray, List.set_cons_zero, List.set_cons_succ]
                    refine take_in (i := 7) (v := ?_) (d := (some 70)) rfl rfl ?_ ?_ ?_ ?_ ?_ ?_ ?_ ?_
                    rotate_left
                    · kernel_rfl
                    · kernel_rfl
                    · kernel_rfl
                    · (intro _ _ _ hq; exact hq)
                    · rfl
                    · (intro _w hSw; (try dsimp only at hSw); go_simp; try with_reducible rfl)
                    · assumption
                    try simp only [Act.put, List.setIfInBounds_toArray, List.set_cons_zero, List.set_cons_succ]
                    refine take_in (i := 11) (v := ?_) (d := (some 74)) rfl rfl ?_ ?_ ?_ ?_ ?_ ?_ ?_ ?_
                    rotate_left
                    · kernel_rfl
                    · kernel_rfl
                    · kernel_rfl
                    · (intro _ _ _ hq; exact hq)
                    · rfl
                    · (intro _w hSw; (try dsimp only at hSw); go_simp; try with_reducible rfl)
                    · assumption
                    try simp only [Act.put, List.setIfInBounds_toArray, List.set_cons_zero, List.set_cons_succ]
                    refine take_in (i := 12) (v := ?_) (d := (some 75)) rfl rfl ?_ ?_ ?_ ?_ ?_ ?_ ?_ ?_
                    rotate_left
                    · kernel_rfl
                    · kernel_rfl
                    · kernel_rfl
                    · (intro _ _ _ hq; exact hq)
                    · rfl
                    · (intro _w hSw; (try dsimp only at hSw); go_simp; try with_reducible rfl)
                    · assumption
                    try simp only [Act.put, List.setIfInBounds_toArray, List.set_cons_zero, List.set_cons_succ]
                    refine take_in (i := 13) (v := ?_) (d := (some 76)) rfl rfl ?_ ?_ ?_ ?_ ?_ ?_ ?_ ?_
                    rotate_left
                    · kernel_rfl
                    · kernel_rfl
                    · kernel_rfl
                    · (intro _ _ _ hq; exact hq)
                    · rfl
                    · (intro _w hSw; (try dsimp only at hSw); go_simp; try with_reducible rfl)
                    · assumption
                    try simp only [Act.put, List.setIfInBounds_toArray, List.set_cons_zero, List.set_cons_succ]
                    refine take_in (i := 14) (v := ?_) (d := (some 77)) rfl rfl ?_ ?_ ?_ ?_ ?_ ?_ ?_ ?_
                    rotate_left
                    · kernel_rfl
                    · kernel_rfl
                    · kernel_rfl
                    · (intro _ _ _ hq; exact hq)
                    · rfl
                    · (intro _w hSw; (try dsimp only at hSw); go_simp; try with_reducible rfl)
                    · assumption
                    try simp only [Act.put, List.setIfInBounds_toArray, List.set_cons_zero, List.set_cons_succ]
                    refine take_in (i := 15) (v := ?_) (d := (some 78)) rfl rfl ?_ ?_ ?_ ?_ ?_ ?_ ?_ ?_
                    rotate_left
                    · kernel_rfl
                    · kernel_rfl
                    · kernel_rfl
                    · (intro _ _ _ hq; exact hq)
                    · rfl
                    · (intro _w hSw; (try dsimp only at hSw); go_simp; try with_reducible rfl)
                    · assumption
                    try simp only [Act.put, List.setIfInBounds_toArray, List.set_cons_zero, List.set_cons_succ]
                    refine take_in (i := 16) (v := ?_) (d := (some 79)) rfl rfl ?_ ?_ ?_ ?_ ?_ ?_ ?_ ?_
                    rotate_left
                    · kernel_rfl
                    · kernel_rfl
                    · kernel_rfl
                    · (intro _ _ _ hq; exact hq)
                    · rfl
                    · (intro _w hSw; (try dsimp only at hSw); go_simp; try with_reducible rfl)
                    · assumption
                    try simp only [Act.put, List.setIfInBounds_toArray, List.set_cons_zero, List.set_cons_succ]
                    refine take_in (i := 17) (v := ?_) (d := (some 80)) rfl rfl ?_ ?_ ?_ ?_ ?_ ?_ ?_ ?_
                    rotate_left
                    · kernel_rfl
                    · kernel_rfl
                    · kernel_rfl
                    · (intro _ _ _ hq; exact hq)
                    · rfl
                    · (intro _w hSw; (try dsimp only at hSw); go_simp; try with_reducible rfl)
                    · assumption
                    try simp only [Act.put, List.setIfInBounds_toArray, List.set_cons_zero, List.set_cons_succ]
                    refine take_in (i := 18) (v := ?_) (d := (some 81)) rfl rfl ?_ ?_ ?_ ?_ ?_ ?_ ?_ ?_
                    rotate_left
                    · kernel_rfl
                    · kernel_rfl
                    · kernel_rfl
                    · (intro _ _ _ hq; exact hq)
                    · rfl
                    · (intro _w hSw; (try dsimp only at hSw); go_simp; try with_reducible rfl)
                    · assumption
                    try simp only [Act.put, List.setIfInBounds_toArray, List.set_cons_zero, List.set_cons_succ]
                    refine wpAnyH_ready (rs := [8]) ?_ ?_ ?_
                    · kernel_rfl
                    · simp
                    refine (AllReadyH.cons rfl (fun K hK => ?_) AllReadyH.nil)
                    go_simp
                    first | (go_at_call 33; (with_reducible refine (XA.out _).mono ?_); rintro e w4 ⟨rfl, rfl⟩) | (go_at_call 33; (with_reducible refine (XL.out _).mono ?_); rintro e w4 ⟨rfl, rfl⟩) | (go_at_call 36; (with_reducible refine (meet_any x y x1 y1 x2 y2 x3 y3 _ ca.1 ca.2 cm.1 cm.2 cl.1 cl.2 cn.1 cn.2 _ HT.out).mono ?_); rintro e w4 ⟨rfl, hb⟩)
                    refine hK.out _ _ ?_ (fun hHeld => ?_)
                    · ((try dsimp only); (refine KS.out _ ?_; (repeat (first | exact Gr.refl _ | exact hHeld.1 | (refine Gr.drew ?_) | (refine Gr.alloc ?_ _) | (refine Gr.trans ?_ (by assumption))))))
                    clear hK K
                    try simp only [Act.put, List.setIfInBounds_toArray, List.set_cons_zero, List.set_cons_succ]
                    refine take_in (i := 9) (v := ?_) (d := (some 72)) rfl rfl ?_ ?_ ?_ ?_ ?_ ?_ ?_ ?_
                    rotate_left
                    · kernel_rfl
                    · kernel_rfl
                    · kernel_rfl
                    · (intro _ _ _ hq; exact hq)
                    · rfl
                    · (intro _w hSw; (try dsimp only at hSw); go_simp; try with_reducible rfl)
                    · assumption
                    try simp only [Act.put, List.setIfInBounds_toArray, List.set_cons_zero, List.set_cons_succ]
                    refine take_in (i := 10) (v := ?_) (d := (some 73)) rfl rfl ?_ ?_ ?_ ?_ ?_ ?_ ?_ ?_
                    rotate_left
                    · kernel_rfl
                    · kernel_rfl
                    · kernel_rfl
                    · (intro _ _ _ hq; exact hq)
                    · rfl
                    · (intro _w hSw; (try dsimp only at hSw); go_simp; try with_reducible rfl)
                    · assumption
                    try simp only [Act.put, List.setIfInBounds_toArray, List.set_cons_zero, List.set_cons_succ]
                    refine wpAnyH_ready (rs := [19]) ?_ ?_ ?_
                    · kernel_rfl
                    · simp
                    refine (AllReadyH.cons rfl (fun K hK => ?_) AllReadyH.nil)
                    go_simp
                    first | (go_at_call 33; (with_reducible refine (XA.out _).mono ?_); rintro e w4 ⟨rfl, rfl⟩) | (go_at_call 33; (with_reducible refine (XL.out _).mono ?_); rintro e w4 ⟨rfl, rfl⟩) | (go_at_call 36; (with_reducible refine (meet_any x y x1 y1 x2 y2 x3 y3 _ ca.1 ca.2 cm.1 cm.2 cl.1 cl.2 cn.1 cn.2 _ HT.out).mono ?_); rintro e w4 ⟨rfl, hb⟩)
                    refine hK.out _ _ ?_ (fun hHeld => ?_)
                    · ((try dsimp only); (refine KS.out _ ?_; (repeat (first | exact Gr.refl _ | exact hHeld.1 | (refine Gr.drew ?_) | (refine Gr.alloc ?_ _) | (refine Gr.trans ?_ (by assumption))))))
                    clear hK K
                    try simp only [Act.put, List.setIfInBounds_toArray, List.set_cons_zero, List.set_cons_succ]
                    refine take_in (i := 20) (v := ?_) (d := (some 83)) rfl rfl ?_ ?_ ?_ ?_ ?_ ?_ ?_ ?_
                    rotate_left
                    · kernel_rfl
                    · kernel_rfl
                    · kernel_rfl
                    · (intro _ _ _ hq; exact hq)
                    · rfl
                    · (intro _w hSw; (try dsimp only at hSw); go_simp; try with_reducible rfl)
                    · assumption
                    try simp only [Act.put, List.setIfInBounds_toArray, List.set_cons_zero, List.set_cons_succ]
                    refine take_in (i := 21) (v := ?_) (d := (some 84)) rfl rfl ?_ ?_ ?_ ?_ ?_ ?_ ?_ ?_
                    rotate_left
                    · kernel_rfl
                    · kernel_rfl
                    · kernel_rfl
                    · (intro _ _ _ hq; exact hq)
                    · rfl
                    · (intro _w hSw; (try dsimp only at hSw); go_simp; try with_reducible rfl)
                    · assumption
                    try simp only [Act.put, List.setIfInBounds_toArray, List.set_cons_zero, List.set_cons_succ]
                    refine wpAnyH_ready (rs := [22]) ?_ ?_ ?_
                    · kernel_rfl
                    · simp
                    refine (AllReadyH.cons rfl (fun K hK => ?_) AllReadyH.nil)
                    go_simp
                    first | (go_at_call 33; (with_reducible refine (XA.out _).mono ?_); rintro e w4 ⟨rfl, rfl⟩) | (go_at_call 33; (with_reducible refine (XL.out _).mono ?_); rintro e w4 ⟨rfl, rfl⟩) | (go_at_call 36; (with_reducible refine (meet_any x y x1 y1 x2 y2 x3 y3 _ ca.1 ca.2 cm.1 cm.2 cl.1 cl.2 cn.1 cn.2 _ HT.out).mono ?_); rintro e w4 ⟨rfl, hb⟩)
                    refine hK.out _ _ ?_ (fun hHeld => ?_)
                    · ((try dsimp only); (refine KS.out _ ?_; (repeat (first | exact Gr.refl _ | exact hHeld.1 | (refine Gr.drew ?_) | (refine Gr.alloc ?_ _) | (refine Gr.trans ?_ (by assumption))))))
                    clear hK K
                    try simp only [Act.put, List.setIfInBounds_toArray, List.set_cons_zero, List.set_cons_succ]
                    refine wpAnyH_done ?_ ?_ _
                    · kernel_rfl
                    rotate_left
                    all_goals
                      obtain ⟨hB, -⟩ := hHeld
                      go_wp2_with fail
                      go_ret
                      exact ⟨ret_bool HF.out.symm, (hga.trans hgl).trans hB⟩
                · obtain rfl : l = j := by omega
                  have HN := Lib.hid (HNA.out hnl.out)
                  go_wp2_with fail
                  go_roundw
                  case rel => exact ⟨a + 1, by omega, by go_num, HN, hga.trans hgl, Lib.hid (HT1.out.keep hgl), Lib.hid (HT2.out.keep hgl)⟩
                  case measure => simp [intOf]; omega
            · obtain rfl : a = k := by omega
              have HF := Lib.hid (HF0.out hna.out)
              go_wp2_with fail
              go_ret
              exact ⟨ret_bool HF.out.symm, hga⟩

end Go.Proofs.Ytjkdjfagaakijaa
