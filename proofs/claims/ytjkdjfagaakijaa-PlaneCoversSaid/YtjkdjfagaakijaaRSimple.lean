/- A simple polygon, as the reference tells it. -/
import Derived.Test.YtjkdjfagaakijaaSimple
import Derived.Test.YtjkdjfagaakijaaNumC
import Derived.Test.YtjkdjfagaakijaaMeet
import Derived.Test.YtjkdjfagaakijaaRArea
import Derived.Test.YtjkdjfagaakijaaTurns
namespace Go.Proofs.Ytjkdjfagaakijaa
open Go.RowKit
set_option linter.unusedSimpArgs false

theorem mod_next {k n : Nat} (h : k < n) : (k + 1) % n < n := Nat.mod_lt _ (by omega)
theorem mod_is {j n : Nat} (hj : j < n) : (j + 1) % n = if j + 1 = n then 0 else j + 1 := by
  split
  · rename_i h; rw [h, Nat.mod_self]
  · exact Nat.mod_eq_of_lt (by omega)

set_option maxRecDepth 100000 in
set_option maxHeartbeats 40000000 in
theorem rSimple_loop (A : Option Addr) (n c : Nat) (ps : List (Int × Int)) (w : World) (hn : ps.length = n) (hl : n ≤ 512) (h3 : 3 ≤ n) (hp : Pts w A ps) (hv : (ps.all fun p => vld p.1 p.2) = true) :
    Calls Try.prog 12 #[.slice A n c] w (BoolPost (SimpleP ps) w) := by
  have HN := Lib.hid hn
  have HP := Lib.hid hp
  have HV0 := Lib.hid hv
  have HV := Lib.hid (Cos_of hv)
  clear hn hp hv
  go_enter Try.func12, Try.ntmps12
  go_wp2_with fail
  refine (rValids_any A n c ps _ HN.out (by omega) HP.out true HV0.out).mono ?_
  rintro e w1 ⟨rfl, hgs⟩
  go_wp2_with fail
  go_loopw [4] (fun i wr => ∃ k : Nat, k ≤ n ∧ i = .int .i64 k ∧ Hid (∀ i, i < k → (ed ps i).1 ≠ (ed ps i).2) ∧ Gr w wr) (fun i _ => n - (intOf i).toNat)
  case atStart => exact ⟨0, Nat.zero_le _, rfl, Lib.hid (fun i h => by omega), hgs⟩
  case round =>
    obtain ⟨k, hk, rfl, hok, hg⟩ := hrel
    by_cases hlt : k < n
    · have hmn := mod_next hlt
      obtain ⟨b, off, rfl, p0, p1⟩ := Pts_at (HP.out.keep hg) (k := k) (by have := HN.out; omega)
      obtain ⟨b', off', e', q0, q1⟩ := Pts_at (HP.out.keep hg) (k := (k + 1) % n) (by have := HN.out; omega)
      obtain ⟨rfl, rfl⟩ : b = b' ∧ off = off' := by simpa using e'
      have HX := Lib.hid (fun W => next_is k n _ W rfl hlt (by omega))
      have HE : Hid (ed ps k = (ps.getD k (0, 0), ps.getD ((k + 1) % n) (0, 0))) := Lib.hid (by unfold ed; rw [HN.out])
      generalize ps.getD k (0, 0) = u at p0 p1 HE
      generalize ps.getD ((k + 1) % n) (0, 0) = v at q0 q1 HE
      generalize (k + 1) % n = m at hmn q0 q1 HX
      obtain ⟨x, y⟩ := u
      obtain ⟨x', y'⟩ := v
      dsimp only at p0 p1 q0 q1
      clear e'
      have hm0 : (0 : Int) ≤ (m : Int) := by omega
      have hm1 : (m : Int) < (n : Int) := by omega
      have KS : Hid (∀ W', Gr wr W' → (Gr wr W' ∧ W'.cell? ⟨b, off + k * 2, none⟩ = some (.int .i64 x) ∧ W'.cell? ⟨b, off + k * 2 + 1, none⟩ = some (.int .i64 y) ∧ W'.cell? ⟨b, off + m * 2, none⟩ = some (.int .i64 x') ∧ W'.cell? ⟨b, off + m * 2 + 1, none⟩ = some (.int .i64 y'))) := Lib.hid (fun W' h => ⟨h, h.keep p0, h.keep p1, h.keep q0, h.keep q1⟩)
      by_cases he : (x, y) = (x', y')
      · have HEQ := Lib.hid he
        have e1 : (x == x') = true := by simpa using congrArg Prod.fst he
        have e2 : (y == y') = true := by simpa using congrArg Prod.snd he
        clear he
        go_wp2_with fail
        refine wp_region_held_drew (S := (fun W' => Gr wr W' ∧ W'.cell? ⟨b, off + k * 2, none⟩ = some (.int .i64 x) ∧ W'.cell? ⟨b, off + k * 2 + 1, none⟩ = some (.int .i64 y) ∧ W'.cell? ⟨b, off + m * 2, none⟩ = some (.int .i64 x') ∧ W'.cell? ⟨b, off + m * 2 + 1, none⟩ = some (.int .i64 y'))) ?_ ?_ (fun hHeld => ?_)
        · kernel_rfl
        · ((try dsimp only); (refine KS.out _ ?_; (repeat (first | exact Gr.refl _ | exact hHeld.1 | (refine Gr.drew ?_) | (refine Gr.alloc ?_ _)))))
        refine take_in (i := 0) (v := ?_) (d := (some 27)) rfl rfl ?_ ?_ ?_ ?_ ?_ ?_ ?_ ?_
        rotate_left
        · kernel_rfl
        · kernel_rfl
        · kernel_rfl
        · (intro _ _ _ hq; exact hq)
        · rfl
        · (intro _w hSw; (try dsimp only at hSw); go_simp; try with_reducible rfl)
        · assumption
        try simp only [Act.put, List.setIfInBounds_toArray, List.set_cons_zero, List.set_cons_succ]
        refine take_in (i := 1) (v := ?_) (d := (some 28)) rfl rfl ?_ ?_ ?_ ?_ ?_ ?_ ?_ ?_
        rotate_left
        · kernel_rfl
        · kernel_rfl
        · kernel_rfl
        · (intro _ _ _ hq; exact hq)
        · rfl
        · (intro _w hSw; (try dsimp only at hSw); go_simp; try with_reducible rfl)
        · assumption
        try simp only [Act.put, List.setIfInBounds_toArray, List.set_cons_zero, List.set_cons_succ]
        refine take_in (i := 2) (v := ?_) (d := (some 29)) rfl rfl ?_ ?_ ?_ ?_ ?_ ?_ ?_ ?_
        rotate_left
        · kernel_rfl
        · kernel_rfl
        · kernel_rfl
        · (intro _ _ _ hq; exact hq)
        · rfl
        · (intro _w hSw; (try dsimp only at hSw); go_simp; try with_reducible rfl)
        · assumption
        try simp only [Act.put, List.setIfInBounds_toArray, List.set_cons_zero, List.set_cons_succ]
        refine take_in (i := 3) (v := ?_) (d := (some 30)) rfl rfl ?_ ?_ ?_ ?_ ?_ ?_ ?_ ?_
        rotate_left
        · kernel_rfl
        · kernel_rfl
        · kernel_rfl
        · (intro _ _ _ hq; exact hq)
        · rfl
        · (intro _w hSw; (try dsimp only at hSw); go_simp; try with_reducible rfl)
        · assumption
        try simp only [Act.put, List.setIfInBounds_toArray, List.set_cons_zero, List.set_cons_succ]
        refine take_in (i := 4) (v := ?_) (d := (some 31)) rfl rfl ?_ ?_ ?_ ?_ ?_ ?_ ?_ ?_
        rotate_left
        · kernel_rfl
        · kernel_rfl
        · kernel_rfl
        · (intro _ _ _ hq; exact hq)
        · rfl
        · (intro _w hSw; (try dsimp only at hSw); go_simp; try with_reducible rfl)
        · assumption
        try simp only [Act.put, List.setIfInBounds_toArray, List.set_cons_zero, List.set_cons_succ]
        refine take_in (i := 5) (v := ?_) (d := (some 32)) rfl rfl ?_ ?_ ?_ ?_ ?_ ?_ ?_ ?_
        rotate_left
        · kernel_rfl
        · kernel_rfl
        · kernel_rfl
        · (intro _ _ _ hq; exact hq)
        · rfl
        · (intro _w hSw; (try dsimp only at hSw); go_simp; try with_reducible rfl)
        · assumption
        try simp only [Act.put, List.setIfInBounds_toArray, List.set_cons_zero, List.set_cons_succ]
        refine take_in (i := 6) (v := ?_) (d := (some 33)) rfl rfl ?_ ?_ ?_ ?_ ?_ ?_ ?_ ?_
        rotate_left
        · kernel_rfl
        · kernel_rfl
        · kernel_rfl
        · (intro _ _ _ hq; exact hq)
        · rfl
        · (intro _w hSw; (try dsimp only at hSw); go_simp; try with_reducible rfl)
        · assumption
        try simp only [Act.put, List.setIfInBounds_toArray, List.set_cons_zero, List.set_cons_succ]
        refine wpAnyH_ready (rs := [7]) ?_ ?_ ?_
        · kernel_rfl
        · simp
        refine (AllReadyH.cons rfl (fun K hK => ?_) AllReadyH.nil)
        go_simp
        first | (go_at_call 33; refine (HX.out _).mono ?_; rintro e w3 ⟨rfl, rfl⟩)
        refine hK.out _ _ ?_ (fun hHeld => ?_)
        · ((try dsimp only); (refine KS.out _ ?_; (repeat (first | exact Gr.refl _ | exact hHeld.1 | (refine Gr.drew ?_) | (refine Gr.alloc ?_ _)))))
        clear hK K
        try simp only [Act.put, List.setIfInBounds_toArray, List.set_cons_zero, List.set_cons_succ]
        refine take_in (i := 8) (v := ?_) (d := (some 35)) rfl rfl ?_ ?_ ?_ ?_ ?_ ?_ ?_ ?_
        rotate_left
        · kernel_rfl
        · kernel_rfl
        · kernel_rfl
        · (intro _ _ _ hq; exact hq)
        · rfl
        · (intro _w hSw; (try dsimp only at hSw); go_simp; try with_reducible rfl)
        · assumption
        try simp only [Act.put, List.setIfInBounds_toArray, List.set_cons_zero, List.set_cons_succ]
        refine take_in (i := 9) (v := ?_) (d := (some 36)) rfl rfl ?_ ?_ ?_ ?_ ?_ ?_ ?_ ?_
        rotate_left
        · kernel_rfl
        · kernel_rfl
        · kernel_rfl
        · (intro _ _ _ hq; exact hq)
        · rfl
        · (intro _w hSw; (try dsimp only at hSw); go_simp; try with_reducible rfl)
        · assumption
        try simp only [Act.put, List.setIfInBounds_toArray, List.set_cons_zero, List.set_cons_succ]
        refine take_in (i := 10) (v := ?_) (d := (some 37)) rfl rfl ?_ ?_ ?_ ?_ ?_ ?_ ?_ ?_
        rotate_left
        · kernel_rfl
        · kernel_rfl
        · kernel_rfl
        · (intro _ _ _ hq; exact hq)
        · rfl
        · (intro _w hSw; (try dsimp only at hSw); go_simp; try with_reducible rfl)
        · assumption
        try simp only [Act.put, List.setIfInBounds_toArray, List.set_cons_zero, List.set_cons_succ]
        refine wpAnyH_done ?_ ?_ _
        · kernel_rfl
        rotate_left
        all_goals
          obtain ⟨hB, -⟩ := hHeld
          go_wp2_with fail
          go_ret
          exact ⟨false, rfl, ⟨fun h => absurd h (by decide), fun h => (by
            have h1 := h.2.2.2.1 k (by rw [HN.out]; exact hlt)
            unfold badE at h1
            rw [HE.out, HEQ.out] at h1
            simp at h1)⟩, hg.trans hB⟩
      · have HEQ := Lib.hid he
        have e3 : (x == x') = false ∨ (x == x') = true ∧ (y == y') = false := by
          cases h : (x == x') with
          | false => exact Or.inl rfl
          | true =>
            refine Or.inr ⟨rfl, ?_⟩
            cases h2 : (y == y') with
            | false => rfl
            | true => simp at h h2; exact absurd (by rw [h, h2]) he
        clear he
        have HK : Hid (∀ i, i < k + 1 → (ed ps i).1 ≠ (ed ps i).2) := Lib.hid (fun i hi => by
          rcases Nat.lt_succ_iff_lt_or_eq.1 hi with h | rfl
          · exact hok.out i h
          · rw [HE.out]; exact HEQ.out)
        rcases e3 with e1 | ⟨e1, e2⟩
        all_goals
          go_wp2_with fail
          refine wp_region_held_drew (S := (fun W' => Gr wr W' ∧ W'.cell? ⟨b, off + k * 2, none⟩ = some (.int .i64 x) ∧ W'.cell? ⟨b, off + k * 2 + 1, none⟩ = some (.int .i64 y) ∧ W'.cell? ⟨b, off + m * 2, none⟩ = some (.int .i64 x') ∧ W'.cell? ⟨b, off + m * 2 + 1, none⟩ = some (.int .i64 y'))) ?_ ?_ (fun hHeld => ?_)
          · kernel_rfl
          · ((try dsimp only); (refine KS.out _ ?_; (repeat (first | exact Gr.refl _ | exact hHeld.1 | (refine Gr.drew ?_) | (refine Gr.alloc ?_ _)))))
          refine take_in (i := 0) (v := ?_) (d := (some 27)) rfl rfl ?_ ?_ ?_ ?_ ?_ ?_ ?_ ?_
          rotate_left
          · kernel_rfl
          · kernel_rfl
          · kernel_rfl
          · (intro _ _ _ hq; exact hq)
          · rfl
          · (intro _w hSw; (try dsimp only at hSw); go_simp; try with_reducible rfl)
          · assumption
          try simp only [Act.put, List.setIfInBounds_toArray, List.set_cons_zero, List.set_cons_succ]
          refine take_in (i := 1) (v := ?_) (d := (some 28)) rfl rfl ?_ ?_ ?_ ?_ ?_ ?_ ?_ ?_
          rotate_left
          · kernel_rfl
          · kernel_rfl
          · kernel_rfl
          · (intro _ _ _ hq; exact hq)
          · rfl
          · (intro _w hSw; (try dsimp only at hSw); go_simp; try with_reducible rfl)
          · assumption
          try simp only [Act.put, List.setIfInBounds_toArray, List.set_cons_zero, List.set_cons_succ]
          refine take_in (i := 2) (v := ?_) (d := (some 29)) rfl rfl ?_ ?_ ?_ ?_ ?_ ?_ ?_ ?_
          rotate_left
          · kernel_rfl
          · kernel_rfl
          · kernel_rfl
          · (intro _ _ _ hq; exact hq)
          · rfl
          · (intro _w hSw; (try dsimp only at hSw); go_simp; try with_reducible rfl)
          · assumption
          try simp only [Act.put, List.setIfInBounds_toArray, List.set_cons_zero, List.set_cons_succ]
          refine take_in (i := 3) (v := ?_) (d := (some 30)) rfl rfl ?_ ?_ ?_ ?_ ?_ ?_ ?_ ?_
          rotate_left
          · kernel_rfl
          · kernel_rfl
          · kernel_rfl
          · (intro _ _ _ hq; exact hq)
          · rfl
          · (intro _w hSw; (try dsimp only at hSw); go_simp; try with_reducible rfl)
          · assumption
          try simp only [Act.put, List.setIfInBounds_toArray, List.set_cons_zero, List.set_cons_succ]
          refine take_in (i := 4) (v := ?_) (d := (some 31)) rfl rfl ?_ ?_ ?_ ?_ ?_ ?_ ?_ ?_
          rotate_left
          · kernel_rfl
          · kernel_rfl
          · kernel_rfl
          · (intro _ _ _ hq; exact hq)
          · rfl
          · (intro _w hSw; (try dsimp only at hSw); go_simp; try with_reducible rfl)
          · assumption
          try simp only [Act.put, List.setIfInBounds_toArray, List.set_cons_zero, List.set_cons_succ]
          refine take_in (i := 5) (v := ?_) (d := (some 32)) rfl rfl ?_ ?_ ?_ ?_ ?_ ?_ ?_ ?_
          rotate_left
          · kernel_rfl
          · kernel_rfl
          · kernel_rfl
          · (intro _ _ _ hq; exact hq)
          · rfl
          · (intro _w hSw; (try dsimp only at hSw); go_simp; try with_reducible rfl)
          · assumption
          try simp only [Act.put, List.setIfInBounds_toArray, List.set_cons_zero, List.set_cons_succ]
          refine take_in (i := 6) (v := ?_) (d := (some 33)) rfl rfl ?_ ?_ ?_ ?_ ?_ ?_ ?_ ?_
          rotate_left
          · kernel_rfl
          · kernel_rfl
          · kernel_rfl
          · (intro _ _ _ hq; exact hq)
          · rfl
          · (intro _w hSw; (try dsimp only at hSw); go_simp; try with_reducible rfl)
          · assumption
          try simp only [Act.put, List.setIfInBounds_toArray, List.set_cons_zero, List.set_cons_succ]
          refine wpAnyH_ready (rs := [7]) ?_ ?_ ?_
          · kernel_rfl
          · simp
          refine (AllReadyH.cons rfl (fun K hK => ?_) AllReadyH.nil)
          go_simp
          first | (go_at_call 33; refine (HX.out _).mono ?_; rintro e w3 ⟨rfl, rfl⟩)
          refine hK.out _ _ ?_ (fun hHeld => ?_)
          · ((try dsimp only); (refine KS.out _ ?_; (repeat (first | exact Gr.refl _ | exact hHeld.1 | (refine Gr.drew ?_) | (refine Gr.alloc ?_ _)))))
          clear hK K
          try simp only [Act.put, List.setIfInBounds_toArray, List.set_cons_zero, List.set_cons_succ]
          refine take_in (i := 8) (v := ?_) (d := (some 35)) rfl rfl ?_ ?_ ?_ ?_ ?_ ?_ ?_ ?_
          rotate_left
          · kernel_rfl
          · kernel_rfl
          · kernel_rfl
          · (intro _ _ _ hq; exact hq)
          · rfl
          · (intro _w hSw; (try dsimp only at hSw); go_simp; try with_reducible rfl)
          · assumption
          try simp only [Act.put, List.setIfInBounds_toArray, List.set_cons_zero, List.set_cons_succ]
          refine take_in (i := 9) (v := ?_) (d := (some 36)) rfl rfl ?_ ?_ ?_ ?_ ?_ ?_ ?_ ?_
          rotate_left
          · kernel_rfl
          · kernel_rfl
          · kernel_rfl
          · (intro _ _ _ hq; exact hq)
          · rfl
          · (intro _w hSw; (try dsimp only at hSw); go_simp; try with_reducible rfl)
          · assumption
          try simp only [Act.put, List.setIfInBounds_toArray, List.set_cons_zero, List.set_cons_succ]
          refine take_in (i := 10) (v := ?_) (d := (some 37)) rfl rfl ?_ ?_ ?_ ?_ ?_ ?_ ?_ ?_
          rotate_left
          · kernel_rfl
          · kernel_rfl
          · kernel_rfl
          · (intro _ _ _ hq; exact hq)
          · rfl
          · (intro _w hSw; (try dsimp only at hSw); go_simp; try with_reducible rfl)
          · assumption
          try simp only [Act.put, List.setIfInBounds_toArray, List.set_cons_zero, List.set_cons_succ]
          refine wpAnyH_done ?_ ?_ _
          · kernel_rfl
          rotate_left
          all_goals
            obtain ⟨hB, -⟩ := hHeld
            go_wp2_with fail
            go_roundw
            case rel => exact ⟨k + 1, by omega, by go_num, HK, hg.trans hB⟩
            case measure => simp [intOf]; omega
    · have HNE : Hid (∀ i, i < n → (ed ps i).1 ≠ (ed ps i).2) := Lib.hid (fun i hi => hok.out i (by omega))
      have HX := Lib.hid (fun k (h : k < n) W => next_is k n _ W rfl h (by omega))
      clear hok hgs
      go_wp2_with fail
      clear hk hlt
      go_loopw [5] (fun i w2 => ∃ k : Nat, k ≤ n ∧ i = .int .i64 k ∧ Hid (∀ i, i < k → badE ps i = false) ∧ Hid (NoCross ps k 0) ∧ Gr w w2) (fun i _ => n - (intOf i).toNat)
      case atStart => exact ⟨0, Nat.zero_le _, rfl, Lib.hid (fun i h => by omega), Lib.hid (fun a b _ _ _ h => by omega), hg⟩
      case round =>
        obtain ⟨k, hk, rfl, hok, hno, hg⟩ := hrel
        by_cases hlt : k < n
        · obtain ⟨m1, hm1⟩ : ∃ m, (k + 1) % n = m := ⟨_, rfl⟩
          have hm1n : m1 < n := by rw [← hm1]; exact mod_next hlt
          obtain ⟨m2, hm2⟩ : ∃ m, (m1 + 1) % n = m := ⟨_, rfl⟩
          have hm2n : m2 < n := by rw [← hm2]; exact mod_next hm1n
          have X1 := Lib.hid (fun W => next_is k n m1 W hm1 hlt (by omega))
          have X2 := Lib.hid (fun W => next_is m1 n m2 W hm2 hm1n (by omega))
          obtain ⟨wo, rfl⟩ : ∃ wo : World, wo = wr := ⟨_, rfl⟩
          obtain ⟨b, off, rfl, p0, p1⟩ := Pts_at (HP.out.keep hg) (k := k) (by have := HN.out; omega)
          obtain ⟨b2, off2, e2, q0, q1⟩ := Pts_at (HP.out.keep hg) (k := m1) (by have := HN.out; omega)
          obtain ⟨rfl, rfl⟩ : b = b2 ∧ off = off2 := by simpa using e2
          obtain ⟨b2, off2, e3, o0, o1⟩ := Pts_at (HP.out.keep hg) (k := m2) (by have := HN.out; omega)
          obtain ⟨rfl, rfl⟩ : b = b2 ∧ off = off2 := by simpa using e3
          obtain ⟨c0, c1⟩ := HV.out k
          obtain ⟨d0, d1⟩ := HV.out m1
          obtain ⟨e0, e1⟩ := HV.out m2
          have HE : Hid (ed ps k = (ps.getD k (0, 0), ps.getD m1 (0, 0))) := Lib.hid (by unfold ed; rw [HN.out, hm1])
          have HE1 : Hid (ed ps m1 = (ps.getD m1 (0, 0), ps.getD m2 (0, 0))) := Lib.hid (by unfold ed; rw [HN.out, hm2])
          have HBAD : Hid (badE ps k = (decide (ps.getD k (0, 0) = ps.getD m1 (0, 0)) || foldsL (ps.getD k (0, 0)).1 (ps.getD k (0, 0)).2 (ps.getD m1 (0, 0)).1 (ps.getD m1 (0, 0)).2 (ps.getD m2 (0, 0)).1 (ps.getD m2 (0, 0)).2)) := Lib.hid (by unfold badE; rw [HN.out, hm1, HE.out, HE1.out])
          have NEK : Hid (¬ ps.getD k (0, 0) = ps.getD m1 (0, 0)) := Lib.hid (by have := HNE.out k hlt; rw [HE.out] at this; exact this)
          have NEM : Hid (¬ ps.getD m1 (0, 0) = ps.getD m2 (0, 0)) := Lib.hid (by have := HNE.out m1 hm1n; rw [HE1.out] at this; exact this)
          generalize ps.getD k (0, 0) = u at p0 p1 c0 c1 HE HBAD NEK
          generalize ps.getD m1 (0, 0) = v at q0 q1 d0 d1 HE HE1 HBAD NEK NEM
          generalize ps.getD m2 (0, 0) = t at o0 o1 e0 e1 HE1 HBAD NEM
          obtain ⟨x, y⟩ := u
          obtain ⟨x1, y1⟩ := v
          obtain ⟨x2, y2⟩ := t
          dsimp only at p0 p1 q0 q1 o0 o1 c0 c1 d0 d1 e0 e1 HBAD
          have HF : Hid (foldsL x y x1 y1 x2 y2 = (decide (sgn (crs x y x1 y1 x2 y2) = 0) && (onL x y x1 y1 x2 y2 || onL x1 y1 x2 y2 x y))) := Lib.hid (folds_on (fun h => NEK.out (by rw [h.1, h.2])) (fun h => NEM.out (by rw [h.1, h.2])))
          clear hm1 hm2 e2 e3
          have n0 : (0 : Int) ≤ (m1 : Int) := by omega
          have n1 : (m1 : Int) < (n : Int) := by omega
          have n2 : (0 : Int) ≤ (m2 : Int) := by omega
          have n3 : (m2 : Int) < (n : Int) := by omega
          have KS : Hid (∀ W', Gr wo W' → (Gr wo W' ∧ W'.cell? ⟨b, off + k * 2, none⟩ = some (.int .i64 x) ∧ W'.cell? ⟨b, off + k * 2 + 1, none⟩ = some (.int .i64 y) ∧ W'.cell? ⟨b, off + m1 * 2, none⟩ = some (.int .i64 x1) ∧ W'.cell? ⟨b, off + m1 * 2 + 1, none⟩ = some (.int .i64 y1) ∧ W'.cell? ⟨b, off + m2 * 2, none⟩ = some (.int .i64 x2) ∧ W'.cell? ⟨b, off + m2 * 2 + 1, none⟩ = some (.int .i64 y2))) := Lib.hid (fun W' h => ⟨h, h.keep p0, h.keep p1, h.keep q0, h.keep q1, h.keep o0, h.keep o1⟩)
          obtain ⟨s, hs⟩ : ∃ s, sgn (crs x y x1 y1 x2 y2) = s := ⟨_, rfl⟩
          have HS := Lib.hid hs
          rw [hs] at HF
          clear hs
          go_wp2_with fail
          refine (X1.out _).mono ?_
          rintro e w3 ⟨rfl, rfl⟩
          go_wp2_with fail
          refine (X2.out _).mono ?_
          rintro e w3 ⟨rfl, rfl⟩
          go_wp2_with fail
          rcases hfo : foldsL x y x1 y1 x2 y2 with _ | _
          · have HFO := Lib.hid hfo
            clear hfo
            by_cases s0 : s = 0
            · subst s0
              have H12 : onL x y x1 y1 x2 y2 = false ∧ onL x1 y1 x2 y2 x y = false := by have h := HF.out; rw [HFO.out] at h; simpa using h.symm
              have H1 := Lib.hid H12.1
              have H2 := Lib.hid H12.2
              clear H12
              refine wp_region_held_drew (S := (fun W' => Gr wo W' ∧ W'.cell? ⟨b, off + k * 2, none⟩ = some (.int .i64 x) ∧ W'.cell? ⟨b, off + k * 2 + 1, none⟩ = some (.int .i64 y) ∧ W'.cell? ⟨b, off + m1 * 2, none⟩ = some (.int .i64 x1) ∧ W'.cell? ⟨b, off + m1 * 2 + 1, none⟩ = some (.int .i64 y1) ∧ W'.cell? ⟨b, off + m2 * 2, none⟩ = some (.int .i64 x2) ∧ W'.cell? ⟨b, off + m2 * 2 + 1, none⟩ = some (.int .i64 y2))) ?_ ?_ (fun hHeld => ?_)
              · kernel_rfl
              · ((try dsimp only); (refine KS.out _ ?_; (repeat (first | exact Gr.refl _ | exact hHeld.1 | (refine Gr.drew ?_) | (refine Gr.alloc ?_ _) | (refine Gr.trans ?_ (by assumption))))))
              refine take_in (i := 0) (v := ?_) (d := (some 49)) rfl rfl ?_ ?_ ?_ ?_ ?_ ?_ ?_ ?_
              rotate_left
              · kernel_rfl
              · kernel_rfl
              · kernel_rfl
              · (intro _ _ _ hq; exact hq)
              · rfl
              · (intro _w hSw; (try dsimp only at hSw); go_simp; try with_reducible rfl)
              · assumption
              try simp only [Act.put, List.setIfInBounds_toArray, List.set_cons_zero, List.set_cons_succ]
              refine take_in (i := 1) (v := ?_) (d := (some 50)) rfl rfl ?_ ?_ ?_ ?_ ?_ ?_ ?_ ?_
              rotate_left
              · kernel_rfl
              · kernel_rfl
              · kernel_rfl
              · (intro _ _ _ hq; exact hq)
              · rfl
              · (intro _w hSw; (try dsimp only at hSw); go_simp; try with_reducible rfl)
              · assumption
              try simp only [Act.put, List.setIfInBounds_toArray, List.set_cons_zero, List.set_cons_succ]
              refine take_in (i := 2) (v := ?_) (d := (some 51)) rfl rfl ?_ ?_ ?_ ?_ ?_ ?_ ?_ ?_
              rotate_left
              · kernel_rfl
              · kernel_rfl
              · kernel_rfl
              · (intro _ _ _ hq; exact hq)
              · rfl
              · (intro _w hSw; (try dsimp only at hSw); go_simp; try with_reducible rfl)
              · assumption
              try simp only [Act.put, List.setIfInBounds_toArray, List.set_cons_zero, List.set_cons_succ]
              refine take_in (i := 3) (v := ?_) (d := (some 52)) rfl rfl ?_ ?_ ?_ ?_ ?_ ?_ ?_ ?_
              rotate_left
              · kernel_rfl
              · kernel_rfl
              · kernel_rfl
              · (intro _ _ _ hq; exact hq)
              · rfl
              · (intro _w hSw; (try dsimp only at hSw); go_simp; try with_reducible rfl)
              · assumption
              try simp only [Act.put, List.setIfInBounds_toArray, List.set_cons_zero, List.set_cons_succ]
              refine take_in (i := 4) (v := ?_) (d := (some 53)) rfl rfl ?_ ?_ ?_ ?_ ?_ ?_ ?_ ?_
              rotate_left
              · kernel_rfl
              · kernel_rfl
              · kernel_rfl
              · (intro _ _ _ hq; exact hq)
              · rfl
              · (intro _w hSw; (try dsimp only at hSw); go_simp; try with_reducible rfl)
              · assumption
              try simp only [Act.put, List.setIfInBounds_toArray, List.set_cons_zero, List.set_cons_succ]
              refine take_in (i := 5) (v := ?_) (d := (some 54)) rfl rfl ?_ ?_ ?_ ?_ ?_ ?_ ?_ ?_
              rotate_left
              · kernel_rfl
              · kernel_rfl
              · kernel_rfl
              · (intro _ _ _ hq; exact hq)
              · rfl
              · (intro _w hSw; (try dsimp only at hSw); go_simp; try with_reducible rfl)
              · assumption
              try simp only [Act.put, List.setIfInBounds_toArray, List.set_cons_zero, List.set_cons_succ]
              refine take_in (i := 6) (v := ?_) (d := (some 55)) rfl rfl ?_ ?_ ?_ ?_ ?_ ?_ ?_ ?_
              rotate_left
              · kernel_rfl
              · kernel_rfl
              · kernel_rfl
              · (intro _ _ _ hq; exact hq)
              · rfl
              · (intro _w hSw; (try dsimp only at hSw); go_simp; try with_reducible rfl)
              · assumption
              try simp only [Act.put, List.setIfInBounds_toArray, List.set_cons_zero, List.set_cons_succ]
              refine take_in (i := 7) (v := ?_) (d := (some 56)) rfl rfl ?_ ?_ ?_ ?_ ?_ ?_ ?_ ?_
              rotate_left
              · kernel_rfl
              · kernel_rfl
              · kernel_rfl
              · (intro _ _ _ hq; exact hq)
              · rfl
              · (intro _w hSw; (try dsimp only at hSw); go_simp; try with_reducible rfl)
              · assumption
              try simp only [Act.put, List.setIfInBounds_toArray, List.set_cons_zero, List.set_cons_succ]
              refine take_in (i := 8) (v := ?_) (d := (some 57)) rfl rfl ?_ ?_ ?_ ?_ ?_ ?_ ?_ ?_
              rotate_left
              · kernel_rfl
              · kernel_rfl
              · kernel_rfl
              · (intro _ _ _ hq; exact hq)
              · rfl
              · (intro _w hSw; (try dsimp only at hSw); go_simp; try with_reducible rfl)
              · assumption
              try simp only [Act.put, List.setIfInBounds_toArray, List.set_cons_zero, List.set_cons_succ]
              refine take_in (i := 9) (v := ?_) (d := (some 58)) rfl rfl ?_ ?_ ?_ ?_ ?_ ?_ ?_ ?_
              rotate_left
              · kernel_rfl
              · kernel_rfl
              · kernel_rfl
              · (intro _ _ _ hq; exact hq)
              · rfl
              · (intro _w hSw; (try dsimp only at hSw); go_simp; try with_reducible rfl)
              · assumption
              try simp only [Act.put, List.setIfInBounds_toArray, List.set_cons_zero, List.set_cons_succ]
              refine take_in (i := 10) (v := ?_) (d := (some 59)) rfl rfl ?_ ?_ ?_ ?_ ?_ ?_ ?_ ?_
              rotate_left
              · kernel_rfl
              · kernel_rfl
              · kernel_rfl
              · (intro _ _ _ hq; exact hq)
              · rfl
              · (intro _w hSw; (try dsimp only at hSw); go_simp; try with_reducible rfl)
              · assumption
              try simp only [Act.put, List.setIfInBounds_toArray, List.set_cons_zero, List.set_cons_succ]
              refine take_in (i := 11) (v := ?_) (d := (some 60)) rfl rfl ?_ ?_ ?_ ?_ ?_ ?_ ?_ ?_
              rotate_left
              · kernel_rfl
              · kernel_rfl
              · kernel_rfl
              · (intro _ _ _ hq; exact hq)
              · rfl
              · (intro _w hSw; (try dsimp only at hSw); go_simp; try with_reducible rfl)
              · assumption
              try simp only [Act.put, List.setIfInBounds_toArray, List.set_cons_zero, List.set_cons_succ]
              refine wpAnyH_ready (rs := [12]) ?_ ?_ ?_
              · kernel_rfl
              · simp
              refine (AllReadyH.cons rfl (fun K hK => ?_) AllReadyH.nil)
              go_simp
              first | (go_at_call 34; (with_reducible refine (rTurn_is _ _ _ _ _ _ _ _ HS.out c0 c1 d0 d1 e0 e1).mono ?_); rintro e w3 ⟨rfl, hb⟩) | (go_at_call 35; (with_reducible refine (on_any x y x1 y1 x2 y2 _ c0 c1 d0 d1 e0 e1 _ H1.out).mono ?_); rintro e w3 ⟨rfl, hb⟩) | (go_at_call 35; (with_reducible refine (on_any x1 y1 x2 y2 x y _ d0 d1 e0 e1 c0 c1 _ H2.out).mono ?_); rintro e w3 ⟨rfl, hb⟩)
              refine hK.out _ _ ?_ (fun hHeld => ?_)
              · ((try dsimp only); (refine KS.out _ ?_; (repeat (first | exact Gr.refl _ | exact hHeld.1 | (refine Gr.drew ?_) | (refine Gr.alloc ?_ _) | (refine Gr.trans ?_ (by assumption))))))
              clear hK K
              try simp only [Act.put, List.setIfInBounds_toArray, List.set_cons_zero, List.set_cons_succ]
              refine take_in (i := 13) (v := ?_) (d := (some 62)) rfl rfl ?_ ?_ ?_ ?_ ?_ ?_ ?_ ?_
              rotate_left
              · kernel_rfl
              · kernel_rfl
              · kernel_rfl
              · (intro _ _ _ hq; exact hq)
              · rfl
              · (intro _w hSw; (try dsimp only at hSw); go_simp; try with_reducible rfl)
              · assumption
              try simp only [Act.put, List.setIfInBounds_toArray, List.set_cons_zero, List.set_cons_succ]
              refine take_in (i := 14) (v := ?_) (d := (some 63)) rfl rfl ?_ ?_ ?_ ?_ ?_ ?_ ?_ ?_
              rotate_left
              · kernel_rfl
              · kernel_rfl
              · kernel_rfl
              · (intro _ _ _ hq; exact hq)
              · rfl
              · (intro _w hSw; (try dsimp only at hSw); go_simp; try with_reducible rfl)
              · assumption
              try simp only [Act.put, List.setIfInBounds_toArray, List.set_cons_zero, List.set_cons_succ]
              refine take_in (i := 15) (v := ?_) (d := (some 64)) rfl rfl ?_ ?_ ?_ ?_ ?_ ?_ ?_ ?_
              rotate_left
              · kernel_rfl
              · kernel_rfl
              · kernel_rfl
              · (intro _ _ _ hq; exact hq)
              · rfl
              · (intro _w hSw; (try dsimp only at hSw); go_simp; try with_reducible rfl)
              · assumption
              try simp only [Act.put, List.setIfInBounds_toArray, List.set_cons_zero, List.set_cons_succ]
              refine take_in (i := 16) (v := ?_) (d := (some 65)) rfl rfl ?_ ?_ ?_ ?_ ?_ ?_ ?_ ?_
              rotate_left
              · kernel_rfl
              · kernel_rfl
              · kernel_rfl
              · (intro _ _ _ hq; exact hq)
              · rfl
              · (intro _w hSw; (try dsimp only at hSw); go_simp; try with_reducible rfl)
              · assumption
              try simp only [Act.put, List.setIfInBounds_toArray, List.set_cons_zero, List.set_cons_succ]
              refine take_in (i := 17) (v := ?_) (d := (some 66)) rfl rfl ?_ ?_ ?_ ?_ ?_ ?_ ?_ ?_
              rotate_left
              · kernel_rfl
              · kernel_rfl
              · kernel_rfl
              · (intro _ _ _ hq; exact hq)
              · rfl
              · (intro _w hSw; (try dsimp only at hSw); go_simp; try with_reducible rfl)
              · assumption
              try simp only [Act.put, List.setIfInBounds_toArray, List.set_cons_zero, List.set_cons_succ]
              refine take_in (i := 18) (v := ?_) (d := (some 67)) rfl rfl ?_ ?_ ?_ ?_ ?_ ?_ ?_ ?_
              rotate_left
              · kernel_rfl
              · kernel_rfl
              · kernel_rfl
              · (intro _ _ _ hq; exact hq)
              · rfl
              · (intro _w hSw; (try dsimp only at hSw); go_simp; try with_reducible rfl)
              · assumption
              try simp only [Act.put, List.setIfInBounds_toArray, List.set_cons_zero, List.set_cons_succ]
              refine take_in (i := 19) (v := ?_) (d := (some 68)) rfl rfl ?_ ?_ ?_ ?_ ?_ ?_ ?_ ?_
              rotate_left
              · kernel_rfl
              · kernel_rfl
              · kernel_rfl
              · (intro _ _ _ hq; exact hq)
              · rfl
              · (intro _w hSw; (try dsimp only at hSw); go_simp; try with_reducible rfl)
              · assumption
              try simp only [Act.put, List.setIfInBounds_toArray, List.set_cons_zero, List.set_cons_succ]
              refine take_in (i := 20) (v := ?_) (d := (some 69)) rfl rfl ?_ ?_ ?_ ?_ ?_ ?_ ?_ ?_
              rotate_left
              · kernel_rfl
              · kernel_rfl
              · kernel_rfl
              · (intro _ _ _ hq; exact hq)
              · rfl
              · (intro _w hSw; (try dsimp only at hSw); go_simp; try with_reducible rfl)
              · assumption
              try simp only [Act.put, List.setIfInBounds_toArray, List.set_cons_zero, List.set_cons_succ]
              refine take_in (i := 21) (v := ?_) (d := (some 70)) rfl rfl ?_ ?_ ?_ ?_ ?_ ?_ ?_ ?_
              rotate_left
              · kernel_rfl
              · kernel_rfl
              · kernel_rfl
              · (intro _ _ _ hq; exact hq)
              · rfl
              · (intro _w hSw; (try dsimp only at hSw); go_simp; try with_reducible rfl)
              · assumption
              try simp only [Act.put, List.setIfInBounds_toArray, List.set_cons_zero, List.set_cons_succ]
              refine take_in (i := 22) (v := ?_) (d := (some 71)) rfl rfl ?_ ?_ ?_ ?_ ?_ ?_ ?_ ?_
              rotate_left
              · kernel_rfl
              · kernel_rfl
              · kernel_rfl
              · (intro _ _ _ hq; exact hq)
              · rfl
              · (intro _w hSw; (try dsimp only at hSw); go_simp; try with_reducible rfl)
              · assumption
              try simp only [Act.put, List.setIfInBounds_toArray, List.set_cons_zero, List.set_cons_succ]
              refine take_in (i := 23) (v := ?_) (d := (some 72)) rfl rfl ?_ ?_ ?_ ?_ ?_ ?_ ?_ ?_
              rotate_left
              · kernel_rfl
              · kernel_rfl
              · kernel_rfl
              · (intro _ _ _ hq; exact hq)
              · rfl
              · (intro _w hSw; (try dsimp only at hSw); go_simp; try with_reducible rfl)
              · assumption
              try simp only [Act.put, List.setIfInBounds_toArray, List.set_cons_zero, List.set_cons_succ]
              refine take_in (i := 24) (v := ?_) (d := (some 73)) rfl rfl ?_ ?_ ?_ ?_ ?_ ?_ ?_ ?_
              rotate_left
              · kernel_rfl
              · kernel_rfl
              · kernel_rfl
              · (intro _ _ _ hq; exact hq)
              · rfl
              · (intro _w hSw; (try dsimp only at hSw); go_simp; try with_reducible rfl)
              · assumption
              try simp only [Act.put, List.setIfInBounds_toArray, List.set_cons_zero, List.set_cons_succ]
              refine take_in (i := 25) (v := ?_) (d := (some 74)) rfl rfl ?_ ?_ ?_ ?_ ?_ ?_ ?_ ?_
              rotate_left
              · kernel_rfl
              · kernel_rfl
              · kernel_rfl
              · (intro _ _ _ hq; exact hq)
              · rfl
              · (intro _w hSw; (try dsimp only at hSw); go_simp; try with_reducible rfl)
              · assumption
              try simp only [Act.put, List.setIfInBounds_toArray, List.set_cons_zero, List.set_cons_succ]
              refine take_in (i := 26) (v := ?_) (d := (some 75)) rfl rfl ?_ ?_ ?_ ?_ ?_ ?_ ?_ ?_
              rotate_left
              · kernel_rfl
              · kernel_rfl
              · kernel_rfl
              · (intro _ _ _ hq; exact hq)
              · rfl
              · (intro _w hSw; (try dsimp only at hSw); go_simp; try with_reducible rfl)
              · assumption
              try simp only [Act.put, List.setIfInBounds_toArray, List.set_cons_zero, List.set_cons_succ]
              refine wpAnyH_ready (rs := [27]) ?_ ?_ ?_
              · kernel_rfl
              · simp
              refine (AllReadyH.cons rfl (fun K hK => ?_) AllReadyH.nil)
              go_simp
              first | (go_at_call 34; (with_reducible refine (rTurn_is _ _ _ _ _ _ _ _ HS.out c0 c1 d0 d1 e0 e1).mono ?_); rintro e w3 ⟨rfl, hb⟩) | (go_at_call 35; (with_reducible refine (on_any x y x1 y1 x2 y2 _ c0 c1 d0 d1 e0 e1 _ H1.out).mono ?_); rintro e w3 ⟨rfl, hb⟩) | (go_at_call 35; (with_reducible refine (on_any x1 y1 x2 y2 x y _ d0 d1 e0 e1 c0 c1 _ H2.out).mono ?_); rintro e w3 ⟨rfl, hb⟩)
              refine hK.out _ _ ?_ (fun hHeld => ?_)
              · ((try dsimp only); (refine KS.out _ ?_; (repeat (first | exact Gr.refl _ | exact hHeld.1 | (refine Gr.drew ?_) | (refine Gr.alloc ?_ _) | (refine Gr.trans ?_ (by assumption))))))
              clear hK K
              try simp only [Act.put, List.setIfInBounds_toArray, List.set_cons_zero, List.set_cons_succ]
              refine take_in (i := 28) (v := ?_) (d := (some 77)) rfl rfl ?_ ?_ ?_ ?_ ?_ ?_ ?_ ?_
              rotate_left
              · kernel_rfl
              · kernel_rfl
              · kernel_rfl
              · (intro _ _ _ hq; exact hq)
              · rfl
              · (intro _w hSw; (try dsimp only at hSw); go_simp; try with_reducible rfl)
              · assumption
              try simp only [Act.put, List.setIfInBounds_toArray, List.set_cons_zero, List.set_cons_succ]
              refine take_in (i := 29) (v := ?_) (d := (some 78)) rfl rfl ?_ ?_ ?_ ?_ ?_ ?_ ?_ ?_
              rotate_left
              · kernel_rfl
              · kernel_rfl
              · kernel_rfl
              · (intro _ _ _ hq; exact hq)
              · rfl
              · (intro _w hSw; (try dsimp only at hSw); go_simp; try with_reducible rfl)
              · assumption
              try simp only [Act.put, List.setIfInBounds_toArray, List.set_cons_zero, List.set_cons_succ]
              refine take_in (i := 30) (v := ?_) (d := (some 79)) rfl rfl ?_ ?_ ?_ ?_ ?_ ?_ ?_ ?_
              rotate_left
              · kernel_rfl
              · kernel_rfl
              · kernel_rfl
              · (intro _ _ _ hq; exact hq)
              · rfl
              · (intro _w hSw; (try dsimp only at hSw); go_simp; try with_reducible rfl)
              · assumption
              try simp only [Act.put, List.setIfInBounds_toArray, List.set_cons_zero, List.set_cons_succ]
              refine take_in (i := 31) (v := ?_) (d := (some 80)) rfl rfl ?_ ?_ ?_ ?_ ?_ ?_ ?_ ?_
              rotate_left
              · kernel_rfl
              · kernel_rfl
              · kernel_rfl
              · (intro _ _ _ hq; exact hq)
              · rfl
              · (intro _w hSw; (try dsimp only at hSw); go_simp; try with_reducible rfl)
              · assumption
              try simp only [Act.put, List.setIfInBounds_toArray, List.set_cons_zero, List.set_cons_succ]
              refine take_in (i := 32) (v := ?_) (d := (some 81)) rfl rfl ?_ ?_ ?_ ?_ ?_ ?_ ?_ ?_
              rotate_left
              · kernel_rfl
              · kernel_rfl
              · kernel_rfl
              · (intro _ _ _ hq; exact hq)
              · rfl
              · (intro _w hSw; (try dsimp only at hSw); go_simp; try with_reducible rfl)
              · assumption
              try simp only [Act.put, List.setIfInBounds_toArray, List.set_cons_zero, List.set_cons_succ]
              refine take_in (i := 33) (v := ?_) (d := (some 82)) rfl rfl ?_ ?_ ?_ ?_ ?_ ?_ ?_ ?_
              rotate_left
              · kernel_rfl
              · kernel_rfl
              · kernel_rfl
              · (intro _ _ _ hq; exact hq)
              · rfl
              · (intro _w hSw; (try dsimp only at hSw); go_simp; try with_reducible rfl)
              · assumption
              try simp only [Act.put, List.setIfInBounds_toArray, List.set_cons_zero, List.set_cons_succ]
              refine take_in (i := 34) (v := ?_) (d := (some 83)) rfl rfl ?_ ?_ ?_ ?_ ?_ ?_ ?_ ?_
              rotate_left
              · kernel_rfl
              · kernel_rfl
              · kernel_rfl
              · (intro _ _ _ hq; exact hq)
              · rfl
              · (intro _w hSw; (try dsimp only at hSw); go_simp; try with_reducible rfl)
              · assumption
              try simp only [Act.put, List.setIfInBounds_toArray, List.set_cons_zero, List.set_cons_succ]
              refine take_in (i := 35) (v := ?_) (d := (some 84)) rfl rfl ?_ ?_ ?_ ?_ ?_ ?_ ?_ ?_
              rotate_left
              · kernel_rfl
              · kernel_rfl
              · kernel_rfl
              · (intro _ _ _ hq; exact hq)
              · rfl
              · (intro _w hSw; (try dsimp only at hSw); go_simp; try with_reducible rfl)
              · assumption
              try simp only [Act.put, List.setIfInBounds_toArray, List.set_cons_zero, List.set_cons_succ]
              refine take_in (i := 36) (v := ?_) (d := (some 85)) rfl rfl ?_ ?_ ?_ ?_ ?_ ?_ ?_ ?_
              rotate_left
              · kernel_rfl
              · kernel_rfl
              · kernel_rfl
              · (intro _ _ _ hq; exact hq)
              · rfl
              · (intro _w hSw; (try dsimp only at hSw); go_simp; try with_reducible rfl)
              · assumption
              try simp only [Act.put, List.setIfInBounds_toArray, List.set_cons_zero, List.set_cons_succ]
              refine take_in (i := 37) (v := ?_) (d := (some 86)) rfl rfl ?_ ?_ ?_ ?_ ?_ ?_ ?_ ?_
              rotate_left
              · kernel_rfl
              · kernel_rfl
              · kernel_rfl
              · (intro _ _ _ hq; exact hq)
              · rfl
              · (intro _w hSw; (try dsimp only at hSw); go_simp; try with_reducible rfl)
              · assumption
              try simp only [Act.put, List.setIfInBounds_toArray, List.set_cons_zero, List.set_cons_succ]
              refine take_in (i := 38) (v := ?_) (d := (some 87)) rfl rfl ?_ ?_ ?_ ?_ ?_ ?_ ?_ ?_
              rotate_left
              · kernel_rfl
              · kernel_rfl
              · kernel_rfl
              · (intro _ _ _ hq; exact hq)
              · rfl
              · (intro _w hSw; (try dsimp only at hSw); go_simp; try with_reducible rfl)
              · assumption
              try simp only [Act.put, List.setIfInBounds_toArray, List.set_cons_zero, List.set_cons_succ]
              refine take_in (i := 39) (v := ?_) (d := (some 88)) rfl rfl ?_ ?_ ?_ ?_ ?_ ?_ ?_ ?_
              rotate_left
              · kernel_rfl
              · kernel_rfl
              · kernel_rfl
              · (intro _ _ _ hq; exact hq)
              · rfl
              · (intro _w hSw; (try dsimp only at hSw); go_simp; try with_reducible rfl)
              · assumption
              try simp only [Act.put, List.setIfInBounds_toArray, List.set_cons_zero, List.set_cons_succ]
              refine take_in (i := 40) (v := ?_) (d := (some 89)) rfl rfl ?_ ?_ ?_ ?_ ?_ ?_ ?_ ?_
              rotate_left
              · kernel_rfl
              · kernel_rfl
              · kernel_rfl
              · (intro _ _ _ hq; exact hq)
              · rfl
              · (intro _w hSw; (try dsimp only at hSw); go_simp; try with_reducible rfl)
              · assumption
              try simp only [Act.put, List.setIfInBounds_toArray, List.set_cons_zero, List.set_cons_succ]
              refine wpAnyH_ready (rs := [41]) ?_ ?_ ?_
              · kernel_rfl
              · simp
              refine (AllReadyH.cons rfl (fun K hK => ?_) AllReadyH.nil)
              go_simp
              first | (go_at_call 34; (with_reducible refine (rTurn_is _ _ _ _ _ _ _ _ HS.out c0 c1 d0 d1 e0 e1).mono ?_); rintro e w3 ⟨rfl, hb⟩) | (go_at_call 35; (with_reducible refine (on_any x y x1 y1 x2 y2 _ c0 c1 d0 d1 e0 e1 _ H1.out).mono ?_); rintro e w3 ⟨rfl, hb⟩) | (go_at_call 35; (with_reducible refine (on_any x1 y1 x2 y2 x y _ d0 d1 e0 e1 c0 c1 _ H2.out).mono ?_); rintro e w3 ⟨rfl, hb⟩)
              refine hK.out _ _ ?_ (fun hHeld => ?_)
              · ((try dsimp only); (refine KS.out _ ?_; (repeat (first | exact Gr.refl _ | exact hHeld.1 | (refine Gr.drew ?_) | (refine Gr.alloc ?_ _) | (refine Gr.trans ?_ (by assumption))))))
              clear hK K
              try simp only [Act.put, List.setIfInBounds_toArray, List.set_cons_zero, List.set_cons_succ]
              refine take_in (i := 42) (v := ?_) (d := (some 91)) rfl rfl ?_ ?_ ?_ ?_ ?_ ?_ ?_ ?_
              rotate_left
              · kernel_rfl
              · kernel_rfl
              · kernel_rfl
              · (intro _ _ _ hq; exact hq)
              · rfl
              · (intro _w hSw; (try dsimp only at hSw); go_simp; try with_reducible rfl)
              · assumption
              try simp only [Act.put, List.setIfInBounds_toArray, List.set_cons_zero, List.set_cons_succ]
              refine take_in (i := 43) (v := ?_) (d := (some 92)) rfl rfl ?_ ?_ ?_ ?_ ?_ ?_ ?_ ?_
              rotate_left
              · kernel_rfl
              · kernel_rfl
              · kernel_rfl
              · (intro _ _ _ hq; exact hq)
              · rfl
              · (intro _w hSw; (try dsimp only at hSw); go_simp; try with_reducible rfl)
              · assumption
              try simp only [Act.put, List.setIfInBounds_toArray, List.set_cons_zero, List.set_cons_succ]
              refine wpAnyH_done ?_ ?_ _
              · kernel_rfl
              rotate_left
              all_goals
                obtain ⟨hB, -⟩ := hHeld
                go_wp2_with fail
                go_loopw [8] (fun jv w3 => ∃ j : Nat, k + 2 ≤ j ∧ j ≤ n + 1 ∧ jv = .int .i64 j ∧ Hid (NoCross ps k j) ∧ Gr wo w3) (fun jv _ => n + 1 - (intOf jv).toNat)
                case atStart => exact ⟨k + 2, by omega, by omega, by go_num, Lib.hid hno.out.start, hB⟩
                case round =>
                  obtain ⟨j, hkj, hjn, rfl, hnj, hgw⟩ := hrel
                  by_cases hj : j < n
                  · obtain ⟨mj, hmj⟩ : ∃ m, (j + 1) % n = m := ⟨_, rfl⟩
                    have hmjn : mj < n := by rw [← hmj]; exact mod_next hj
                    have XJ := Lib.hid (fun W => next_is j n mj W hmj hj (by omega))
                    by_cases hs : k = 0 ∧ j + 1 = n
                    · have e : ((mj : Int) != (k : Int)) = false := by rw [mod_is hj, if_pos hs.2] at hmj; simp; omega
                      have HSS := Lib.hid hs
                      have KS : Hid (∀ W', Gr wr W' → (Gr wr W' ∧ True)) := Lib.hid (fun W' h => ⟨h, trivial⟩)
                      clear hmj hs
                      go_wp2_with fail
                      refine wp_region_held_drew (S := (fun W' => Gr wr W' ∧ True)) ?_ ?_ (fun hHeld => ?_)
                      · kernel_rfl
                      · ((try dsimp only); (refine KS.out _ ?_; (repeat (first | exact Gr.refl _ | exact hHeld.1 | (refine Gr.drew ?_) | (refine Gr.alloc ?_ _) | (refine Gr.trans ?_ (by assumption))))))
                      refine take_in (i := 0) (v := ?_) (d := (some 100)) rfl rfl ?_ ?_ ?_ ?_ ?_ ?_ ?_ ?_
                      rotate_left
                      · kernel_rfl
                      · kernel_rfl
                      · kernel_rfl
                      · (intro _ _ _ hq; exact hq)
                      · rfl
                      · (intro _w hSw; (try dsimp only at hSw); go_simp; try with_reducible rfl)
                      · assumption
                      try simp only [Act.put, List.setIfInBounds_toArray, List.set_cons_zero, List.set_cons_succ]
                      refine take_in (i := 1) (v := ?_) (d := (some 101)) rfl rfl ?_ ?_ ?_ ?_ ?_ ?_ ?_ ?_
                      rotate_left
                      · kernel_rfl
                      · kernel_rfl
                      · kernel_rfl
                      · (intro _ _ _ hq; exact hq)
                      · rfl
                      · (intro _w hSw; (try dsimp only at hSw); go_simp; try with_reducible rfl)
                      · assumption
                      try simp only [Act.put, List.setIfInBounds_toArray, List.set_cons_zero, List.set_cons_succ]
                      refine take_in (i := 3) (v := ?_) (d := (some 103)) rfl rfl ?_ ?_ ?_ ?_ ?_ ?_ ?_ ?_
                      rotate_left
                      · kernel_rfl
                      · kernel_rfl
                      · kernel_rfl
                      · (intro _ _ _ hq; exact hq)
                      · rfl
                      · (intro _w hSw; (try dsimp only at hSw); go_simp; try with_reducible rfl)
                      · assumption
                      try simp only [Act.put, List.setIfInBounds_toArray, List.set_cons_zero, List.set_cons_succ]
                      refine wpAnyH_ready (rs := [2]) ?_ ?_ ?_
                      · kernel_rfl
                      · simp
                      refine (AllReadyH.cons rfl (fun K hK => ?_) AllReadyH.nil)
                      go_simp
                      first | (go_at_call 33; (with_reducible refine (XJ.out _).mono ?_); rintro e w4 ⟨rfl, rfl⟩)
                      refine hK.out _ _ ?_ (fun hHeld => ?_)
                      · ((try dsimp only); (refine KS.out _ ?_; (repeat (first | exact Gr.refl _ | exact hHeld.1 | (refine Gr.drew ?_) | (refine Gr.alloc ?_ _) | (refine Gr.trans ?_ (by assumption))))))
                      clear hK K
                      try simp only [Act.put, List.setIfInBounds_toArray, List.set_cons_zero, List.set_cons_succ]
                      refine take_in (i := 4) (v := ?_) (d := (some 104)) rfl rfl ?_ ?_ ?_ ?_ ?_ ?_ ?_ ?_
                      rotate_left
                      · kernel_rfl
                      · kernel_rfl
                      · kernel_rfl
                      · (intro _ _ _ hq; exact hq)
                      · rfl
                      · (intro _w hSw; (try dsimp only at hSw); go_simp; try with_reducible rfl)
                      · assumption
                      try simp only [Act.put, List.setIfInBounds_toArray, List.set_cons_zero, List.set_cons_succ]
                      refine take_in (i := 5) (v := ?_) (d := (some 105)) rfl rfl ?_ ?_ ?_ ?_ ?_ ?_ ?_ ?_
                      rotate_left
                      · kernel_rfl
                      · kernel_rfl
                      · kernel_rfl
                      · (intro _ _ _ hq; exact hq)
                      · rfl
                      · (intro _w hSw; (try dsimp only at hSw); go_simp; try with_reducible rfl)
                      · assumption
                      try simp only [Act.put, List.setIfInBounds_toArray, List.set_cons_zero, List.set_cons_succ]
                      refine take_un (i := 6) (d := (some 106)) rfl rfl ?_ ?_ ?_ ?_ ?_ ?_ ?_
                      · kernel_rfl
                      · kernel_rfl
                      · kernel_rfl
                      · (intro _ _ _ hq; exact hq)
                      · rfl
                      · assumption
                      try simp only [Act.put, List.setIfInBounds_toArray, List.set_cons_zero, List.set_cons_succ]
                      refine take_un (i := 7) (d := (some 107)) rfl rfl ?_ ?_ ?_ ?_ ?_ ?_ ?_
                      · kernel_rfl
                      · kernel_rfl
                      · kernel_rfl
                      · (intro _ _ _ hq; exact hq)
                      · rfl
                      · assumption
                      try simp only [Act.put, List.setIfInBounds_toArray, List.set_cons_zero, List.set_cons_succ]
                      refine take_un (i := 8) (d := (some 108)) rfl rfl ?_ ?_ ?_ ?_ ?_ ?_ ?_
                      · kernel_rfl
                      · kernel_rfl
                      · kernel_rfl
                      · (intro _ _ _ hq; exact hq)
                      · rfl
                      · assumption
                      try simp only [Act.put, List.setIfInBounds_toArray, List.set_cons_zero, List.set_cons_succ]
                      refine take_un (i := 9) (d := (some 109)) rfl rfl ?_ ?_ ?_ ?_ ?_ ?_ ?_
                      · kernel_rfl
                      · kernel_rfl
                      · kernel_rfl
                      · (intro _ _ _ hq; exact hq)
                      · rfl
                      · assumption
                      try simp only [Act.put, List.setIfInBounds_toArray, List.set_cons_zero, List.set_cons_succ]
                      refine take_un (i := 10) (d := (some 110)) rfl rfl ?_ ?_ ?_ ?_ ?_ ?_ ?_
                      · kernel_rfl
                      · kernel_rfl
                      · kernel_rfl
                      · (intro _ _ _ hq; exact hq)
                      · rfl
                      · assumption
                      try simp only [Act.put, List.setIfInBounds_toArray, List.set_cons_zero, List.set_cons_succ]
                      refine take_un (i := 11) (d := (some 111)) rfl rfl ?_ ?_ ?_ ?_ ?_ ?_ ?_
                      · kernel_rfl
                      · kernel_rfl
                      · kernel_rfl
                      · (intro _ _ _ hq; exact hq)
                      · rfl
                      · assumption
                      try simp only [Act.put, List.setIfInBounds_toArray, List.set_cons_zero, List.set_cons_succ]
                      refine take_un (i := 12) (d := (some 112)) rfl rfl ?_ ?_ ?_ ?_ ?_ ?_ ?_
                      · kernel_rfl
                      · kernel_rfl
                      · kernel_rfl
                      · (intro _ _ _ hq; exact hq)
                      · rfl
                      · assumption
                      try simp only [Act.put, List.setIfInBounds_toArray, List.set_cons_zero, List.set_cons_succ]
                      refine take_un (i := 13) (d := (some 113)) rfl rfl ?_ ?_ ?_ ?_ ?_ ?_ ?_
                      · kernel_rfl
                      · kernel_rfl
                      · kernel_rfl
                      · (intro _ _ _ hq; exact hq)
                      · rfl
                      · assumption
                      try simp only [Act.put, List.setIfInBounds_toArray, List.set_cons_zero, List.set_cons_succ]
                      refine take_un (i := 14) (d := (some 114)) rfl rfl ?_ ?_ ?_ ?_ ?_ ?_ ?_
                      · kernel_rfl
                      · kernel_rfl
                      · kernel_rfl
                      · (intro _ _ _ hq; exact hq)
                      · rfl
                      · assumption
                      try simp only [Act.put, List.setIfInBounds_toArray, List.set_cons_zero, List.set_cons_succ]
                      refine take_un (i := 15) (d := (some 115)) rfl rfl ?_ ?_ ?_ ?_ ?_ ?_ ?_
                      · kernel_rfl
                      · kernel_rfl
                      · kernel_rfl
                      · (intro _ _ _ hq; exact hq)
                      · rfl
                      · assumption
                      try simp only [Act.put, List.setIfInBounds_toArray, List.set_cons_zero, List.set_cons_succ]
                      refine take_un (i := 16) (d := (some 116)) rfl rfl ?_ ?_ ?_ ?_ ?_ ?_ ?_
                      · kernel_rfl
                      · kernel_rfl
                      · kernel_rfl
                      · (intro _ _ _ hq; exact hq)
                      · rfl
                      · assumption
                      try simp only [Act.put, List.setIfInBounds_toArray, List.set_cons_zero, List.set_cons_succ]
                      refine take_un (i := 17) (d := (some 117)) rfl rfl ?_ ?_ ?_ ?_ ?_ ?_ ?_
                      · kernel_rfl
                      · kernel_rfl
                      · kernel_rfl
                      · (intro _ _ _ hq; exact hq)
                      · rfl
                      · assumption
                      try simp only [Act.put, List.setIfInBounds_toArray, List.set_cons_zero, List.set_cons_succ]
                      refine take_un (i := 18) (d := (some 118)) rfl rfl ?_ ?_ ?_ ?_ ?_ ?_ ?_
                      · kernel_rfl
                      · kernel_rfl
                      · kernel_rfl
                      · (intro _ _ _ hq; exact hq)
                      · rfl
                      · assumption
                      try simp only [Act.put, List.setIfInBounds_toArray, List.set_cons_zero, List.set_cons_succ]
                      refine take_un (i := 19) (d := (some 119)) rfl rfl ?_ ?_ ?_ ?_ ?_ ?_ ?_
                      · kernel_rfl
                      · kernel_rfl
                      · kernel_rfl
                      · (intro _ _ _ hq; exact hq)
                      · rfl
                      · assumption
                      try simp only [Act.put, List.setIfInBounds_toArray, List.set_cons_zero, List.set_cons_succ]
                      refine take_un (i := 20) (d := (some 120)) rfl rfl ?_ ?_ ?_ ?_ ?_ ?_ ?_
                      · kernel_rfl
                      · kernel_rfl
                      · kernel_rfl
                      · (intro _ _ _ hq; exact hq)
                      · rfl
                      · assumption
                      try simp only [Act.put, List.setIfInBounds_toArray, List.set_cons_zero, List.set_cons_succ]
                      refine take_un (i := 21) (d := (some 121)) rfl rfl ?_ ?_ ?_ ?_ ?_ ?_ ?_
                      · kernel_rfl
                      · kernel_rfl
                      · kernel_rfl
                      · (intro _ _ _ hq; exact hq)
                      · rfl
                      · assumption
                      try simp only [Act.put, List.setIfInBounds_toArray, List.set_cons_zero, List.set_cons_succ]
                      refine take_un (i := 22) (d := (some 122)) rfl rfl ?_ ?_ ?_ ?_ ?_ ?_ ?_
                      · kernel_rfl
                      · kernel_rfl
                      · kernel_rfl
                      · (intro _ _ _ hq; exact hq)
                      · rfl
                      · assumption
                      try simp only [Act.put, List.setIfInBounds_toArray, List.set_cons_zero, List.set_cons_succ]
                      refine take_un (i := 23) (d := (some 123)) rfl rfl ?_ ?_ ?_ ?_ ?_ ?_ ?_
                      · kernel_rfl
                      · kernel_rfl
                      · kernel_rfl
                      · (intro _ _ _ hq; exact hq)
                      · rfl
                      · assumption
                      try simp only [Act.put, List.setIfInBounds_toArray, List.set_cons_zero, List.set_cons_succ]
                      refine take_un (i := 24) (d := (some 124)) rfl rfl ?_ ?_ ?_ ?_ ?_ ?_ ?_
                      · kernel_rfl
                      · kernel_rfl
                      · kernel_rfl
                      · (intro _ _ _ hq; exact hq)
                      · rfl
                      · assumption
                      try simp only [Act.put, List.setIfInBounds_toArray, List.set_cons_zero, List.set_cons_succ]
                      refine take_in (i := 25) (v := ?_) (d := (some 125)) rfl rfl ?_ ?_ ?_ ?_ ?_ ?_ ?_ ?_
                      rotate_left
                      · kernel_rfl
                      · kernel_rfl
                      · kernel_rfl
                      · (intro _ _ _ hq; exact hq)
                      · rfl
                      · (intro _w hSw; (try dsimp only at hSw); go_simp; try with_reducible rfl)
                      · assumption
                      try simp only [Act.put, List.setIfInBounds_toArray, List.set_cons_zero, List.set_cons_succ]
                      refine wpAnyH_done ?_ ?_ _
                      · kernel_rfl
                      rotate_left
                      all_goals
                        obtain ⟨hB2, -⟩ := hHeld
                        go_wp2_with fail
                        go_roundw
                        case rel => exact ⟨j + 1, by omega, by omega, by go_num, Lib.hid (hnj.out.step (fun _ _ h => absurd ⟨HSS.out.1, by rw [HN.out]; exact HSS.out.2⟩ h)), hgw.trans hB2⟩
                        case measure => simp [intOf]; omega
                    · have e : ((mj : Int) != (k : Int)) = true := by rw [mod_is hj] at hmj; split at hmj <;> simp <;> omega
                      have HSS := Lib.hid hs
                      have r0 := hgw.keep p0
                      have r1 := hgw.keep p1
                      have s0 := hgw.keep q0
                      have s1 := hgw.keep q1
                      obtain ⟨b2, off2, e2, t0, t1⟩ := Pts_at (HP.out.keep (hg.trans hgw)) (k := j) (by have := HN.out; omega)
                      obtain ⟨rfl, rfl⟩ : b = b2 ∧ off = off2 := by simpa using e2
                      obtain ⟨b2, off2, e3, v0, v1⟩ := Pts_at (HP.out.keep (hg.trans hgw)) (k := mj) (by have := HN.out; omega)
                      obtain ⟨rfl, rfl⟩ : b = b2 ∧ off = off2 := by simpa using e3
                      obtain ⟨f0, f1⟩ := HV.out j
                      obtain ⟨g0, g1⟩ := HV.out mj
                      have HEJ : Hid (ed ps j = (ps.getD j (0, 0), ps.getD mj (0, 0))) := Lib.hid (by unfold ed; rw [HN.out, hmj])
                      generalize ps.getD j (0, 0) = u at t0 t1 f0 f1 HEJ
                      generalize ps.getD mj (0, 0) = v at v0 v1 g0 g1 HEJ
                      obtain ⟨a, b'⟩ := u
                      obtain ⟨c', d'⟩ := v
                      dsimp only at t0 t1 v0 v1 f0 f1 g0 g1
                      clear e2 e3 hmj hs
                      have i0 : (0 : Int) ≤ (mj : Int) := by omega
                      have i1 : (mj : Int) < (n : Int) := by omega
                      have KS : Hid (∀ W', Gr wr W' → (Gr wr W' ∧ W'.cell? ⟨b, off + k * 2, none⟩ = some (.int .i64 x) ∧ W'.cell? ⟨b, off + k * 2 + 1, none⟩ = some (.int .i64 y) ∧ W'.cell? ⟨b, off + m1 * 2, none⟩ = some (.int .i64 x1) ∧ W'.cell? ⟨b, off + m1 * 2 + 1, none⟩ = some (.int .i64 y1) ∧ W'.cell? ⟨b, off + j * 2, none⟩ = some (.int .i64 a) ∧ W'.cell? ⟨b, off + j * 2 + 1, none⟩ = some (.int .i64 b') ∧ W'.cell? ⟨b, off + mj * 2, none⟩ = some (.int .i64 c') ∧ W'.cell? ⟨b, off + mj * 2 + 1, none⟩ = some (.int .i64 d'))) := Lib.hid (fun W' h => ⟨h, h.keep r0, h.keep r1, h.keep s0, h.keep s1, h.keep t0, h.keep t1, h.keep v0, h.keep v1⟩)
                      have HTT : Hid (touchE (ed ps k) (ed ps j) = meetL x y x1 y1 a b' c' d') := Lib.hid (by rw [HE.out, HEJ.out, meet_touch]; rfl)
                      rcases ht : meetL x y x1 y1 a b' c' d' with _ | _
                      · have HT := Lib.hid ht
                        clear ht
                        go_wp2_with fail
                        refine wp_region_held_drew (S := (fun W' => Gr wr W' ∧ W'.cell? ⟨b, off + k * 2, none⟩ = some (.int .i64 x) ∧ W'.cell? ⟨b, off + k * 2 + 1, none⟩ = some (.int .i64 y) ∧ W'.cell? ⟨b, off + m1 * 2, none⟩ = some (.int .i64 x1) ∧ W'.cell? ⟨b, off + m1 * 2 + 1, none⟩ = some (.int .i64 y1) ∧ W'.cell? ⟨b, off + j * 2, none⟩ = some (.int .i64 a) ∧ W'.cell? ⟨b, off + j * 2 + 1, none⟩ = some (.int .i64 b') ∧ W'.cell? ⟨b, off + mj * 2, none⟩ = some (.int .i64 c') ∧ W'.cell? ⟨b, off + mj * 2 + 1, none⟩ = some (.int .i64 d'))) ?_ ?_ (fun hHeld => ?_)
                        · kernel_rfl
                        · ((try dsimp only); (refine KS.out _ ?_; (repeat (first | exact Gr.refl _ | exact hHeld.1 | (refine Gr.drew ?_) | (refine Gr.alloc ?_ _) | (refine Gr.trans ?_ (by assumption))))))
                        refine take_in (i := 0) (v := ?_) (d := (some 100)) rfl rfl ?_ ?_ ?_ ?_ ?_ ?_ ?_ ?_
                        rotate_left
                        · kernel_rfl
                        · kernel_rfl
                        · kernel_rfl
                        · (intro _ _ _ hq; exact hq)
                        · rfl
                        · (intro _w hSw; (try dsimp only at hSw); go_simp; try with_reducible rfl)
                        · assumption
                        try simp only [Act.put, List.setIfInBounds_toArray, List.set_cons_zero, List.set_cons_succ]
                        refine take_in (i := 1) (v := ?_) (d := (some 101)) rfl rfl ?_ ?_ ?_ ?_ ?_ ?_ ?_ ?_
                        rotate_left
                        · kernel_rfl
                        · kernel_rfl
                        · kernel_rfl
                        · (intro _ _ _ hq; exact hq)
                        · rfl
                        · (intro _w hSw; (try dsimp only at hSw); go_simp; try with_reducible rfl)
                        · assumption
                        try simp only [Act.put, List.setIfInBounds_toArray, List.set_cons_zero, List.set_cons_succ]
                        refine take_in (i := 3) (v := ?_) (d := (some 103)) rfl rfl ?_ ?_ ?_ ?_ ?_ ?_ ?_ ?_
                        rotate_left
                        · kernel_rfl
                        · kernel_rfl
                        · kernel_rfl
                        · (intro _ _ _ hq; exact hq)
                        · rfl
                        · (intro _w hSw; (try dsimp only at hSw); go_simp; try with_reducible rfl)
                        · assumption
                        try simp only [Act.put, List.setIfInBounds_toArray, List.set_cons_zero, List.set_cons_succ]
                        refine wpAnyH_ready (rs := [2]) ?_ ?_ ?_
                        · kernel_rfl
                        · simp
                        refine (AllReadyH.cons rfl (fun K hK => ?_) AllReadyH.nil)
                        go_simp
                        first | (go_at_call 33; (with_reducible refine (XJ.out _).mono ?_); rintro e w4 ⟨rfl, rfl⟩) | (go_at_call 36; (with_reducible refine (meet_any x y x1 y1 a b' c' d' _ c0 c1 d0 d1 f0 f1 g0 g1 _ HT.out).mono ?_); rintro e w4 ⟨rfl, hb⟩)
                        refine hK.out _ _ ?_ (fun hHeld => ?_)
                        · ((try dsimp only); (refine KS.out _ ?_; (repeat (first | exact Gr.refl _ | exact hHeld.1 | (refine Gr.drew ?_) | (refine Gr.alloc ?_ _) | (refine Gr.trans ?_ (by assumption))))))
                        clear hK K
                        try simp only [Act.put, List.setIfInBounds_toArray, List.set_cons_zero, List.set_cons_succ]
                        refine take_in (i := 4) (v := ?_) (d := (some 104)) rfl rfl ?_ ?_ ?_ ?_ ?_ ?_ ?_ ?_
                        rotate_left
                        · kernel_rfl
                        · kernel_rfl
                        · kernel_rfl
                        · (intro _ _ _ hq; exact hq)
                        · rfl
                        · (intro _w hSw; (try dsimp only at hSw); go_simp; try with_reducible rfl)
                        · assumption
                        try simp only [Act.put, List.setIfInBounds_toArray, List.set_cons_zero, List.set_cons_succ]
                        refine take_in (i := 5) (v := ?_) (d := (some 105)) rfl rfl ?_ ?_ ?_ ?_ ?_ ?_ ?_ ?_
                        rotate_left
                        · kernel_rfl
                        · kernel_rfl
                        · kernel_rfl
                        · (intro _ _ _ hq; exact hq)
                        · rfl
                        · (intro _w hSw; (try dsimp only at hSw); go_simp; try with_reducible rfl)
                        · assumption
                        try simp only [Act.put, List.setIfInBounds_toArray, List.set_cons_zero, List.set_cons_succ]
                        refine take_in (i := 6) (v := ?_) (d := (some 106)) rfl rfl ?_ ?_ ?_ ?_ ?_ ?_ ?_ ?_
                        rotate_left
                        · kernel_rfl
                        · kernel_rfl
                        · kernel_rfl
                        · (intro _ _ _ hq; exact hq)
                        · rfl
                        · (intro _w hSw; (try dsimp only at hSw); go_simp; try with_reducible rfl)
                        · assumption
                        try simp only [Act.put, List.setIfInBounds_toArray, List.set_cons_zero, List.set_cons_succ]
                        refine take_in (i := 7) (v := ?_) (d := (some 107)) rfl rfl ?_ ?_ ?_ ?_ ?_ ?_ ?_ ?_
                        rotate_left
                        · kernel_rfl
                        · kernel_rfl
                        · kernel_rfl
                        · (intro _ _ _ hq; exact hq)
                        · rfl
                        · (intro _w hSw; (try dsimp only at hSw); go_simp; try with_reducible rfl)
                        · assumption
                        try simp only [Act.put, List.setIfInBounds_toArray, List.set_cons_zero, List.set_cons_succ]
                        refine take_in (i := 8) (v := ?_) (d := (some 108)) rfl rfl ?_ ?_ ?_ ?_ ?_ ?_ ?_ ?_
                        rotate_left
                        · kernel_rfl
                        · kernel_rfl
                        · kernel_rfl
                        · (intro _ _ _ hq; exact hq)
                        · rfl
                        · (intro _w hSw; (try dsimp only at hSw); go_simp; try with_reducible rfl)
                        · assumption
                        try simp only [Act.put, List.setIfInBounds_toArray, List.set_cons_zero, List.set_cons_succ]
                        refine take_in (i := 9) (v := ?_) (d := (some 109)) rfl rfl ?_ ?_ ?_ ?_ ?_ ?_ ?_ ?_
                        rotate_left
                        · kernel_rfl
                        · kernel_rfl
                        · kernel_rfl
                        · (intro _ _ _ hq; exact hq)
                        · rfl
                        · (intro _w hSw; (try dsimp only at hSw); go_simp; try with_reducible rfl)
                        · assumption
                        try simp only [Act.put, List.setIfInBounds_toArray, List.set_cons_zero, List.set_cons_succ]
                        refine take_in (i := 10) (v := ?_) (d := (some 110)) rfl rfl ?_ ?_ ?_ ?_ ?_ ?_ ?_ ?_
                        rotate_left
                        · kernel_rfl
                        · kernel_rfl
                        · kernel_rfl
                        · (intro _ _ _ hq; exact hq)
                        · rfl
                        · (intro _w hSw; (try dsimp only at hSw); go_simp; try with_reducible rfl)
                        · assumption
                        try simp only [Act.put, List.setIfInBounds_toArray, List.set_cons_zero, List.set_cons_succ]
                        refine take_in (i := 11) (v := ?_) (d := (some 111)) rfl rfl ?_ ?_ ?_ ?_ ?_ ?_ ?_ ?_
                        rotate_left
                        · kernel_rfl
                        · kernel_rfl
                        · kernel_rfl
                        · (intro _ _ _ hq; exact hq)
                        · rfl
                        · (intro _w hSw; (try dsimp only at hSw); go_simp; try with_reducible rfl)
                        · assumption
                        try simp only [Act.put, List.setIfInBounds_toArray, List.set_cons_zero, List.set_cons_succ]
                        refine take_in (i := 12) (v := ?_) (d := (some 112)) rfl rfl ?_ ?_ ?_ ?_ ?_ ?_ ?_ ?_
                        rotate_left
                        · kernel_rfl
                        · kernel_rfl
                        · kernel_rfl
                        · (intro _ _ _ hq; exact hq)
                        · rfl
                        · (intro _w hSw; (try dsimp only at hSw); go_simp; try with_reducible rfl)
                        · assumption
                        try simp only [Act.put, List.setIfInBounds_toArray, List.set_cons_zero, List.set_cons_succ]
                        refine take_in (i := 13) (v := ?_) (d := (some 113)) rfl rfl ?_ ?_ ?_ ?_ ?_ ?_ ?_ ?_
                        rotate_left
                        · kernel_rfl
                        · kernel_rfl
                        · kernel_rfl
                        · (intro _ _ _ hq; exact hq)
                        · rfl
                        · (intro _w hSw; (try dsimp only at hSw); go_simp; try with_reducible rfl)
                        · assumption
                        try simp only [Act.put, List.setIfInBounds_toArray, List.set_cons_zero, List.set_cons_succ]
                        refine take_in (i := 14) (v := ?_) (d := (some 114)) rfl rfl ?_ ?_ ?_ ?_ ?_ ?_ ?_ ?_
                        rotate_left
                        · kernel_rfl
                        · kernel_rfl
                        · kernel_rfl
                        · (intro _ _ _ hq; exact hq)
                        · rfl
                        · (intro _w hSw; (try dsimp only at hSw); go_simp; try with_reducible rfl)
                        · assumption
                        try simp only [Act.put, List.setIfInBounds_toArray, List.set_cons_zero, List.set_cons_succ]
                        refine take_in (i := 15) (v := ?_) (d := (some 115)) rfl rfl ?_ ?_ ?_ ?_ ?_ ?_ ?_ ?_
                        rotate_left
                        · kernel_rfl
                        · kernel_rfl
                        · kernel_rfl
                        · (intro _ _ _ hq; exact hq)
                        · rfl
                        · (intro _w hSw; (try dsimp only at hSw); go_simp; try with_reducible rfl)
                        · assumption
                        try simp only [Act.put, List.setIfInBounds_toArray, List.set_cons_zero, List.set_cons_succ]
                        refine take_in (i := 16) (v := ?_) (d := (some 116)) rfl rfl ?_ ?_ ?_ ?_ ?_ ?_ ?_ ?_
                        rotate_left
                        · kernel_rfl
                        · kernel_rfl
                        · kernel_rfl
                        · (intro _ _ _ hq; exact hq)
                        · rfl
                        · (intro _w hSw; (try dsimp only at hSw); go_simp; try with_reducible rfl)
                        · assumption
                        try simp only [Act.put, List.setIfInBounds_toArray, List.set_cons_zero, List.set_cons_succ]
                        refine take_in (i := 17) (v := ?_) (d := (some 117)) rfl rfl ?_ ?_ ?_ ?_ ?_ ?_ ?_ ?_
                        rotate_left
                        · kernel_rfl
                        · kernel_rfl
                        · kernel_rfl
                        · (intro _ _ _ hq; exact hq)
                        · rfl
                        · (intro _w hSw; (try dsimp only at hSw); go_simp; try with_reducible rfl)
                        · assumption
                        try simp only [Act.put, List.setIfInBounds_toArray, List.set_cons_zero, List.set_cons_succ]
                        refine take_in (i := 18) (v := ?_) (d := (some 118)) rfl rfl ?_ ?_ ?_ ?_ ?_ ?_ ?_ ?_
                        rotate_left
                        · kernel_rfl
                        · kernel_rfl
                        · kernel_rfl
                        · (intro _ _ _ hq; exact hq)
                        · rfl
                        · (intro _w hSw; (try dsimp only at hSw); go_simp; try with_reducible rfl)
                        · assumption
                        try simp only [Act.put, List.setIfInBounds_toArray, List.set_cons_zero, List.set_cons_succ]
                        refine take_in (i := 19) (v := ?_) (d := (some 119)) rfl rfl ?_ ?_ ?_ ?_ ?_ ?_ ?_ ?_
                        rotate_left
                        · kernel_rfl
                        · kernel_rfl
                        · kernel_rfl
                        · (intro _ _ _ hq; exact hq)
                        · rfl
                        · (intro _w hSw; (try dsimp only at hSw); go_simp; try with_reducible rfl)
                        · assumption
                        try simp only [Act.put, List.setIfInBounds_toArray, List.set_cons_zero, List.set_cons_succ]
                        refine take_in (i := 20) (v := ?_) (d := (some 120)) rfl rfl ?_ ?_ ?_ ?_ ?_ ?_ ?_ ?_
                        rotate_left
                        · kernel_rfl
                        · kernel_rfl
                        · kernel_rfl
                        · (intro _ _ _ hq; exact hq)
                        · rfl
                        · (intro _w hSw; (try dsimp only at hSw); go_simp; try with_reducible rfl)
                        · assumption
                        try simp only [Act.put, List.setIfInBounds_toArray, List.set_cons_zero, List.set_cons_succ]
                        refine wpAnyH_ready (rs := [21]) ?_ ?_ ?_
                        · kernel_rfl
                        · simp
                        refine (AllReadyH.cons rfl (fun K hK => ?_) AllReadyH.nil)
                        go_simp
                        first | (go_at_call 33; (with_reducible refine (XJ.out _).mono ?_); rintro e w4 ⟨rfl, rfl⟩) | (go_at_call 36; (with_reducible refine (meet_any x y x1 y1 a b' c' d' _ c0 c1 d0 d1 f0 f1 g0 g1 _ HT.out).mono ?_); rintro e w4 ⟨rfl, hb⟩)
                        refine hK.out _ _ ?_ (fun hHeld => ?_)
                        · ((try dsimp only); (refine KS.out _ ?_; (repeat (first | exact Gr.refl _ | exact hHeld.1 | (refine Gr.drew ?_) | (refine Gr.alloc ?_ _) | (refine Gr.trans ?_ (by assumption))))))
                        clear hK K
                        try simp only [Act.put, List.setIfInBounds_toArray, List.set_cons_zero, List.set_cons_succ]
                        refine take_in (i := 22) (v := ?_) (d := (some 122)) rfl rfl ?_ ?_ ?_ ?_ ?_ ?_ ?_ ?_
                        rotate_left
                        · kernel_rfl
                        · kernel_rfl
                        · kernel_rfl
                        · (intro _ _ _ hq; exact hq)
                        · rfl
                        · (intro _w hSw; (try dsimp only at hSw); go_simp; try with_reducible rfl)
                        · assumption
                        try simp only [Act.put, List.setIfInBounds_toArray, List.set_cons_zero, List.set_cons_succ]
                        refine take_in (i := 23) (v := ?_) (d := (some 123)) rfl rfl ?_ ?_ ?_ ?_ ?_ ?_ ?_ ?_
                        rotate_left
                        · kernel_rfl
                        · kernel_rfl
                        · kernel_rfl
                        · (intro _ _ _ hq; exact hq)
                        · rfl
                        · (intro _w hSw; (try dsimp only at hSw); go_simp; try with_reducible rfl)
                        · assumption
                        try simp only [Act.put, List.setIfInBounds_toArray, List.set_cons_zero, List.set_cons_succ]
                        refine wpAnyH_ready (rs := [24]) ?_ ?_ ?_
                        · kernel_rfl
                        · simp
                        refine (AllReadyH.cons rfl (fun K hK => ?_) AllReadyH.nil)
                        go_simp
                        first | (go_at_call 33; (with_reducible refine (XJ.out _).mono ?_); rintro e w4 ⟨rfl, rfl⟩) | (go_at_call 36; (with_reducible refine (meet_any x y x1 y1 a b' c' d' _ c0 c1 d0 d1 f0 f1 g0 g1 _ HT.out).mono ?_); rintro e w4 ⟨rfl, hb⟩)
                        refine hK.out _ _ ?_ (fun hHeld => ?_)
                        · ((try dsimp only); (refine KS.out _ ?_; (repeat (first | exact Gr.refl _ | exact hHeld.1 | (refine Gr.drew ?_) | (refine Gr.alloc ?_ _) | (refine Gr.trans ?_ (by assumption))))))
                        clear hK K
                        try simp only [Act.put, List.setIfInBounds_toArray, List.set_cons_zero, List.set_cons_succ]
                        refine take_in (i := 25) (v := ?_) (d := (some 125)) rfl rfl ?_ ?_ ?_ ?_ ?_ ?_ ?_ ?_
                        rotate_left
                        · kernel_rfl
                        · kernel_rfl
                        · kernel_rfl
                        · (intro _ _ _ hq; exact hq)
                        · rfl
                        · (intro _w hSw; (try dsimp only at hSw); go_simp; try with_reducible rfl)
                        · assumption
                        try simp only [Act.put, List.setIfInBounds_toArray, List.set_cons_zero, List.set_cons_succ]
                        refine wpAnyH_done ?_ ?_ _
                        · kernel_rfl
                        rotate_left
                        all_goals
                          obtain ⟨hB2, -⟩ := hHeld
                          go_wp2_with fail
                          go_roundw
                          case rel => exact ⟨j + 1, by omega, by omega, by go_num, Lib.hid (hnj.out.step (fun _ _ _ => HTT.out.trans HT.out)), hgw.trans hB2⟩
                          case measure => simp [intOf]; omega
                      · have HT := Lib.hid ht
                        clear ht
                        go_wp2_with fail
                        refine wp_region_held_drew (S := (fun W' => Gr wr W' ∧ W'.cell? ⟨b, off + k * 2, none⟩ = some (.int .i64 x) ∧ W'.cell? ⟨b, off + k * 2 + 1, none⟩ = some (.int .i64 y) ∧ W'.cell? ⟨b, off + m1 * 2, none⟩ = some (.int .i64 x1) ∧ W'.cell? ⟨b, off + m1 * 2 + 1, none⟩ = some (.int .i64 y1) ∧ W'.cell? ⟨b, off + j * 2, none⟩ = some (.int .i64 a) ∧ W'.cell? ⟨b, off + j * 2 + 1, none⟩ = some (.int .i64 b') ∧ W'.cell? ⟨b, off + mj * 2, none⟩ = some (.int .i64 c') ∧ W'.cell? ⟨b, off + mj * 2 + 1, none⟩ = some (.int .i64 d'))) ?_ ?_ (fun hHeld => ?_)
                        · kernel_rfl
                        · ((try dsimp only); (refine KS.out _ ?_; (repeat (first | exact Gr.refl _ | exact hHeld.1 | (refine Gr.drew ?_) | (refine Gr.alloc ?_ _) | (refine Gr.trans ?_ (by assumption))))))
                        refine take_in (i := 0) (v := ?_) (d := (some 100)) rfl rfl ?_ ?_ ?_ ?_ ?_ ?_ ?_ ?_
                        rotate_left
                        · kernel_rfl
                        · kernel_rfl
                        · kernel_rfl
                        · (intro _ _ _ hq; exact hq)
                        · rfl
                        · (intro _w hSw; (try dsimp only at hSw); go_simp; try with_reducible rfl)
                        · assumption
                        try simp only [Act.put, List.setIfInBounds_toArray, List.set_cons_zero, List.set_cons_succ]
                        refine take_in (i := 1) (v := ?_) (d := (some 101)) rfl rfl ?_ ?_ ?_ ?_ ?_ ?_ ?_ ?_
                        rotate_left
                        · kernel_rfl
                        · kernel_rfl
                        · kernel_rfl
                        · (intro _ _ _ hq; exact hq)
                        · rfl
                        · (intro _w hSw; (try dsimp only at hSw); go_simp; try with_reducible rfl)
                        · assumption
                        try simp only [Act.put, List.setIfInBounds_toArray, List.set_cons_zero, List.set_cons_succ]
                        refine take_in (i := 3) (v := ?_) (d := (some 103)) rfl rfl ?_ ?_ ?_ ?_ ?_ ?_ ?_ ?_
                        rotate_left
                        · kernel_rfl
                        · kernel_rfl
                        · kernel_rfl
                        · (intro _ _ _ hq; exact hq)
                        · rfl
                        · (intro _w hSw; (try dsimp only at hSw); go_simp; try with_reducible rfl)
                        · assumption
                        try simp only [Act.put, List.setIfInBounds_toArray, List.set_cons_zero, List.set_cons_succ]
                        refine wpAnyH_ready (rs := [2]) ?_ ?_ ?_
                        · kernel_rfl
                        · simp
                        refine (AllReadyH.cons rfl (fun K hK => ?_) AllReadyH.nil)
                        go_simp
                        first | (go_at_call 33; (with_reducible refine (XJ.out _).mono ?_); rintro e w4 ⟨rfl, rfl⟩) | (go_at_call 36; (with_reducible refine (meet_any x y x1 y1 a b' c' d' _ c0 c1 d0 d1 f0 f1 g0 g1 _ HT.out).mono ?_); rintro e w4 ⟨rfl, hb⟩)
                        refine hK.out _ _ ?_ (fun hHeld => ?_)
                        · ((try dsimp only); (refine KS.out _ ?_; (repeat (first | exact Gr.refl _ | exact hHeld.1 | (refine Gr.drew ?_) | (refine Gr.alloc ?_ _) | (refine Gr.trans ?_ (by assumption))))))
                        clear hK K
                        try simp only [Act.put, List.setIfInBounds_toArray, List.set_cons_zero, List.set_cons_succ]
                        refine take_in (i := 4) (v := ?_) (d := (some 104)) rfl rfl ?_ ?_ ?_ ?_ ?_ ?_ ?_ ?_
                        rotate_left
                        · kernel_rfl
                        · kernel_rfl
                        · kernel_rfl
                        · (intro _ _ _ hq; exact hq)
                        · rfl
                        · (intro _w hSw; (try dsimp only at hSw); go_simp; try with_reducible rfl)
                        · assumption
                        try simp only [Act.put, List.setIfInBounds_toArray, List.set_cons_zero, List.set_cons_succ]
                        refine take_in (i := 5) (v := ?_) (d := (some 105)) rfl rfl ?_ ?_ ?_ ?_ ?_ ?_ ?_ ?_
                        rotate_left
                        · kernel_rfl
                        · kernel_rfl
                        · kernel_rfl
                        · (intro _ _ _ hq; exact hq)
                        · rfl
                        · (intro _w hSw; (try dsimp only at hSw); go_simp; try with_reducible rfl)
                        · assumption
                        try simp only [Act.put, List.setIfInBounds_toArray, List.set_cons_zero, List.set_cons_succ]
                        refine take_in (i := 6) (v := ?_) (d := (some 106)) rfl rfl ?_ ?_ ?_ ?_ ?_ ?_ ?_ ?_
                        rotate_left
                        · kernel_rfl
                        · kernel_rfl
                        · kernel_rfl
                        · (intro _ _ _ hq; exact hq)
                        · rfl
                        · (intro _w hSw; (try dsimp only at hSw); go_simp; try with_reducible rfl)
                        · assumption
                        try simp only [Act.put, List.setIfInBounds_toArray, List.set_cons_zero, List.set_cons_succ]
                        refine take_in (i := 7) (v := ?_) (d := (some 107)) rfl rfl ?_ ?_ ?_ ?_ ?_ ?_ ?_ ?_
                        rotate_left
                        · kernel_rfl
                        · kernel_rfl
                        · kernel_rfl
                        · (intro _ _ _ hq; exact hq)
                        · rfl
                        · (intro _w hSw; (try dsimp only at hSw); go_simp; try with_reducible rfl)
                        · assumption
                        try simp only [Act.put, List.setIfInBounds_toArray, List.set_cons_zero, List.set_cons_succ]
                        refine take_in (i := 8) (v := ?_) (d := (some 108)) rfl rfl ?_ ?_ ?_ ?_ ?_ ?_ ?_ ?_
                        rotate_left
                        · kernel_rfl
                        · kernel_rfl
                        · kernel_rfl
                        · (intro _ _ _ hq; exact hq)
                        · rfl
                        · (intro _w hSw; (try dsimp only at hSw); go_simp; try with_reducible rfl)
                        · assumption
                        try simp only [Act.put, List.setIfInBounds_toArray, List.set_cons_zero, List.set_cons_succ]
                        refine take_in (i := 9) (v := ?_) (d := (some 109)) rfl rfl ?_ ?_ ?_ ?_ ?_ ?_ ?_ ?_
                        rotate_left
                        · kernel_rfl
                        · kernel_rfl
                        · kernel_rfl
                        · (intro _ _ _ hq; exact hq)
                        · rfl
                        · (intro _w hSw; (try dsimp only at hSw); go_simp; try with_reducible rfl)
                        · assumption
                        try simp only [Act.put, List.setIfInBounds_toArray, List.set_cons_zero, List.set_cons_succ]
                        refine take_in (i := 10) (v := ?_) (d := (some 110)) rfl rfl ?_ ?_ ?_ ?_ ?_ ?_ ?_ ?_
                        rotate_left
                        · kernel_rfl
                        · kernel_rfl
                        · kernel_rfl
                        · (intro _ _ _ hq; exact hq)
                        · rfl
                        · (intro _w hSw; (try dsimp only at hSw); go_simp; try with_reducible rfl)
                        · assumption
                        try simp only [Act.put, List.setIfInBounds_toArray, List.set_cons_zero, List.set_cons_succ]
                        refine take_in (i := 11) (v := ?_) (d := (some 111)) rfl rfl ?_ ?_ ?_ ?_ ?_ ?_ ?_ ?_
                        rotate_left
                        · kernel_rfl
                        · kernel_rfl
                        · kernel_rfl
                        · (intro _ _ _ hq; exact hq)
                        · rfl
                        · (intro _w hSw; (try dsimp only at hSw); go_simp; try with_reducible rfl)
                        · assumption
                        try simp only [Act.put, List.setIfInBounds_toArray, List.set_cons_zero, List.set_cons_succ]
                        refine take_in (i := 12) (v := ?_) (d := (some 112)) rfl rfl ?_ ?_ ?_ ?_ ?_ ?_ ?_ ?_
                        rotate_left
                        · kernel_rfl
                        · kernel_rfl
                        · kernel_rfl
                        · (intro _ _ _ hq; exact hq)
                        · rfl
                        · (intro _w hSw; (try dsimp only at hSw); go_simp; try with_reducible rfl)
                        · assumption
                        try simp only [Act.put, List.setIfInBounds_toArray, List.set_cons_zero, List.set_cons_succ]
                        refine take_in (i := 13) (v := ?_) (d := (some 113)) rfl rfl ?_ ?_ ?_ ?_ ?_ ?_ ?_ ?_
                        rotate_left
                        · kernel_rfl
                        · kernel_rfl
                        · kernel_rfl
                        · (intro _ _ _ hq; exact hq)
                        · rfl
                        · (intro _w hSw; (try dsimp only at hSw); go_simp; try with_reducible rfl)
                        · assumption
                        try simp only [Act.put, List.setIfInBounds_toArray, List.set_cons_zero, List.set_cons_succ]
                        refine take_in (i := 14) (v := ?_) (d := (some 114)) rfl rfl ?_ ?_ ?_ ?_ ?_ ?_ ?_ ?_
                        rotate_left
                        · kernel_rfl
                        · kernel_rfl
                        · kernel_rfl
                        · (intro _ _ _ hq; exact hq)
                        · rfl
                        · (intro _w hSw; (try dsimp only at hSw); go_simp; try with_reducible rfl)
                        · assumption
                        try simp only [Act.put, List.setIfInBounds_toArray, List.set_cons_zero, List.set_cons_succ]
                        refine take_in (i := 15) (v := ?_) (d := (some 115)) rfl rfl ?_ ?_ ?_ ?_ ?_ ?_ ?_ ?_
                        rotate_left
                        · kernel_rfl
                        · kernel_rfl
                        · kernel_rfl
                        · (intro _ _ _ hq; exact hq)
                        · rfl
                        · (intro _w hSw; (try dsimp only at hSw); go_simp; try with_reducible rfl)
                        · assumption
                        try simp only [Act.put, List.setIfInBounds_toArray, List.set_cons_zero, List.set_cons_succ]
                        refine take_in (i := 16) (v := ?_) (d := (some 116)) rfl rfl ?_ ?_ ?_ ?_ ?_ ?_ ?_ ?_
                        rotate_left
                        · kernel_rfl
                        · kernel_rfl
                        · kernel_rfl
                        · (intro _ _ _ hq; exact hq)
                        · rfl
                        · (intro _w hSw; (try dsimp only at hSw); go_simp; try with_reducible rfl)
                        · assumption
                        try simp only [Act.put, List.setIfInBounds_toArray, List.set_cons_zero, List.set_cons_succ]
                        refine take_in (i := 17) (v := ?_) (d := (some 117)) rfl rfl ?_ ?_ ?_ ?_ ?_ ?_ ?_ ?_
                        rotate_left
                        · kernel_rfl
                        · kernel_rfl
                        · kernel_rfl
                        · (intro _ _ _ hq; exact hq)
                        · rfl
                        · (intro _w hSw; (try dsimp only at hSw); go_simp; try with_reducible rfl)
                        · assumption
                        try simp only [Act.put, List.setIfInBounds_toArray, List.set_cons_zero, List.set_cons_succ]
                        refine take_in (i := 18) (v := ?_) (d := (some 118)) rfl rfl ?_ ?_ ?_ ?_ ?_ ?_ ?_ ?_
                        rotate_left
                        · kernel_rfl
                        · kernel_rfl
                        · kernel_rfl
                        · (intro _ _ _ hq; exact hq)
                        · rfl
                        · (intro _w hSw; (try dsimp only at hSw); go_simp; try with_reducible rfl)
                        · assumption
                        try simp only [Act.put, List.setIfInBounds_toArray, List.set_cons_zero, List.set_cons_succ]
                        refine take_in (i := 19) (v := ?_) (d := (some 119)) rfl rfl ?_ ?_ ?_ ?_ ?_ ?_ ?_ ?_
                        rotate_left
                        · kernel_rfl
                        · kernel_rfl
                        · kernel_rfl
                        · (intro _ _ _ hq; exact hq)
                        · rfl
                        · (intro _w hSw; (try dsimp only at hSw); go_simp; try with_reducible rfl)
                        · assumption
                        try simp only [Act.put, List.setIfInBounds_toArray, List.set_cons_zero, List.set_cons_succ]
                        refine take_in (i := 20) (v := ?_) (d := (some 120)) rfl rfl ?_ ?_ ?_ ?_ ?_ ?_ ?_ ?_
                        rotate_left
                        · kernel_rfl
                        · kernel_rfl
                        · kernel_rfl
                        · (intro _ _ _ hq; exact hq)
                        · rfl
                        · (intro _w hSw; (try dsimp only at hSw); go_simp; try with_reducible rfl)
                        · assumption
                        try simp only [Act.put, List.setIfInBounds_toArray, List.set_cons_zero, List.set_cons_succ]
                        refine wpAnyH_ready (rs := [21]) ?_ ?_ ?_
                        · kernel_rfl
                        · simp
                        refine (AllReadyH.cons rfl (fun K hK => ?_) AllReadyH.nil)
                        go_simp
                        first | (go_at_call 33; (with_reducible refine (XJ.out _).mono ?_); rintro e w4 ⟨rfl, rfl⟩) | (go_at_call 36; (with_reducible refine (meet_any x y x1 y1 a b' c' d' _ c0 c1 d0 d1 f0 f1 g0 g1 _ HT.out).mono ?_); rintro e w4 ⟨rfl, hb⟩)
                        refine hK.out _ _ ?_ (fun hHeld => ?_)
                        · ((try dsimp only); (refine KS.out _ ?_; (repeat (first | exact Gr.refl _ | exact hHeld.1 | (refine Gr.drew ?_) | (refine Gr.alloc ?_ _) | (refine Gr.trans ?_ (by assumption))))))
                        clear hK K
                        try simp only [Act.put, List.setIfInBounds_toArray, List.set_cons_zero, List.set_cons_succ]
                        refine take_in (i := 22) (v := ?_) (d := (some 122)) rfl rfl ?_ ?_ ?_ ?_ ?_ ?_ ?_ ?_
                        rotate_left
                        · kernel_rfl
                        · kernel_rfl
                        · kernel_rfl
                        · (intro _ _ _ hq; exact hq)
                        · rfl
                        · (intro _w hSw; (try dsimp only at hSw); go_simp; try with_reducible rfl)
                        · assumption
                        try simp only [Act.put, List.setIfInBounds_toArray, List.set_cons_zero, List.set_cons_succ]
                        refine take_in (i := 23) (v := ?_) (d := (some 123)) rfl rfl ?_ ?_ ?_ ?_ ?_ ?_ ?_ ?_
                        rotate_left
                        · kernel_rfl
                        · kernel_rfl
                        · kernel_rfl
                        · (intro _ _ _ hq; exact hq)
                        · rfl
                        · (intro _w hSw; (try dsimp only at hSw); go_simp; try with_reducible rfl)
                        · assumption
                        try simp only [Act.put, List.setIfInBounds_toArray, List.set_cons_zero, List.set_cons_succ]
                        refine wpAnyH_ready (rs := [24]) ?_ ?_ ?_
                        · kernel_rfl
                        · simp
                        refine (AllReadyH.cons rfl (fun K hK => ?_) AllReadyH.nil)
                        go_simp
                        first | (go_at_call 33; (with_reducible refine (XJ.out _).mono ?_); rintro e w4 ⟨rfl, rfl⟩) | (go_at_call 36; (with_reducible refine (meet_any x y x1 y1 a b' c' d' _ c0 c1 d0 d1 f0 f1 g0 g1 _ HT.out).mono ?_); rintro e w4 ⟨rfl, hb⟩)
                        refine hK.out _ _ ?_ (fun hHeld => ?_)
                        · ((try dsimp only); (refine KS.out _ ?_; (repeat (first | exact Gr.refl _ | exact hHeld.1 | (refine Gr.drew ?_) | (refine Gr.alloc ?_ _) | (refine Gr.trans ?_ (by assumption))))))
                        clear hK K
                        try simp only [Act.put, List.setIfInBounds_toArray, List.set_cons_zero, List.set_cons_succ]
                        refine take_in (i := 25) (v := ?_) (d := (some 125)) rfl rfl ?_ ?_ ?_ ?_ ?_ ?_ ?_ ?_
                        rotate_left
                        · kernel_rfl
                        · kernel_rfl
                        · kernel_rfl
                        · (intro _ _ _ hq; exact hq)
                        · rfl
                        · (intro _w hSw; (try dsimp only at hSw); go_simp; try with_reducible rfl)
                        · assumption
                        try simp only [Act.put, List.setIfInBounds_toArray, List.set_cons_zero, List.set_cons_succ]
                        refine wpAnyH_done ?_ ?_ _
                        · kernel_rfl
                        rotate_left
                        all_goals
                          obtain ⟨hB2, -⟩ := hHeld
                          go_wp2_with fail
                          go_ret
                          exact ⟨false, rfl, ⟨fun h => absurd h (by decide), fun h => absurd ⟨k, j, hkj, by rw [HN.out]; exact hj, by rw [HN.out]; exact HSS.out, HTT.out.trans HT.out⟩ h.2.2.2.2⟩, (hg.trans hgw).trans hB2⟩
                  · have HK : Hid (∀ i, i < k + 1 → badE ps i = false) := Lib.hid (fun i hi => by
                      rcases Nat.lt_succ_iff_lt_or_eq.1 hi with h | rfl
                      · exact hok.out i h
                      · rw [HBAD.out, HFO.out]; simpa using NEK.out)
                    have HNX : Hid (NoCross ps (k + 1) 0) := Lib.hid (hnj.out.next (by rw [HN.out]; omega))
                    go_wp2_with fail
                    go_roundw
                    case rel => exact ⟨k + 1, by omega, by go_num, HK, HNX, hg.trans hgw⟩
                    case measure => simp [intOf]; omega
            · have z : ((s : Int) == 0) = false := by simpa using s0
              clear s0
              refine wp_region_held_drew (S := (fun W' => Gr wo W' ∧ W'.cell? ⟨b, off + k * 2, none⟩ = some (.int .i64 x) ∧ W'.cell? ⟨b, off + k * 2 + 1, none⟩ = some (.int .i64 y) ∧ W'.cell? ⟨b, off + m1 * 2, none⟩ = some (.int .i64 x1) ∧ W'.cell? ⟨b, off + m1 * 2 + 1, none⟩ = some (.int .i64 y1) ∧ W'.cell? ⟨b, off + m2 * 2, none⟩ = some (.int .i64 x2) ∧ W'.cell? ⟨b, off + m2 * 2 + 1, none⟩ = some (.int .i64 y2))) ?_ ?_ (fun hHeld => ?_)
              · kernel_rfl
              · ((try dsimp only); (refine KS.out _ ?_; (repeat (first | exact Gr.refl _ | exact hHeld.1 | (refine Gr.drew ?_) | (refine Gr.alloc ?_ _) | (refine Gr.trans ?_ (by assumption))))))
              refine take_in (i := 0) (v := ?_) (d := (some 49)) rfl rfl ?_ ?_ ?_ ?_ ?_ ?_ ?_ ?_
              rotate_left
              · kernel_rfl
              · kernel_rfl
              · kernel_rfl
              · (intro _ _ _ hq; exact hq)
              · rfl
              · (intro _w hSw; (try dsimp only at hSw); go_simp; try with_reducible rfl)
              · assumption
              try simp only [Act.put, List.setIfInBounds_toArray, List.set_cons_zero, List.set_cons_succ]
              refine take_in (i := 1) (v := ?_) (d := (some 50)) rfl rfl ?_ ?_ ?_ ?_ ?_ ?_ ?_ ?_
              rotate_left
              · kernel_rfl
              · kernel_rfl
              · kernel_rfl
              · (intro _ _ _ hq; exact hq)
              · rfl
              · (intro _w hSw; (try dsimp only at hSw); go_simp; try with_reducible rfl)
              · assumption
              try simp only [Act.put, List.setIfInBounds_toArray, List.set_cons_zero, List.set_cons_succ]
              refine take_in (i := 2) (v := ?_) (d := (some 51)) rfl rfl ?_ ?_ ?_ ?_ ?_ ?_ ?_ ?_
              rotate_left
              · kernel_rfl
              · kernel_rfl
              · kernel_rfl
              · (intro _ _ _ hq; exact hq)
              · rfl
              · (intro _w hSw; (try dsimp only at hSw); go_simp; try with_reducible rfl)
              · assumption
              try simp only [Act.put, List.setIfInBounds_toArray, List.set_cons_zero, List.set_cons_succ]
              refine take_in (i := 3) (v := ?_) (d := (some 52)) rfl rfl ?_ ?_ ?_ ?_ ?_ ?_ ?_ ?_
              rotate_left
              · kernel_rfl
              · kernel_rfl
              · kernel_rfl
              · (intro _ _ _ hq; exact hq)
              · rfl
              · (intro _w hSw; (try dsimp only at hSw); go_simp; try with_reducible rfl)
              · assumption
              try simp only [Act.put, List.setIfInBounds_toArray, List.set_cons_zero, List.set_cons_succ]
              refine take_in (i := 4) (v := ?_) (d := (some 53)) rfl rfl ?_ ?_ ?_ ?_ ?_ ?_ ?_ ?_
              rotate_left
              · kernel_rfl
              · kernel_rfl
              · kernel_rfl
              · (intro _ _ _ hq; exact hq)
              · rfl
              · (intro _w hSw; (try dsimp only at hSw); go_simp; try with_reducible rfl)
              · assumption
              try simp only [Act.put, List.setIfInBounds_toArray, List.set_cons_zero, List.set_cons_succ]
              refine take_in (i := 5) (v := ?_) (d := (some 54)) rfl rfl ?_ ?_ ?_ ?_ ?_ ?_ ?_ ?_
              rotate_left
              · kernel_rfl
              · kernel_rfl
              · kernel_rfl
              · (intro _ _ _ hq; exact hq)
              · rfl
              · (intro _w hSw; (try dsimp only at hSw); go_simp; try with_reducible rfl)
              · assumption
              try simp only [Act.put, List.setIfInBounds_toArray, List.set_cons_zero, List.set_cons_succ]
              refine take_in (i := 6) (v := ?_) (d := (some 55)) rfl rfl ?_ ?_ ?_ ?_ ?_ ?_ ?_ ?_
              rotate_left
              · kernel_rfl
              · kernel_rfl
              · kernel_rfl
              · (intro _ _ _ hq; exact hq)
              · rfl
              · (intro _w hSw; (try dsimp only at hSw); go_simp; try with_reducible rfl)
              · assumption
              try simp only [Act.put, List.setIfInBounds_toArray, List.set_cons_zero, List.set_cons_succ]
              refine take_in (i := 7) (v := ?_) (d := (some 56)) rfl rfl ?_ ?_ ?_ ?_ ?_ ?_ ?_ ?_
              rotate_left
              · kernel_rfl
              · kernel_rfl
              · kernel_rfl
              · (intro _ _ _ hq; exact hq)
              · rfl
              · (intro _w hSw; (try dsimp only at hSw); go_simp; try with_reducible rfl)
              · assumption
              try simp only [Act.put, List.setIfInBounds_toArray, List.set_cons_zero, List.set_cons_succ]
              refine take_in (i := 8) (v := ?_) (d := (some 57)) rfl rfl ?_ ?_ ?_ ?_ ?_ ?_ ?_ ?_
              rotate_left
              · kernel_rfl
              · kernel_rfl
              · kernel_rfl
              · (intro _ _ _ hq; exact hq)
              · rfl
              · (intro _w hSw; (try dsimp only at hSw); go_simp; try with_reducible rfl)
              · assumption
              try simp only [Act.put, List.setIfInBounds_toArray, List.set_cons_zero, List.set_cons_succ]
              refine take_in (i := 9) (v := ?_) (d := (some 58)) rfl rfl ?_ ?_ ?_ ?_ ?_ ?_ ?_ ?_
              rotate_left
              · kernel_rfl
              · kernel_rfl
              · kernel_rfl
              · (intro _ _ _ hq; exact hq)
              · rfl
              · (intro _w hSw; (try dsimp only at hSw); go_simp; try with_reducible rfl)
              · assumption
              try simp only [Act.put, List.setIfInBounds_toArray, List.set_cons_zero, List.set_cons_succ]
              refine take_in (i := 10) (v := ?_) (d := (some 59)) rfl rfl ?_ ?_ ?_ ?_ ?_ ?_ ?_ ?_
              rotate_left
              · kernel_rfl
              · kernel_rfl
              · kernel_rfl
              · (intro _ _ _ hq; exact hq)
              · rfl
              · (intro _w hSw; (try dsimp only at hSw); go_simp; try with_reducible rfl)
              · assumption
              try simp only [Act.put, List.setIfInBounds_toArray, List.set_cons_zero, List.set_cons_succ]
              refine take_in (i := 11) (v := ?_) (d := (some 60)) rfl rfl ?_ ?_ ?_ ?_ ?_ ?_ ?_ ?_
              rotate_left
              · kernel_rfl
              · kernel_rfl
              · kernel_rfl
              · (intro _ _ _ hq; exact hq)
              · rfl
              · (intro _w hSw; (try dsimp only at hSw); go_simp; try with_reducible rfl)
              · assumption
              try simp only [Act.put, List.setIfInBounds_toArray, List.set_cons_zero, List.set_cons_succ]
              refine wpAnyH_ready (rs := [12]) ?_ ?_ ?_
              · kernel_rfl
              · simp
              refine (AllReadyH.cons rfl (fun K hK => ?_) AllReadyH.nil)
              go_simp
              first | (go_at_call 34; (with_reducible refine (rTurn_is _ _ _ _ _ _ _ _ HS.out c0 c1 d0 d1 e0 e1).mono ?_); rintro e w3 ⟨rfl, hb⟩)
              refine hK.out _ _ ?_ (fun hHeld => ?_)
              · ((try dsimp only); (refine KS.out _ ?_; (repeat (first | exact Gr.refl _ | exact hHeld.1 | (refine Gr.drew ?_) | (refine Gr.alloc ?_ _) | (refine Gr.trans ?_ (by assumption))))))
              clear hK K
              try simp only [Act.put, List.setIfInBounds_toArray, List.set_cons_zero, List.set_cons_succ]
              refine take_in (i := 13) (v := ?_) (d := (some 62)) rfl rfl ?_ ?_ ?_ ?_ ?_ ?_ ?_ ?_
              rotate_left
              · kernel_rfl
              · kernel_rfl
              · kernel_rfl
              · (intro _ _ _ hq; exact hq)
              · rfl
              · (intro _w hSw; (try dsimp only at hSw); go_simp; try with_reducible rfl)
              · assumption
              try simp only [Act.put, List.setIfInBounds_toArray, List.set_cons_zero, List.set_cons_succ]
              refine take_in (i := 14) (v := ?_) (d := (some 63)) rfl rfl ?_ ?_ ?_ ?_ ?_ ?_ ?_ ?_
              rotate_left
              · kernel_rfl
              · kernel_rfl
              · kernel_rfl
              · (intro _ _ _ hq; exact hq)
              · rfl
              · (intro _w hSw; (try dsimp only at hSw); go_simp; try with_reducible rfl)
              · assumption
              try simp only [Act.put, List.setIfInBounds_toArray, List.set_cons_zero, List.set_cons_succ]
              refine take_un (i := 15) (d := (some 64)) rfl rfl ?_ ?_ ?_ ?_ ?_ ?_ ?_
              · kernel_rfl
              · kernel_rfl
              · kernel_rfl
              · (intro _ _ _ hq; exact hq)
              · rfl
              · assumption
              try simp only [Act.put, List.setIfInBounds_toArray, List.set_cons_zero, List.set_cons_succ]
              refine take_un (i := 16) (d := (some 65)) rfl rfl ?_ ?_ ?_ ?_ ?_ ?_ ?_
              · kernel_rfl
              · kernel_rfl
              · kernel_rfl
              · (intro _ _ _ hq; exact hq)
              · rfl
              · assumption
              try simp only [Act.put, List.setIfInBounds_toArray, List.set_cons_zero, List.set_cons_succ]
              refine take_un (i := 17) (d := (some 66)) rfl rfl ?_ ?_ ?_ ?_ ?_ ?_ ?_
              · kernel_rfl
              · kernel_rfl
              · kernel_rfl
              · (intro _ _ _ hq; exact hq)
              · rfl
              · assumption
              try simp only [Act.put, List.setIfInBounds_toArray, List.set_cons_zero, List.set_cons_succ]
              refine take_un (i := 18) (d := (some 67)) rfl rfl ?_ ?_ ?_ ?_ ?_ ?_ ?_
              · kernel_rfl
              · kernel_rfl
              · kernel_rfl
              · (intro _ _ _ hq; exact hq)
              · rfl
              · assumption
              try simp only [Act.put, List.setIfInBounds_toArray, List.set_cons_zero, List.set_cons_succ]
              refine take_un (i := 19) (d := (some 68)) rfl rfl ?_ ?_ ?_ ?_ ?_ ?_ ?_
              · kernel_rfl
              · kernel_rfl
              · kernel_rfl
              · (intro _ _ _ hq; exact hq)
              · rfl
              · assumption
              try simp only [Act.put, List.setIfInBounds_toArray, List.set_cons_zero, List.set_cons_succ]
              refine take_un (i := 20) (d := (some 69)) rfl rfl ?_ ?_ ?_ ?_ ?_ ?_ ?_
              · kernel_rfl
              · kernel_rfl
              · kernel_rfl
              · (intro _ _ _ hq; exact hq)
              · rfl
              · assumption
              try simp only [Act.put, List.setIfInBounds_toArray, List.set_cons_zero, List.set_cons_succ]
              refine take_un (i := 21) (d := (some 70)) rfl rfl ?_ ?_ ?_ ?_ ?_ ?_ ?_
              · kernel_rfl
              · kernel_rfl
              · kernel_rfl
              · (intro _ _ _ hq; exact hq)
              · rfl
              · assumption
              try simp only [Act.put, List.setIfInBounds_toArray, List.set_cons_zero, List.set_cons_succ]
              refine take_un (i := 22) (d := (some 71)) rfl rfl ?_ ?_ ?_ ?_ ?_ ?_ ?_
              · kernel_rfl
              · kernel_rfl
              · kernel_rfl
              · (intro _ _ _ hq; exact hq)
              · rfl
              · assumption
              try simp only [Act.put, List.setIfInBounds_toArray, List.set_cons_zero, List.set_cons_succ]
              refine take_un (i := 23) (d := (some 72)) rfl rfl ?_ ?_ ?_ ?_ ?_ ?_ ?_
              · kernel_rfl
              · kernel_rfl
              · kernel_rfl
              · (intro _ _ _ hq; exact hq)
              · rfl
              · assumption
              try simp only [Act.put, List.setIfInBounds_toArray, List.set_cons_zero, List.set_cons_succ]
              refine take_un (i := 24) (d := (some 73)) rfl rfl ?_ ?_ ?_ ?_ ?_ ?_ ?_
              · kernel_rfl
              · kernel_rfl
              · kernel_rfl
              · (intro _ _ _ hq; exact hq)
              · rfl
              · assumption
              try simp only [Act.put, List.setIfInBounds_toArray, List.set_cons_zero, List.set_cons_succ]
              refine take_un (i := 25) (d := (some 74)) rfl rfl ?_ ?_ ?_ ?_ ?_ ?_ ?_
              · kernel_rfl
              · kernel_rfl
              · kernel_rfl
              · (intro _ _ _ hq; exact hq)
              · rfl
              · assumption
              try simp only [Act.put, List.setIfInBounds_toArray, List.set_cons_zero, List.set_cons_succ]
              refine take_un (i := 26) (d := (some 75)) rfl rfl ?_ ?_ ?_ ?_ ?_ ?_ ?_
              · kernel_rfl
              · kernel_rfl
              · kernel_rfl
              · (intro _ _ _ hq; exact hq)
              · rfl
              · assumption
              try simp only [Act.put, List.setIfInBounds_toArray, List.set_cons_zero, List.set_cons_succ]
              refine take_un (i := 27) (d := (some 76)) rfl rfl ?_ ?_ ?_ ?_ ?_ ?_ ?_
              · kernel_rfl
              · kernel_rfl
              · kernel_rfl
              · (intro _ _ _ hq; exact hq)
              · rfl
              · assumption
              try simp only [Act.put, List.setIfInBounds_toArray, List.set_cons_zero, List.set_cons_succ]
              refine take_un (i := 28) (d := (some 77)) rfl rfl ?_ ?_ ?_ ?_ ?_ ?_ ?_
              · kernel_rfl
              · kernel_rfl
              · kernel_rfl
              · (intro _ _ _ hq; exact hq)
              · rfl
              · assumption
              try simp only [Act.put, List.setIfInBounds_toArray, List.set_cons_zero, List.set_cons_succ]
              refine take_un (i := 29) (d := (some 78)) rfl rfl ?_ ?_ ?_ ?_ ?_ ?_ ?_
              · kernel_rfl
              · kernel_rfl
              · kernel_rfl
              · (intro _ _ _ hq; exact hq)
              · rfl
              · assumption
              try simp only [Act.put, List.setIfInBounds_toArray, List.set_cons_zero, List.set_cons_succ]
              refine take_un (i := 30) (d := (some 79)) rfl rfl ?_ ?_ ?_ ?_ ?_ ?_ ?_
              · kernel_rfl
              · kernel_rfl
              · kernel_rfl
              · (intro _ _ _ hq; exact hq)
              · rfl
              · assumption
              try simp only [Act.put, List.setIfInBounds_toArray, List.set_cons_zero, List.set_cons_succ]
              refine take_un (i := 31) (d := (some 80)) rfl rfl ?_ ?_ ?_ ?_ ?_ ?_ ?_
              · kernel_rfl
              · kernel_rfl
              · kernel_rfl
              · (intro _ _ _ hq; exact hq)
              · rfl
              · assumption
              try simp only [Act.put, List.setIfInBounds_toArray, List.set_cons_zero, List.set_cons_succ]
              refine take_un (i := 32) (d := (some 81)) rfl rfl ?_ ?_ ?_ ?_ ?_ ?_ ?_
              · kernel_rfl
              · kernel_rfl
              · kernel_rfl
              · (intro _ _ _ hq; exact hq)
              · rfl
              · assumption
              try simp only [Act.put, List.setIfInBounds_toArray, List.set_cons_zero, List.set_cons_succ]
              refine take_un (i := 33) (d := (some 82)) rfl rfl ?_ ?_ ?_ ?_ ?_ ?_ ?_
              · kernel_rfl
              · kernel_rfl
              · kernel_rfl
              · (intro _ _ _ hq; exact hq)
              · rfl
              · assumption
              try simp only [Act.put, List.setIfInBounds_toArray, List.set_cons_zero, List.set_cons_succ]
              refine take_un (i := 34) (d := (some 83)) rfl rfl ?_ ?_ ?_ ?_ ?_ ?_ ?_
              · kernel_rfl
              · kernel_rfl
              · kernel_rfl
              · (intro _ _ _ hq; exact hq)
              · rfl
              · assumption
              try simp only [Act.put, List.setIfInBounds_toArray, List.set_cons_zero, List.set_cons_succ]
              refine take_un (i := 35) (d := (some 84)) rfl rfl ?_ ?_ ?_ ?_ ?_ ?_ ?_
              · kernel_rfl
              · kernel_rfl
              · kernel_rfl
              · (intro _ _ _ hq; exact hq)
              · rfl
              · assumption
              try simp only [Act.put, List.setIfInBounds_toArray, List.set_cons_zero, List.set_cons_succ]
              refine take_un (i := 36) (d := (some 85)) rfl rfl ?_ ?_ ?_ ?_ ?_ ?_ ?_
              · kernel_rfl
              · kernel_rfl
              · kernel_rfl
              · (intro _ _ _ hq; exact hq)
              · rfl
              · assumption
              try simp only [Act.put, List.setIfInBounds_toArray, List.set_cons_zero, List.set_cons_succ]
              refine take_un (i := 37) (d := (some 86)) rfl rfl ?_ ?_ ?_ ?_ ?_ ?_ ?_
              · kernel_rfl
              · kernel_rfl
              · kernel_rfl
              · (intro _ _ _ hq; exact hq)
              · rfl
              · assumption
              try simp only [Act.put, List.setIfInBounds_toArray, List.set_cons_zero, List.set_cons_succ]
              refine take_un (i := 38) (d := (some 87)) rfl rfl ?_ ?_ ?_ ?_ ?_ ?_ ?_
              · kernel_rfl
              · kernel_rfl
              · kernel_rfl
              · (intro _ _ _ hq; exact hq)
              · rfl
              · assumption
              try simp only [Act.put, List.setIfInBounds_toArray, List.set_cons_zero, List.set_cons_succ]
              refine take_un (i := 39) (d := (some 88)) rfl rfl ?_ ?_ ?_ ?_ ?_ ?_ ?_
              · kernel_rfl
              · kernel_rfl
              · kernel_rfl
              · (intro _ _ _ hq; exact hq)
              · rfl
              · assumption
              try simp only [Act.put, List.setIfInBounds_toArray, List.set_cons_zero, List.set_cons_succ]
              refine take_un (i := 40) (d := (some 89)) rfl rfl ?_ ?_ ?_ ?_ ?_ ?_ ?_
              · kernel_rfl
              · kernel_rfl
              · kernel_rfl
              · (intro _ _ _ hq; exact hq)
              · rfl
              · assumption
              try simp only [Act.put, List.setIfInBounds_toArray, List.set_cons_zero, List.set_cons_succ]
              refine take_un (i := 41) (d := (some 90)) rfl rfl ?_ ?_ ?_ ?_ ?_ ?_ ?_
              · kernel_rfl
              · kernel_rfl
              · kernel_rfl
              · (intro _ _ _ hq; exact hq)
              · rfl
              · assumption
              try simp only [Act.put, List.setIfInBounds_toArray, List.set_cons_zero, List.set_cons_succ]
              refine take_un (i := 42) (d := (some 91)) rfl rfl ?_ ?_ ?_ ?_ ?_ ?_ ?_
              · kernel_rfl
              · kernel_rfl
              · kernel_rfl
              · (intro _ _ _ hq; exact hq)
              · rfl
              · assumption
              try simp only [Act.put, List.setIfInBounds_toArray, List.set_cons_zero, List.set_cons_succ]
              refine take_in (i := 43) (v := ?_) (d := (some 92)) rfl rfl ?_ ?_ ?_ ?_ ?_ ?_ ?_ ?_
              rotate_left
              · kernel_rfl
              · kernel_rfl
              · kernel_rfl
              · (intro _ _ _ hq; exact hq)
              · rfl
              · (intro _w hSw; (try dsimp only at hSw); go_simp; try with_reducible rfl)
              · assumption
              try simp only [Act.put, List.setIfInBounds_toArray, List.set_cons_zero, List.set_cons_succ]
              refine wpAnyH_done ?_ ?_ _
              · kernel_rfl
              rotate_left
              all_goals
                obtain ⟨hB, -⟩ := hHeld
                go_wp2_with fail
                go_loopw [8] (fun jv w3 => ∃ j : Nat, k + 2 ≤ j ∧ j ≤ n + 1 ∧ jv = .int .i64 j ∧ Hid (NoCross ps k j) ∧ Gr wo w3) (fun jv _ => n + 1 - (intOf jv).toNat)
                case atStart => exact ⟨k + 2, by omega, by omega, by go_num, Lib.hid hno.out.start, hB⟩
                case round =>
                  obtain ⟨j, hkj, hjn, rfl, hnj, hgw⟩ := hrel
                  by_cases hj : j < n
                  · obtain ⟨mj, hmj⟩ : ∃ m, (j + 1) % n = m := ⟨_, rfl⟩
                    have hmjn : mj < n := by rw [← hmj]; exact mod_next hj
                    have XJ := Lib.hid (fun W => next_is j n mj W hmj hj (by omega))
                    by_cases hs : k = 0 ∧ j + 1 = n
                    · have e : ((mj : Int) != (k : Int)) = false := by rw [mod_is hj, if_pos hs.2] at hmj; simp; omega
                      have HSS := Lib.hid hs
                      have KS : Hid (∀ W', Gr wr W' → (Gr wr W' ∧ True)) := Lib.hid (fun W' h => ⟨h, trivial⟩)
                      clear hmj hs
                      go_wp2_with fail
                      refine wp_region_held_drew (S := (fun W' => Gr wr W' ∧ True)) ?_ ?_ (fun hHeld => ?_)
                      · kernel_rfl
                      · ((try dsimp only); (refine KS.out _ ?_; (repeat (first | exact Gr.refl _ | exact hHeld.1 | (refine Gr.drew ?_) | (refine Gr.alloc ?_ _) | (refine Gr.trans ?_ (by assumption))))))
                      refine take_in (i := 0) (v := ?_) (d := (some 100)) rfl rfl ?_ ?_ ?_ ?_ ?_ ?_ ?_ ?_
                      rotate_left
                      · kernel_rfl
                      · kernel_rfl
                      · kernel_rfl
                      · (intro _ _ _ hq; exact hq)
                      · rfl
                      · (intro _w hSw; (try dsimp only at hSw); go_simp; try with_reducible rfl)
                      · assumption
                      try simp only [Act.put, List.setIfInBounds_toArray, List.set_cons_zero, List.set_cons_succ]
                      refine take_in (i := 1) (v := ?_) (d := (some 101)) rfl rfl ?_ ?_ ?_ ?_ ?_ ?_ ?_ ?_
                      rotate_left
                      · kernel_rfl
                      · kernel_rfl
                      · kernel_rfl
                      · (intro _ _ _ hq; exact hq)
                      · rfl
                      · (intro _w hSw; (try dsimp only at hSw); go_simp; try with_reducible rfl)
                      · assumption
                      try simp only [Act.put, List.setIfInBounds_toArray, List.set_cons_zero, List.set_cons_succ]
                      refine take_in (i := 3) (v := ?_) (d := (some 103)) rfl rfl ?_ ?_ ?_ ?_ ?_ ?_ ?_ ?_
                      rotate_left
                      · kernel_rfl
                      · kernel_rfl
                      · kernel_rfl
                      · (intro _ _ _ hq; exact hq)
                      · rfl
                      · (intro _w hSw; (try dsimp only at hSw); go_simp; try with_reducible rfl)
                      · assumption
                      try simp only [Act.put, List.setIfInBounds_toArray, List.set_cons_zero, List.set_cons_succ]
                      refine wpAnyH_ready (rs := [2]) ?_ ?_ ?_
                      · kernel_rfl
                      · simp
                      refine (AllReadyH.cons rfl (fun K hK => ?_) AllReadyH.nil)
                      go_simp
                      first | (go_at_call 33; (with_reducible refine (XJ.out _).mono ?_); rintro e w4 ⟨rfl, rfl⟩)
                      refine hK.out _ _ ?_ (fun hHeld => ?_)
                      · ((try dsimp only); (refine KS.out _ ?_; (repeat (first | exact Gr.refl _ | exact hHeld.1 | (refine Gr.drew ?_) | (refine Gr.alloc ?_ _) | (refine Gr.trans ?_ (by assumption))))))
                      clear hK K
                      try simp only [Act.put, List.setIfInBounds_toArray, List.set_cons_zero, List.set_cons_succ]
                      refine take_in (i := 4) (v := ?_) (d := (some 104)) rfl rfl ?_ ?_ ?_ ?_ ?_ ?_ ?_ ?_
                      rotate_left
                      · kernel_rfl
                      · kernel_rfl
                      · kernel_rfl
                      · (intro _ _ _ hq; exact hq)
                      · rfl
                      · (intro _w hSw; (try dsimp only at hSw); go_simp; try with_reducible rfl)
                      · assumption
                      try simp only [Act.put, List.setIfInBounds_toArray, List.set_cons_zero, List.set_cons_succ]
                      refine take_in (i := 5) (v := ?_) (d := (some 105)) rfl rfl ?_ ?_ ?_ ?_ ?_ ?_ ?_ ?_
                      rotate_left
                      · kernel_rfl
                      · kernel_rfl
                      · kernel_rfl
                      · (intro _ _ _ hq; exact hq)
                      · rfl
                      · (intro _w hSw; (try dsimp only at hSw); go_simp; try with_reducible rfl)
                      · assumption
                      try simp only [Act.put, List.setIfInBounds_toArray, List.set_cons_zero, List.set_cons_succ]
                      refine take_un (i := 6) (d := (some 106)) rfl rfl ?_ ?_ ?_ ?_ ?_ ?_ ?_
                      · kernel_rfl
                      · kernel_rfl
                      · kernel_rfl
                      · (intro _ _ _ hq; exact hq)
                      · rfl
                      · assumption
                      try simp only [Act.put, List.setIfInBounds_toArray, List.set_cons_zero, List.set_cons_succ]
                      refine take_un (i := 7) (d := (some 107)) rfl rfl ?_ ?_ ?_ ?_ ?_ ?_ ?_
                      · kernel_rfl
                      · kernel_rfl
                      · kernel_rfl
                      · (intro _ _ _ hq; exact hq)
                      · rfl
                      · assumption
                      try simp only [Act.put, List.setIfInBounds_toArray, List.set_cons_zero, List.set_cons_succ]
                      refine take_un (i := 8) (d := (some 108)) rfl rfl ?_ ?_ ?_ ?_ ?_ ?_ ?_
                      · kernel_rfl
                      · kernel_rfl
                      · kernel_rfl
                      · (intro _ _ _ hq; exact hq)
                      · rfl
                      · assumption
                      try simp only [Act.put, List.setIfInBounds_toArray, List.set_cons_zero, List.set_cons_succ]
                      refine take_un (i := 9) (d := (some 109)) rfl rfl ?_ ?_ ?_ ?_ ?_ ?_ ?_
                      · kernel_rfl
                      · kernel_rfl
                      · kernel_rfl
                      · (intro _ _ _ hq; exact hq)
                      · rfl
                      · assumption
                      try simp only [Act.put, List.setIfInBounds_toArray, List.set_cons_zero, List.set_cons_succ]
                      refine take_un (i := 10) (d := (some 110)) rfl rfl ?_ ?_ ?_ ?_ ?_ ?_ ?_
                      · kernel_rfl
                      · kernel_rfl
                      · kernel_rfl
                      · (intro _ _ _ hq; exact hq)
                      · rfl
                      · assumption
                      try simp only [Act.put, List.setIfInBounds_toArray, List.set_cons_zero, List.set_cons_succ]
                      refine take_un (i := 11) (d := (some 111)) rfl rfl ?_ ?_ ?_ ?_ ?_ ?_ ?_
                      · kernel_rfl
                      · kernel_rfl
                      · kernel_rfl
                      · (intro _ _ _ hq; exact hq)
                      · rfl
                      · assumption
                      try simp only [Act.put, List.setIfInBounds_toArray, List.set_cons_zero, List.set_cons_succ]
                      refine take_un (i := 12) (d := (some 112)) rfl rfl ?_ ?_ ?_ ?_ ?_ ?_ ?_
                      · kernel_rfl
                      · kernel_rfl
                      · kernel_rfl
                      · (intro _ _ _ hq; exact hq)
                      · rfl
                      · assumption
                      try simp only [Act.put, List.setIfInBounds_toArray, List.set_cons_zero, List.set_cons_succ]
                      refine take_un (i := 13) (d := (some 113)) rfl rfl ?_ ?_ ?_ ?_ ?_ ?_ ?_
                      · kernel_rfl
                      · kernel_rfl
                      · kernel_rfl
                      · (intro _ _ _ hq; exact hq)
                      · rfl
                      · assumption
                      try simp only [Act.put, List.setIfInBounds_toArray, List.set_cons_zero, List.set_cons_succ]
                      refine take_un (i := 14) (d := (some 114)) rfl rfl ?_ ?_ ?_ ?_ ?_ ?_ ?_
                      · kernel_rfl
                      · kernel_rfl
                      · kernel_rfl
                      · (intro _ _ _ hq; exact hq)
                      · rfl
                      · assumption
                      try simp only [Act.put, List.setIfInBounds_toArray, List.set_cons_zero, List.set_cons_succ]
                      refine take_un (i := 15) (d := (some 115)) rfl rfl ?_ ?_ ?_ ?_ ?_ ?_ ?_
                      · kernel_rfl
                      · kernel_rfl
                      · kernel_rfl
                      · (intro _ _ _ hq; exact hq)
                      · rfl
                      · assumption
                      try simp only [Act.put, List.setIfInBounds_toArray, List.set_cons_zero, List.set_cons_succ]
                      refine take_un (i := 16) (d := (some 116)) rfl rfl ?_ ?_ ?_ ?_ ?_ ?_ ?_
                      · kernel_rfl
                      · kernel_rfl
                      · kernel_rfl
                      · (intro _ _ _ hq; exact hq)
                      · rfl
                      · assumption
                      try simp only [Act.put, List.setIfInBounds_toArray, List.set_cons_zero, List.set_cons_succ]
                      refine take_un (i := 17) (d := (some 117)) rfl rfl ?_ ?_ ?_ ?_ ?_ ?_ ?_
                      · kernel_rfl
                      · kernel_rfl
                      · kernel_rfl
                      · (intro _ _ _ hq; exact hq)
                      · rfl
                      · assumption
                      try simp only [Act.put, List.setIfInBounds_toArray, List.set_cons_zero, List.set_cons_succ]
                      refine take_un (i := 18) (d := (some 118)) rfl rfl ?_ ?_ ?_ ?_ ?_ ?_ ?_
                      · kernel_rfl
                      · kernel_rfl
                      · kernel_rfl
                      · (intro _ _ _ hq; exact hq)
                      · rfl
                      · assumption
                      try simp only [Act.put, List.setIfInBounds_toArray, List.set_cons_zero, List.set_cons_succ]
                      refine take_un (i := 19) (d := (some 119)) rfl rfl ?_ ?_ ?_ ?_ ?_ ?_ ?_
                      · kernel_rfl
                      · kernel_rfl
                      · kernel_rfl
                      · (intro _ _ _ hq; exact hq)
                      · rfl
                      · assumption
                      try simp only [Act.put, List.setIfInBounds_toArray, List.set_cons_zero, List.set_cons_succ]
                      refine take_un (i := 20) (d := (some 120)) rfl rfl ?_ ?_ ?_ ?_ ?_ ?_ ?_
                      · kernel_rfl
                      · kernel_rfl
                      · kernel_rfl
                      · (intro _ _ _ hq; exact hq)
                      · rfl
                      · assumption
                      try simp only [Act.put, List.setIfInBounds_toArray, List.set_cons_zero, List.set_cons_succ]
                      refine take_un (i := 21) (d := (some 121)) rfl rfl ?_ ?_ ?_ ?_ ?_ ?_ ?_
                      · kernel_rfl
                      · kernel_rfl
                      · kernel_rfl
                      · (intro _ _ _ hq; exact hq)
                      · rfl
                      · assumption
                      try simp only [Act.put, List.setIfInBounds_toArray, List.set_cons_zero, List.set_cons_succ]
                      refine take_un (i := 22) (d := (some 122)) rfl rfl ?_ ?_ ?_ ?_ ?_ ?_ ?_
                      · kernel_rfl
                      · kernel_rfl
                      · kernel_rfl
                      · (intro _ _ _ hq; exact hq)
                      · rfl
                      · assumption
                      try simp only [Act.put, List.setIfInBounds_toArray, List.set_cons_zero, List.set_cons_succ]
                      refine take_un (i := 23) (d := (some 123)) rfl rfl ?_ ?_ ?_ ?_ ?_ ?_ ?_
                      · kernel_rfl
                      · kernel_rfl
                      · kernel_rfl
                      · (intro _ _ _ hq; exact hq)
                      · rfl
                      · assumption
                      try simp only [Act.put, List.setIfInBounds_toArray, List.set_cons_zero, List.set_cons_succ]
                      refine take_un (i := 24) (d := (some 124)) rfl rfl ?_ ?_ ?_ ?_ ?_ ?_ ?_
                      · kernel_rfl
                      · kernel_rfl
                      · kernel_rfl
                      · (intro _ _ _ hq; exact hq)
                      · rfl
                      · assumption
                      try simp only [Act.put, List.setIfInBounds_toArray, List.set_cons_zero, List.set_cons_succ]
                      refine take_in (i := 25) (v := ?_) (d := (some 125)) rfl rfl ?_ ?_ ?_ ?_ ?_ ?_ ?_ ?_
                      rotate_left
                      · kernel_rfl
                      · kernel_rfl
                      · kernel_rfl
                      · (intro _ _ _ hq; exact hq)
                      · rfl
                      · (intro _w hSw; (try dsimp only at hSw); go_simp; try with_reducible rfl)
                      · assumption
                      try simp only [Act.put, List.setIfInBounds_toArray, List.set_cons_zero, List.set_cons_succ]
                      refine wpAnyH_done ?_ ?_ _
                      · kernel_rfl
                      rotate_left
                      all_goals
                        obtain ⟨hB2, -⟩ := hHeld
                        go_wp2_with fail
                        go_roundw
                        case rel => exact ⟨j + 1, by omega, by omega, by go_num, Lib.hid (hnj.out.step (fun _ _ h => absurd ⟨HSS.out.1, by rw [HN.out]; exact HSS.out.2⟩ h)), hgw.trans hB2⟩
                        case measure => simp [intOf]; omega
                    · have e : ((mj : Int) != (k : Int)) = true := by rw [mod_is hj] at hmj; split at hmj <;> simp <;> omega
                      have HSS := Lib.hid hs
                      have r0 := hgw.keep p0
                      have r1 := hgw.keep p1
                      have s0 := hgw.keep q0
                      have s1 := hgw.keep q1
                      obtain ⟨b2, off2, e2, t0, t1⟩ := Pts_at (HP.out.keep (hg.trans hgw)) (k := j) (by have := HN.out; omega)
                      obtain ⟨rfl, rfl⟩ : b = b2 ∧ off = off2 := by simpa using e2
                      obtain ⟨b2, off2, e3, v0, v1⟩ := Pts_at (HP.out.keep (hg.trans hgw)) (k := mj) (by have := HN.out; omega)
                      obtain ⟨rfl, rfl⟩ : b = b2 ∧ off = off2 := by simpa using e3
                      obtain ⟨f0, f1⟩ := HV.out j
                      obtain ⟨g0, g1⟩ := HV.out mj
                      have HEJ : Hid (ed ps j = (ps.getD j (0, 0), ps.getD mj (0, 0))) := Lib.hid (by unfold ed; rw [HN.out, hmj])
                      generalize ps.getD j (0, 0) = u at t0 t1 f0 f1 HEJ
                      generalize ps.getD mj (0, 0) = v at v0 v1 g0 g1 HEJ
                      obtain ⟨a, b'⟩ := u
                      obtain ⟨c', d'⟩ := v
                      dsimp only at t0 t1 v0 v1 f0 f1 g0 g1
                      clear e2 e3 hmj hs
                      have i0 : (0 : Int) ≤ (mj : Int) := by omega
                      have i1 : (mj : Int) < (n : Int) := by omega
                      have KS : Hid (∀ W', Gr wr W' → (Gr wr W' ∧ W'.cell? ⟨b, off + k * 2, none⟩ = some (.int .i64 x) ∧ W'.cell? ⟨b, off + k * 2 + 1, none⟩ = some (.int .i64 y) ∧ W'.cell? ⟨b, off + m1 * 2, none⟩ = some (.int .i64 x1) ∧ W'.cell? ⟨b, off + m1 * 2 + 1, none⟩ = some (.int .i64 y1) ∧ W'.cell? ⟨b, off + j * 2, none⟩ = some (.int .i64 a) ∧ W'.cell? ⟨b, off + j * 2 + 1, none⟩ = some (.int .i64 b') ∧ W'.cell? ⟨b, off + mj * 2, none⟩ = some (.int .i64 c') ∧ W'.cell? ⟨b, off + mj * 2 + 1, none⟩ = some (.int .i64 d'))) := Lib.hid (fun W' h => ⟨h, h.keep r0, h.keep r1, h.keep s0, h.keep s1, h.keep t0, h.keep t1, h.keep v0, h.keep v1⟩)
                      have HTT : Hid (touchE (ed ps k) (ed ps j) = meetL x y x1 y1 a b' c' d') := Lib.hid (by rw [HE.out, HEJ.out, meet_touch]; rfl)
                      rcases ht : meetL x y x1 y1 a b' c' d' with _ | _
                      · have HT := Lib.hid ht
                        clear ht
                        go_wp2_with fail
                        refine wp_region_held_drew (S := (fun W' => Gr wr W' ∧ W'.cell? ⟨b, off + k * 2, none⟩ = some (.int .i64 x) ∧ W'.cell? ⟨b, off + k * 2 + 1, none⟩ = some (.int .i64 y) ∧ W'.cell? ⟨b, off + m1 * 2, none⟩ = some (.int .i64 x1) ∧ W'.cell? ⟨b, off + m1 * 2 + 1, none⟩ = some (.int .i64 y1) ∧ W'.cell? ⟨b, off + j * 2, none⟩ = some (.int .i64 a) ∧ W'.cell? ⟨b, off + j * 2 + 1, none⟩ = some (.int .i64 b') ∧ W'.cell? ⟨b, off + mj * 2, none⟩ = some (.int .i64 c') ∧ W'.cell? ⟨b, off + mj * 2 + 1, none⟩ = some (.int .i64 d'))) ?_ ?_ (fun hHeld => ?_)
                        · kernel_rfl
                        · ((try dsimp only); (refine KS.out _ ?_; (repeat (first | exact Gr.refl _ | exact hHeld.1 | (refine Gr.drew ?_) | (refine Gr.alloc ?_ _) | (refine Gr.trans ?_ (by assumption))))))
                        refine take_in (i := 0) (v := ?_) (d := (some 100)) rfl rfl ?_ ?_ ?_ ?_ ?_ ?_ ?_ ?_
                        rotate_left
                        · kernel_rfl
                        · kernel_rfl
                        · kernel_rfl
                        · (intro _ _ _ hq; exact hq)
                        · rfl
                        · (intro _w hSw; (try dsimp only at hSw); go_simp; try with_reducible rfl)
                        · assumption
                        try simp only [Act.put, List.setIfInBounds_toArray, List.set_cons_zero, List.set_cons_succ]
                        refine take_in (i := 1) (v := ?_) (d := (some 101)) rfl rfl ?_ ?_ ?_ ?_ ?_ ?_ ?_ ?_
                        rotate_left
                        · kernel_rfl
                        · kernel_rfl
                        · kernel_rfl
                        · (intro _ _ _ hq; exact hq)
                        · rfl
                        · (intro _w hSw; (try dsimp only at hSw); go_simp; try with_reducible rfl)
                        · assumption
                        try simp only [Act.put, List.setIfInBounds_toArray, List.set_cons_zero, List.set_cons_succ]
                        refine take_in (i := 3) (v := ?_) (d := (some 103)) rfl rfl ?_ ?_ ?_ ?_ ?_ ?_ ?_ ?_
                        rotate_left
                        · kernel_rfl
                        · kernel_rfl
                        · kernel_rfl
                        · (intro _ _ _ hq; exact hq)
                        · rfl
                        · (intro _w hSw; (try dsimp only at hSw); go_simp; try with_reducible rfl)
                        · assumption
                        try simp only [Act.put, List.setIfInBounds_toArray, List.set_cons_zero, List.set_cons_succ]
                        refine wpAnyH_ready (rs := [2]) ?_ ?_ ?_
                        · kernel_rfl
                        · simp
                        refine (AllReadyH.cons rfl (fun K hK => ?_) AllReadyH.nil)
                        go_simp
                        first | (go_at_call 33; (with_reducible refine (XJ.out _).mono ?_); rintro e w4 ⟨rfl, rfl⟩) | (go_at_call 36; (with_reducible refine (meet_any x y x1 y1 a b' c' d' _ c0 c1 d0 d1 f0 f1 g0 g1 _ HT.out).mono ?_); rintro e w4 ⟨rfl, hb⟩)
                        refine hK.out _ _ ?_ (fun hHeld => ?_)
                        · ((try dsimp only); (refine KS.out _ ?_; (repeat (first | exact Gr.refl _ | exact hHeld.1 | (refine Gr.drew ?_) | (refine Gr.alloc ?_ _) | (refine Gr.trans ?_ (by assumption))))))
                        clear hK K
                        try simp only [Act.put, List.setIfInBounds_toArray, List.set_cons_zero, List.set_cons_succ]
                        refine take_in (i := 4) (v := ?_) (d := (some 104)) rfl rfl ?_ ?_ ?_ ?_ ?_ ?_ ?_ ?_
                        rotate_left
                        · kernel_rfl
                        · kernel_rfl
                        · kernel_rfl
                        · (intro _ _ _ hq; exact hq)
                        · rfl
                        · (intro _w hSw; (try dsimp only at hSw); go_simp; try with_reducible rfl)
                        · assumption
                        try simp only [Act.put, List.setIfInBounds_toArray, List.set_cons_zero, List.set_cons_succ]
                        refine take_in (i := 5) (v := ?_) (d := (some 105)) rfl rfl ?_ ?_ ?_ ?_ ?_ ?_ ?_ ?_
                        rotate_left
                        · kernel_rfl
                        · kernel_rfl
                        · kernel_rfl
                        · (intro _ _ _ hq; exact hq)
                        · rfl
                        · (intro _w hSw; (try dsimp only at hSw); go_simp; try with_reducible rfl)
                        · assumption
                        try simp only [Act.put, List.setIfInBounds_toArray, List.set_cons_zero, List.set_cons_succ]
                        refine take_in (i := 6) (v := ?_) (d := (some 106)) rfl rfl ?_ ?_ ?_ ?_ ?_ ?_ ?_ ?_
                        rotate_left
                        · kernel_rfl
                        · kernel_rfl
                        · kernel_rfl
                        · (intro _ _ _ hq; exact hq)
                        · rfl
                        · (intro _w hSw; (try dsimp only at hSw); go_simp; try with_reducible rfl)
                        · assumption
                        try simp only [Act.put, List.setIfInBounds_toArray, List.set_cons_zero, List.set_cons_succ]
                        refine take_in (i := 7) (v := ?_) (d := (some 107)) rfl rfl ?_ ?_ ?_ ?_ ?_ ?_ ?_ ?_
                        rotate_left
                        · kernel_rfl
                        · kernel_rfl
                        · kernel_rfl
                        · (intro _ _ _ hq; exact hq)
                        · rfl
                        · (intro _w hSw; (try dsimp only at hSw); go_simp; try with_reducible rfl)
                        · assumption
                        try simp only [Act.put, List.setIfInBounds_toArray, List.set_cons_zero, List.set_cons_succ]
                        refine take_in (i := 8) (v := ?_) (d := (some 108)) rfl rfl ?_ ?_ ?_ ?_ ?_ ?_ ?_ ?_
                        rotate_left
                        · kernel_rfl
                        · kernel_rfl
                        · kernel_rfl
                        · (intro _ _ _ hq; exact hq)
                        · rfl
                        · (intro _w hSw; (try dsimp only at hSw); go_simp; try with_reducible rfl)
                        · assumption
                        try simp only [Act.put, List.setIfInBounds_toArray, List.set_cons_zero, List.set_cons_succ]
                        refine take_in (i := 9) (v := ?_) (d := (some 109)) rfl rfl ?_ ?_ ?_ ?_ ?_ ?_ ?_ ?_
                        rotate_left
                        · kernel_rfl
                        · kernel_rfl
                        · kernel_rfl
                        · (intro _ _ _ hq; exact hq)
                        · rfl
                        · (intro _w hSw; (try dsimp only at hSw); go_simp; try with_reducible rfl)
                        · assumption
                        try simp only [Act.put, List.setIfInBounds_toArray, List.set_cons_zero, List.set_cons_succ]
                        refine take_in (i := 10) (v := ?_) (d := (some 110)) rfl rfl ?_ ?_ ?_ ?_ ?_ ?_ ?_ ?_
                        rotate_left
                        · kernel_rfl
                        · kernel_rfl
                        · kernel_rfl
                        · (intro _ _ _ hq; exact hq)
                        · rfl
                        · (intro _w hSw; (try dsimp only at hSw); go_simp; try with_reducible rfl)
                        · assumption
                        try simp only [Act.put, List.setIfInBounds_toArray, List.set_cons_zero, List.set_cons_succ]
                        refine take_in (i := 11) (v := ?_) (d := (some 111)) rfl rfl ?_ ?_ ?_ ?_ ?_ ?_ ?_ ?_
                        rotate_left
                        · kernel_rfl
                        · kernel_rfl
                        · kernel_rfl
                        · (intro _ _ _ hq; exact hq)
                        · rfl
                        · (intro _w hSw; (try dsimp only at hSw); go_simp; try with_reducible rfl)
                        · assumption
                        try simp only [Act.put, List.setIfInBounds_toArray, List.set_cons_zero, List.set_cons_succ]
                        refine take_in (i := 12) (v := ?_) (d := (some 112)) rfl rfl ?_ ?_ ?_ ?_ ?_ ?_ ?_ ?_
                        rotate_left
                        · kernel_rfl
                        · kernel_rfl
                        · kernel_rfl
                        · (intro _ _ _ hq; exact hq)
                        · rfl
                        · (intro _w hSw; (try dsimp only at hSw); go_simp; try with_reducible rfl)
                        · assumption
                        try simp only [Act.put, List.setIfInBounds_toArray, List.set_cons_zero, List.set_cons_succ]
                        refine take_in (i := 13) (v := ?_) (d := (some 113)) rfl rfl ?_ ?_ ?_ ?_ ?_ ?_ ?_ ?_
                        rotate_left
                        · kernel_rfl
                        · kernel_rfl
                        · kernel_rfl
                        · (intro _ _ _ hq; exact hq)
                        · rfl
                        · (intro _w hSw; (try dsimp only at hSw); go_simp; try with_reducible rfl)
                        · assumption
                        try simp only [Act.put, List.setIfInBounds_toArray, List.set_cons_zero, List.set_cons_succ]
                        refine take_in (i := 14) (v := ?_) (d := (some 114)) rfl rfl ?_ ?_ ?_ ?_ ?_ ?_ ?_ ?_
                        rotate_left
                        · kernel_rfl
                        · kernel_rfl
                        · kernel_rfl
                        · (intro _ _ _ hq; exact hq)
                        · rfl
                        · (intro _w hSw; (try dsimp only at hSw); go_simp; try with_reducible rfl)
                        · assumption
                        try simp only [Act.put, List.setIfInBounds_toArray, List.set_cons_zero, List.set_cons_succ]
                        refine take_in (i := 15) (v := ?_) (d := (some 115)) rfl rfl ?_ ?_ ?_ ?_ ?_ ?_ ?_ ?_
                        rotate_left
                        · kernel_rfl
                        · kernel_rfl
                        · kernel_rfl
                        · (intro _ _ _ hq; exact hq)
                        · rfl
                        · (intro _w hSw; (try dsimp only at hSw); go_simp; try with_reducible rfl)
                        · assumption
                        try simp only [Act.put, List.setIfInBounds_toArray, List.set_cons_zero, List.set_cons_succ]
                        refine take_in (i := 16) (v := ?_) (d := (some 116)) rfl rfl ?_ ?_ ?_ ?_ ?_ ?_ ?_ ?_
                        rotate_left
                        · kernel_rfl
                        · kernel_rfl
                        · kernel_rfl
                        · (intro _ _ _ hq; exact hq)
                        · rfl
                        · (intro _w hSw; (try dsimp only at hSw); go_simp; try with_reducible rfl)
                        · assumption
                        try simp only [Act.put, List.setIfInBounds_toArray, List.set_cons_zero, List.set_cons_succ]
                        refine take_in (i := 17) (v := ?_) (d := (some 117)) rfl rfl ?_ ?_ ?_ ?_ ?_ ?_ ?_ ?_
                        rotate_left
                        · kernel_rfl
                        · kernel_rfl
                        · kernel_rfl
                        · (intro _ _ _ hq; exact hq)
                        · rfl
                        · (intro _w hSw; (try dsimp only at hSw); go_simp; try with_reducible rfl)
                        · assumption
                        try simp only [Act.put, List.setIfInBounds_toArray, List.set_cons_zero, List.set_cons_succ]
                        refine take_in (i := 18) (v := ?_) (d := (some 118)) rfl rfl ?_ ?_ ?_ ?_ ?_ ?_ ?_ ?_
                        rotate_left
                        · kernel_rfl
                        · kernel_rfl
                        · kernel_rfl
                        · (intro _ _ _ hq; exact hq)
                        · rfl
                        · (intro _w hSw; (try dsimp only at hSw); go_simp; try with_reducible rfl)
                        · assumption
                        try simp only [Act.put, List.setIfInBounds_toArray, List.set_cons_zero, List.set_cons_succ]
                        refine take_in (i := 19) (v := ?_) (d := (some 119)) rfl rfl ?_ ?_ ?_ ?_ ?_ ?_ ?_ ?_
                        rotate_left
                        · kernel_rfl
                        · kernel_rfl
                        · kernel_rfl
                        · (intro _ _ _ hq; exact hq)
                        · rfl
                        · (intro _w hSw; (try dsimp only at hSw); go_simp; try with_reducible rfl)
                        · assumption
                        try simp only [Act.put, List.setIfInBounds_toArray, List.set_cons_zero, List.set_cons_succ]
                        refine take_in (i := 20) (v := ?_) (d := (some 120)) rfl rfl ?_ ?_ ?_ ?_ ?_ ?_ ?_ ?_
                        rotate_left
                        · kernel_rfl
                        · kernel_rfl
                        · kernel_rfl
                        · (intro _ _ _ hq; exact hq)
                        · rfl
                        · (intro _w hSw; (try dsimp only at hSw); go_simp; try with_reducible rfl)
                        · assumption
                        try simp only [Act.put, List.setIfInBounds_toArray, List.set_cons_zero, List.set_cons_succ]
                        refine wpAnyH_ready (rs := [21]) ?_ ?_ ?_
                        · kernel_rfl
                        · simp
                        refine (AllReadyH.cons rfl (fun K hK => ?_) AllReadyH.nil)
                        go_simp
                        first | (go_at_call 33; (with_reducible refine (XJ.out _).mono ?_); rintro e w4 ⟨rfl, rfl⟩) | (go_at_call 36; (with_reducible refine (meet_any x y x1 y1 a b' c' d' _ c0 c1 d0 d1 f0 f1 g0 g1 _ HT.out).mono ?_); rintro e w4 ⟨rfl, hb⟩)
                        refine hK.out _ _ ?_ (fun hHeld => ?_)
                        · ((try dsimp only); (refine KS.out _ ?_; (repeat (first | exact Gr.refl _ | exact hHeld.1 | (refine Gr.drew ?_) | (refine Gr.alloc ?_ _) | (refine Gr.trans ?_ (by assumption))))))
                        clear hK K
                        try simp only [Act.put, List.setIfInBounds_toArray, List.set_cons_zero, List.set_cons_succ]
                        refine take_in (i := 22) (v := ?_) (d := (some 122)) rfl rfl ?_ ?_ ?_ ?_ ?_ ?_ ?_ ?_
                        rotate_left
                        · kernel_rfl
                        · kernel_rfl
                        · kernel_rfl
                        · (intro _ _ _ hq; exact hq)
                        · rfl
                        · (intro _w hSw; (try dsimp only at hSw); go_simp; try with_reducible rfl)
                        · assumption
                        try simp only [Act.put, List.setIfInBounds_toArray, List.set_cons_zero, List.set_cons_succ]
                        refine take_in (i := 23) (v := ?_) (d := (some 123)) rfl rfl ?_ ?_ ?_ ?_ ?_ ?_ ?_ ?_
                        rotate_left
                        · kernel_rfl
                        · kernel_rfl
                        · kernel_rfl
                        · (intro _ _ _ hq; exact hq)
                        · rfl
                        · (intro _w hSw; (try dsimp only at hSw); go_simp; try with_reducible rfl)
                        · assumption
                        try simp only [Act.put, List.setIfInBounds_toArray, List.set_cons_zero, List.set_cons_succ]
                        refine wpAnyH_ready (rs := [24]) ?_ ?_ ?_
                        · kernel_rfl
                        · simp
                        refine (AllReadyH.cons rfl (fun K hK => ?_) AllReadyH.nil)
                        go_simp
                        first | (go_at_call 33; (with_reducible refine (XJ.out _).mono ?_); rintro e w4 ⟨rfl, rfl⟩) | (go_at_call 36; (with_reducible refine (meet_any x y x1 y1 a b' c' d' _ c0 c1 d0 d1 f0 f1 g0 g1 _ HT.out).mono ?_); rintro e w4 ⟨rfl, hb⟩)
                        refine hK.out _ _ ?_ (fun hHeld => ?_)
                        · ((try dsimp only); (refine KS.out _ ?_; (repeat (first | exact Gr.refl _ | exact hHeld.1 | (refine Gr.drew ?_) | (refine Gr.alloc ?_ _) | (refine Gr.trans ?_ (by assumption))))))
                        clear hK K
                        try simp only [Act.put, List.setIfInBounds_toArray, List.set_cons_zero, List.set_cons_succ]
                        refine take_in (i := 25) (v := ?_) (d := (some 125)) rfl rfl ?_ ?_ ?_ ?_ ?_ ?_ ?_ ?_
                        rotate_left
                        · kernel_rfl
                        · kernel_rfl
                        · kernel_rfl
                        · (intro _ _ _ hq; exact hq)
                        · rfl
                        · (intro _w hSw; (try dsimp only at hSw); go_simp; try with_reducible rfl)
                        · assumption
                        try simp only [Act.put, List.setIfInBounds_toArray, List.set_cons_zero, List.set_cons_succ]
                        refine wpAnyH_done ?_ ?_ _
                        · kernel_rfl
                        rotate_left
                        all_goals
                          obtain ⟨hB2, -⟩ := hHeld
                          go_wp2_with fail
                          go_roundw
                          case rel => exact ⟨j + 1, by omega, by omega, by go_num, Lib.hid (hnj.out.step (fun _ _ _ => HTT.out.trans HT.out)), hgw.trans hB2⟩
                          case measure => simp [intOf]; omega
                      · have HT := Lib.hid ht
                        clear ht
                        go_wp2_with fail
                        refine wp_region_held_drew (S := (fun W' => Gr wr W' ∧ W'.cell? ⟨b, off + k * 2, none⟩ = some (.int .i64 x) ∧ W'.cell? ⟨b, off + k * 2 + 1, none⟩ = some (.int .i64 y) ∧ W'.cell? ⟨b, off + m1 * 2, none⟩ = some (.int .i64 x1) ∧ W'.cell? ⟨b, off + m1 * 2 + 1, none⟩ = some (.int .i64 y1) ∧ W'.cell? ⟨b, off + j * 2, none⟩ = some (.int .i64 a) ∧ W'.cell? ⟨b, off + j * 2 + 1, none⟩ = some (.int .i64 b') ∧ W'.cell? ⟨b, off + mj * 2, none⟩ = some (.int .i64 c') ∧ W'.cell? ⟨b, off + mj * 2 + 1, none⟩ = some (.int .i64 d'))) ?_ ?_ (fun hHeld => ?_)
                        · kernel_rfl
                        · ((try dsimp only); (refine KS.out _ ?_; (repeat (first | exact Gr.refl _ | exact hHeld.1 | (refine Gr.drew ?_) | (refine Gr.alloc ?_ _) | (refine Gr.trans ?_ (by assumption))))))
                        refine take_in (i := 0) (v := ?_) (d := (some 100)) rfl rfl ?_ ?_ ?_ ?_ ?_ ?_ ?_ ?_
                        rotate_left
                        · kernel_rfl
                        · kernel_rfl
                        · kernel_rfl
                        · (intro _ _ _ hq; exact hq)
                        · rfl
                        · (intro _w hSw; (try dsimp only at hSw); go_simp; try with_reducible rfl)
                        · assumption
                        try simp only [Act.put, List.setIfInBounds_toArray, List.set_cons_zero, List.set_cons_succ]
                        refine take_in (i := 1) (v := ?_) (d := (some 101)) rfl rfl ?_ ?_ ?_ ?_ ?_ ?_ ?_ ?_
                        rotate_left
                        · kernel_rfl
                        · kernel_rfl
                        · kernel_rfl
                        · (intro _ _ _ hq; exact hq)
                        · rfl
                        · (intro _w hSw; (try dsimp only at hSw); go_simp; try with_reducible rfl)
                        · assumption
                        try simp only [Act.put, List.setIfInBounds_toArray, List.set_cons_zero, List.set_cons_succ]
                        refine take_in (i := 3) (v := ?_) (d := (some 103)) rfl rfl ?_ ?_ ?_ ?_ ?_ ?_ ?_ ?_
                        rotate_left
                        · kernel_rfl
                        · kernel_rfl
                        · kernel_rfl
                        · (intro _ _ _ hq; exact hq)
                        · rfl
                        · (intro _w hSw; (try dsimp only at hSw); go_simp; try with_reducible rfl)
                        · assumption
                        try simp only [Act.put, List.setIfInBounds_toArray, List.set_cons_zero, List.set_cons_succ]
                        refine wpAnyH_ready (rs := [2]) ?_ ?_ ?_
                        · kernel_rfl
                        · simp
                        refine (AllReadyH.cons rfl (fun K hK => ?_) AllReadyH.nil)
                        go_simp
                        first | (go_at_call 33; (with_reducible refine (XJ.out _).mono ?_); rintro e w4 ⟨rfl, rfl⟩) | (go_at_call 36; (with_reducible refine (meet_any x y x1 y1 a b' c' d' _ c0 c1 d0 d1 f0 f1 g0 g1 _ HT.out).mono ?_); rintro e w4 ⟨rfl, hb⟩)
                        refine hK.out _ _ ?_ (fun hHeld => ?_)
                        · ((try dsimp only); (refine KS.out _ ?_; (repeat (first | exact Gr.refl _ | exact hHeld.1 | (refine Gr.drew ?_) | (refine Gr.alloc ?_ _) | (refine Gr.trans ?_ (by assumption))))))
                        clear hK K
                        try simp only [Act.put, List.setIfInBounds_toArray, List.set_cons_zero, List.set_cons_succ]
                        refine take_in (i := 4) (v := ?_) (d := (some 104)) rfl rfl ?_ ?_ ?_ ?_ ?_ ?_ ?_ ?_
                        rotate_left
                        · kernel_rfl
                        · kernel_rfl
                        · kernel_rfl
                        · (intro _ _ _ hq; exact hq)
                        · rfl
                        · (intro _w hSw; (try dsimp only at hSw); go_simp; try with_reducible rfl)
                        · assumption
                        try simp only [Act.put, List.setIfInBounds_toArray, List.set_cons_zero, List.set_cons_succ]
                        refine take_in (i := 5) (v := ?_) (d := (some 105)) rfl rfl ?_ ?_ ?_ ?_ ?_ ?_ ?_ ?_
                        rotate_left
                        · kernel_rfl
                        · kernel_rfl
                        · kernel_rfl
                        · (intro _ _ _ hq; exact hq)
                        · rfl
                        · (intro _w hSw; (try dsimp only at hSw); go_simp; try with_reducible rfl)
                        · assumption
                        try simp only [Act.put, List.setIfInBounds_toArray, List.set_cons_zero, List.set_cons_succ]
                        refine take_in (i := 6) (v := ?_) (d := (some 106)) rfl rfl ?_ ?_ ?_ ?_ ?_ ?_ ?_ ?_
                        rotate_left
                        · kernel_rfl
                        · kernel_rfl
                        · kernel_rfl
                        · (intro _ _ _ hq; exact hq)
                        · rfl
                        · (intro _w hSw; (try dsimp only at hSw); go_simp; try with_reducible rfl)
                        · assumption
                        try simp only [Act.put, List.setIfInBounds_toArray, List.set_cons_zero, List.set_cons_succ]
                        refine take_in (i := 7) (v := ?_) (d := (some 107)) rfl rfl ?_ ?_ ?_ ?_ ?_ ?_ ?_ ?_
                        rotate_left
                        · kernel_rfl
                        · kernel_rfl
                        · kernel_rfl
                        · (intro _ _ _ hq; exact hq)
                        · rfl
                        · (intro _w hSw; (try dsimp only at hSw); go_simp; try with_reducible rfl)
                        · assumption
                        try simp only [Act.put, List.setIfInBounds_toArray, List.set_cons_zero, List.set_cons_succ]
                        refine take_in (i := 8) (v := ?_) (d := (some 108)) rfl rfl ?_ ?_ ?_ ?_ ?_ ?_ ?_ ?_
                        rotate_left
                        · kernel_rfl
                        · kernel_rfl
                        · kernel_rfl
                        · (intro _ _ _ hq; exact hq)
                        · rfl
                        · (intro _w hSw; (try dsimp only at hSw); go_simp; try with_reducible rfl)
                        · assumption
                        try simp only [Act.put, List.setIfInBounds_toArray, List.set_cons_zero, List.set_cons_succ]
                        refine take_in (i := 9) (v := ?_) (d := (some 109)) rfl rfl ?_ ?_ ?_ ?_ ?_ ?_ ?_ ?_
                        rotate_left
                        · kernel_rfl
                        · kernel_rfl
                        · kernel_rfl
                        · (intro _ _ _ hq; exact hq)
                        · rfl
                        · (intro _w hSw; (try dsimp only at hSw); go_simp; try with_reducible rfl)
                        · assumption
                        try simp only [Act.put, List.setIfInBounds_toArray, List.set_cons_zero, List.set_cons_succ]
                        refine take_in (i := 10) (v := ?_) (d := (some 110)) rfl rfl ?_ ?_ ?_ ?_ ?_ ?_ ?_ ?_
                        rotate_left
                        · kernel_rfl
                        · kernel_rfl
                        · kernel_rfl
                        · (intro _ _ _ hq; exact hq)
                        · rfl
                        · (intro _w hSw; (try dsimp only at hSw); go_simp; try with_reducible rfl)
                        · assumption
                        try simp only [Act.put, List.setIfInBounds_toArray, List.set_cons_zero, List.set_cons_succ]
                        refine take_in (i := 11) (v := ?_) (d := (some 111)) rfl rfl ?_ ?_ ?_ ?_ ?_ ?_ ?_ ?_
                        rotate_left
                        · kernel_rfl
                        · kernel_rfl
                        · kernel_rfl
                        · (intro _ _ _ hq; exact hq)
                        · rfl
                        · (intro _w hSw; (try dsimp only at hSw); go_simp; try with_reducible rfl)
                        · assumption
                        try simp only [Act.put, List.setIfInBounds_toArray, List.set_cons_zero, List.set_cons_succ]
                        refine take_in (i := 12) (v := ?_) (d := (some 112)) rfl rfl ?_ ?_ ?_ ?_ ?_ ?_ ?_ ?_
                        rotate_left
                        · kernel_rfl
                        · kernel_rfl
                        · kernel_rfl
                        · (intro _ _ _ hq; exact hq)
                        · rfl
                        · (intro _w hSw; (try dsimp only at hSw); go_simp; try with_reducible rfl)
                        · assumption
                        try simp only [Act.put, List.setIfInBounds_toArray, List.set_cons_zero, List.set_cons_succ]
                        refine take_in (i := 13) (v := ?_) (d := (some 113)) rfl rfl ?_ ?_ ?_ ?_ ?_ ?_ ?_ ?_
                        rotate_left
                        · kernel_rfl
                        · kernel_rfl
                        · kernel_rfl
                        · (intro _ _ _ hq; exact hq)
                        · rfl
                        · (intro _w hSw; (try dsimp only at hSw); go_simp; try with_reducible rfl)
                        · assumption
                        try simp only [Act.put, List.setIfInBounds_toArray, List.set_cons_zero, List.set_cons_succ]
                        refine take_in (i := 14) (v := ?_) (d := (some 114)) rfl rfl ?_ ?_ ?_ ?_ ?_ ?_ ?_ ?_
                        rotate_left
                        · kernel_rfl
                        · kernel_rfl
                        · kernel_rfl
                        · (intro _ _ _ hq; exact hq)
                        · rfl
                        · (intro _w hSw; (try dsimp only at hSw); go_simp; try with_reducible rfl)
                        · assumption
                        try simp only [Act.put, List.setIfInBounds_toArray, List.set_cons_zero, List.set_cons_succ]
                        refine take_in (i := 15) (v := ?_) (d := (some 115)) rfl rfl ?_ ?_ ?_ ?_ ?_ ?_ ?_ ?_
                        rotate_left
                        · kernel_rfl
                        · kernel_rfl
                        · kernel_rfl
                        · (intro _ _ _ hq; exact hq)
                        · rfl
                        · (intro _w hSw; (try dsimp only at hSw); go_simp; try with_reducible rfl)
                        · assumption
                        try simp only [Act.put, List.setIfInBounds_toArray, List.set_cons_zero, List.set_cons_succ]
                        refine take_in (i := 16) (v := ?_) (d := (some 116)) rfl rfl ?_ ?_ ?_ ?_ ?_ ?_ ?_ ?_
                        rotate_left
                        · kernel_rfl
                        · kernel_rfl
                        · kernel_rfl
                        · (intro _ _ _ hq; exact hq)
                        · rfl
                        · (intro _w hSw; (try dsimp only at hSw); go_simp; try with_reducible rfl)
                        · assumption
                        try simp only [Act.put, List.setIfInBounds_toArray, List.set_cons_zero, List.set_cons_succ]
                        refine take_in (i := 17) (v := ?_) (d := (some 117)) rfl rfl ?_ ?_ ?_ ?_ ?_ ?_ ?_ ?_
                        rotate_left
                        · kernel_rfl
                        · kernel_rfl
                        · kernel_rfl
                        · (intro _ _ _ hq; exact hq)
                        · rfl
                        · (intro _w hSw; (try dsimp only at hSw); go_simp; try with_reducible rfl)
                        · assumption
                        try simp only [Act.put, List.setIfInBounds_toArray, List.set_cons_zero, List.set_cons_succ]
                        refine take_in (i := 18) (v := ?_) (d := (some 118)) rfl rfl ?_ ?_ ?_ ?_ ?_ ?_ ?_ ?_
                        rotate_left
                        · kernel_rfl
                        · kernel_rfl
                        · kernel_rfl
                        · (intro _ _ _ hq; exact hq)
                        · rfl
                        · (intro _w hSw; (try dsimp only at hSw); go_simp; try with_reducible rfl)
                        · assumption
                        try simp only [Act.put, List.setIfInBounds_toArray, List.set_cons_zero, List.set_cons_succ]
                        refine take_in (i := 19) (v := ?_) (d := (some 119)) rfl rfl ?_ ?_ ?_ ?_ ?_ ?_ ?_ ?_
                        rotate_left
                        · kernel_rfl
                        · kernel_rfl
                        · kernel_rfl
                        · (intro _ _ _ hq; exact hq)
                        · rfl
                        · (intro _w hSw; (try dsimp only at hSw); go_simp; try with_reducible rfl)
                        · assumption
                        try simp only [Act.put, List.setIfInBounds_toArray, List.set_cons_zero, List.set_cons_succ]
                        refine take_in (i := 20) (v := ?_) (d := (some 120)) rfl rfl ?_ ?_ ?_ ?_ ?_ ?_ ?_ ?_
                        rotate_left
                        · kernel_rfl
                        · kernel_rfl
                        · kernel_rfl
                        · (intro _ _ _ hq; exact hq)
                        · rfl
                        · (intro _w hSw; (try dsimp only at hSw); go_simp; try with_reducible rfl)
                        · assumption
                        try simp only [Act.put, List.setIfInBounds_toArray, List.set_cons_zero, List.set_cons_succ]
                        refine wpAnyH_ready (rs := [21]) ?_ ?_ ?_
                        · kernel_rfl
                        · simp
                        refine (AllReadyH.cons rfl (fun K hK => ?_) AllReadyH.nil)
                        go_simp
                        first | (go_at_call 33; (with_reducible refine (XJ.out _).mono ?_); rintro e w4 ⟨rfl, rfl⟩) | (go_at_call 36; (with_reducible refine (meet_any x y x1 y1 a b' c' d' _ c0 c1 d0 d1 f0 f1 g0 g1 _ HT.out).mono ?_); rintro e w4 ⟨rfl, hb⟩)
                        refine hK.out _ _ ?_ (fun hHeld => ?_)
                        · ((try dsimp only); (refine KS.out _ ?_; (repeat (first | exact Gr.refl _ | exact hHeld.1 | (refine Gr.drew ?_) | (refine Gr.alloc ?_ _) | (refine Gr.trans ?_ (by assumption))))))
                        clear hK K
                        try simp only [Act.put, List.setIfInBounds_toArray, List.set_cons_zero, List.set_cons_succ]
                        refine take_in (i := 22) (v := ?_) (d := (some 122)) rfl rfl ?_ ?_ ?_ ?_ ?_ ?_ ?_ ?_
                        rotate_left
                        · kernel_rfl
                        · kernel_rfl
                        · kernel_rfl
                        · (intro _ _ _ hq; exact hq)
                        · rfl
                        · (intro _w hSw; (try dsimp only at hSw); go_simp; try with_reducible rfl)
                        · assumption
                        try simp only [Act.put, List.setIfInBounds_toArray, List.set_cons_zero, List.set_cons_succ]
                        refine take_in (i := 23) (v := ?_) (d := (some 123)) rfl rfl ?_ ?_ ?_ ?_ ?_ ?_ ?_ ?_
                        rotate_left
                        · kernel_rfl
                        · kernel_rfl
                        · kernel_rfl
                        · (intro _ _ _ hq; exact hq)
                        · rfl
                        · (intro _w hSw; (try dsimp only at hSw); go_simp; try with_reducible rfl)
                        · assumption
                        try simp only [Act.put, List.setIfInBounds_toArray, List.set_cons_zero, List.set_cons_succ]
                        refine wpAnyH_ready (rs := [24]) ?_ ?_ ?_
                        · kernel_rfl
                        · simp
                        refine (AllReadyH.cons rfl (fun K hK => ?_) AllReadyH.nil)
                        go_simp
                        first | (go_at_call 33; (with_reducible refine (XJ.out _).mono ?_); rintro e w4 ⟨rfl, rfl⟩) | (go_at_call 36; (with_reducible refine (meet_any x y x1 y1 a b' c' d' _ c0 c1 d0 d1 f0 f1 g0 g1 _ HT.out).mono ?_); rintro e w4 ⟨rfl, hb⟩)
                        refine hK.out _ _ ?_ (fun hHeld => ?_)
                        · ((try dsimp only); (refine KS.out _ ?_; (repeat (first | exact Gr.refl _ | exact hHeld.1 | (refine Gr.drew ?_) | (refine Gr.alloc ?_ _) | (refine Gr.trans ?_ (by assumption))))))
                        clear hK K
                        try simp only [Act.put, List.setIfInBounds_toArray, List.set_cons_zero, List.set_cons_succ]
                        refine take_in (i := 25) (v := ?_) (d := (some 125)) rfl rfl ?_ ?_ ?_ ?_ ?_ ?_ ?_ ?_
                        rotate_left
                        · kernel_rfl
                        · kernel_rfl
                        · kernel_rfl
                        · (intro _ _ _ hq; exact hq)
                        · rfl
                        · (intro _w hSw; (try dsimp only at hSw); go_simp; try with_reducible rfl)
                        · assumption
                        try simp only [Act.put, List.setIfInBounds_toArray, List.set_cons_zero, List.set_cons_succ]
                        refine wpAnyH_done ?_ ?_ _
                        · kernel_rfl
                        rotate_left
                        all_goals
                          obtain ⟨hB2, -⟩ := hHeld
                          go_wp2_with fail
                          go_ret
                          exact ⟨false, rfl, ⟨fun h => absurd h (by decide), fun h => absurd ⟨k, j, hkj, by rw [HN.out]; exact hj, by rw [HN.out]; exact HSS.out, HTT.out.trans HT.out⟩ h.2.2.2.2⟩, (hg.trans hgw).trans hB2⟩
                  · have HK : Hid (∀ i, i < k + 1 → badE ps i = false) := Lib.hid (fun i hi => by
                      rcases Nat.lt_succ_iff_lt_or_eq.1 hi with h | rfl
                      · exact hok.out i h
                      · rw [HBAD.out, HFO.out]; simpa using NEK.out)
                    have HNX : Hid (NoCross ps (k + 1) 0) := Lib.hid (hnj.out.next (by rw [HN.out]; omega))
                    go_wp2_with fail
                    go_roundw
                    case rel => exact ⟨k + 1, by omega, by go_num, HK, HNX, hg.trans hgw⟩
                    case measure => simp [intOf]; omega
          · have HFO := Lib.hid hfo
            clear hfo
            have H12 : s = 0 ∧ (onL x y x1 y1 x2 y2 = true ∨ onL x1 y1 x2 y2 x y = true) := by have h := HF.out; rw [HFO.out] at h; simpa using h.symm
            obtain ⟨rfl, H12⟩ := H12
            rcases h1 : onL x y x1 y1 x2 y2 with _ | _
            · have H1 := Lib.hid h1
              have H2 := Lib.hid (H12.resolve_left (by rw [h1]; decide))
              clear H12 h1
              refine wp_region_held_drew (S := (fun W' => Gr wo W' ∧ W'.cell? ⟨b, off + k * 2, none⟩ = some (.int .i64 x) ∧ W'.cell? ⟨b, off + k * 2 + 1, none⟩ = some (.int .i64 y) ∧ W'.cell? ⟨b, off + m1 * 2, none⟩ = some (.int .i64 x1) ∧ W'.cell? ⟨b, off + m1 * 2 + 1, none⟩ = some (.int .i64 y1) ∧ W'.cell? ⟨b, off + m2 * 2, none⟩ = some (.int .i64 x2) ∧ W'.cell? ⟨b, off + m2 * 2 + 1, none⟩ = some (.int .i64 y2))) ?_ ?_ (fun hHeld => ?_)
              · kernel_rfl
              · ((try dsimp only); (refine KS.out _ ?_; (repeat (first | exact Gr.refl _ | exact hHeld.1 | (refine Gr.drew ?_) | (refine Gr.alloc ?_ _) | (refine Gr.trans ?_ (by assumption))))))
              refine take_in (i := 0) (v := ?_) (d := (some 49)) rfl rfl ?_ ?_ ?_ ?_ ?_ ?_ ?_ ?_
              rotate_left
              · kernel_rfl
              · kernel_rfl
              · kernel_rfl
              · (intro _ _ _ hq; exact hq)
              · rfl
              · (intro _w hSw; (try dsimp only at hSw); go_simp; try with_reducible rfl)
              · assumption
              try simp only [Act.put, List.setIfInBounds_toArray, List.set_cons_zero, List.set_cons_succ]
              refine take_in (i := 1) (v := ?_) (d := (some 50)) rfl rfl ?_ ?_ ?_ ?_ ?_ ?_ ?_ ?_
              rotate_left
              · kernel_rfl
              · kernel_rfl
              · kernel_rfl
              · (intro _ _ _ hq; exact hq)
              · rfl
              · (intro _w hSw; (try dsimp only at hSw); go_simp; try with_reducible rfl)
              · assumption
              try simp only [Act.put, List.setIfInBounds_toArray, List.set_cons_zero, List.set_cons_succ]
              refine take_in (i := 2) (v := ?_) (d := (some 51)) rfl rfl ?_ ?_ ?_ ?_ ?_ ?_ ?_ ?_
              rotate_left
              · kernel_rfl
              · kernel_rfl
              · kernel_rfl
              · (intro _ _ _ hq; exact hq)
              · rfl
              · (intro _w hSw; (try dsimp only at hSw); go_simp; try with_reducible rfl)
              · assumption
              try simp only [Act.put, List.setIfInBounds_toArray, List.set_cons_zero, List.set_cons_succ]
              refine take_in (i := 3) (v := ?_) (d := (some 52)) rfl rfl ?_ ?_ ?_ ?_ ?_ ?_ ?_ ?_
              rotate_left
              · kernel_rfl
              · kernel_rfl
              · kernel_rfl
              · (intro _ _ _ hq; exact hq)
              · rfl
              · (intro _w hSw; (try dsimp only at hSw); go_simp; try with_reducible rfl)
              · assumption
              try simp only [Act.put, List.setIfInBounds_toArray, List.set_cons_zero, List.set_cons_succ]
              refine take_in (i := 4) (v := ?_) (d := (some 53)) rfl rfl ?_ ?_ ?_ ?_ ?_ ?_ ?_ ?_
              rotate_left
              · kernel_rfl
              · kernel_rfl
              · kernel_rfl
              · (intro _ _ _ hq; exact hq)
              · rfl
              · (intro _w hSw; (try dsimp only at hSw); go_simp; try with_reducible rfl)
              · assumption
              try simp only [Act.put, List.setIfInBounds_toArray, List.set_cons_zero, List.set_cons_succ]
              refine take_in (i := 5) (v := ?_) (d := (some 54)) rfl rfl ?_ ?_ ?_ ?_ ?_ ?_ ?_ ?_
              rotate_left
              · kernel_rfl
              · kernel_rfl
              · kernel_rfl
              · (intro _ _ _ hq; exact hq)
              · rfl
              · (intro _w hSw; (try dsimp only at hSw); go_simp; try with_reducible rfl)
              · assumption
              try simp only [Act.put, List.setIfInBounds_toArray, List.set_cons_zero, List.set_cons_succ]
              refine take_in (i := 6) (v := ?_) (d := (some 55)) rfl rfl ?_ ?_ ?_ ?_ ?_ ?_ ?_ ?_
              rotate_left
              · kernel_rfl
              · kernel_rfl
              · kernel_rfl
              · (intro _ _ _ hq; exact hq)
              · rfl
              · (intro _w hSw; (try dsimp only at hSw); go_simp; try with_reducible rfl)
              · assumption
              try simp only [Act.put, List.setIfInBounds_toArray, List.set_cons_zero, List.set_cons_succ]
              refine take_in (i := 7) (v := ?_) (d := (some 56)) rfl rfl ?_ ?_ ?_ ?_ ?_ ?_ ?_ ?_
              rotate_left
              · kernel_rfl
              · kernel_rfl
              · kernel_rfl
              · (intro _ _ _ hq; exact hq)
              · rfl
              · (intro _w hSw; (try dsimp only at hSw); go_simp; try with_reducible rfl)
              · assumption
              try simp only [Act.put, List.setIfInBounds_toArray, List.set_cons_zero, List.set_cons_succ]
              refine take_in (i := 8) (v := ?_) (d := (some 57)) rfl rfl ?_ ?_ ?_ ?_ ?_ ?_ ?_ ?_
              rotate_left
              · kernel_rfl
              · kernel_rfl
              · kernel_rfl
              · (intro _ _ _ hq; exact hq)
              · rfl
              · (intro _w hSw; (try dsimp only at hSw); go_simp; try with_reducible rfl)
              · assumption
              try simp only [Act.put, List.setIfInBounds_toArray, List.set_cons_zero, List.set_cons_succ]
              refine take_in (i := 9) (v := ?_) (d := (some 58)) rfl rfl ?_ ?_ ?_ ?_ ?_ ?_ ?_ ?_
              rotate_left
              · kernel_rfl
              · kernel_rfl
              · kernel_rfl
              · (intro _ _ _ hq; exact hq)
              · rfl
              · (intro _w hSw; (try dsimp only at hSw); go_simp; try with_reducible rfl)
              · assumption
              try simp only [Act.put, List.setIfInBounds_toArray, List.set_cons_zero, List.set_cons_succ]
              refine take_in (i := 10) (v := ?_) (d := (some 59)) rfl rfl ?_ ?_ ?_ ?_ ?_ ?_ ?_ ?_
              rotate_left
              · kernel_rfl
              · kernel_rfl
              · kernel_rfl
              · (intro _ _ _ hq; exact hq)
              · rfl
              · (intro _w hSw; (try dsimp only at hSw); go_simp; try with_reducible rfl)
              · assumption
              try simp only [Act.put, List.setIfInBounds_toArray, List.set_cons_zero, List.set_cons_succ]
              refine take_in (i := 11) (v := ?_) (d := (some 60)) rfl rfl ?_ ?_ ?_ ?_ ?_ ?_ ?_ ?_
              rotate_left
              · kernel_rfl
              · kernel_rfl
              · kernel_rfl
              · (intro _ _ _ hq; exact hq)
              · rfl
              · (intro _w hSw; (try dsimp only at hSw); go_simp; try with_reducible rfl)
              · assumption
              try simp only [Act.put, List.setIfInBounds_toArray, List.set_cons_zero, List.set_cons_succ]
              refine wpAnyH_ready (rs := [12]) ?_ ?_ ?_
              · kernel_rfl
              · simp
              refine (AllReadyH.cons rfl (fun K hK => ?_) AllReadyH.nil)
              go_simp
              first | (go_at_call 34; (with_reducible refine (rTurn_is _ _ _ _ _ _ _ _ HS.out c0 c1 d0 d1 e0 e1).mono ?_); rintro e w3 ⟨rfl, hb⟩) | (go_at_call 35; (with_reducible refine (on_any x y x1 y1 x2 y2 _ c0 c1 d0 d1 e0 e1 _ H1.out).mono ?_); rintro e w3 ⟨rfl, hb⟩) | (go_at_call 35; (with_reducible refine (on_any x1 y1 x2 y2 x y _ d0 d1 e0 e1 c0 c1 _ H2.out).mono ?_); rintro e w3 ⟨rfl, hb⟩)
              refine hK.out _ _ ?_ (fun hHeld => ?_)
              · ((try dsimp only); (refine KS.out _ ?_; (repeat (first | exact Gr.refl _ | exact hHeld.1 | (refine Gr.drew ?_) | (refine Gr.alloc ?_ _) | (refine Gr.trans ?_ (by assumption))))))
              clear hK K
              try simp only [Act.put, List.setIfInBounds_toArray, List.set_cons_zero, List.set_cons_succ]
              refine take_in (i := 13) (v := ?_) (d := (some 62)) rfl rfl ?_ ?_ ?_ ?_ ?_ ?_ ?_ ?_
              rotate_left
              · kernel_rfl
              · kernel_rfl
              · kernel_rfl
              · (intro _ _ _ hq; exact hq)
              · rfl
              · (intro _w hSw; (try dsimp only at hSw); go_simp; try with_reducible rfl)
              · assumption
              try simp only [Act.put, List.setIfInBounds_toArray, List.set_cons_zero, List.set_cons_succ]
              refine take_in (i := 14) (v := ?_) (d := (some 63)) rfl rfl ?_ ?_ ?_ ?_ ?_ ?_ ?_ ?_
              rotate_left
              · kernel_rfl
              · kernel_rfl
              · kernel_rfl
              · (intro _ _ _ hq; exact hq)
              · rfl
              · (intro _w hSw; (try dsimp only at hSw); go_simp; try with_reducible rfl)
              · assumption
              try simp only [Act.put, List.setIfInBounds_toArray, List.set_cons_zero, List.set_cons_succ]
              refine take_in (i := 15) (v := ?_) (d := (some 64)) rfl rfl ?_ ?_ ?_ ?_ ?_ ?_ ?_ ?_
              rotate_left
              · kernel_rfl
              · kernel_rfl
              · kernel_rfl
              · (intro _ _ _ hq; exact hq)
              · rfl
              · (intro _w hSw; (try dsimp only at hSw); go_simp; try with_reducible rfl)
              · assumption
              try simp only [Act.put, List.setIfInBounds_toArray, List.set_cons_zero, List.set_cons_succ]
              refine take_in (i := 16) (v := ?_) (d := (some 65)) rfl rfl ?_ ?_ ?_ ?_ ?_ ?_ ?_ ?_
              rotate_left
              · kernel_rfl
              · kernel_rfl
              · kernel_rfl
              · (intro _ _ _ hq; exact hq)
              · rfl
              · (intro _w hSw; (try dsimp only at hSw); go_simp; try with_reducible rfl)
              · assumption
              try simp only [Act.put, List.setIfInBounds_toArray, List.set_cons_zero, List.set_cons_succ]
              refine take_in (i := 17) (v := ?_) (d := (some 66)) rfl rfl ?_ ?_ ?_ ?_ ?_ ?_ ?_ ?_
              rotate_left
              · kernel_rfl
              · kernel_rfl
              · kernel_rfl
              · (intro _ _ _ hq; exact hq)
              · rfl
              · (intro _w hSw; (try dsimp only at hSw); go_simp; try with_reducible rfl)
              · assumption
              try simp only [Act.put, List.setIfInBounds_toArray, List.set_cons_zero, List.set_cons_succ]
              refine take_in (i := 18) (v := ?_) (d := (some 67)) rfl rfl ?_ ?_ ?_ ?_ ?_ ?_ ?_ ?_
              rotate_left
              · kernel_rfl
              · kernel_rfl
              · kernel_rfl
              · (intro _ _ _ hq; exact hq)
              · rfl
              · (intro _w hSw; (try dsimp only at hSw); go_simp; try with_reducible rfl)
              · assumption
              try simp only [Act.put, List.setIfInBounds_toArray, List.set_cons_zero, List.set_cons_succ]
              refine take_in (i := 19) (v := ?_) (d := (some 68)) rfl rfl ?_ ?_ ?_ ?_ ?_ ?_ ?_ ?_
              rotate_left
              · kernel_rfl
              · kernel_rfl
              · kernel_rfl
              · (intro _ _ _ hq; exact hq)
              · rfl
              · (intro _w hSw; (try dsimp only at hSw); go_simp; try with_reducible rfl)
              · assumption
              try simp only [Act.put, List.setIfInBounds_toArray, List.set_cons_zero, List.set_cons_succ]
              refine take_in (i := 20) (v := ?_) (d := (some 69)) rfl rfl ?_ ?_ ?_ ?_ ?_ ?_ ?_ ?_
              rotate_left
              · kernel_rfl
              · kernel_rfl
              · kernel_rfl
              · (intro _ _ _ hq; exact hq)
              · rfl
              · (intro _w hSw; (try dsimp only at hSw); go_simp; try with_reducible rfl)
              · assumption
              try simp only [Act.put, List.setIfInBounds_toArray, List.set_cons_zero, List.set_cons_succ]
              refine take_in (i := 21) (v := ?_) (d := (some 70)) rfl rfl ?_ ?_ ?_ ?_ ?_ ?_ ?_ ?_
              rotate_left
              · kernel_rfl
              · kernel_rfl
              · kernel_rfl
              · (intro _ _ _ hq; exact hq)
              · rfl
              · (intro _w hSw; (try dsimp only at hSw); go_simp; try with_reducible rfl)
              · assumption
              try simp only [Act.put, List.setIfInBounds_toArray, List.set_cons_zero, List.set_cons_succ]
              refine take_in (i := 22) (v := ?_) (d := (some 71)) rfl rfl ?_ ?_ ?_ ?_ ?_ ?_ ?_ ?_
              rotate_left
              · kernel_rfl
              · kernel_rfl
              · kernel_rfl
              · (intro _ _ _ hq; exact hq)
              · rfl
              · (intro _w hSw; (try dsimp only at hSw); go_simp; try with_reducible rfl)
              · assumption
              try simp only [Act.put, List.setIfInBounds_toArray, List.set_cons_zero, List.set_cons_succ]
              refine take_in (i := 23) (v := ?_) (d := (some 72)) rfl rfl ?_ ?_ ?_ ?_ ?_ ?_ ?_ ?_
              rotate_left
              · kernel_rfl
              · kernel_rfl
              · kernel_rfl
              · (intro _ _ _ hq; exact hq)
              · rfl
              · (intro _w hSw; (try dsimp only at hSw); go_simp; try with_reducible rfl)
              · assumption
              try simp only [Act.put, List.setIfInBounds_toArray, List.set_cons_zero, List.set_cons_succ]
              refine take_in (i := 24) (v := ?_) (d := (some 73)) rfl rfl ?_ ?_ ?_ ?_ ?_ ?_ ?_ ?_
              rotate_left
              · kernel_rfl
              · kernel_rfl
              · kernel_rfl
              · (intro _ _ _ hq; exact hq)
              · rfl
              · (intro _w hSw; (try dsimp only at hSw); go_simp; try with_reducible rfl)
              · assumption
              try simp only [Act.put, List.setIfInBounds_toArray, List.set_cons_zero, List.set_cons_succ]
              refine take_in (i := 25) (v := ?_) (d := (some 74)) rfl rfl ?_ ?_ ?_ ?_ ?_ ?_ ?_ ?_
              rotate_left
              · kernel_rfl
              · kernel_rfl
              · kernel_rfl
              · (intro _ _ _ hq; exact hq)
              · rfl
              · (intro _w hSw; (try dsimp only at hSw); go_simp; try with_reducible rfl)
              · assumption
              try simp only [Act.put, List.setIfInBounds_toArray, List.set_cons_zero, List.set_cons_succ]
              refine take_in (i := 26) (v := ?_) (d := (some 75)) rfl rfl ?_ ?_ ?_ ?_ ?_ ?_ ?_ ?_
              rotate_left
              · kernel_rfl
              · kernel_rfl
              · kernel_rfl
              · (intro _ _ _ hq; exact hq)
              · rfl
              · (intro _w hSw; (try dsimp only at hSw); go_simp; try with_reducible rfl)
              · assumption
              try simp only [Act.put, List.setIfInBounds_toArray, List.set_cons_zero, List.set_cons_succ]
              refine wpAnyH_ready (rs := [27]) ?_ ?_ ?_
              · kernel_rfl
              · simp
              refine (AllReadyH.cons rfl (fun K hK => ?_) AllReadyH.nil)
              go_simp
              first | (go_at_call 34; (with_reducible refine (rTurn_is _ _ _ _ _ _ _ _ HS.out c0 c1 d0 d1 e0 e1).mono ?_); rintro e w3 ⟨rfl, hb⟩) | (go_at_call 35; (with_reducible refine (on_any x y x1 y1 x2 y2 _ c0 c1 d0 d1 e0 e1 _ H1.out).mono ?_); rintro e w3 ⟨rfl, hb⟩) | (go_at_call 35; (with_reducible refine (on_any x1 y1 x2 y2 x y _ d0 d1 e0 e1 c0 c1 _ H2.out).mono ?_); rintro e w3 ⟨rfl, hb⟩)
              refine hK.out _ _ ?_ (fun hHeld => ?_)
              · ((try dsimp only); (refine KS.out _ ?_; (repeat (first | exact Gr.refl _ | exact hHeld.1 | (refine Gr.drew ?_) | (refine Gr.alloc ?_ _) | (refine Gr.trans ?_ (by assumption))))))
              clear hK K
              try simp only [Act.put, List.setIfInBounds_toArray, List.set_cons_zero, List.set_cons_succ]
              refine take_in (i := 28) (v := ?_) (d := (some 77)) rfl rfl ?_ ?_ ?_ ?_ ?_ ?_ ?_ ?_
              rotate_left
              · kernel_rfl
              · kernel_rfl
              · kernel_rfl
              · (intro _ _ _ hq; exact hq)
              · rfl
              · (intro _w hSw; (try dsimp only at hSw); go_simp; try with_reducible rfl)
              · assumption
              try simp only [Act.put, List.setIfInBounds_toArray, List.set_cons_zero, List.set_cons_succ]
              refine take_in (i := 29) (v := ?_) (d := (some 78)) rfl rfl ?_ ?_ ?_ ?_ ?_ ?_ ?_ ?_
              rotate_left
              · kernel_rfl
              · kernel_rfl
              · kernel_rfl
              · (intro _ _ _ hq; exact hq)
              · rfl
              · (intro _w hSw; (try dsimp only at hSw); go_simp; try with_reducible rfl)
              · assumption
              try simp only [Act.put, List.setIfInBounds_toArray, List.set_cons_zero, List.set_cons_succ]
              refine take_in (i := 30) (v := ?_) (d := (some 79)) rfl rfl ?_ ?_ ?_ ?_ ?_ ?_ ?_ ?_
              rotate_left
              · kernel_rfl
              · kernel_rfl
              · kernel_rfl
              · (intro _ _ _ hq; exact hq)
              · rfl
              · (intro _w hSw; (try dsimp only at hSw); go_simp; try with_reducible rfl)
              · assumption
              try simp only [Act.put, List.setIfInBounds_toArray, List.set_cons_zero, List.set_cons_succ]
              refine take_in (i := 31) (v := ?_) (d := (some 80)) rfl rfl ?_ ?_ ?_ ?_ ?_ ?_ ?_ ?_
              rotate_left
              · kernel_rfl
              · kernel_rfl
              · kernel_rfl
              · (intro _ _ _ hq; exact hq)
              · rfl
              · (intro _w hSw; (try dsimp only at hSw); go_simp; try with_reducible rfl)
              · assumption
              try simp only [Act.put, List.setIfInBounds_toArray, List.set_cons_zero, List.set_cons_succ]
              refine take_in (i := 32) (v := ?_) (d := (some 81)) rfl rfl ?_ ?_ ?_ ?_ ?_ ?_ ?_ ?_
              rotate_left
              · kernel_rfl
              · kernel_rfl
              · kernel_rfl
              · (intro _ _ _ hq; exact hq)
              · rfl
              · (intro _w hSw; (try dsimp only at hSw); go_simp; try with_reducible rfl)
              · assumption
              try simp only [Act.put, List.setIfInBounds_toArray, List.set_cons_zero, List.set_cons_succ]
              refine take_in (i := 33) (v := ?_) (d := (some 82)) rfl rfl ?_ ?_ ?_ ?_ ?_ ?_ ?_ ?_
              rotate_left
              · kernel_rfl
              · kernel_rfl
              · kernel_rfl
              · (intro _ _ _ hq; exact hq)
              · rfl
              · (intro _w hSw; (try dsimp only at hSw); go_simp; try with_reducible rfl)
              · assumption
              try simp only [Act.put, List.setIfInBounds_toArray, List.set_cons_zero, List.set_cons_succ]
              refine take_in (i := 34) (v := ?_) (d := (some 83)) rfl rfl ?_ ?_ ?_ ?_ ?_ ?_ ?_ ?_
              rotate_left
              · kernel_rfl
              · kernel_rfl
              · kernel_rfl
              · (intro _ _ _ hq; exact hq)
              · rfl
              · (intro _w hSw; (try dsimp only at hSw); go_simp; try with_reducible rfl)
              · assumption
              try simp only [Act.put, List.setIfInBounds_toArray, List.set_cons_zero, List.set_cons_succ]
              refine take_in (i := 35) (v := ?_) (d := (some 84)) rfl rfl ?_ ?_ ?_ ?_ ?_ ?_ ?_ ?_
              rotate_left
              · kernel_rfl
              · kernel_rfl
              · kernel_rfl
              · (intro _ _ _ hq; exact hq)
              · rfl
              · (intro _w hSw; (try dsimp only at hSw); go_simp; try with_reducible rfl)
              · assumption
              try simp only [Act.put, List.setIfInBounds_toArray, List.set_cons_zero, List.set_cons_succ]
              refine take_in (i := 36) (v := ?_) (d := (some 85)) rfl rfl ?_ ?_ ?_ ?_ ?_ ?_ ?_ ?_
              rotate_left
              · kernel_rfl
              · kernel_rfl
              · kernel_rfl
              · (intro _ _ _ hq; exact hq)
              · rfl
              · (intro _w hSw; (try dsimp only at hSw); go_simp; try with_reducible rfl)
              · assumption
              try simp only [Act.put, List.setIfInBounds_toArray, List.set_cons_zero, List.set_cons_succ]
              refine take_in (i := 37) (v := ?_) (d := (some 86)) rfl rfl ?_ ?_ ?_ ?_ ?_ ?_ ?_ ?_
              rotate_left
              · kernel_rfl
              · kernel_rfl
              · kernel_rfl
              · (intro _ _ _ hq; exact hq)
              · rfl
              · (intro _w hSw; (try dsimp only at hSw); go_simp; try with_reducible rfl)
              · assumption
              try simp only [Act.put, List.setIfInBounds_toArray, List.set_cons_zero, List.set_cons_succ]
              refine take_in (i := 38) (v := ?_) (d := (some 87)) rfl rfl ?_ ?_ ?_ ?_ ?_ ?_ ?_ ?_
              rotate_left
              · kernel_rfl
              · kernel_rfl
              · kernel_rfl
              · (intro _ _ _ hq; exact hq)
              · rfl
              · (intro _w hSw; (try dsimp only at hSw); go_simp; try with_reducible rfl)
              · assumption
              try simp only [Act.put, List.setIfInBounds_toArray, List.set_cons_zero, List.set_cons_succ]
              refine take_in (i := 39) (v := ?_) (d := (some 88)) rfl rfl ?_ ?_ ?_ ?_ ?_ ?_ ?_ ?_
              rotate_left
              · kernel_rfl
              · kernel_rfl
              · kernel_rfl
              · (intro _ _ _ hq; exact hq)
              · rfl
              · (intro _w hSw; (try dsimp only at hSw); go_simp; try with_reducible rfl)
              · assumption
              try simp only [Act.put, List.setIfInBounds_toArray, List.set_cons_zero, List.set_cons_succ]
              refine take_in (i := 40) (v := ?_) (d := (some 89)) rfl rfl ?_ ?_ ?_ ?_ ?_ ?_ ?_ ?_
              rotate_left
              · kernel_rfl
              · kernel_rfl
              · kernel_rfl
              · (intro _ _ _ hq; exact hq)
              · rfl
              · (intro _w hSw; (try dsimp only at hSw); go_simp; try with_reducible rfl)
              · assumption
              try simp only [Act.put, List.setIfInBounds_toArray, List.set_cons_zero, List.set_cons_succ]
              refine wpAnyH_ready (rs := [41]) ?_ ?_ ?_
              · kernel_rfl
              · simp
              refine (AllReadyH.cons rfl (fun K hK => ?_) AllReadyH.nil)
              go_simp
              first | (go_at_call 34; (with_reducible refine (rTurn_is _ _ _ _ _ _ _ _ HS.out c0 c1 d0 d1 e0 e1).mono ?_); rintro e w3 ⟨rfl, hb⟩) | (go_at_call 35; (with_reducible refine (on_any x y x1 y1 x2 y2 _ c0 c1 d0 d1 e0 e1 _ H1.out).mono ?_); rintro e w3 ⟨rfl, hb⟩) | (go_at_call 35; (with_reducible refine (on_any x1 y1 x2 y2 x y _ d0 d1 e0 e1 c0 c1 _ H2.out).mono ?_); rintro e w3 ⟨rfl, hb⟩)
              refine hK.out _ _ ?_ (fun hHeld => ?_)
              · ((try dsimp only); (refine KS.out _ ?_; (repeat (first | exact Gr.refl _ | exact hHeld.1 | (refine Gr.drew ?_) | (refine Gr.alloc ?_ _) | (refine Gr.trans ?_ (by assumption))))))
              clear hK K
              try simp only [Act.put, List.setIfInBounds_toArray, List.set_cons_zero, List.set_cons_succ]
              refine take_in (i := 42) (v := ?_) (d := (some 91)) rfl rfl ?_ ?_ ?_ ?_ ?_ ?_ ?_ ?_
              rotate_left
              · kernel_rfl
              · kernel_rfl
              · kernel_rfl
              · (intro _ _ _ hq; exact hq)
              · rfl
              · (intro _w hSw; (try dsimp only at hSw); go_simp; try with_reducible rfl)
              · assumption
              try simp only [Act.put, List.setIfInBounds_toArray, List.set_cons_zero, List.set_cons_succ]
              refine take_in (i := 43) (v := ?_) (d := (some 92)) rfl rfl ?_ ?_ ?_ ?_ ?_ ?_ ?_ ?_
              rotate_left
              · kernel_rfl
              · kernel_rfl
              · kernel_rfl
              · (intro _ _ _ hq; exact hq)
              · rfl
              · (intro _w hSw; (try dsimp only at hSw); go_simp; try with_reducible rfl)
              · assumption
              try simp only [Act.put, List.setIfInBounds_toArray, List.set_cons_zero, List.set_cons_succ]
              refine wpAnyH_done ?_ ?_ _
              · kernel_rfl
              rotate_left
              all_goals
                obtain ⟨hB, -⟩ := hHeld
                go_wp2_with fail
                go_ret
                exact ⟨false, rfl, ⟨fun h => absurd h (by decide), fun h => absurd (h.2.2.2.1 k (by rw [HN.out]; exact hlt)) (by rw [HBAD.out, HFO.out, Bool.or_true]; decide)⟩, hg.trans hB⟩
            · have H1 := Lib.hid h1
              clear H12 h1
              refine wp_region_held_drew (S := (fun W' => Gr wo W' ∧ W'.cell? ⟨b, off + k * 2, none⟩ = some (.int .i64 x) ∧ W'.cell? ⟨b, off + k * 2 + 1, none⟩ = some (.int .i64 y) ∧ W'.cell? ⟨b, off + m1 * 2, none⟩ = some (.int .i64 x1) ∧ W'.cell? ⟨b, off + m1 * 2 + 1, none⟩ = some (.int .i64 y1) ∧ W'.cell? ⟨b, off + m2 * 2, none⟩ = some (.int .i64 x2) ∧ W'.cell? ⟨b, off + m2 * 2 + 1, none⟩ = some (.int .i64 y2))) ?_ ?_ (fun hHeld => ?_)
              · kernel_rfl
              · ((try dsimp only); (refine KS.out _ ?_; (repeat (first | exact Gr.refl _ | exact hHeld.1 | (refine Gr.drew ?_) | (refine Gr.alloc ?_ _) | (refine Gr.trans ?_ (by assumption))))))
              refine take_in (i := 0) (v := ?_) (d := (some 49)) rfl rfl ?_ ?_ ?_ ?_ ?_ ?_ ?_ ?_
              rotate_left
              · kernel_rfl
              · kernel_rfl
              · kernel_rfl
              · (intro _ _ _ hq; exact hq)
              · rfl
              · (intro _w hSw; (try dsimp only at hSw); go_simp; try with_reducible rfl)
              · assumption
              try simp only [Act.put, List.setIfInBounds_toArray, List.set_cons_zero, List.set_cons_succ]
              refine take_in (i := 1) (v := ?_) (d := (some 50)) rfl rfl ?_ ?_ ?_ ?_ ?_ ?_ ?_ ?_
              rotate_left
              · kernel_rfl
              · kernel_rfl
              · kernel_rfl
              · (intro _ _ _ hq; exact hq)
              · rfl
              · (intro _w hSw; (try dsimp only at hSw); go_simp; try with_reducible rfl)
              · assumption
              try simp only [Act.put, List.setIfInBounds_toArray, List.set_cons_zero, List.set_cons_succ]
              refine take_in (i := 2) (v := ?_) (d := (some 51)) rfl rfl ?_ ?_ ?_ ?_ ?_ ?_ ?_ ?_
              rotate_left
              · kernel_rfl
              · kernel_rfl
              · kernel_rfl
              · (intro _ _ _ hq; exact hq)
              · rfl
              · (intro _w hSw; (try dsimp only at hSw); go_simp; try with_reducible rfl)
              · assumption
              try simp only [Act.put, List.setIfInBounds_toArray, List.set_cons_zero, List.set_cons_succ]
              refine take_in (i := 3) (v := ?_) (d := (some 52)) rfl rfl ?_ ?_ ?_ ?_ ?_ ?_ ?_ ?_
              rotate_left
              · kernel_rfl
              · kernel_rfl
              · kernel_rfl
              · (intro _ _ _ hq; exact hq)
              · rfl
              · (intro _w hSw; (try dsimp only at hSw); go_simp; try with_reducible rfl)
              · assumption
              try simp only [Act.put, List.setIfInBounds_toArray, List.set_cons_zero, List.set_cons_succ]
              refine take_in (i := 4) (v := ?_) (d := (some 53)) rfl rfl ?_ ?_ ?_ ?_ ?_ ?_ ?_ ?_
              rotate_left
              · kernel_rfl
              · kernel_rfl
              · kernel_rfl
              · (intro _ _ _ hq; exact hq)
              · rfl
              · (intro _w hSw; (try dsimp only at hSw); go_simp; try with_reducible rfl)
              · assumption
              try simp only [Act.put, List.setIfInBounds_toArray, List.set_cons_zero, List.set_cons_succ]
              refine take_in (i := 5) (v := ?_) (d := (some 54)) rfl rfl ?_ ?_ ?_ ?_ ?_ ?_ ?_ ?_
              rotate_left
              · kernel_rfl
              · kernel_rfl
              · kernel_rfl
              · (intro _ _ _ hq; exact hq)
              · rfl
              · (intro _w hSw; (try dsimp only at hSw); go_simp; try with_reducible rfl)
              · assumption
              try simp only [Act.put, List.setIfInBounds_toArray, List.set_cons_zero, List.set_cons_succ]
              refine take_in (i := 6) (v := ?_) (d := (some 55)) rfl rfl ?_ ?_ ?_ ?_ ?_ ?_ ?_ ?_
              rotate_left
              · kernel_rfl
              · kernel_rfl
              · kernel_rfl
              · (intro _ _ _ hq; exact hq)
              · rfl
              · (intro _w hSw; (try dsimp only at hSw); go_simp; try with_reducible rfl)
              · assumption
              try simp only [Act.put, List.setIfInBounds_toArray, List.set_cons_zero, List.set_cons_succ]
              refine take_in (i := 7) (v := ?_) (d := (some 56)) rfl rfl ?_ ?_ ?_ ?_ ?_ ?_ ?_ ?_
              rotate_left
              · kernel_rfl
              · kernel_rfl
              · kernel_rfl
              · (intro _ _ _ hq; exact hq)
              · rfl
              · (intro _w hSw; (try dsimp only at hSw); go_simp; try with_reducible rfl)
              · assumption
              try simp only [Act.put, List.setIfInBounds_toArray, List.set_cons_zero, List.set_cons_succ]
              refine take_in (i := 8) (v := ?_) (d := (some 57)) rfl rfl ?_ ?_ ?_ ?_ ?_ ?_ ?_ ?_
              rotate_left
              · kernel_rfl
              · kernel_rfl
              · kernel_rfl
              · (intro _ _ _ hq; exact hq)
              · rfl
              · (intro _w hSw; (try dsimp only at hSw); go_simp; try with_reducible rfl)
              · assumption
              try simp only [Act.put, List.setIfInBounds_toArray, List.set_cons_zero, List.set_cons_succ]
              refine take_in (i := 9) (v := ?_) (d := (some 58)) rfl rfl ?_ ?_ ?_ ?_ ?_ ?_ ?_ ?_
              rotate_left
              · kernel_rfl
              · kernel_rfl
              · kernel_rfl
              · (intro _ _ _ hq; exact hq)
              · rfl
              · (intro _w hSw; (try dsimp only at hSw); go_simp; try with_reducible rfl)
              · assumption
              try simp only [Act.put, List.setIfInBounds_toArray, List.set_cons_zero, List.set_cons_succ]
              refine take_in (i := 10) (v := ?_) (d := (some 59)) rfl rfl ?_ ?_ ?_ ?_ ?_ ?_ ?_ ?_
              rotate_left
              · kernel_rfl
              · kernel_rfl
              · kernel_rfl
              · (intro _ _ _ hq; exact hq)
              · rfl
              · (intro _w hSw; (try dsimp only at hSw); go_simp; try with_reducible rfl)
              · assumption
              try simp only [Act.put, List.setIfInBounds_toArray, List.set_cons_zero, List.set_cons_succ]
              refine take_in (i := 11) (v := ?_) (d := (some 60)) rfl rfl ?_ ?_ ?_ ?_ ?_ ?_ ?_ ?_
              rotate_left
              · kernel_rfl
              · kernel_rfl
              · kernel_rfl
              · (intro _ _ _ hq; exact hq)
              · rfl
              · (intro _w hSw; (try dsimp only at hSw); go_simp; try with_reducible rfl)
              · assumption
              try simp only [Act.put, List.setIfInBounds_toArray, List.set_cons_zero, List.set_cons_succ]
              refine wpAnyH_ready (rs := [12]) ?_ ?_ ?_
              · kernel_rfl
              · simp
              refine (AllReadyH.cons rfl (fun K hK => ?_) AllReadyH.nil)
              go_simp
              first | (go_at_call 34; (with_reducible refine (rTurn_is _ _ _ _ _ _ _ _ HS.out c0 c1 d0 d1 e0 e1).mono ?_); rintro e w3 ⟨rfl, hb⟩) | (go_at_call 35; (with_reducible refine (on_any x y x1 y1 x2 y2 _ c0 c1 d0 d1 e0 e1 _ H1.out).mono ?_); rintro e w3 ⟨rfl, hb⟩)
              refine hK.out _ _ ?_ (fun hHeld => ?_)
              · ((try dsimp only); (refine KS.out _ ?_; (repeat (first | exact Gr.refl _ | exact hHeld.1 | (refine Gr.drew ?_) | (refine Gr.alloc ?_ _) | (refine Gr.trans ?_ (by assumption))))))
              clear hK K
              try simp only [Act.put, List.setIfInBounds_toArray, List.set_cons_zero, List.set_cons_succ]
              refine take_in (i := 13) (v := ?_) (d := (some 62)) rfl rfl ?_ ?_ ?_ ?_ ?_ ?_ ?_ ?_
              rotate_left
              · kernel_rfl
              · kernel_rfl
              · kernel_rfl
              · (intro _ _ _ hq; exact hq)
              · rfl
              · (intro _w hSw; (try dsimp only at hSw); go_simp; try with_reducible rfl)
              · assumption
              try simp only [Act.put, List.setIfInBounds_toArray, List.set_cons_zero, List.set_cons_succ]
              refine take_in (i := 14) (v := ?_) (d := (some 63)) rfl rfl ?_ ?_ ?_ ?_ ?_ ?_ ?_ ?_
              rotate_left
              · kernel_rfl
              · kernel_rfl
              · kernel_rfl
              · (intro _ _ _ hq; exact hq)
              · rfl
              · (intro _w hSw; (try dsimp only at hSw); go_simp; try with_reducible rfl)
              · assumption
              try simp only [Act.put, List.setIfInBounds_toArray, List.set_cons_zero, List.set_cons_succ]
              refine take_in (i := 15) (v := ?_) (d := (some 64)) rfl rfl ?_ ?_ ?_ ?_ ?_ ?_ ?_ ?_
              rotate_left
              · kernel_rfl
              · kernel_rfl
              · kernel_rfl
              · (intro _ _ _ hq; exact hq)
              · rfl
              · (intro _w hSw; (try dsimp only at hSw); go_simp; try with_reducible rfl)
              · assumption
              try simp only [Act.put, List.setIfInBounds_toArray, List.set_cons_zero, List.set_cons_succ]
              refine take_in (i := 16) (v := ?_) (d := (some 65)) rfl rfl ?_ ?_ ?_ ?_ ?_ ?_ ?_ ?_
              rotate_left
              · kernel_rfl
              · kernel_rfl
              · kernel_rfl
              · (intro _ _ _ hq; exact hq)
              · rfl
              · (intro _w hSw; (try dsimp only at hSw); go_simp; try with_reducible rfl)
              · assumption
              try simp only [Act.put, List.setIfInBounds_toArray, List.set_cons_zero, List.set_cons_succ]
              refine take_in (i := 17) (v := ?_) (d := (some 66)) rfl rfl ?_ ?_ ?_ ?_ ?_ ?_ ?_ ?_
              rotate_left
              · kernel_rfl
              · kernel_rfl
              · kernel_rfl
              · (intro _ _ _ hq; exact hq)
              · rfl
              · (intro _w hSw; (try dsimp only at hSw); go_simp; try with_reducible rfl)
              · assumption
              try simp only [Act.put, List.setIfInBounds_toArray, List.set_cons_zero, List.set_cons_succ]
              refine take_in (i := 18) (v := ?_) (d := (some 67)) rfl rfl ?_ ?_ ?_ ?_ ?_ ?_ ?_ ?_
              rotate_left
              · kernel_rfl
              · kernel_rfl
              · kernel_rfl
              · (intro _ _ _ hq; exact hq)
              · rfl
              · (intro _w hSw; (try dsimp only at hSw); go_simp; try with_reducible rfl)
              · assumption
              try simp only [Act.put, List.setIfInBounds_toArray, List.set_cons_zero, List.set_cons_succ]
              refine take_in (i := 19) (v := ?_) (d := (some 68)) rfl rfl ?_ ?_ ?_ ?_ ?_ ?_ ?_ ?_
              rotate_left
              · kernel_rfl
              · kernel_rfl
              · kernel_rfl
              · (intro _ _ _ hq; exact hq)
              · rfl
              · (intro _w hSw; (try dsimp only at hSw); go_simp; try with_reducible rfl)
              · assumption
              try simp only [Act.put, List.setIfInBounds_toArray, List.set_cons_zero, List.set_cons_succ]
              refine take_in (i := 20) (v := ?_) (d := (some 69)) rfl rfl ?_ ?_ ?_ ?_ ?_ ?_ ?_ ?_
              rotate_left
              · kernel_rfl
              · kernel_rfl
              · kernel_rfl
              · (intro _ _ _ hq; exact hq)
              · rfl
              · (intro _w hSw; (try dsimp only at hSw); go_simp; try with_reducible rfl)
              · assumption
              try simp only [Act.put, List.setIfInBounds_toArray, List.set_cons_zero, List.set_cons_succ]
              refine take_in (i := 21) (v := ?_) (d := (some 70)) rfl rfl ?_ ?_ ?_ ?_ ?_ ?_ ?_ ?_
              rotate_left
              · kernel_rfl
              · kernel_rfl
              · kernel_rfl
              · (intro _ _ _ hq; exact hq)
              · rfl
              · (intro _w hSw; (try dsimp only at hSw); go_simp; try with_reducible rfl)
              · assumption
              try simp only [Act.put, List.setIfInBounds_toArray, List.set_cons_zero, List.set_cons_succ]
              refine take_in (i := 22) (v := ?_) (d := (some 71)) rfl rfl ?_ ?_ ?_ ?_ ?_ ?_ ?_ ?_
              rotate_left
              · kernel_rfl
              · kernel_rfl
              · kernel_rfl
              · (intro _ _ _ hq; exact hq)
              · rfl
              · (intro _w hSw; (try dsimp only at hSw); go_simp; try with_reducible rfl)
              · assumption
              try simp only [Act.put, List.setIfInBounds_toArray, List.set_cons_zero, List.set_cons_succ]
              refine take_in (i := 23) (v := ?_) (d := (some 72)) rfl rfl ?_ ?_ ?_ ?_ ?_ ?_ ?_ ?_
              rotate_left
              · kernel_rfl
              · kernel_rfl
              · kernel_rfl
              · (intro _ _ _ hq; exact hq)
              · rfl
              · (intro _w hSw; (try dsimp only at hSw); go_simp; try with_reducible rfl)
              · assumption
              try simp only [Act.put, List.setIfInBounds_toArray, List.set_cons_zero, List.set_cons_succ]
              refine take_in (i := 24) (v := ?_) (d := (some 73)) rfl rfl ?_ ?_ ?_ ?_ ?_ ?_ ?_ ?_
              rotate_left
              · kernel_rfl
              · kernel_rfl
              · kernel_rfl
              · (intro _ _ _ hq; exact hq)
              · rfl
              · (intro _w hSw; (try dsimp only at hSw); go_simp; try with_reducible rfl)
              · assumption
              try simp only [Act.put, List.setIfInBounds_toArray, List.set_cons_zero, List.set_cons_succ]
              refine take_in (i := 25) (v := ?_) (d := (some 74)) rfl rfl ?_ ?_ ?_ ?_ ?_ ?_ ?_ ?_
              rotate_left
              · kernel_rfl
              · kernel_rfl
              · kernel_rfl
              · (intro _ _ _ hq; exact hq)
              · rfl
              · (intro _w hSw; (try dsimp only at hSw); go_simp; try with_reducible rfl)
              · assumption
              try simp only [Act.put, List.setIfInBounds_toArray, List.set_cons_zero, List.set_cons_succ]
              refine take_in (i := 26) (v := ?_) (d := (some 75)) rfl rfl ?_ ?_ ?_ ?_ ?_ ?_ ?_ ?_
              rotate_left
              · kernel_rfl
              · kernel_rfl
              · kernel_rfl
              · (intro _ _ _ hq; exact hq)
              · rfl
              · (intro _w hSw; (try dsimp only at hSw); go_simp; try with_reducible rfl)
              · assumption
              try simp only [Act.put, List.setIfInBounds_toArray, List.set_cons_zero, List.set_cons_succ]
              refine wpAnyH_ready (rs := [27]) ?_ ?_ ?_
              · kernel_rfl
              · simp
              refine (AllReadyH.cons rfl (fun K hK => ?_) AllReadyH.nil)
              go_simp
              first | (go_at_call 34; (with_reducible refine (rTurn_is _ _ _ _ _ _ _ _ HS.out c0 c1 d0 d1 e0 e1).mono ?_); rintro e w3 ⟨rfl, hb⟩) | (go_at_call 35; (with_reducible refine (on_any x y x1 y1 x2 y2 _ c0 c1 d0 d1 e0 e1 _ H1.out).mono ?_); rintro e w3 ⟨rfl, hb⟩)
              refine hK.out _ _ ?_ (fun hHeld => ?_)
              · ((try dsimp only); (refine KS.out _ ?_; (repeat (first | exact Gr.refl _ | exact hHeld.1 | (refine Gr.drew ?_) | (refine Gr.alloc ?_ _) | (refine Gr.trans ?_ (by assumption))))))
              clear hK K
              try simp only [Act.put, List.setIfInBounds_toArray, List.set_cons_zero, List.set_cons_succ]
              refine take_in (i := 28) (v := ?_) (d := (some 77)) rfl rfl ?_ ?_ ?_ ?_ ?_ ?_ ?_ ?_
              rotate_left
              · kernel_rfl
              · kernel_rfl
              · kernel_rfl
              · (intro _ _ _ hq; exact hq)
              · rfl
              · (intro _w hSw; (try dsimp only at hSw); go_simp; try with_reducible rfl)
              · assumption
              try simp only [Act.put, List.setIfInBounds_toArray, List.set_cons_zero, List.set_cons_succ]
              refine take_un (i := 29) (d := (some 78)) rfl rfl ?_ ?_ ?_ ?_ ?_ ?_ ?_
              · kernel_rfl
              · kernel_rfl
              · kernel_rfl
              · (intro _ _ _ hq; exact hq)
              · rfl
              · assumption
              try simp only [Act.put, List.setIfInBounds_toArray, List.set_cons_zero, List.set_cons_succ]
              refine take_un (i := 30) (d := (some 79)) rfl rfl ?_ ?_ ?_ ?_ ?_ ?_ ?_
              · kernel_rfl
              · kernel_rfl
              · kernel_rfl
              · (intro _ _ _ hq; exact hq)
              · rfl
              · assumption
              try simp only [Act.put, List.setIfInBounds_toArray, List.set_cons_zero, List.set_cons_succ]
              refine take_un (i := 31) (d := (some 80)) rfl rfl ?_ ?_ ?_ ?_ ?_ ?_ ?_
              · kernel_rfl
              · kernel_rfl
              · kernel_rfl
              · (intro _ _ _ hq; exact hq)
              · rfl
              · assumption
              try simp only [Act.put, List.setIfInBounds_toArray, List.set_cons_zero, List.set_cons_succ]
              refine take_un (i := 32) (d := (some 81)) rfl rfl ?_ ?_ ?_ ?_ ?_ ?_ ?_
              · kernel_rfl
              · kernel_rfl
              · kernel_rfl
              · (intro _ _ _ hq; exact hq)
              · rfl
              · assumption
              try simp only [Act.put, List.setIfInBounds_toArray, List.set_cons_zero, List.set_cons_succ]
              refine take_un (i := 33) (d := (some 82)) rfl rfl ?_ ?_ ?_ ?_ ?_ ?_ ?_
              · kernel_rfl
              · kernel_rfl
              · kernel_rfl
              · (intro _ _ _ hq; exact hq)
              · rfl
              · assumption
              try simp only [Act.put, List.setIfInBounds_toArray, List.set_cons_zero, List.set_cons_succ]
              refine take_un (i := 34) (d := (some 83)) rfl rfl ?_ ?_ ?_ ?_ ?_ ?_ ?_
              · kernel_rfl
              · kernel_rfl
              · kernel_rfl
              · (intro _ _ _ hq; exact hq)
              · rfl
              · assumption
              try simp only [Act.put, List.setIfInBounds_toArray, List.set_cons_zero, List.set_cons_succ]
              refine take_un (i := 35) (d := (some 84)) rfl rfl ?_ ?_ ?_ ?_ ?_ ?_ ?_
              · kernel_rfl
              · kernel_rfl
              · kernel_rfl
              · (intro _ _ _ hq; exact hq)
              · rfl
              · assumption
              try simp only [Act.put, List.setIfInBounds_toArray, List.set_cons_zero, List.set_cons_succ]
              refine take_un (i := 36) (d := (some 85)) rfl rfl ?_ ?_ ?_ ?_ ?_ ?_ ?_
              · kernel_rfl
              · kernel_rfl
              · kernel_rfl
              · (intro _ _ _ hq; exact hq)
              · rfl
              · assumption
              try simp only [Act.put, List.setIfInBounds_toArray, List.set_cons_zero, List.set_cons_succ]
              refine take_un (i := 37) (d := (some 86)) rfl rfl ?_ ?_ ?_ ?_ ?_ ?_ ?_
              · kernel_rfl
              · kernel_rfl
              · kernel_rfl
              · (intro _ _ _ hq; exact hq)
              · rfl
              · assumption
              try simp only [Act.put, List.setIfInBounds_toArray, List.set_cons_zero, List.set_cons_succ]
              refine take_un (i := 38) (d := (some 87)) rfl rfl ?_ ?_ ?_ ?_ ?_ ?_ ?_
              · kernel_rfl
              · kernel_rfl
              · kernel_rfl
              · (intro _ _ _ hq; exact hq)
              · rfl
              · assumption
              try simp only [Act.put, List.setIfInBounds_toArray, List.set_cons_zero, List.set_cons_succ]
              refine take_un (i := 39) (d := (some 88)) rfl rfl ?_ ?_ ?_ ?_ ?_ ?_ ?_
              · kernel_rfl
              · kernel_rfl
              · kernel_rfl
              · (intro _ _ _ hq; exact hq)
              · rfl
              · assumption
              try simp only [Act.put, List.setIfInBounds_toArray, List.set_cons_zero, List.set_cons_succ]
              refine take_un (i := 40) (d := (some 89)) rfl rfl ?_ ?_ ?_ ?_ ?_ ?_ ?_
              · kernel_rfl
              · kernel_rfl
              · kernel_rfl
              · (intro _ _ _ hq; exact hq)
              · rfl
              · assumption
              try simp only [Act.put, List.setIfInBounds_toArray, List.set_cons_zero, List.set_cons_succ]
              refine take_un (i := 41) (d := (some 90)) rfl rfl ?_ ?_ ?_ ?_ ?_ ?_ ?_
              · kernel_rfl
              · kernel_rfl
              · kernel_rfl
              · (intro _ _ _ hq; exact hq)
              · rfl
              · assumption
              try simp only [Act.put, List.setIfInBounds_toArray, List.set_cons_zero, List.set_cons_succ]
              refine take_in (i := 42) (v := ?_) (d := (some 91)) rfl rfl ?_ ?_ ?_ ?_ ?_ ?_ ?_ ?_
              rotate_left
              · kernel_rfl
              · kernel_rfl
              · kernel_rfl
              · (intro _ _ _ hq; exact hq)
              · rfl
              · (intro _w hSw; (try dsimp only at hSw); go_simp; try with_reducible rfl)
              · assumption
              try simp only [Act.put, List.setIfInBounds_toArray, List.set_cons_zero, List.set_cons_succ]
              refine take_in (i := 43) (v := ?_) (d := (some 92)) rfl rfl ?_ ?_ ?_ ?_ ?_ ?_ ?_ ?_
              rotate_left
              · kernel_rfl
              · kernel_rfl
              · kernel_rfl
              · (intro _ _ _ hq; exact hq)
              · rfl
              · (intro _w hSw; (try dsimp only at hSw); go_simp; try with_reducible rfl)
              · assumption
              try simp only [Act.put, List.setIfInBounds_toArray, List.set_cons_zero, List.set_cons_succ]
              refine wpAnyH_done ?_ ?_ _
              · kernel_rfl
              rotate_left
              all_goals
                obtain ⟨hB, -⟩ := hHeld
                go_wp2_with fail
                go_ret
                exact ⟨false, rfl, ⟨fun h => absurd h (by decide), fun h => absurd (h.2.2.2.1 k (by rw [HN.out]; exact hlt)) (by rw [HBAD.out, HFO.out, Bool.or_true]; decide)⟩, hg.trans hB⟩
        · go_wp2_with fail
          go_ret
          refine ⟨true, rfl, ⟨fun _ => ?_, fun _ => rfl⟩, hg⟩
          have hnn := HN.out
          exact ⟨by omega, by omega, HV0.out, fun i hi => hok.out i (by omega), hno.out.not (by omega)⟩

end Go.Proofs.Ytjkdjfagaakijaa
