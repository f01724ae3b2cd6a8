/- The law CarveTimes as a walk. -/
import Derived.Test.YtcojionipffanabCTwo
namespace Go.Proofs.Ytcojionipffanab
open Go.RowKit
set_option linter.unusedSimpArgs false

def richB (t : Nat) (b : Bl) : Bl := (b.1, b.2.1, (t : Int) * b.2.2)
def largeB (t : Nat) (b : Bl) : Bl := ((t : Int) * b.1, (t : Int) * b.2.1, b.2.2)
def okT (t : Nat) (b : Bl) : Prop := b.2.2 * (t : Int) ≤ 1048576 ∧ b.1 * (t : Int) ≤ 48 ∧ b.2.1 * (t : Int) ≤ 48
theorem snoc_map {α : Type} (f : Bl → α) {bs : List Bl} {k : Nat} (hk : k < bs.length) : (bs.take (k + 1)).map f = (bs.take k).map f ++ [f (bl bs k)] := by
  rw [List.take_add_one, getD_of (0, 0, 0) hk, Option.toList_some, List.map_append]; rfl
theorem ok_snoc {t : Nat} {bs : List Bl} {k : Nat} (hk : k < bs.length) (h : ∀ b ∈ bs.take k, okT t b) (hx : okT t (bl bs k)) : ∀ b ∈ bs.take (k + 1), okT t b := fun b hb => by
  rw [List.take_add_one, getD_of (0, 0, 0) hk, Option.toList_some] at hb
  rcases List.mem_append.1 hb with hb | hb
  · exact h b hb
  · obtain rfl : b = bl bs k := List.mem_singleton.1 hb
    exact hx
theorem rich_ok {t : Nat} (ht : 1 ≤ t) {bs : List Bl} (hb : ∀ b ∈ bs, blB b = true) (h : ∀ b ∈ bs, okT t b) : ∀ b ∈ bs.map (richB t), blB b = true := fun b hm => by
  obtain ⟨c, hc, rfl⟩ := List.mem_map.1 hm
  have h1 := (blB_iff _).1 (hb c hc)
  have h2 := (h c hc).1
  have h3 : 0 ≤ (t : Int) * c.2.2 := Int.mul_nonneg (by omega) (by omega)
  rw [Int.mul_comm] at h2
  exact (blB_iff _).2 (by dsimp only [richB]; omega)
theorem large_ok {t : Nat} (ht : 1 ≤ t) {bs : List Bl} (hb : ∀ b ∈ bs, blB b = true) (h : ∀ b ∈ bs, okT t b) : ∀ b ∈ bs.map (largeB t), blB b = true := fun b hm => by
  obtain ⟨c, hc, rfl⟩ := List.mem_map.1 hm
  have h1 := (blB_iff _).1 (hb c hc)
  obtain ⟨-, h2, h4⟩ := h c hc
  have h3 : 1 * 1 ≤ (t : Int) * c.1 := Int.mul_le_mul (by omega) (by omega) (by omega) (by omega)
  have h5 : 1 * 1 ≤ (t : Int) * c.2.1 := Int.mul_le_mul (by omega) (by omega) (by omega) (by omega)
  rw [Int.mul_comm] at h2 h4
  exact (blB_iff _).2 (by dsimp only [largeB]; omega)
theorem ok_ways (t : Nat) (b : Bl) : (decide (1048576 < b.2.2 * (t : Int)) = true) ∨ (decide (1048576 < b.2.2 * (t : Int)) = false ∧ decide (48 < b.1 * (t : Int)) = true) ∨ (decide (1048576 < b.2.2 * (t : Int)) = false ∧ decide (48 < b.1 * (t : Int)) = false ∧ decide (48 < b.2.1 * (t : Int)) = true) ∨
    (decide (1048576 < b.2.2 * (t : Int)) = false ∧ decide (48 < b.1 * (t : Int)) = false ∧ decide (48 < b.2.1 * (t : Int)) = false ∧ Hid (okT t b)) := by
  by_cases h1 : 1048576 < b.2.2 * (t : Int)
  · exact Or.inl (decide_eq_true h1)
  by_cases h2 : 48 < b.1 * (t : Int)
  · exact Or.inr (Or.inl ⟨decide_eq_false h1, decide_eq_true h2⟩)
  by_cases h3 : 48 < b.2.1 * (t : Int)
  · exact Or.inr (Or.inr (Or.inl ⟨decide_eq_false h1, decide_eq_false h2, decide_eq_true h3⟩))
  · exact Or.inr (Or.inr (Or.inr ⟨decide_eq_false h1, decide_eq_false h2, decide_eq_false h3, Lib.hid ⟨by omega, by omega, by omega⟩⟩))

set_option maxRecDepth 100000 in
set_option maxHeartbeats 4000000 in
theorem lawTimes_any (W0 H0 : Int) (A : Option Addr) (n c : Nat) (bs : List Bl) (times : Int) (w : World) (hn : bs.length = n) (hl : n ≤ 9223372036854775807) (_hc : n ≤ c) (_h0 : A = none → c = 0) (hp : Tris w A bs) :
    Calls Try.prog 9 #[.agg #[.int .i64 W0, .int .i64 H0, .slice A n c], .int .i64 times] w fun e w' => e = .returned (.bool true) ∧ Gr w w' := by
  have HTM := Lib.hid (fun W' (g : Gr w W') => tame_any W0 H0 A n c bs 16 W' (by omega) (by omega) hn hl (hp.keep g))
  obtain ⟨W, H, e1, e2, hW, hH, h16, hbl⟩ := tame_task 16 (by omega) (by omega) W0 H0 bs
  rw [show ((16 : Nat) : Int) = 16 from rfl] at e1 e2
  rw [e1, e2] at HTM
  generalize tameL bs = qs at HTM h16 hbl
  obtain ⟨q, hq⟩ : ∃ q, qs.length = q := ⟨_, rfl⟩
  have HQ := Lib.hid hq
  rw [hq] at h16
  have HT := Lib.hid (task_ok (W := W) (H := H) (by omega) (by omega) (by omega) hbl)
  have HBL := Lib.hid hbl
  have HNN := Lib.hid (mst_nonneg qs W H)
  obtain ⟨t, ht, ht1, ht3⟩ : ∃ t : Nat, 1 + modL times 3 = (t : Int) ∧ 1 ≤ t ∧ t ≤ 3 := by
    have := modL_le (x := times) (n := 3) (by omega) (by omega)
    exact ⟨(1 + modL times 3).toNat, by omega, by omega, by omega⟩
  have HM := Lib.hid ht
  have HI := Lib.hid (IntWalk.wrap64_in (1 + modL times 3) (by omega))
  have m1 : 0 ≤ (t : Int) * (W : Int) := Int.mul_nonneg (by omega) (by omega)
  have m2 : (t : Int) * (W : Int) ≤ 3 * 16 := Int.mul_le_mul (by omega) (by omega) (by omega) (by omega)
  have m3 : 0 ≤ (t : Int) * (H : Int) := Int.mul_nonneg (by omega) (by omega)
  have m4 : (t : Int) * (H : Int) ≤ 3 * 16 := Int.mul_le_mul (by omega) (by omega) (by omega) (by omega)
  clear hn hl hp hq hbl e1 e2 ht
  go_enter Try.func9, Try.ntmps9
  go_wp2_with fail
  generalize hW1 : World.alloc w _ = W1
  obtain ⟨hg, k1, k2, k3⟩ := task_box hW1
  clear hW1
  go_wp2_with fail
  refine (HTM.out _ hg).mono ?_
  rintro e w1 ⟨A1, c1, rfl, hc1, hT1, h01, -, hg1⟩
  rw [HQ.out]
  rw [HQ.out] at hc1
  replace hg := hg.trans hg1
  clear k1 k2 k3 hg1
  have HT1 := Lib.hid hT1
  clear hT1
  go_wp2_with fail
  refine (mod_any times 3 _ (by omega) (by omega)).mono ?_
  rintro e w1' ⟨rfl, rfl⟩
  go_upto_region 3 with fail
  rw [HI.out, HM.out]
  generalize hW2 : World.alloc w1 _ = w2
  obtain ⟨hg2, k1, k2, k3⟩ := task_box hW2
  generalize hS : w1.heap.size = S0 at k1 k2 k3 ⊢
  have HT2 := Lib.hid (HT1.out.keep hg2)
  replace hg := hg.trans hg2
  clear hW2 hS hg2 HT1 HTM
  go_cut [7, 8] from 7 to 30 (fun p7 p8 wx => ∃ S T, p7 = .pointer (some ⟨S, 0, none⟩) ∧ p8 = .pointer (some ⟨T, 0, none⟩) ∧ Hid (Ot2 w2 S T W H ((t : Int) * W) ((t : Int) * H) (.slice none 0 0) (.slice none 0 0) [] [] wx))
  case first =>
    have KS := Lib.hid (fun W' (h : Gr w2 W') => And.intro h (And.intro (h.keep k1) (h.keep k2)))
    have i1 : IntKind.i64.wrap ((t : Int) * W) = (t : Int) * W := IntWalk.i64_in _ (by omega)
    have i2 : IntKind.i64.wrap ((t : Int) * H) = (t : Int) * H := IntWalk.i64_in _ (by omega)
    refine wp_region_held_drew (S := (fun W' => Gr w2 W' ∧ W'.cell? ⟨S0, 0, none⟩ = some (.int .i64 (W : Int)) ∧ W'.cell? ⟨S0, 1, none⟩ = some (.int .i64 (H : Int)))) ?_ ?_ (fun hHeld => ?_)
    · kernel_rfl
    · ((try dsimp only); (refine KS.out _ ?_; (repeat (first | exact Gr.refl _ | exact hHeld.1 | (refine Gr.drew ?_) | (refine Gr.alloc ?_ _) | (refine Gr.setCell ?_ (by simp) _)))))
    refine take_in (i := 0) (v := ?_) (d := (some 17)) rfl rfl ?_ ?_ ?_ ?_ ?_ ?_ ?_ ?_
    rotate_left
    · kernel_rfl
    · kernel_rfl
    · kernel_rfl
    · (intro _ _ _ hq; exact hq)
    · rfl
    · (intro _w hSw; (try dsimp only at hSw); go_simp; try with_reducible rfl)
    · assumption
    try simp only [Act.put, List.setIfInBounds_toArray, List.set_cons_zero, List.set_cons_succ]
    refine take_in (i := 1) (v := ?_) (d := (some 18)) rfl rfl ?_ ?_ ?_ ?_ ?_ ?_ ?_ ?_
    rotate_left
    · kernel_rfl
    · kernel_rfl
    · kernel_rfl
    · (intro _ _ _ hq; exact hq)
    · rfl
    · (intro _w hSw; (try dsimp only at hSw); go_simp; try with_reducible rfl)
    · assumption
    try simp only [Act.put, List.setIfInBounds_toArray, List.set_cons_zero, List.set_cons_succ]
    refine take_in (i := 2) (v := ?_) (d := (some 19)) rfl rfl ?_ ?_ ?_ ?_ ?_ ?_ ?_ ?_
    rotate_left
    · kernel_rfl
    · kernel_rfl
    · kernel_rfl
    · (intro _ _ _ hq; exact hq)
    · rfl
    · (intro _w hSw; (try dsimp only at hSw); go_simp; try with_reducible rfl)
    · assumption
    try simp only [Act.put, List.setIfInBounds_toArray, List.set_cons_zero, List.set_cons_succ]
    refine take_in (i := 3) (v := ?_) (d := (some 20)) rfl rfl ?_ ?_ ?_ ?_ ?_ ?_ ?_ ?_
    rotate_left
    · kernel_rfl
    · kernel_rfl
    · kernel_rfl
    · (intro _ _ _ hq; exact hq)
    · rfl
    · (intro _w hSw; (try dsimp only at hSw); go_simp; try with_reducible rfl)
    · assumption
    try simp only [Act.put, List.setIfInBounds_toArray, List.set_cons_zero, List.set_cons_succ]
    refine take_in (i := 4) (v := ?_) (d := (some 21)) rfl rfl ?_ ?_ ?_ ?_ ?_ ?_ ?_ ?_
    rotate_left
    · kernel_rfl
    · kernel_rfl
    · kernel_rfl
    · (intro _ _ _ hq; exact hq)
    · rfl
    · (intro _w hSw; (try dsimp only at hSw); go_simp; try with_reducible rfl)
    · assumption
    try simp only [Act.put, List.setIfInBounds_toArray, List.set_cons_zero, List.set_cons_succ]
    refine take_in (i := 5) (v := ?_) (d := (some 22)) rfl rfl ?_ ?_ ?_ ?_ ?_ ?_ ?_ ?_
    rotate_left
    · kernel_rfl
    · kernel_rfl
    · kernel_rfl
    · (intro _ _ _ hq; exact hq)
    · rfl
    · (intro _w hSw; (try dsimp only at hSw); go_simp; try with_reducible rfl)
    · assumption
    try simp only [Act.put, List.setIfInBounds_toArray, List.set_cons_zero, List.set_cons_succ]
    refine take_in (i := 6) (v := ?_) (d := (some 23)) rfl rfl ?_ ?_ ?_ ?_ ?_ ?_ ?_ ?_
    rotate_left
    · kernel_rfl
    · kernel_rfl
    · kernel_rfl
    · (intro _ _ _ hq; exact hq)
    · rfl
    · (intro _w hSw; (try dsimp only at hSw); go_simp; try with_reducible rfl)
    · assumption
    try simp only [Act.put, List.setIfInBounds_toArray, List.set_cons_zero, List.set_cons_succ]
    refine take_in (i := 7) (v := ?_) (d := (some 24)) rfl rfl ?_ ?_ ?_ ?_ ?_ ?_ ?_ ?_
    rotate_left
    · kernel_rfl
    · kernel_rfl
    · kernel_rfl
    · (intro _ _ _ hq; exact hq)
    · rfl
    · (intro _w hSw; (try dsimp only at hSw); go_simp; try with_reducible rfl)
    · assumption
    try simp only [Act.put, List.setIfInBounds_toArray, List.set_cons_zero, List.set_cons_succ]
    refine take_in (i := 8) (v := ?_) (d := (some 25)) rfl rfl ?_ ?_ ?_ ?_ ?_ ?_ ?_ ?_
    rotate_left
    · kernel_rfl
    · kernel_rfl
    · kernel_rfl
    · (intro _ _ _ hq; exact hq)
    · rfl
    · (intro _w hSw; (try dsimp only at hSw); go_simp; try with_reducible rfl)
    · assumption
    try simp only [Act.put, List.setIfInBounds_toArray, List.set_cons_zero, List.set_cons_succ]
    refine take_in (i := 9) (v := ?_) (d := (some 26)) rfl rfl ?_ ?_ ?_ ?_ ?_ ?_ ?_ ?_
    rotate_left
    · kernel_rfl
    · kernel_rfl
    · kernel_rfl
    · (intro _ _ _ hq; exact hq)
    · rfl
    · (intro _w hSw; (try dsimp only at hSw); go_simp; try with_reducible rfl)
    · assumption
    try simp only [Act.put, List.setIfInBounds_toArray, List.set_cons_zero, List.set_cons_succ]
    refine take_in (i := 10) (v := ?_) (d := (some 27)) rfl rfl ?_ ?_ ?_ ?_ ?_ ?_ ?_ ?_
    rotate_left
    · kernel_rfl
    · kernel_rfl
    · kernel_rfl
    · (intro _ _ _ hq; exact hq)
    · rfl
    · (intro _w hSw; (try dsimp only at hSw); go_simp; try with_reducible rfl)
    · assumption
    try simp only [Act.put, List.setIfInBounds_toArray, List.set_cons_zero, List.set_cons_succ]
    refine take_in (i := 11) (v := ?_) (d := (some 28)) rfl rfl ?_ ?_ ?_ ?_ ?_ ?_ ?_ ?_
    rotate_left
    · kernel_rfl
    · kernel_rfl
    · kernel_rfl
    · (intro _ _ _ hq; exact hq)
    · rfl
    · (intro _w hSw; (try dsimp only at hSw); go_simp; try with_reducible rfl)
    · assumption
    try simp only [Act.put, List.setIfInBounds_toArray, List.set_cons_zero, List.set_cons_succ]
    refine take_in (i := 12) (v := ?_) (d := (some 29)) rfl rfl ?_ ?_ ?_ ?_ ?_ ?_ ?_ ?_
    rotate_left
    · kernel_rfl
    · kernel_rfl
    · kernel_rfl
    · (intro _ _ _ hq; exact hq)
    · rfl
    · (intro _w hSw; (try dsimp only at hSw); go_simp; try with_reducible rfl)
    · assumption
    try simp only [Act.put, List.setIfInBounds_toArray, List.set_cons_zero, List.set_cons_succ]
    refine take_in (i := 13) (v := ?_) (d := (some 30)) rfl rfl ?_ ?_ ?_ ?_ ?_ ?_ ?_ ?_
    rotate_left
    · kernel_rfl
    · kernel_rfl
    · kernel_rfl
    · (intro _ _ _ hq; exact hq)
    · rfl
    · (intro _w hSw; (try dsimp only at hSw); go_simp; try with_reducible rfl)
    · assumption
    try simp only [Act.put, List.setIfInBounds_toArray, List.set_cons_zero, List.set_cons_succ]
    refine wpAnyH_ready (rs := [14, 15]) ?_ ?_ ?_
    · kernel_rfl
    · simp
    refine (AllReadyH.cons rfl (fun K hK => ?_) (AllReadyH.cons rfl (fun K hK => ?_) AllReadyH.nil))
    go_simp
    refine hK.out _ _ ?_ (fun hHeld => ?_)
    · ((try dsimp only); (refine KS.out _ ?_; (repeat (first | exact Gr.refl _ | exact hHeld.1 | (refine Gr.drew ?_) | (refine Gr.alloc ?_ _) | (refine Gr.setCell ?_ (by simp) _)))))
    clear hK K
    try simp only [Act.put, List.setIfInBounds_toArray, List.set_cons_zero, List.set_cons_succ]
    refine wpAnyH_ready (rs := [15]) ?_ ?_ ?_
    · kernel_rfl
    · simp
    refine (AllReadyH.cons rfl (fun K hK => ?_) AllReadyH.nil)
    go_simp
    refine hK.out _ _ ?_ (fun hHeld => ?_)
    · ((try dsimp only); (refine KS.out _ ?_; (repeat (first | exact Gr.refl _ | exact hHeld.1 | (refine Gr.drew ?_) | (refine Gr.alloc ?_ _) | (refine Gr.setCell ?_ (by simp) _)))))
    clear hK K
    try simp only [Act.put, List.setIfInBounds_toArray, List.set_cons_zero, List.set_cons_succ]
    refine wpAnyH_ready (rs := [16]) ?_ ?_ ?_
    · kernel_rfl
    · simp
    refine (AllReadyH.cons rfl (fun K hK => ?_) AllReadyH.nil)
    go_simp
    refine hK.out _ _ ?_ (fun hHeld => ?_)
    · ((try dsimp only); (refine KS.out _ ?_; (repeat (first | exact Gr.refl _ | exact hHeld.1 | (refine Gr.drew ?_) | (refine Gr.alloc ?_ _) | (refine Gr.setCell ?_ (by simp) _)))))
    clear hK K
    try simp only [Act.put, List.setIfInBounds_toArray, List.set_cons_zero, List.set_cons_succ]
    refine wpAnyH_ready (rs := [17]) ?_ ?_ ?_
    · kernel_rfl
    · simp
    refine (AllReadyH.cons rfl (fun K hK => ?_) AllReadyH.nil)
    go_simp
    refine hK.out _ _ ?_ (fun hHeld => ?_)
    · ((try dsimp only); (refine KS.out _ ?_; (repeat (first | exact Gr.refl _ | exact hHeld.1 | (refine Gr.drew ?_) | (refine Gr.alloc ?_ _) | (refine Gr.setCell ?_ (by simp) _)))))
    clear hK K
    try simp only [Act.put, List.setIfInBounds_toArray, List.set_cons_zero, List.set_cons_succ]
    refine wpAnyH_done ?_ ?_ _
    · kernel_rfl
    rotate_left
    go_simp
    refine hK.out _ _ ?_ (fun hHeld => ?_)
    · ((try dsimp only); (refine KS.out _ ?_; (repeat (first | exact Gr.refl _ | exact hHeld.1 | (refine Gr.drew ?_) | (refine Gr.alloc ?_ _) | (refine Gr.setCell ?_ (by simp) _)))))
    clear hK K
    try simp only [Act.put, List.setIfInBounds_toArray, List.set_cons_zero, List.set_cons_succ]
    refine wpAnyH_ready (rs := [14]) ?_ ?_ ?_
    · kernel_rfl
    · simp
    refine (AllReadyH.cons rfl (fun K hK => ?_) AllReadyH.nil)
    go_simp
    refine hK.out _ _ ?_ (fun hHeld => ?_)
    · ((try dsimp only); (refine KS.out _ ?_; (repeat (first | exact Gr.refl _ | exact hHeld.1 | (refine Gr.drew ?_) | (refine Gr.alloc ?_ _) | (refine Gr.setCell ?_ (by simp) _)))))
    clear hK K
    try simp only [Act.put, List.setIfInBounds_toArray, List.set_cons_zero, List.set_cons_succ]
    refine wpAnyH_ready (rs := [16]) ?_ ?_ ?_
    · kernel_rfl
    · simp
    refine (AllReadyH.cons rfl (fun K hK => ?_) AllReadyH.nil)
    go_simp
    refine hK.out _ _ ?_ (fun hHeld => ?_)
    · ((try dsimp only); (refine KS.out _ ?_; (repeat (first | exact Gr.refl _ | exact hHeld.1 | (refine Gr.drew ?_) | (refine Gr.alloc ?_ _) | (refine Gr.setCell ?_ (by simp) _)))))
    clear hK K
    try simp only [Act.put, List.setIfInBounds_toArray, List.set_cons_zero, List.set_cons_succ]
    refine wpAnyH_ready (rs := [17]) ?_ ?_ ?_
    · kernel_rfl
    · simp
    refine (AllReadyH.cons rfl (fun K hK => ?_) AllReadyH.nil)
    go_simp
    refine hK.out _ _ ?_ (fun hHeld => ?_)
    · ((try dsimp only); (refine KS.out _ ?_; (repeat (first | exact Gr.refl _ | exact hHeld.1 | (refine Gr.drew ?_) | (refine Gr.alloc ?_ _) | (refine Gr.setCell ?_ (by simp) _)))))
    clear hK K
    try simp only [Act.put, List.setIfInBounds_toArray, List.set_cons_zero, List.set_cons_succ]
    refine wpAnyH_done ?_ ?_ _
    · kernel_rfl
    rotate_left
    all_goals
      go_wp2_with fail
      go_meet
      first
        | exact ⟨_, _, rfl, rfl, Lib.hid (Ot2.start (two_blk _ _ _ _).2.2 (two_blk _ _ _ _).1 (two_blk _ _ _ _).2.1 (by omega) (by omega) (by omega))⟩
        | exact ⟨_, _, rfl, rfl, Lib.hid (Ot2.start (two_blk _ _ _ _).2.2 (two_blk _ _ _ _).2.1 (two_blk _ _ _ _).1 (by omega) (by omega) (by omega))⟩
  case rest =>
    obtain ⟨S, T, rfl, rfl, HK⟩ := hcut
    have HIB := Lib.hid (info_parts Try.infoBl)
    have HB2 := Lib.hid (fun W' (h : Gr w2 W') => And.intro (h.keep k1) (And.intro (h.keep k2) (h.keep k3)))
    clear k1 k2 k3
    go_wp2_with fail
    go_loopw [9] (fun z wr => ∃ (k : Nat) (v v' : Value), k ≤ q ∧ z = .int .i64 k ∧ Hid (Ot2 w2 S T W H ((t : Int) * W) ((t : Int) * H) v v' ((qs.take k).map (richB t)) ((qs.take k).map (largeB t)) wr) ∧ Hid (∀ b ∈ qs.take k, okT t b)) (fun z _ => q - (intOf z).toNat)
    case atStart => exact ⟨0, _, _, Nat.zero_le _, rfl, HK, Lib.hid (fun b hb => by cases hb)⟩
    case round =>
      obtain ⟨k, v, v', hk, rfl, hK, hOK⟩ := hrel
      obtain ⟨o1, o2, o3⟩ := HB2.out _ hK.out.a.gr
      by_cases hlt : k < q
      · have hkl : k < qs.length := by have := HQ.out; omega
        obtain ⟨bb, boff, rfl, q0, q1, q2⟩ := Tris_at (HT2.out.keep hK.out.a.gr) hkl
        rw [bl_getD] at q0 q1 q2
        have HX1 := Lib.hid (snoc_map (richB t) hkl)
        have HX2 := Lib.hid (snoc_map (largeB t) hkl)
        have HO := Lib.hid (ok_snoc (t := t) hkl hOK.out)
        have hbj := (blB_iff _).1 (HBL.out _ (bl_mem hkl))
        generalize bl qs k = x at q0 q1 q2 hbj HX1 HX2 HO
        have y1 : 0 ≤ x.2.2 * (t : Int) := Int.mul_nonneg (by omega) (by omega)
        have y2 : x.2.2 * (t : Int) ≤ 1048576 * 3 := Int.mul_le_mul (by omega) (by omega) (by omega) (by omega)
        have y3 : 0 ≤ x.1 * (t : Int) := Int.mul_nonneg (by omega) (by omega)
        have y4 : x.1 * (t : Int) ≤ 48 * 3 := Int.mul_le_mul (by omega) (by omega) (by omega) (by omega)
        have y5 : 0 ≤ x.2.1 * (t : Int) := Int.mul_nonneg (by omega) (by omega)
        have y6 : x.2.1 * (t : Int) ≤ 48 * 3 := Int.mul_le_mul (by omega) (by omega) (by omega) (by omega)
        have z1 : 0 ≤ (t : Int) * x.2.2 := Int.mul_nonneg (by omega) (by omega)
        have z2 : (t : Int) * x.2.2 ≤ 3 * 1048576 := Int.mul_le_mul (by omega) (by omega) (by omega) (by omega)
        have z3 : 0 ≤ (t : Int) * x.1 := Int.mul_nonneg (by omega) (by omega)
        have z4 : (t : Int) * x.1 ≤ 3 * 48 := Int.mul_le_mul (by omega) (by omega) (by omega) (by omega)
        have z5 : 0 ≤ (t : Int) * x.2.1 := Int.mul_nonneg (by omega) (by omega)
        have z6 : (t : Int) * x.2.1 ≤ 3 * 48 := Int.mul_le_mul (by omega) (by omega) (by omega) (by omega)
        have hgr := Lib.hid (hg.trans (hK.out.a.gr.alloc (.cells #[.int .i64 x.1, .int .i64 x.2.1, .int .i64 x.2.2] 49)))
        rcases ok_ways t x with d1 | ⟨d1, d2⟩ | ⟨d1, d2, d3⟩ | ⟨d1, d2, d3, HOX⟩
        iterate 3
          · go_wp2_with fail
            refine (cawake_any _).mono ?_
            rintro e w7 ⟨rfl, hg7⟩
            go_wp2_with fail
            try rw [Exit.noGoto_ret]
            go_ret
            exact ⟨rfl, hgr.out.trans hg7⟩
        · have HOX' := Lib.hid (HO.out HOX.out)
          obtain ⟨wa, hwa⟩ : ∃ wa, wr.alloc (.cells #[.int .i64 x.1, .int .i64 x.2.1, .int .i64 x.2.2] 49) = wa := ⟨_, rfl⟩
          have hga : Gr wr wa := by rw [← hwa]; exact (Gr.refl _).alloc _
          have hBa : Blk wa wr.heap.size 49 #[.int .i64 x.1, .int .i64 x.2.1, .int .i64 x.2.2] := by rw [← hwa]; exact Blk.new _ _ _ rfl
          have hsa : wa.heap.size = wr.heap.size + 1 := by rw [← hwa]; simp
          have hrw := hK.out.a.row
          have hrw' := hK.out.b.row
          obtain ⟨l, hl⟩ : ∃ l, (qs.take k).map (richB t) = l := ⟨_, rfl⟩
          obtain ⟨l', hl'⟩ : ∃ l', (qs.take k).map (largeB t) = l' := ⟨_, rfl⟩
          have hlen : l.length = k := by rw [← hl, List.length_map, List.length_take]; omega
          have hlen' : l'.length = k := by rw [← hl', List.length_map, List.length_take]; omega
          have hKa := hK.out.keep hga
          rw [hl, hl'] at hKa
          rw [hl] at HX1 hrw
          rw [hl'] at HX2 hrw'
          have HL := Lib.hid hlen
          have HL' := Lib.hid hlen'
          generalize hB : wr.heap.size = B at hBa hsa
          have hSB : S < B := by have := hK.out.a.out.lt; omega
          have hTB : T < B := by have := hK.out.b.out.lt; omega
          have hwB : w2.heap.size ≤ B := by have := hK.out.a.gr.size; omega
          obtain ⟨i0, hi, hz0, hz1, hz2⟩ := HIB.out
          obtain ⟨⟨a0, a1, a2⟩, e0, e1, e2⟩ := hKa.a.cells
          have p0 := hBa.cell 0
          have p1 := hBa.cell 1
          have p2 := hBa.cell 2
          have hr1 := hKa.a.row.alloc (.cells #[.int .i64 x.1, .int .i64 x.2.1, .int .i64 ((t : Int) * x.2.2)] 49)
          rw [hlen] at hr1
          have hkT := hKa.keep ((Gr.refl _).alloc (.cells #[.int .i64 x.1, .int .i64 x.2.1, .int .i64 ((t : Int) * x.2.2)] 49))
          have hbT := hBa.alloc (.cells #[.int .i64 x.1, .int .i64 x.2.1, .int .i64 ((t : Int) * x.2.2)] 49)
          have hrB : ∃ wz : World, wz.heap.size ≤ B ∧ wz.ownsRow w2.heap.size 49 3 v l.length (flatE enc3 l) := ⟨wr, by omega, hrw⟩
          have HHB := Lib.hid hB
          have hrw'' := hrw'
          clear hl hl' hga hK hrw hrw' hKa
          go_upto_region 10 with fail
          clear hwa hB o1 o2 o3 q0 q1 q2
          go_wp2_with (at_builtin; refine wpList_append_lies _ rfl _ _ 22 rfl w2.heap.size 49 i0 _ 3 24 Try.underlying22 hi hz0 hz1 hz2 rfl (by decide) _ _ _ rfl hr1 ⟨B + 1, 0, none⟩ 1 1 (enc3 (richB t x)) rfl rfl ?a1 ?a2 ?a0 ?a3 ?a4 ?a5 (B + 1 + 1) ?a6 ?_)
          case a1 =>
            intro t u ht
            rw [Addr.add_lit]
            exact alloc_new hsa.symm (by rw [Nat.zero_add]; simpa [enc3, richB] using ht)
          case a2 => exact fun u hu => enc3_one _ u hu
          case a0 => omega
          case a3 => unfold maxLen; omega
          case a4 => omega
          case a5 => simp [hsa]; omega
          case a6 => simp [hsa]
          intro g4 c4 w4 hown hgrow hat _
          obtain ⟨wz, hz1', hz2'⟩ := hrB
          have hb4 := hbT.past hz2' hz1' hgrow
          have hsT := hkT.a.out.grown hgrow (hkT.a.out.apart hkT.a.row (by decide))
          have hk4 := hkT.more hgrow (by simpa [hsa] using hat) (by rw [hlen]) hown
          rw [HX1.out.symm] at hk4
          have f2 := hsT.free 2
          have b2 : w4.cell? ⟨S, 2, none⟩ = some v := hsT.cell 2
          have hb5 := hb4.other (p := ⟨S, 2, none⟩) (by simp; omega) (.slice (some ⟨g4, 0, none⟩) (k + 1) c4)
          have hs5 : B + 1 ≤ (w4.setCell ⟨S, 2, none⟩ (.slice (some ⟨g4, 0, none⟩) (k + 1) c4)).heap.size := by
            have := hgrow.size
            simp [hsa] at this ⊢; omega
          have hr2 : ∃ wz : World, wz.heap.size ≤ B ∧ wz.ownsRow w2.heap.size 49 3 v' l'.length (flatE enc3 l') := ⟨wr, by rw [HHB.out]; omega, hrw''⟩
          obtain ⟨w5, hw5⟩ : ∃ w5, w4.setCell ⟨S, 2, none⟩ (.slice (some ⟨g4, 0, none⟩) (k + 1) c4) = w5 := ⟨_, rfl⟩
          rw [hw5] at hk4 hb5 hs5
          have hk5 := Lib.hid hk4
          have hb5' := Lib.hid hb5
          obtain ⟨⟨a0, a1, a2⟩, e0, e1, e2⟩ := hk4.b.cells
          have p0 := hb5.cell 0
          have p1 := hb5.cell 1
          have p2 := hb5.cell 2
          have hr5 := hk4.b.row.alloc (.cells #[.int .i64 ((t : Int) * x.1), .int .i64 ((t : Int) * x.2.1), .int .i64 x.2.2] 49)
          rw [HL'.out] at hr5
          have hk6 := Lib.hid (hk4.keep ((Gr.refl _).alloc (.cells #[.int .i64 ((t : Int) * x.1), .int .i64 ((t : Int) * x.2.1), .int .i64 x.2.2] 49)))
          have hsz6 := hk4.a.gr.size
          clear hgrow hat hown hsT hkT hbT hr1 hb4 hk4 hb5 hz1' hz2'
          obtain ⟨Z, hZ⟩ : ∃ Z, w5.heap.size = Z := ⟨_, rfl⟩
          go_upto_region 11 with fail
          go_wp2_with (at_builtin; refine wpList_append_lies _ rfl _ _ 22 rfl w2.heap.size 49 i0 _ 3 24 Try.underlying22 hi hz0 hz1 hz2 rfl (by decide) _ _ _ rfl hr5 ⟨Z, 0, none⟩ 1 1 (enc3 (largeB t x)) rfl rfl ?d1 ?d2 ?d0 ?d3 ?d4 ?d5 (Z + 1) ?d6 ?_)
          case d1 =>
            intro t u ht
            rw [Addr.add_lit]
            exact alloc_new hZ.symm (by rw [Nat.zero_add]; simpa [enc3, largeB] using ht)
          case d2 => exact fun u hu => enc3_one _ u hu
          case d0 => omega
          case d3 => unfold maxLen; omega
          case d4 => omega
          case d5 => simp; omega
          case d6 => simp [hZ]
          intro g7 c7 w7 hown hgrow hat _
          have hsT := hk6.out.b.out.grown hgrow (hk6.out.b.out.apart hk6.out.b.row (by decide))
          have hk8 := (hk6.out.swap.more hgrow (by simpa [hZ] using hat) (by rw [HL'.out]) hown).swap
          rw [HX2.out.symm] at hk8
          have HK8 := Lib.hid hk8
          have f2' := hsT.free 2
          have b2' : w7.cell? ⟨T, 2, none⟩ = some v' := hsT.cell 2
          clear hgrow hat hown hsT hr5 hk8
          go_wp2_with fail
          go_roundw
          case rel => exact ⟨k + 1, _, _, by omega, by go_num, HK8, HOX'⟩
          case measure => simp [intOf] <;> omega
      · obtain rfl : k = q := by omega
        have htk : qs.take k = qs := List.take_of_length_le (by have := HQ.out; omega)
        rw [htk] at hK hOK
        have hlr : (qs.map (richB t)).length = k := by rw [List.length_map, HQ.out]
        have hll : (qs.map (largeB t)).length = k := by rw [List.length_map, HQ.out]
        have hrow := hK.out.a.row
        have hrow' := hK.out.b.row
        rw [hlr] at hrow
        rw [hll] at hrow'
        obtain ⟨A5, c5, rfl, -, hrd, -⟩ := own_row enc3_len hlr hrow
        obtain ⟨A6, c6, rfl, -, hrd', -⟩ := own_row enc3_len hll hrow'
        have HL := Lib.hid hlr
        have HL' := Lib.hid hll
        have HR := Lib.hid hrd
        have HR' := Lib.hid hrd'
        have HTR := Lib.hid (task_ok (W := W) (H := H) (bs := qs.map (richB t)) (by omega) (by omega) (by rw [hlr]; omega) (rich_ok ht1 HBL.out hOK.out))
        have htw : t * W ≤ 48 := by have : (t * W : Nat) = (t : Int) * W := Int.natCast_mul t W; omega
        have hth : t * H ≤ 48 := by have : (t * H : Nat) = (t : Int) * H := Int.natCast_mul t H; omega
        have HTL := Lib.hid (task_ok (W := t * W) (H := t * H) (bs := qs.map (largeB t)) ⟨Nat.mul_pos (by omega) (by omega), htw⟩ ⟨Nat.mul_pos (by omega) (by omega), hth⟩ (by rw [hll]; omega) (large_ok ht1 HBL.out hOK.out))
        have HV1 := Lib.hid (mst_rich qs (k := (t : Int)) (by omega) W H)
        have HV2 := Lib.hid (mst_large (bs := qs) (fun b hb => by have := (blB_iff _).1 (HBL.out b hb); omega) ht1 W H)
        obtain ⟨⟨b0, b1, b2⟩, -⟩ := hK.out.a.cells
        obtain ⟨⟨d0, d1, d2⟩, -⟩ := hK.out.b.cells
        have hgr := hg.trans hK.out.a.gr
        have HT3 := Lib.hid (HT2.out.keep hK.out.a.gr)
        have hmv := mst_bd HBL.out (w := W) (h := H) (by omega) (by omega)
        clear hlr hll hrow hrow' hrd hrd' htk hg hK hOK htw hth
        go_wp2_with fail
        refine (best_any W H A1 k c1 qs _ HQ.out (by omega) HT3.out HT.out).mono ?_
        rintro e w5 ⟨rfl, hg5⟩
        have hv := HNN.out
        have HV1' : Hid (mst (qs.map (richB t)) W H = (t : Int) * mst qs W H) := Lib.hid HV1.out
        have HV2' : Hid (mst (qs.map (largeB t)) (t * W) (t * H) = mst qs W H) := Lib.hid HV2.out
        generalize mst qs W H = v5 at hv hmv HV1' HV2' ⊢
        have u1 : 0 ≤ (t : Int) * v5 := Int.mul_nonneg (by omega) (by omega)
        have u2 : (t : Int) * v5 ≤ 3 * 2415919104 := Int.mul_le_mul (by omega) (by omega) (by omega) (by omega)
        have b0' := hg5.keep b0
        have b1' := hg5.keep b1
        have b2' := hg5.keep b2
        have d0' := hg5.keep d0
        have d1' := hg5.keep d1
        have d2' := hg5.keep d2
        have HR5 := Lib.hid (HR.out.keep hg5)
        have HR5' := Lib.hid (HR'.out.keep hg5)
        have t1 : decide (0 ≤ v5) = true := decide_eq_true hv
        have t2 : (v5 == v5) = true := by simp
        have t3 : ((t : Int) * v5 == (t : Int) * v5) = true := by simp
        clear b0 b1 b2 d0 d1 d2 HV1 HV2 HNN
        go_wp2_with fail
        refine (best_any W H A5 k c5 _ _ HL.out (by omega) HR5.out HTR.out).mono ?_
        rintro e w6 ⟨rfl, hg6⟩
        rw [HV1'.out]
        have d0 := hg6.keep d0'
        have d1 := hg6.keep d1'
        have d2 := hg6.keep d2'
        have hcall := fun W' (g : Gr w6 W') => best_any (t * W) (t * H) A6 k c6 _ W' HL'.out (by omega) ((HR5'.out.keep hg6).keep g) HTL.out
        rw [HV2'.out] at hcall
        simp only [Int.natCast_mul] at hcall
        have HC := Lib.hid hcall
        clear hcall b0' b1' b2' d0' d1' d2'
        go_wp2_with fail
        refine (HC.out _ (Gr.refl _)).mono ?_
        rintro e w7 ⟨rfl, hg7⟩
        go_wp2_with fail
        refine (cawake_any _).mono ?_
        rintro e w8 ⟨rfl, hg8⟩
        go_wp2_with fail
        try rw [Exit.noGoto_ret]
        go_ret
        exact ⟨rfl, (((hgr.trans hg5).trans hg6).trans hg7).trans hg8⟩

end Go.Proofs.Ytcojionipffanab
