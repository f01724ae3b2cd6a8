/- Layer 5: the law's shows, at a new net. -/
import Derived.Test.YtnoeiocbmhkmeaaPtRn
namespace Go.Proofs.Ytnoeiocbmhkmeaa
open Go.RowKit
set_option linter.unusedSimpArgs false

set_option maxRecDepth 100000 in
theorem rSettled0_any (A : Option Addr) (n c : Nat) (w : World) : Calls Try.prog 36 #[.agg #[.slice A n c, .slice none 0 0, .slice none 0 0]] w fun e w' => e = .returned (.bool true) ∧ Gr w w' := by
  go_enter Try.func36, Try.ntmps36
  go_upto_region 1 with fail
  generalize hW1 : World.alloc w _ = w1
  have hg1 : Gr w w1 := by rw [← hW1]; exact (Gr.refl w).alloc _
  have hB1 : Blk w1 w.heap.size 32 #[.slice A n c, .slice none 0 0, .slice none 0 0] := by rw [← hW1]; exact Blk.new w _ _ rfl
  generalize w.heap.size = T at hB1 ⊢
  have c1 : w1.cell? ⟨T, 1, none⟩ = some (.slice none 0 0) := hB1.cell 1
  have c2 : w1.cell? ⟨T, 2, none⟩ = some (.slice none 0 0) := hB1.cell 2
  clear hW1 hB1
  go_wp2_with fail
  go_loopw [3] (fun z wr => z = .int .i64 1 ∧ wr = w1) (fun _ _ => 0)
  case atStart => exact ⟨rfl, rfl⟩
  case round =>
    obtain ⟨rfl, rfl⟩ := hrel
    go_wp2_with fail
    go_ret
    exact ⟨rfl, hg1⟩
set_option maxRecDepth 100000 in
theorem same0_any (A : Option Addr) (c : Nat) (w : World) : Calls Try.prog 37 #[.slice A 0 c, .slice none 0 0] w fun e w' => e = .returned (.bool true) ∧ w' = w := by
  go_enter Try.func37, Try.ntmps37
  go_wp2_with fail
  go_loopw [5] (fun z wr => z = .int .i64 0 ∧ wr = w) (fun _ _ => 0)
  case atStart => exact ⟨rfl, rfl⟩
  case round =>
    obtain ⟨rfl, rfl⟩ := hrel
    go_wp2_with fail
    go_ret
    exact ⟨rfl, rfl⟩
theorem settled_new {N : Nx} {l : List Int} (h : nzN N = newN l) : settledN N = true := by
  rw [← settledN_nz, h]
  unfold settledN newN
  simp [List.all_eq_true, nw, setS]
theorem new_at {N : Nx} {l : List Int} (h : nzN N = newN l) {k : Nat} {x : Int} (hx : l[k]? = some x) : refS N (k : Int) = 0 ∧ stockN N (k : Int) = x ∧ upN N (k : Int) = true := by
  have hk : k < l.length := (List.getElem?_eq_some_iff.1 hx).1
  have h1 : refS (newN l) (k : Int) = 0 := by unfold refS; rw [newN_len, if_neg (by omega), if_neg (by omega)]
  refine ⟨by rw [← refS_nz, h]; exact h1, ?_, ?_⟩
  · rw [← stockN_nz, h]
    unfold stockN
    rw [h1, show ((k : Int)).toNat = k from rfl, newN_site hx]
    rfl
  · rw [← upN_nz, h]
    unfold upN
    rw [h1, show ((k : Int)).toNat = k from rfl, newN_site hx]
    rfl
set_option maxRecDepth 100000 in
set_option maxHeartbeats 8000000 in
theorem shows0_any {B : Nat} {w : World} {N : Nx} (l : List Int) (n : Nat) (A : Option Addr) (c : Nat) (h : NetR B w N) (hN : nzN N = newN l) (hn : l.length = n) (hn1 : 1 ≤ n) (hn8 : n ≤ 8) (hr : Rd 3 encR0 w A l) :
    Calls Try.prog 13 #[.pointer (some ⟨N.p, 0, none⟩), .agg #[.slice A n c, .slice none 0 0, .slice none 0 0]] w fun e w' => e = .returned (.bool true) ∧ Gr w w' := by
  have hlen : N.sites.length = n := by rw [← nz_len, hN, newN_len, hn]
  have hmail : N.mail = [] := by have := congrArg Nx.mail hN; exact this
  have HSI : Hid (∀ W, Gr w W → Calls Try.prog 17 #[.pointer (some ⟨N.p, 0, none⟩)] W fun e w' => e = .returned (.int .i64 (n : Int)) ∧ w' = W) := Lib.hid (fun W hW => by have := Sites_any (h.keep hW); rw [hlen] at this; exact this)
  have HSE : Hid (∀ W, Gr w W → Calls Try.prog 21 #[.pointer (some ⟨N.p, 0, none⟩)] W fun e w' => e = .returned (.bool true) ∧ w' = W) := Lib.hid (fun W hW => by have := Settled_any (h.keep hW) (by omega); rw [settled_new hN] at this; exact this)
  have HLE : Hid (∀ W, Gr w W → Calls Try.prog 19 #[.pointer (some ⟨N.p, 0, none⟩)] W fun e w' => ∃ A c, e = .returned (.slice A 0 c) ∧ Gr W w') := Lib.hid (fun W hW => (Letters_any (h.keep hW) (by rw [hmail]; simp)).mono (fun e w' ⟨A, c, he, _, hg, _⟩ => ⟨A, c, by rw [he, hmail]; rfl, hg⟩))
  have HST : Hid (∀ (k : Nat) x W, l[k]? = some x → Gr w W → Calls Try.prog 14 #[.pointer (some ⟨N.p, 0, none⟩), .int .i64 (k : Int)] W fun e w' => e = .returned (.tuple #[.int .i64 x, .int .i64 0]) ∧ w' = W) := Lib.hid (fun k x W hx hW => by have := Stock_any (h.keep hW) (k : Int); rw [(new_at hN hx).1, (new_at hN hx).2.1] at this; exact this)
  have HUP : Hid (∀ (k : Nat) x W, l[k]? = some x → Gr w W → Calls Try.prog 18 #[.pointer (some ⟨N.p, 0, none⟩), .int .i64 (k : Int)] W fun e w' => e = .returned (.bool true) ∧ w' = W) := Lib.hid (fun k x W hx hW => by have := Up_any (h.keep hW) (k : Int); rw [(new_at hN hx).2.2] at this; exact this)
  have HN := Lib.hid hn
  have HR := Lib.hid hr
  clear h hN hn hr hlen hmail
  go_enter Try.func13, Try.ntmps13
  go_upto_region 1 with fail
  generalize hW1 : World.alloc w _ = w1
  have hg1 : Gr w w1 := by rw [← hW1]; exact (Gr.refl w).alloc _
  have hB1 : Blk w1 w.heap.size 32 #[.slice A n c, .slice none 0 0, .slice none 0 0] := by rw [← hW1]; exact Blk.new w _ _ rfl
  generalize w.heap.size = T at hB1 ⊢
  have HB1 := Lib.hid hB1
  have c0 : w1.cell? ⟨T, 0, none⟩ = some (.slice A n c) := hB1.cell 0
  have c1 : w1.cell? ⟨T, 1, none⟩ = some (.slice none 0 0) := hB1.cell 1
  have c2 : w1.cell? ⟨T, 2, none⟩ = some (.slice none 0 0) := hB1.cell 2
  clear hW1 hB1
  have hnn : ((n : Int) != (n : Int)) = false := by simp
  refine wp_region_held_drew (S := (fun W' => Gr w1 W' ∧ W'.cell? ⟨T, 0, none⟩ = some (.slice A n c) ∧ W'.cell? ⟨T, 1, none⟩ = some (.slice none 0 0) ∧ W'.cell? ⟨T, 2, none⟩ = some (.slice none 0 0))) ?_ ?_ (fun hHeld => ?_)
  · kernel_rfl
  · ((try dsimp only); ((try go_split_ands); (repeat' apply And.intro) <;> (repeat (first | assumption | (exact Gr.refl _) | (refine Gr.drew ?_) | (refine Gr.alloc ?_ _) | (refine alloc_old ?_) | (refine Gr.keep (by assumption) ?_) | (refine Gr.trans ?_ (by assumption))))))
  refine take_in (i := 0) (v := ?_) (d := (some 9)) rfl rfl ?_ ?_ ?_ ?_ ?_ ?_ ?_ ?_
  rotate_left
  · kernel_rfl
  · kernel_rfl
  · kernel_rfl
  · (intro _ _ _ hq; exact hq)
  · rfl
  · (intro _w hSw; (try dsimp only at hSw); go_simp; try with_reducible rfl)
  · assumption
  try simp only [Act.put, List.setIfInBounds_toArray, List.set_cons_zero, List.set_cons_succ]
  refine take_in (i := 2) (v := ?_) (d := (some 11)) rfl rfl ?_ ?_ ?_ ?_ ?_ ?_ ?_ ?_
  rotate_left
  · kernel_rfl
  · kernel_rfl
  · kernel_rfl
  · (intro _ _ _ hq; exact hq)
  · rfl
  · (intro _w hSw; (try dsimp only at hSw); go_simp; try with_reducible rfl)
  · assumption
  try simp only [Act.put, List.setIfInBounds_toArray, List.set_cons_zero, List.set_cons_succ]
  refine take_in (i := 3) (v := ?_) (d := (some 12)) rfl rfl ?_ ?_ ?_ ?_ ?_ ?_ ?_ ?_
  rotate_left
  · kernel_rfl
  · kernel_rfl
  · kernel_rfl
  · (intro _ _ _ hq; exact hq)
  · rfl
  · (intro _w hSw; (try dsimp only at hSw); go_simp; try with_reducible rfl)
  · assumption
  try simp only [Act.put, List.setIfInBounds_toArray, List.set_cons_zero, List.set_cons_succ]
  refine take_in (i := 4) (v := ?_) (d := (some 13)) rfl rfl ?_ ?_ ?_ ?_ ?_ ?_ ?_ ?_
  rotate_left
  · kernel_rfl
  · kernel_rfl
  · kernel_rfl
  · (intro _ _ _ hq; exact hq)
  · rfl
  · (intro _w hSw; (try dsimp only at hSw); go_simp; try with_reducible rfl)
  · assumption
  try simp only [Act.put, List.setIfInBounds_toArray, List.set_cons_zero, List.set_cons_succ]
  refine wpAnyH_ready (rs := [1]) ?_ ?_ ?_
  · kernel_rfl
  · simp
  refine (AllReadyH.cons rfl (fun K hK => ?_) AllReadyH.nil)
  go_simp
  first | (go_at_call 17; (with_reducible refine (HSI.out _ (hg1.trans hHeld.1)).mono ?_); rintro e w2 ⟨rfl, rfl⟩) | (go_at_call 21; (with_reducible refine (HSE.out _ (hg1.trans hHeld.1)).mono ?_); rintro e w2 ⟨rfl, rfl⟩) | (go_at_call 36; (with_reducible refine (rSettled0_any A n c _).mono ?_); rintro e w2 ⟨rfl, hg2⟩) | (go_at_call 19; (with_reducible refine (HLE.out _ (hg1.trans hHeld.1)).mono ?_); rintro e w3 ⟨A3, c3, rfl, hg3⟩) | (go_at_call 37; (with_reducible refine (same0_any A3 c3 _).mono ?_); rintro e w4 ⟨rfl, rfl⟩)
  refine hK.out _ _ ?_ (fun hHeld => ?_)
  · ((try dsimp only); ((try go_split_ands); (repeat' apply And.intro) <;> (repeat (first | assumption | (exact Gr.refl _) | (refine Gr.drew ?_) | (refine Gr.alloc ?_ _) | (refine alloc_old ?_) | (refine Gr.keep (by assumption) ?_) | (refine Gr.trans ?_ (by assumption))))))
  clear hK K
  try simp only [Act.put, List.setIfInBounds_toArray, List.set_cons_zero, List.set_cons_succ]
  refine take_in (i := 5) (v := ?_) (d := (some 14)) rfl rfl ?_ ?_ ?_ ?_ ?_ ?_ ?_ ?_
  rotate_left
  · kernel_rfl
  · kernel_rfl
  · kernel_rfl
  · (intro _ _ _ hq; exact hq)
  · rfl
  · (intro _w hSw; (try dsimp only at hSw); go_simp; try with_reducible rfl)
  · assumption
  try simp only [Act.put, List.setIfInBounds_toArray, List.set_cons_zero, List.set_cons_succ]
  refine take_in (i := 6) (v := ?_) (d := (some 15)) rfl rfl ?_ ?_ ?_ ?_ ?_ ?_ ?_ ?_
  rotate_left
  · kernel_rfl
  · kernel_rfl
  · kernel_rfl
  · (intro _ _ _ hq; exact hq)
  · rfl
  · (intro _w hSw; (try dsimp only at hSw); go_simp; try with_reducible rfl)
  · assumption
  try simp only [Act.put, List.setIfInBounds_toArray, List.set_cons_zero, List.set_cons_succ]
  refine take_in (i := 7) (v := ?_) (d := (some 16)) rfl rfl ?_ ?_ ?_ ?_ ?_ ?_ ?_ ?_
  rotate_left
  · kernel_rfl
  · kernel_rfl
  · kernel_rfl
  · (intro _ _ _ hq; exact hq)
  · rfl
  · (intro _w hSw; (try dsimp only at hSw); go_simp; try with_reducible rfl)
  · assumption
  try simp only [Act.put, List.setIfInBounds_toArray, List.set_cons_zero, List.set_cons_succ]
  refine take_in (i := 9) (v := ?_) (d := (some 18)) rfl rfl ?_ ?_ ?_ ?_ ?_ ?_ ?_ ?_
  rotate_left
  · kernel_rfl
  · kernel_rfl
  · kernel_rfl
  · (intro _ _ _ hq; exact hq)
  · rfl
  · (intro _w hSw; (try dsimp only at hSw); go_simp; try with_reducible rfl)
  · assumption
  try simp only [Act.put, List.setIfInBounds_toArray, List.set_cons_zero, List.set_cons_succ]
  refine wpAnyH_ready (rs := [8]) ?_ ?_ ?_
  · kernel_rfl
  · simp
  refine (AllReadyH.cons rfl (fun K hK => ?_) AllReadyH.nil)
  go_simp
  first | (go_at_call 17; (with_reducible refine (HSI.out _ (hg1.trans hHeld.1)).mono ?_); rintro e w2 ⟨rfl, rfl⟩) | (go_at_call 21; (with_reducible refine (HSE.out _ (hg1.trans hHeld.1)).mono ?_); rintro e w2 ⟨rfl, rfl⟩) | (go_at_call 36; (with_reducible refine (rSettled0_any A n c _).mono ?_); rintro e w2 ⟨rfl, hg2⟩) | (go_at_call 19; (with_reducible refine (HLE.out _ (hg1.trans hHeld.1)).mono ?_); rintro e w3 ⟨A3, c3, rfl, hg3⟩) | (go_at_call 37; (with_reducible refine (same0_any A3 c3 _).mono ?_); rintro e w4 ⟨rfl, rfl⟩)
  refine hK.out _ _ ?_ (fun hHeld => ?_)
  · ((try dsimp only); ((try go_split_ands); (repeat' apply And.intro) <;> (repeat (first | assumption | (exact Gr.refl _) | (refine Gr.drew ?_) | (refine Gr.alloc ?_ _) | (refine alloc_old ?_) | (refine Gr.keep (by assumption) ?_) | (refine Gr.trans ?_ (by assumption))))))
  clear hK K
  try simp only [Act.put, List.setIfInBounds_toArray, List.set_cons_zero, List.set_cons_succ]
  refine wpAnyH_ready (rs := [10]) ?_ ?_ ?_
  · kernel_rfl
  · simp
  refine (AllReadyH.cons rfl (fun K hK => ?_) AllReadyH.nil)
  go_simp
  first | (go_at_call 17; (with_reducible refine (HSI.out _ (hg1.trans hHeld.1)).mono ?_); rintro e w2 ⟨rfl, rfl⟩) | (go_at_call 21; (with_reducible refine (HSE.out _ (hg1.trans hHeld.1)).mono ?_); rintro e w2 ⟨rfl, rfl⟩) | (go_at_call 36; (with_reducible refine (rSettled0_any A n c _).mono ?_); rintro e w2 ⟨rfl, hg2⟩) | (go_at_call 19; (with_reducible refine (HLE.out _ (hg1.trans hHeld.1)).mono ?_); rintro e w3 ⟨A3, c3, rfl, hg3⟩) | (go_at_call 37; (with_reducible refine (same0_any A3 c3 _).mono ?_); rintro e w4 ⟨rfl, rfl⟩)
  refine hK.out _ _ ?_ (fun hHeld => ?_)
  · ((try dsimp only); ((try go_split_ands); (repeat' apply And.intro) <;> (repeat (first | assumption | (exact Gr.refl _) | (refine Gr.drew ?_) | (refine Gr.alloc ?_ _) | (refine alloc_old ?_) | (refine Gr.keep (by assumption) ?_) | (refine Gr.trans ?_ (by assumption))))))
  clear hK K
  try simp only [Act.put, List.setIfInBounds_toArray, List.set_cons_zero, List.set_cons_succ]
  refine take_in (i := 11) (v := ?_) (d := (some 20)) rfl rfl ?_ ?_ ?_ ?_ ?_ ?_ ?_ ?_
  rotate_left
  · kernel_rfl
  · kernel_rfl
  · kernel_rfl
  · (intro _ _ _ hq; exact hq)
  · rfl
  · (intro _w hSw; (try dsimp only at hSw); go_simp; try with_reducible rfl)
  · assumption
  try simp only [Act.put, List.setIfInBounds_toArray, List.set_cons_zero, List.set_cons_succ]
  refine take_in (i := 12) (v := ?_) (d := (some 21)) rfl rfl ?_ ?_ ?_ ?_ ?_ ?_ ?_ ?_
  rotate_left
  · kernel_rfl
  · kernel_rfl
  · kernel_rfl
  · (intro _ _ _ hq; exact hq)
  · rfl
  · (intro _w hSw; (try dsimp only at hSw); go_simp; try with_reducible rfl)
  · assumption
  try simp only [Act.put, List.setIfInBounds_toArray, List.set_cons_zero, List.set_cons_succ]
  refine take_in (i := 13) (v := ?_) (d := (some 22)) rfl rfl ?_ ?_ ?_ ?_ ?_ ?_ ?_ ?_
  rotate_left
  · kernel_rfl
  · kernel_rfl
  · kernel_rfl
  · (intro _ _ _ hq; exact hq)
  · rfl
  · (intro _w hSw; (try dsimp only at hSw); go_simp; try with_reducible rfl)
  · assumption
  try simp only [Act.put, List.setIfInBounds_toArray, List.set_cons_zero, List.set_cons_succ]
  refine take_in (i := 14) (v := ?_) (d := (some 23)) rfl rfl ?_ ?_ ?_ ?_ ?_ ?_ ?_ ?_
  rotate_left
  · kernel_rfl
  · kernel_rfl
  · kernel_rfl
  · (intro _ _ _ hq; exact hq)
  · rfl
  · (intro _w hSw; (try dsimp only at hSw); go_simp; try with_reducible rfl)
  · assumption
  try simp only [Act.put, List.setIfInBounds_toArray, List.set_cons_zero, List.set_cons_succ]
  refine take_in (i := 16) (v := ?_) (d := (some 25)) rfl rfl ?_ ?_ ?_ ?_ ?_ ?_ ?_ ?_
  rotate_left
  · kernel_rfl
  · kernel_rfl
  · kernel_rfl
  · (intro _ _ _ hq; exact hq)
  · rfl
  · (intro _w hSw; (try dsimp only at hSw); go_simp; try with_reducible rfl)
  · assumption
  try simp only [Act.put, List.setIfInBounds_toArray, List.set_cons_zero, List.set_cons_succ]
  refine take_in (i := 17) (v := ?_) (d := (some 26)) rfl rfl ?_ ?_ ?_ ?_ ?_ ?_ ?_ ?_
  rotate_left
  · kernel_rfl
  · kernel_rfl
  · kernel_rfl
  · (intro _ _ _ hq; exact hq)
  · rfl
  · (intro _w hSw; (try dsimp only at hSw); go_simp; try with_reducible rfl)
  · assumption
  try simp only [Act.put, List.setIfInBounds_toArray, List.set_cons_zero, List.set_cons_succ]
  refine wpAnyH_ready (rs := [15]) ?_ ?_ ?_
  · kernel_rfl
  · simp
  refine (AllReadyH.cons rfl (fun K hK => ?_) AllReadyH.nil)
  go_simp
  first | (go_at_call 17; (with_reducible refine (HSI.out _ (hg1.trans hHeld.1)).mono ?_); rintro e w2 ⟨rfl, rfl⟩) | (go_at_call 21; (with_reducible refine (HSE.out _ (hg1.trans hHeld.1)).mono ?_); rintro e w2 ⟨rfl, rfl⟩) | (go_at_call 36; (with_reducible refine (rSettled0_any A n c _).mono ?_); rintro e w2 ⟨rfl, hg2⟩) | (go_at_call 19; (with_reducible refine (HLE.out _ (hg1.trans hHeld.1)).mono ?_); rintro e w3 ⟨A3, c3, rfl, hg3⟩) | (go_at_call 37; (with_reducible refine (same0_any A3 c3 _).mono ?_); rintro e w4 ⟨rfl, rfl⟩)
  refine hK.out _ _ ?_ (fun hHeld => ?_)
  · ((try dsimp only); ((try go_split_ands); (repeat' apply And.intro) <;> (repeat (first | assumption | (exact Gr.refl _) | (refine Gr.drew ?_) | (refine Gr.alloc ?_ _) | (refine alloc_old ?_) | (refine Gr.keep (by assumption) ?_) | (refine Gr.trans ?_ (by assumption))))))
  clear hK K
  try simp only [Act.put, List.setIfInBounds_toArray, List.set_cons_zero, List.set_cons_succ]
  refine wpAnyH_ready (rs := [18]) ?_ ?_ ?_
  · kernel_rfl
  · simp
  refine (AllReadyH.cons rfl (fun K hK => ?_) AllReadyH.nil)
  go_simp
  first | (go_at_call 17; (with_reducible refine (HSI.out _ (hg1.trans hHeld.1)).mono ?_); rintro e w2 ⟨rfl, rfl⟩) | (go_at_call 21; (with_reducible refine (HSE.out _ (hg1.trans hHeld.1)).mono ?_); rintro e w2 ⟨rfl, rfl⟩) | (go_at_call 36; (with_reducible refine (rSettled0_any A n c _).mono ?_); rintro e w2 ⟨rfl, hg2⟩) | (go_at_call 19; (with_reducible refine (HLE.out _ (hg1.trans hHeld.1)).mono ?_); rintro e w3 ⟨A3, c3, rfl, hg3⟩) | (go_at_call 37; (with_reducible refine (same0_any A3 c3 _).mono ?_); rintro e w4 ⟨rfl, rfl⟩)
  refine hK.out _ _ ?_ (fun hHeld => ?_)
  · ((try dsimp only); ((try go_split_ands); (repeat' apply And.intro) <;> (repeat (first | assumption | (exact Gr.refl _) | (refine Gr.drew ?_) | (refine Gr.alloc ?_ _) | (refine alloc_old ?_) | (refine Gr.keep (by assumption) ?_) | (refine Gr.trans ?_ (by assumption))))))
  clear hK K
  try simp only [Act.put, List.setIfInBounds_toArray, List.set_cons_zero, List.set_cons_succ]
  refine take_in (i := 19) (v := ?_) (d := (some 28)) rfl rfl ?_ ?_ ?_ ?_ ?_ ?_ ?_ ?_
  rotate_left
  · kernel_rfl
  · kernel_rfl
  · kernel_rfl
  · (intro _ _ _ hq; exact hq)
  · rfl
  · (intro _w hSw; (try dsimp only at hSw); go_simp; try with_reducible rfl)
  · assumption
  try simp only [Act.put, List.setIfInBounds_toArray, List.set_cons_zero, List.set_cons_succ]
  refine take_in (i := 20) (v := ?_) (d := (some 29)) rfl rfl ?_ ?_ ?_ ?_ ?_ ?_ ?_ ?_
  rotate_left
  · kernel_rfl
  · kernel_rfl
  · kernel_rfl
  · (intro _ _ _ hq; exact hq)
  · rfl
  · (intro _w hSw; (try dsimp only at hSw); go_simp; try with_reducible rfl)
  · assumption
  try simp only [Act.put, List.setIfInBounds_toArray, List.set_cons_zero, List.set_cons_succ]
  refine wpAnyH_done ?_ ?_ _
  · kernel_rfl
  rotate_left
  all_goals
    have hgr4 := hHeld.1
    clear hHeld c0 c1 c2 hnn
    go_wp2_with fail
    go_loopw [5] (fun z wr => ∃ k : Nat, k ≤ n ∧ z = .int .i64 (k : Int) ∧ Gr w1 wr) (fun z _ => n - (intOf z).toNat)
    case atStart => exact ⟨0, Nat.zero_le _, rfl, hgr4⟩
    case round =>
      obtain ⟨k, hk, rfl, hgr⟩ := hrel
      clear hgr4
      have HB := Lib.hid (HB1.out.keep hgr)
      have c0 : wr.cell? ⟨T, 0, none⟩ = some (.slice A n c) := HB.out.cell 0
      have c1 : wr.cell? ⟨T, 1, none⟩ = some (.slice none 0 0) := HB.out.cell 1
      by_cases hlt : k < n
      · have hki : (k : Int) < (n : Int) := by omega
        have hk0 : (0 : Int) ≤ (k : Int) := by omega
        have hxk : l[k]? = some (l.getD k 0) := getD_of 0 (by rw [HN.out]; exact hlt)
        generalize l.getD k 0 = x at hxk
        obtain ⟨b, off, rfl, hcell⟩ := (HR.out.keep (hg1.trans hgr)) k x hxk
        have x0 : wr.cell? ⟨b, off + k * 3, none⟩ = some (.int .i64 x) := hcell 0 _ rfl
        have x1 : wr.cell? ⟨b, off + k * 3 + 1, none⟩ = some (.bool false) := hcell 1 _ rfl
        have HS := Lib.hid (fun W (hW : Gr w W) => HST.out k x W hxk hW)
        have HU := Lib.hid (fun W (hW : Gr w W) => HUP.out k x W hxk hW)
        clear hxk hcell
        go_wp2_with fail
        refine (HS.out _ (hg1.trans hgr)).mono ?_
        rintro e w5 ⟨rfl, rfl⟩
        have hxx : (x != x) = false := by simp
        have htf : (true == false) = false := rfl
        go_upto_region 7 with fail
        refine wp_region_held_drew (S := (fun W' => Gr w5 W' ∧ W'.cell? ⟨T, 0, none⟩ = some (.slice (some ⟨b, off, none⟩) n c) ∧ W'.cell? ⟨b, off + k * 3, none⟩ = some (.int .i64 x) ∧ W'.cell? ⟨b, off + k * 3 + 1, none⟩ = some (.bool false))) ?_ ?_ (fun hHeld => ?_)
        · kernel_rfl
        · ((try dsimp only); ((try go_split_ands); (repeat' apply And.intro) <;> (repeat (first | assumption | (exact Gr.refl _) | (refine Gr.drew ?_) | (refine Gr.alloc ?_ _) | (refine alloc_old ?_) | (refine Gr.keep (by assumption) ?_) | (refine Gr.trans ?_ (by assumption))))))
        refine take_in (i := 0) (v := ?_) (d := (some 43)) rfl rfl ?_ ?_ ?_ ?_ ?_ ?_ ?_ ?_
        rotate_left
        · kernel_rfl
        · kernel_rfl
        · kernel_rfl
        · (intro _ _ _ hq; exact hq)
        · rfl
        · (intro _w hSw; (try dsimp only at hSw); go_simp; try with_reducible rfl)
        · assumption
        try simp only [Act.put, List.setIfInBounds_toArray, List.set_cons_zero, List.set_cons_succ]
        refine take_in (i := 1) (v := ?_) (d := (some 44)) rfl rfl ?_ ?_ ?_ ?_ ?_ ?_ ?_ ?_
        rotate_left
        · kernel_rfl
        · kernel_rfl
        · kernel_rfl
        · (intro _ _ _ hq; exact hq)
        · rfl
        · (intro _w hSw; (try dsimp only at hSw); go_simp; try with_reducible rfl)
        · assumption
        try simp only [Act.put, List.setIfInBounds_toArray, List.set_cons_zero, List.set_cons_succ]
        refine take_in (i := 2) (v := ?_) (d := (some 45)) rfl rfl ?_ ?_ ?_ ?_ ?_ ?_ ?_ ?_
        rotate_left
        · kernel_rfl
        · kernel_rfl
        · kernel_rfl
        · (intro _ _ _ hq; exact hq)
        · rfl
        · (intro _w hSw; (try dsimp only at hSw); go_simp; try with_reducible rfl)
        · assumption
        try simp only [Act.put, List.setIfInBounds_toArray, List.set_cons_zero, List.set_cons_succ]
        refine take_in (i := 3) (v := ?_) (d := (some 46)) rfl rfl ?_ ?_ ?_ ?_ ?_ ?_ ?_ ?_
        rotate_left
        · kernel_rfl
        · kernel_rfl
        · kernel_rfl
        · (intro _ _ _ hq; exact hq)
        · rfl
        · (intro _w hSw; (try dsimp only at hSw); go_simp; try with_reducible rfl)
        · assumption
        try simp only [Act.put, List.setIfInBounds_toArray, List.set_cons_zero, List.set_cons_succ]
        refine take_in (i := 4) (v := ?_) (d := (some 47)) rfl rfl ?_ ?_ ?_ ?_ ?_ ?_ ?_ ?_
        rotate_left
        · kernel_rfl
        · kernel_rfl
        · kernel_rfl
        · (intro _ _ _ hq; exact hq)
        · rfl
        · (intro _w hSw; (try dsimp only at hSw); go_simp; try with_reducible rfl)
        · assumption
        try simp only [Act.put, List.setIfInBounds_toArray, List.set_cons_zero, List.set_cons_succ]
        refine take_in (i := 5) (v := ?_) (d := (some 48)) rfl rfl ?_ ?_ ?_ ?_ ?_ ?_ ?_ ?_
        rotate_left
        · kernel_rfl
        · kernel_rfl
        · kernel_rfl
        · (intro _ _ _ hq; exact hq)
        · rfl
        · (intro _w hSw; (try dsimp only at hSw); go_simp; try with_reducible rfl)
        · assumption
        try simp only [Act.put, List.setIfInBounds_toArray, List.set_cons_zero, List.set_cons_succ]
        refine take_in (i := 6) (v := ?_) (d := (some 49)) rfl rfl ?_ ?_ ?_ ?_ ?_ ?_ ?_ ?_
        rotate_left
        · kernel_rfl
        · kernel_rfl
        · kernel_rfl
        · (intro _ _ _ hq; exact hq)
        · rfl
        · (intro _w hSw; (try dsimp only at hSw); go_simp; try with_reducible rfl)
        · assumption
        try simp only [Act.put, List.setIfInBounds_toArray, List.set_cons_zero, List.set_cons_succ]
        refine take_in (i := 7) (v := ?_) (d := (some 50)) rfl rfl ?_ ?_ ?_ ?_ ?_ ?_ ?_ ?_
        rotate_left
        · kernel_rfl
        · kernel_rfl
        · kernel_rfl
        · (intro _ _ _ hq; exact hq)
        · rfl
        · (intro _w hSw; (try dsimp only at hSw); go_simp; try with_reducible rfl)
        · assumption
        try simp only [Act.put, List.setIfInBounds_toArray, List.set_cons_zero, List.set_cons_succ]
        refine take_in (i := 8) (v := ?_) (d := (some 51)) rfl rfl ?_ ?_ ?_ ?_ ?_ ?_ ?_ ?_
        rotate_left
        · kernel_rfl
        · kernel_rfl
        · kernel_rfl
        · (intro _ _ _ hq; exact hq)
        · rfl
        · (intro _w hSw; (try dsimp only at hSw); go_simp; try with_reducible rfl)
        · assumption
        try simp only [Act.put, List.setIfInBounds_toArray, List.set_cons_zero, List.set_cons_succ]
        refine take_in (i := 9) (v := ?_) (d := (some 52)) rfl rfl ?_ ?_ ?_ ?_ ?_ ?_ ?_ ?_
        rotate_left
        · kernel_rfl
        · kernel_rfl
        · kernel_rfl
        · (intro _ _ _ hq; exact hq)
        · rfl
        · (intro _w hSw; (try dsimp only at hSw); go_simp; try with_reducible rfl)
        · assumption
        try simp only [Act.put, List.setIfInBounds_toArray, List.set_cons_zero, List.set_cons_succ]
        refine take_in (i := 10) (v := ?_) (d := (some 53)) rfl rfl ?_ ?_ ?_ ?_ ?_ ?_ ?_ ?_
        rotate_left
        · kernel_rfl
        · kernel_rfl
        · kernel_rfl
        · (intro _ _ _ hq; exact hq)
        · rfl
        · (intro _w hSw; (try dsimp only at hSw); go_simp; try with_reducible rfl)
        · assumption
        try simp only [Act.put, List.setIfInBounds_toArray, List.set_cons_zero, List.set_cons_succ]
        refine take_in (i := 11) (v := ?_) (d := (some 54)) rfl rfl ?_ ?_ ?_ ?_ ?_ ?_ ?_ ?_
        rotate_left
        · kernel_rfl
        · kernel_rfl
        · kernel_rfl
        · (intro _ _ _ hq; exact hq)
        · rfl
        · (intro _w hSw; (try dsimp only at hSw); go_simp; try with_reducible rfl)
        · assumption
        try simp only [Act.put, List.setIfInBounds_toArray, List.set_cons_zero, List.set_cons_succ]
        refine take_in (i := 12) (v := ?_) (d := (some 55)) rfl rfl ?_ ?_ ?_ ?_ ?_ ?_ ?_ ?_
        rotate_left
        · kernel_rfl
        · kernel_rfl
        · kernel_rfl
        · (intro _ _ _ hq; exact hq)
        · rfl
        · (intro _w hSw; (try dsimp only at hSw); go_simp; try with_reducible rfl)
        · assumption
        try simp only [Act.put, List.setIfInBounds_toArray, List.set_cons_zero, List.set_cons_succ]
        refine take_in (i := 13) (v := ?_) (d := (some 56)) rfl rfl ?_ ?_ ?_ ?_ ?_ ?_ ?_ ?_
        rotate_left
        · kernel_rfl
        · kernel_rfl
        · kernel_rfl
        · (intro _ _ _ hq; exact hq)
        · rfl
        · (intro _w hSw; (try dsimp only at hSw); go_simp; try with_reducible rfl)
        · assumption
        try simp only [Act.put, List.setIfInBounds_toArray, List.set_cons_zero, List.set_cons_succ]
        refine take_in (i := 14) (v := ?_) (d := (some 57)) rfl rfl ?_ ?_ ?_ ?_ ?_ ?_ ?_ ?_
        rotate_left
        · kernel_rfl
        · kernel_rfl
        · kernel_rfl
        · (intro _ _ _ hq; exact hq)
        · rfl
        · (intro _w hSw; (try dsimp only at hSw); go_simp; try with_reducible rfl)
        · assumption
        try simp only [Act.put, List.setIfInBounds_toArray, List.set_cons_zero, List.set_cons_succ]
        refine take_in (i := 16) (v := ?_) (d := (some 59)) rfl rfl ?_ ?_ ?_ ?_ ?_ ?_ ?_ ?_
        rotate_left
        · kernel_rfl
        · kernel_rfl
        · kernel_rfl
        · (intro _ _ _ hq; exact hq)
        · rfl
        · (intro _w hSw; (try dsimp only at hSw); go_simp; try with_reducible rfl)
        · assumption
        try simp only [Act.put, List.setIfInBounds_toArray, List.set_cons_zero, List.set_cons_succ]
        refine take_in (i := 17) (v := ?_) (d := (some 60)) rfl rfl ?_ ?_ ?_ ?_ ?_ ?_ ?_ ?_
        rotate_left
        · kernel_rfl
        · kernel_rfl
        · kernel_rfl
        · (intro _ _ _ hq; exact hq)
        · rfl
        · (intro _w hSw; (try dsimp only at hSw); go_simp; try with_reducible rfl)
        · assumption
        try simp only [Act.put, List.setIfInBounds_toArray, List.set_cons_zero, List.set_cons_succ]
        refine take_in (i := 18) (v := ?_) (d := (some 61)) rfl rfl ?_ ?_ ?_ ?_ ?_ ?_ ?_ ?_
        rotate_left
        · kernel_rfl
        · kernel_rfl
        · kernel_rfl
        · (intro _ _ _ hq; exact hq)
        · rfl
        · (intro _w hSw; (try dsimp only at hSw); go_simp; try with_reducible rfl)
        · assumption
        try simp only [Act.put, List.setIfInBounds_toArray, List.set_cons_zero, List.set_cons_succ]
        refine take_in (i := 19) (v := ?_) (d := (some 62)) rfl rfl ?_ ?_ ?_ ?_ ?_ ?_ ?_ ?_
        rotate_left
        · kernel_rfl
        · kernel_rfl
        · kernel_rfl
        · (intro _ _ _ hq; exact hq)
        · rfl
        · (intro _w hSw; (try dsimp only at hSw); go_simp; try with_reducible rfl)
        · assumption
        try simp only [Act.put, List.setIfInBounds_toArray, List.set_cons_zero, List.set_cons_succ]
        refine take_in (i := 20) (v := ?_) (d := (some 63)) rfl rfl ?_ ?_ ?_ ?_ ?_ ?_ ?_ ?_
        rotate_left
        · kernel_rfl
        · kernel_rfl
        · kernel_rfl
        · (intro _ _ _ hq; exact hq)
        · rfl
        · (intro _w hSw; (try dsimp only at hSw); go_simp; try with_reducible rfl)
        · assumption
        try simp only [Act.put, List.setIfInBounds_toArray, List.set_cons_zero, List.set_cons_succ]
        refine take_in (i := 21) (v := ?_) (d := (some 64)) rfl rfl ?_ ?_ ?_ ?_ ?_ ?_ ?_ ?_
        rotate_left
        · kernel_rfl
        · kernel_rfl
        · kernel_rfl
        · (intro _ _ _ hq; exact hq)
        · rfl
        · (intro _w hSw; (try dsimp only at hSw); go_simp; try with_reducible rfl)
        · assumption
        try simp only [Act.put, List.setIfInBounds_toArray, List.set_cons_zero, List.set_cons_succ]
        refine wpAnyH_ready (rs := [15]) ?_ ?_ ?_
        · kernel_rfl
        · simp
        refine (AllReadyH.cons rfl (fun K hK => ?_) AllReadyH.nil)
        go_simp
        first | (go_at_call 18; (with_reducible refine (HU.out _ (hg1.trans (hgr.trans hHeld.1))).mono ?_); rintro e w6 ⟨rfl, rfl⟩)
        refine hK.out _ _ ?_ (fun hHeld => ?_)
        · ((try dsimp only); ((try go_split_ands); (repeat' apply And.intro) <;> (repeat (first | assumption | (exact Gr.refl _) | (refine Gr.drew ?_) | (refine Gr.alloc ?_ _) | (refine alloc_old ?_) | (refine Gr.keep (by assumption) ?_) | (refine Gr.trans ?_ (by assumption))))))
        clear hK K
        try simp only [Act.put, List.setIfInBounds_toArray, List.set_cons_zero, List.set_cons_succ]
        refine take_in (i := 22) (v := ?_) (d := (some 65)) rfl rfl ?_ ?_ ?_ ?_ ?_ ?_ ?_ ?_
        rotate_left
        · kernel_rfl
        · kernel_rfl
        · kernel_rfl
        · (intro _ _ _ hq; exact hq)
        · rfl
        · (intro _w hSw; (try dsimp only at hSw); go_simp; try with_reducible rfl)
        · assumption
        try simp only [Act.put, List.setIfInBounds_toArray, List.set_cons_zero, List.set_cons_succ]
        refine take_in (i := 23) (v := ?_) (d := (some 66)) rfl rfl ?_ ?_ ?_ ?_ ?_ ?_ ?_ ?_
        rotate_left
        · kernel_rfl
        · kernel_rfl
        · kernel_rfl
        · (intro _ _ _ hq; exact hq)
        · rfl
        · (intro _w hSw; (try dsimp only at hSw); go_simp; try with_reducible rfl)
        · assumption
        try simp only [Act.put, List.setIfInBounds_toArray, List.set_cons_zero, List.set_cons_succ]
        refine wpAnyH_done ?_ ?_ _
        · kernel_rfl
        rotate_left
        all_goals
          have hg5 := hgr.trans hHeld.1
          have c1' := hHeld.1.keep c1
          clear hHeld c0 c1 x0 x1 hxx htf
          go_wp2_with fail
          go_loopw [8] (fun z wr => z = .int .i64 1 ∧ Gr w1 wr) (fun _ _ => 0)
          case atStart => exact ⟨rfl, hg5⟩
          case round =>
            obtain ⟨rfl, hg6⟩ := hrel
            have d1 : wr.cell? ⟨T, 1, none⟩ = some (.slice none 0 0) := (HB1.out.keep hg6).cell 1
            clear c1'
            go_wp2_with fail
            go_roundw
            case rel => exact ⟨k + 1, by omega, by go_num, hg6⟩
            case measure => simp [intOf]; omega
      · obtain rfl : k = n := by omega
        go_wp2_with fail
        go_ret
        exact ⟨rfl, hg1.trans hgr⟩

end Go.Proofs.Ytnoeiocbmhkmeaa
