/- The ray, and edges that fold back.
An outline that crosses itself. -/
import Derived.Test.YtpnkpejnahhajaaGreatBu11
import Derived.Test.YtpnkpejnahhajaaGreatBu4
import Derived.RegionTactic
import Derived.BigRegion
import Derived.ChangeAlike
import Derived.Test.YtpnkpejnahhajaaGreatBu27
namespace Go.Proofs.YtpnkpejnahhajaaGreat
open Go.RowKit
set_option linter.unusedSimpArgs false

set_option maxHeartbeats 2000000 in
theorem folds_any (ax ay bx by_ zx zy cx cy : Int) (w : World) (h1 : Co ax) (h2 : Co ay) (h3 : Co bx) (h4 : Co by_) (h5 : Co cx) (h6 : Co cy) (r : Bool) (hr : foldsL ax ay bx by_ cx cy = r) :
    Calls Tryz.prog 48 #[.agg #[.int .i64 ax, .int .i64 ay, .int .i64 bx, .int .i64 by_], .agg #[.int .i64 zx, .int .i64 zy, .int .i64 cx, .int .i64 cy]] w fun e w' => e = .returned (.bool r) ∧ Gr w w' := by
  have b1 := mul_bd (a := ax - bx) (b := cx - bx) (A := 8192) (B := 8192) (by unfold Co at *; omega) (by unfold Co at *; omega)
  have b2 := mul_bd (a := ay - by_) (b := cy - by_) (A := 8192) (B := 8192) (by unfold Co at *; omega) (by unfold Co at *; omega)
  have ⟨u1, v1⟩ : -4096 ≤ ax ∧ ax ≤ 4096 := h1
  have ⟨u2, v2⟩ : -4096 ≤ ay ∧ ay ≤ 4096 := h2
  have ⟨u3, v3⟩ : -4096 ≤ bx ∧ bx ≤ 4096 := h3
  have ⟨u4, v4⟩ : -4096 ≤ by_ ∧ by_ ≤ 4096 := h4
  have ⟨u5, v5⟩ : -4096 ≤ cx ∧ cx ≤ 4096 := h5
  have ⟨u6, v6⟩ : -4096 ≤ cy ∧ cy ≤ 4096 := h6
  obtain ⟨s, hs⟩ : ∃ s, sgn (crs ax ay bx by_ cx cy) = s := ⟨_, rfl⟩
  unfold foldsL at hr
  rw [hs] at hr
  have HS := Lib.hid hs
  clear hs
  by_cases h0 : s = 0
  · subst h0
    have hr' : decide (0 < (ax - bx) * (cx - bx) + (ay - by_) * (cy - by_)) = r := by rw [← hr]; rfl
    clear hr
    have HR := Lib.hid hr'
    clear hr'
    go_enter Tryz.func48, Tryz.ntmps48
    go_wp2_with fail
    go_region
    all_goals
      go_wp2_with fail
      refine (turn_is _ _ _ _ _ _ _ _ HS.out h1 h2 h3 h4 h5 h6).mono ?_
      rintro e w1 ⟨rfl, hb⟩
      have hc := hb.cells
      go_wp2_with fail
      go_ret
      exact ⟨ret_bool HR.out, by (repeat (first | exact Gr.refl _ | assumption | (refine Gr.drew ?_) | (refine Gr.drewN ?_ _) | (refine Gr.alloc ?_ _) | (refine Gr.trans ?_ (by assumption))))⟩
  · have h0' : (s == 0) = false := by simpa using h0
    obtain rfl : r = false := by rw [← hr, decide_eq_false h0]; rfl
    clear hr
    go_enter Tryz.func48, Tryz.ntmps48
    go_wp2_with fail
    go_region
    all_goals
      go_wp2_with fail
      refine (turn_is _ _ _ _ _ _ _ _ HS.out h1 h2 h3 h4 h5 h6).mono ?_
      rintro e w1 ⟨rfl, hb⟩
      go_wp2_with fail
      go_ret
      exact ⟨rfl, by (repeat (first | exact Gr.refl _ | assumption | (refine Gr.drew ?_) | (refine Gr.drewN ?_ _) | (refine Gr.alloc ?_ _) | (refine Gr.trans ?_ (by assumption))))⟩

end Go.Proofs.YtpnkpejnahhajaaGreat

namespace Go.Proofs.YtpnkpejnahhajaaGreat
open Go.RowKit
set_option linter.unusedSimpArgs false

/-- A call that answers whether P holds, and leaves what was there. -/
def BoolPost (P : Prop) (w : World) (e : Ending) (w' : World) : Prop := ∃ r : Bool, e = .returned (.bool r) ∧ (r = true ↔ P) ∧ Gr w w'

def touchE (e f : (Int × Int) × (Int × Int)) : Bool := touchL e.1.1 e.1.2 e.2.1 e.2.2 f.1.1 f.1.2 f.2.1 f.2.2
def CrossP (ps : List (Int × Int)) : Prop := ∃ i j, i + 2 ≤ j ∧ j < ps.length ∧ ¬(i = 0 ∧ j + 1 = ps.length) ∧ touchE (ed ps i) (ed ps j) = true
/-- Nothing found before edge i, nor at i before j. -/
def NoCross (ps : List (Int × Int)) (i j : Nat) : Prop := ∀ a b, a + 2 ≤ b → b < ps.length → ¬(a = 0 ∧ b + 1 = ps.length) → (a < i ∨ (a = i ∧ b < j)) → touchE (ed ps a) (ed ps b) = false
theorem NoCross.step {ps : List (Int × Int)} {i j : Nat} (h : NoCross ps i j) (ht : i + 2 ≤ j → j < ps.length → ¬(i = 0 ∧ j + 1 = ps.length) → touchE (ed ps i) (ed ps j) = false) : NoCross ps i (j + 1) := fun a b h1 h2 h3 h4 => by
  by_cases e : a = i ∧ b = j
  · obtain ⟨rfl, rfl⟩ := e
    exact ht h1 h2 h3
  · exact h a b h1 h2 h3 (by omega)
theorem NoCross.next {ps : List (Int × Int)} {i j : Nat} (h : NoCross ps i j) (hj : ps.length ≤ j) : NoCross ps (i + 1) 0 := fun a b h1 h2 h3 h4 => h a b h1 h2 h3 (by omega)
theorem NoCross.start {ps : List (Int × Int)} {i : Nat} (h : NoCross ps i 0) : NoCross ps i (i + 2) := fun a b h1 h2 h3 h4 => h a b h1 h2 h3 (by omega)
theorem NoCross.not {ps : List (Int × Int)} {i : Nat} (h : NoCross ps i 0) (hi : ps.length ≤ i) : ¬CrossP ps := fun ⟨a, b, h1, h2, h3, h4⟩ => by
  rw [h a b h1 h2 h3 (by omega)] at h4; cases h4

theorem Eds_at {w : World} {g : Nat} {ps : List (Int × Int)} (h : Eds w (some ⟨g, 0, none⟩) (edgesL ps)) {k : Nat} (hk : k < ps.length) :
    w.cell? ⟨g, k * 4, none⟩ = some (.int .i64 (ed ps k).1.1) ∧ w.cell? ⟨g, k * 4 + 1, none⟩ = some (.int .i64 (ed ps k).1.2) ∧ w.cell? ⟨g, k * 4 + 2, none⟩ = some (.int .i64 (ed ps k).2.1) ∧ w.cell? ⟨g, k * 4 + 3, none⟩ = some (.int .i64 (ed ps k).2.2) := by
  obtain ⟨b', off', e', hcell⟩ := h k (ed ps k) (by simp [edgesL, hk])
  obtain ⟨rfl, rfl⟩ : g = b' ∧ 0 = off' := by simpa using e'
  have k0 := hcell 0 _ rfl
  have k1 := hcell 1 _ rfl
  have k2 := hcell 2 _ rfl
  have k3 := hcell 3 _ rfl
  simp only [Nat.zero_add, Nat.add_zero] at k0 k1 k2 k3
  exact ⟨k0, k1, k2, k3⟩

theorem box4 {w W : World} {t : TypeId} {a0 a1 a2 a3 : Value} (hW : w.alloc (.cells #[a0, a1, a2, a3] t) = W) :
    Gr w W ∧ W.cell? ⟨w.heap.size, 0, none⟩ = some a0 ∧ W.cell? ⟨w.heap.size, 1, none⟩ = some a1 ∧ W.cell? ⟨w.heap.size, 2, none⟩ = some a2 ∧ W.cell? ⟨w.heap.size, 3, none⟩ = some a3 := by
  subst hW
  exact ⟨by (repeat (first | exact Gr.refl _ | assumption | (refine Gr.drew ?_) | (refine Gr.drewN ?_ _) | (refine Gr.alloc ?_ _) | (refine Gr.trans ?_ (by assumption)))), alloc_new rfl rfl, alloc_new rfl rfl, alloc_new rfl rfl, alloc_new rfl rfl⟩

set_option maxRecDepth 100000 in
set_option maxHeartbeats 2000000 in
theorem crosses_any (g n : Nat) (ps : List (Int × Int)) (w : World) (hn : ps.length = n) (hl : n ≤ 512) (h0 : 1 ≤ n) (hE : Eds w (some ⟨g, 0, none⟩) (edgesL ps)) (hv : Cos ps) :
    Calls Tryz.prog 49 #[.slice (some ⟨g, 0, none⟩) n n] w (BoolPost (CrossP ps) w) := by
  have HN := Lib.hid hn
  have HE := Lib.hid hE
  have HV := Lib.hid hv
  clear hn hE hv
  go_enter Tryz.func49, Tryz.ntmps49
  go_wp2_with fail
  go_loopw [12] (fun i wr => ∃ k : Nat, k ≤ n ∧ i = .int .i64 k ∧ NoCross ps k 0 ∧ Gr w wr) (fun i _ => n - (intOf i).toNat)
  case atStart => exact ⟨0, Nat.zero_le _, rfl, fun a b _ _ _ h => by omega, Gr.refl _⟩
  case round =>
    obtain ⟨wo, rfl⟩ : ∃ wo : World, wo = wr := ⟨_, rfl⟩
    obtain ⟨k, hk, rfl, hno, hg⟩ := hrel
    by_cases hlt : k < n
    · obtain ⟨k0, k1, k2, k3⟩ := Eds_at (HE.out.keep hg) (k := k) (by have := HN.out; omega)
      obtain ⟨c1, c2, c3, c4⟩ := ed_co HV.out k
      obtain ⟨q, hq⟩ : ∃ q, ed ps k = q := ⟨_, rfl⟩
      rw [hq] at k0 k1 k2 k3 c1 c2 c3 c4
      have HQ := Lib.hid hq
      clear hq
      obtain ⟨⟨x, y⟩, x', y'⟩ := q
      dsimp only at k0 k1 k2 k3 c1 c2 c3 c4
      go_wp2_with fail
      generalize hW : World.alloc wo _ = W
      obtain ⟨hWg, l0, l1, l2, l3⟩ := box4 hW
      clear hW k0 k1 k2 k3
      go_loopw [6] (fun jv w2 => ∃ j : Nat, k + 2 ≤ j ∧ j ≤ n + 1 ∧ jv = .int .i64 j ∧ NoCross ps k j ∧ Gr W w2) (fun jv _ => n + 1 - (intOf jv).toNat)
      case atStart => exact ⟨k + 2, by omega, by omega, by go_num, hno.start, Gr.refl _⟩
      case round =>
        obtain ⟨j, hkj, hjn, rfl, hnj, hgw⟩ := hrel
        replace l0 := hgw.keep l0
        replace l1 := hgw.keep l1
        replace l2 := hgw.keep l2
        replace l3 := hgw.keep l3
        by_cases hj : j < n
        · by_cases hs : k = 0 ∧ j + 1 = n
          · have e1 : ((k : Int) == 0) = true := by simp; omega
            have e2 : ((j : Int) == (n : Int) - 1) = true := by simp; omega
            go_wp2_with fail
            go_roundw
            case rel => exact ⟨j + 1, by omega, by omega, by go_num, hnj.step (fun _ _ h => absurd ⟨hs.1, by rw [HN.out]; exact hs.2⟩ h), hgw⟩
            case measure => simp [intOf]; omega
          have hwW : Gr wo wr := hWg.trans hgw
          obtain ⟨m0, m1, m2, m3⟩ := Eds_at (HE.out.keep (hg.trans hwW)) (k := j) (by have := HN.out; omega)
          obtain ⟨d1, d2, d3, d4⟩ := ed_co HV.out j
          obtain ⟨qj, hqj⟩ : ∃ q, ed ps j = q := ⟨_, rfl⟩
          rw [hqj] at m0 m1 m2 m3 d1 d2 d3 d4
          have e3 : (((k : Int) == 0) && ((j : Int) == (n : Int) - 1)) = false := by
            cases h : (((k : Int) == 0) && ((j : Int) == (n : Int) - 1)) with
            | false => rfl
            | true => simp at h; omega
          by_cases hk0 : k = 0
          · have e1 : ((k : Int) == 0) = true := by simp; omega
            have e2 : ((j : Int) == (n : Int) - 1) = false := by simp; omega
            clear e3 hk0
            have HQJ := Lib.hid hqj
            clear hqj
            obtain ⟨⟨a, b⟩, a', b'⟩ := qj
            dsimp only at m0 m1 m2 m3 d1 d2 d3 d4
            have HTT : Hid (touchE (ed ps k) (ed ps j) = touchL x y x' y' a b a' b') := Lib.hid (by rw [HQ.out, HQJ.out]; rfl)
            rcases ht : touchL x y x' y' a b a' b' with _ | _
            · have HT := Lib.hid ht
              clear ht
              go_wp2_with fail
              refine wp_region_held_drew (S := (fun W' => Gr W W' ∧ W'.cell? ⟨wo.heap.size, 0, none⟩ = some (.int .i64 x) ∧ W'.cell? ⟨wo.heap.size, 1, none⟩ = some (.int .i64 y) ∧ W'.cell? ⟨wo.heap.size, 2, none⟩ = some (.int .i64 x') ∧ W'.cell? ⟨wo.heap.size, 3, none⟩ = some (.int .i64 y') ∧ W'.cell? ⟨g, j * 4, none⟩ = some (.int .i64 a) ∧ W'.cell? ⟨g, j * 4 + 1, none⟩ = some (.int .i64 b) ∧ W'.cell? ⟨g, j * 4 + 2, none⟩ = some (.int .i64 a') ∧ W'.cell? ⟨g, j * 4 + 3, none⟩ = some (.int .i64 b'))) ?_ ?_ (fun hHeld => ?_)
              · kernel_rfl
              · ((try dsimp only); ((try go_split_ands); (repeat' apply And.intro) <;> (repeat (first | assumption | (exact Gr.refl _) | (refine Gr.drew ?_) | (refine Gr.alloc ?_ _) | (refine alloc_old ?_) | (refine Gr.keep (by assumption) ?_) | (refine Gr.trans ?_ (by assumption))))))
              refine take_in (i := 0) (v := ?_) (d := (some 31)) rfl rfl ?_ ?_ ?_ ?_ ?_ ?_ ?_ ?_
              rotate_left
              · kernel_rfl
              · kernel_rfl
              · kernel_rfl
              · (intro _ _ _ hq; exact hq)
              · rfl
              · (intro _w hSw; (try dsimp only at hSw); go_simp; try with_reducible rfl)
              · assumption
              try simp only [Act.put, List.setIfInBounds_toArray, List.set_cons_zero, List.set_cons_succ]
              refine take_in (i := 1) (v := ?_) (d := (some 32)) rfl rfl ?_ ?_ ?_ ?_ ?_ ?_ ?_ ?_
              rotate_left
              · kernel_rfl
              · kernel_rfl
              · kernel_rfl
              · (intro _ _ _ hq; exact hq)
              · rfl
              · (intro _w hSw; (try dsimp only at hSw); go_simp; try with_reducible rfl)
              · assumption
              try simp only [Act.put, List.setIfInBounds_toArray, List.set_cons_zero, List.set_cons_succ]
              refine take_in (i := 2) (v := ?_) (d := (some 33)) rfl rfl ?_ ?_ ?_ ?_ ?_ ?_ ?_ ?_
              rotate_left
              · kernel_rfl
              · kernel_rfl
              · kernel_rfl
              · (intro _ _ _ hq; exact hq)
              · rfl
              · (intro _w hSw; (try dsimp only at hSw); go_simp; try with_reducible rfl)
              · assumption
              try simp only [Act.put, List.setIfInBounds_toArray, List.set_cons_zero, List.set_cons_succ]
              refine take_in (i := 3) (v := ?_) (d := (some 34)) rfl rfl ?_ ?_ ?_ ?_ ?_ ?_ ?_ ?_
              rotate_left
              · kernel_rfl
              · kernel_rfl
              · kernel_rfl
              · (intro _ _ _ hq; exact hq)
              · rfl
              · (intro _w hSw; (try dsimp only at hSw); go_simp; try with_reducible rfl)
              · assumption
              try simp only [Act.put, List.setIfInBounds_toArray, List.set_cons_zero, List.set_cons_succ]
              refine take_in (i := 4) (v := ?_) (d := (some 35)) rfl rfl ?_ ?_ ?_ ?_ ?_ ?_ ?_ ?_
              rotate_left
              · kernel_rfl
              · kernel_rfl
              · kernel_rfl
              · (intro _ _ _ hq; exact hq)
              · rfl
              · (intro _w hSw; (try dsimp only at hSw); go_simp; try with_reducible rfl)
              · assumption
              try simp only [Act.put, List.setIfInBounds_toArray, List.set_cons_zero, List.set_cons_succ]
              refine wpAnyH_ready (rs := [5]) ?_ ?_ ?_
              · kernel_rfl
              · simp
              refine (AllReadyH.cons rfl (fun K hK => ?_) AllReadyH.nil)
              go_simp
              first | (go_at_call 80; refine (touch_any _ _ _ _ _ _ _ _ _ c1 c2 c3 c4 d1 d2 d3 d4 _ HT.out).mono ?_; rintro e w3 ⟨rfl, hb⟩)
              refine hK.out _ _ ?_ (fun hHeld => ?_)
              · ((try dsimp only); ((try go_split_ands); (repeat' apply And.intro) <;> (repeat (first | assumption | (exact Gr.refl _) | (refine Gr.drew ?_) | (refine Gr.alloc ?_ _) | (refine alloc_old ?_) | (refine Gr.keep (by assumption) ?_) | (refine Gr.trans ?_ (by assumption))))))
              clear hK K
              try simp only [Act.put, List.setIfInBounds_toArray, List.set_cons_zero, List.set_cons_succ]
              refine wpAnyH_done ?_ ?_ _
              · kernel_rfl
              rotate_left
              obtain ⟨hB, -⟩ := hHeld
              go_wp2_with fail
              go_roundw
              case rel => exact ⟨j + 1, by omega, by omega, by go_num, hnj.step (fun _ _ _ => HTT.out.trans HT.out), hB⟩
              case measure => simp [intOf]; omega
            · have HT := Lib.hid ht
              clear ht
              go_wp2_with fail
              refine wp_region_held_drew (S := (fun W' => Gr W W' ∧ W'.cell? ⟨wo.heap.size, 0, none⟩ = some (.int .i64 x) ∧ W'.cell? ⟨wo.heap.size, 1, none⟩ = some (.int .i64 y) ∧ W'.cell? ⟨wo.heap.size, 2, none⟩ = some (.int .i64 x') ∧ W'.cell? ⟨wo.heap.size, 3, none⟩ = some (.int .i64 y') ∧ W'.cell? ⟨g, j * 4, none⟩ = some (.int .i64 a) ∧ W'.cell? ⟨g, j * 4 + 1, none⟩ = some (.int .i64 b) ∧ W'.cell? ⟨g, j * 4 + 2, none⟩ = some (.int .i64 a') ∧ W'.cell? ⟨g, j * 4 + 3, none⟩ = some (.int .i64 b'))) ?_ ?_ (fun hHeld => ?_)
              · kernel_rfl
              · ((try dsimp only); ((try go_split_ands); (repeat' apply And.intro) <;> (repeat (first | assumption | (exact Gr.refl _) | (refine Gr.drew ?_) | (refine Gr.alloc ?_ _) | (refine alloc_old ?_) | (refine Gr.keep (by assumption) ?_) | (refine Gr.trans ?_ (by assumption))))))
              refine take_in (i := 0) (v := ?_) (d := (some 31)) rfl rfl ?_ ?_ ?_ ?_ ?_ ?_ ?_ ?_
              rotate_left
              · kernel_rfl
              · kernel_rfl
              · kernel_rfl
              · (intro _ _ _ hq; exact hq)
              · rfl
              · (intro _w hSw; (try dsimp only at hSw); go_simp; try with_reducible rfl)
              · assumption
              try simp only [Act.put, List.setIfInBounds_toArray, List.set_cons_zero, List.set_cons_succ]
              refine take_in (i := 1) (v := ?_) (d := (some 32)) rfl rfl ?_ ?_ ?_ ?_ ?_ ?_ ?_ ?_
              rotate_left
              · kernel_rfl
              · kernel_rfl
              · kernel_rfl
              · (intro _ _ _ hq; exact hq)
              · rfl
              · (intro _w hSw; (try dsimp only at hSw); go_simp; try with_reducible rfl)
              · assumption
              try simp only [Act.put, List.setIfInBounds_toArray, List.set_cons_zero, List.set_cons_succ]
              refine take_in (i := 2) (v := ?_) (d := (some 33)) rfl rfl ?_ ?_ ?_ ?_ ?_ ?_ ?_ ?_
              rotate_left
              · kernel_rfl
              · kernel_rfl
              · kernel_rfl
              · (intro _ _ _ hq; exact hq)
              · rfl
              · (intro _w hSw; (try dsimp only at hSw); go_simp; try with_reducible rfl)
              · assumption
              try simp only [Act.put, List.setIfInBounds_toArray, List.set_cons_zero, List.set_cons_succ]
              refine take_in (i := 3) (v := ?_) (d := (some 34)) rfl rfl ?_ ?_ ?_ ?_ ?_ ?_ ?_ ?_
              rotate_left
              · kernel_rfl
              · kernel_rfl
              · kernel_rfl
              · (intro _ _ _ hq; exact hq)
              · rfl
              · (intro _w hSw; (try dsimp only at hSw); go_simp; try with_reducible rfl)
              · assumption
              try simp only [Act.put, List.setIfInBounds_toArray, List.set_cons_zero, List.set_cons_succ]
              refine take_in (i := 4) (v := ?_) (d := (some 35)) rfl rfl ?_ ?_ ?_ ?_ ?_ ?_ ?_ ?_
              rotate_left
              · kernel_rfl
              · kernel_rfl
              · kernel_rfl
              · (intro _ _ _ hq; exact hq)
              · rfl
              · (intro _w hSw; (try dsimp only at hSw); go_simp; try with_reducible rfl)
              · assumption
              try simp only [Act.put, List.setIfInBounds_toArray, List.set_cons_zero, List.set_cons_succ]
              refine wpAnyH_ready (rs := [5]) ?_ ?_ ?_
              · kernel_rfl
              · simp
              refine (AllReadyH.cons rfl (fun K hK => ?_) AllReadyH.nil)
              go_simp
              first | (go_at_call 80; refine (touch_any _ _ _ _ _ _ _ _ _ c1 c2 c3 c4 d1 d2 d3 d4 _ HT.out).mono ?_; rintro e w3 ⟨rfl, hb⟩)
              refine hK.out _ _ ?_ (fun hHeld => ?_)
              · ((try dsimp only); ((try go_split_ands); (repeat' apply And.intro) <;> (repeat (first | assumption | (exact Gr.refl _) | (refine Gr.drew ?_) | (refine Gr.alloc ?_ _) | (refine alloc_old ?_) | (refine Gr.keep (by assumption) ?_) | (refine Gr.trans ?_ (by assumption))))))
              clear hK K
              try simp only [Act.put, List.setIfInBounds_toArray, List.set_cons_zero, List.set_cons_succ]
              refine wpAnyH_done ?_ ?_ _
              · kernel_rfl
              rotate_left
              obtain ⟨hB, -⟩ := hHeld
              go_wp2_with fail
              go_ret
              exact ⟨true, rfl, ⟨fun _ => ⟨k, j, hkj, by rw [HN.out]; exact hj, by rw [HN.out]; exact hs, HTT.out.trans HT.out⟩, fun _ => rfl⟩, (hg.trans hWg).trans hB⟩
          · have e1 : ((k : Int) == 0) = false := by simp; omega
            clear e3
            have HQJ := Lib.hid hqj
            clear hqj
            obtain ⟨⟨a, b⟩, a', b'⟩ := qj
            dsimp only at m0 m1 m2 m3 d1 d2 d3 d4
            have HTT : Hid (touchE (ed ps k) (ed ps j) = touchL x y x' y' a b a' b') := Lib.hid (by rw [HQ.out, HQJ.out]; rfl)
            rcases ht : touchL x y x' y' a b a' b' with _ | _
            · have HT := Lib.hid ht
              clear ht
              go_wp2_with fail
              refine wp_region_held_drew (S := (fun W' => Gr W W' ∧ W'.cell? ⟨wo.heap.size, 0, none⟩ = some (.int .i64 x) ∧ W'.cell? ⟨wo.heap.size, 1, none⟩ = some (.int .i64 y) ∧ W'.cell? ⟨wo.heap.size, 2, none⟩ = some (.int .i64 x') ∧ W'.cell? ⟨wo.heap.size, 3, none⟩ = some (.int .i64 y') ∧ W'.cell? ⟨g, j * 4, none⟩ = some (.int .i64 a) ∧ W'.cell? ⟨g, j * 4 + 1, none⟩ = some (.int .i64 b) ∧ W'.cell? ⟨g, j * 4 + 2, none⟩ = some (.int .i64 a') ∧ W'.cell? ⟨g, j * 4 + 3, none⟩ = some (.int .i64 b'))) ?_ ?_ (fun hHeld => ?_)
              · kernel_rfl
              · ((try dsimp only); ((try go_split_ands); (repeat' apply And.intro) <;> (repeat (first | assumption | (exact Gr.refl _) | (refine Gr.drew ?_) | (refine Gr.alloc ?_ _) | (refine alloc_old ?_) | (refine Gr.keep (by assumption) ?_) | (refine Gr.trans ?_ (by assumption))))))
              refine take_in (i := 0) (v := ?_) (d := (some 31)) rfl rfl ?_ ?_ ?_ ?_ ?_ ?_ ?_ ?_
              rotate_left
              · kernel_rfl
              · kernel_rfl
              · kernel_rfl
              · (intro _ _ _ hq; exact hq)
              · rfl
              · (intro _w hSw; (try dsimp only at hSw); go_simp; try with_reducible rfl)
              · assumption
              try simp only [Act.put, List.setIfInBounds_toArray, List.set_cons_zero, List.set_cons_succ]
              refine take_in (i := 1) (v := ?_) (d := (some 32)) rfl rfl ?_ ?_ ?_ ?_ ?_ ?_ ?_ ?_
              rotate_left
              · kernel_rfl
              · kernel_rfl
              · kernel_rfl
              · (intro _ _ _ hq; exact hq)
              · rfl
              · (intro _w hSw; (try dsimp only at hSw); go_simp; try with_reducible rfl)
              · assumption
              try simp only [Act.put, List.setIfInBounds_toArray, List.set_cons_zero, List.set_cons_succ]
              refine take_in (i := 2) (v := ?_) (d := (some 33)) rfl rfl ?_ ?_ ?_ ?_ ?_ ?_ ?_ ?_
              rotate_left
              · kernel_rfl
              · kernel_rfl
              · kernel_rfl
              · (intro _ _ _ hq; exact hq)
              · rfl
              · (intro _w hSw; (try dsimp only at hSw); go_simp; try with_reducible rfl)
              · assumption
              try simp only [Act.put, List.setIfInBounds_toArray, List.set_cons_zero, List.set_cons_succ]
              refine take_in (i := 3) (v := ?_) (d := (some 34)) rfl rfl ?_ ?_ ?_ ?_ ?_ ?_ ?_ ?_
              rotate_left
              · kernel_rfl
              · kernel_rfl
              · kernel_rfl
              · (intro _ _ _ hq; exact hq)
              · rfl
              · (intro _w hSw; (try dsimp only at hSw); go_simp; try with_reducible rfl)
              · assumption
              try simp only [Act.put, List.setIfInBounds_toArray, List.set_cons_zero, List.set_cons_succ]
              refine take_in (i := 4) (v := ?_) (d := (some 35)) rfl rfl ?_ ?_ ?_ ?_ ?_ ?_ ?_ ?_
              rotate_left
              · kernel_rfl
              · kernel_rfl
              · kernel_rfl
              · (intro _ _ _ hq; exact hq)
              · rfl
              · (intro _w hSw; (try dsimp only at hSw); go_simp; try with_reducible rfl)
              · assumption
              try simp only [Act.put, List.setIfInBounds_toArray, List.set_cons_zero, List.set_cons_succ]
              refine wpAnyH_ready (rs := [5]) ?_ ?_ ?_
              · kernel_rfl
              · simp
              refine (AllReadyH.cons rfl (fun K hK => ?_) AllReadyH.nil)
              go_simp
              first | (go_at_call 80; refine (touch_any _ _ _ _ _ _ _ _ _ c1 c2 c3 c4 d1 d2 d3 d4 _ HT.out).mono ?_; rintro e w3 ⟨rfl, hb⟩)
              refine hK.out _ _ ?_ (fun hHeld => ?_)
              · ((try dsimp only); ((try go_split_ands); (repeat' apply And.intro) <;> (repeat (first | assumption | (exact Gr.refl _) | (refine Gr.drew ?_) | (refine Gr.alloc ?_ _) | (refine alloc_old ?_) | (refine Gr.keep (by assumption) ?_) | (refine Gr.trans ?_ (by assumption))))))
              clear hK K
              try simp only [Act.put, List.setIfInBounds_toArray, List.set_cons_zero, List.set_cons_succ]
              refine wpAnyH_done ?_ ?_ _
              · kernel_rfl
              rotate_left
              obtain ⟨hB, -⟩ := hHeld
              go_wp2_with fail
              go_roundw
              case rel => exact ⟨j + 1, by omega, by omega, by go_num, hnj.step (fun _ _ _ => HTT.out.trans HT.out), hB⟩
              case measure => simp [intOf]; omega
            · have HT := Lib.hid ht
              clear ht
              go_wp2_with fail
              refine wp_region_held_drew (S := (fun W' => Gr W W' ∧ W'.cell? ⟨wo.heap.size, 0, none⟩ = some (.int .i64 x) ∧ W'.cell? ⟨wo.heap.size, 1, none⟩ = some (.int .i64 y) ∧ W'.cell? ⟨wo.heap.size, 2, none⟩ = some (.int .i64 x') ∧ W'.cell? ⟨wo.heap.size, 3, none⟩ = some (.int .i64 y') ∧ W'.cell? ⟨g, j * 4, none⟩ = some (.int .i64 a) ∧ W'.cell? ⟨g, j * 4 + 1, none⟩ = some (.int .i64 b) ∧ W'.cell? ⟨g, j * 4 + 2, none⟩ = some (.int .i64 a') ∧ W'.cell? ⟨g, j * 4 + 3, none⟩ = some (.int .i64 b'))) ?_ ?_ (fun hHeld => ?_)
              · kernel_rfl
              · ((try dsimp only); ((try go_split_ands); (repeat' apply And.intro) <;> (repeat (first | assumption | (exact Gr.refl _) | (refine Gr.drew ?_) | (refine Gr.alloc ?_ _) | (refine alloc_old ?_) | (refine Gr.keep (by assumption) ?_) | (refine Gr.trans ?_ (by assumption))))))
              refine take_in (i := 0) (v := ?_) (d := (some 31)) rfl rfl ?_ ?_ ?_ ?_ ?_ ?_ ?_ ?_
              rotate_left
              · kernel_rfl
              · kernel_rfl
              · kernel_rfl
              · (intro _ _ _ hq; exact hq)
              · rfl
              · (intro _w hSw; (try dsimp only at hSw); go_simp; try with_reducible rfl)
              · assumption
              try simp only [Act.put, List.setIfInBounds_toArray, List.set_cons_zero, List.set_cons_succ]
              refine take_in (i := 1) (v := ?_) (d := (some 32)) rfl rfl ?_ ?_ ?_ ?_ ?_ ?_ ?_ ?_
              rotate_left
              · kernel_rfl
              · kernel_rfl
              · kernel_rfl
              · (intro _ _ _ hq; exact hq)
              · rfl
              · (intro _w hSw; (try dsimp only at hSw); go_simp; try with_reducible rfl)
              · assumption
              try simp only [Act.put, List.setIfInBounds_toArray, List.set_cons_zero, List.set_cons_succ]
              refine take_in (i := 2) (v := ?_) (d := (some 33)) rfl rfl ?_ ?_ ?_ ?_ ?_ ?_ ?_ ?_
              rotate_left
              · kernel_rfl
              · kernel_rfl
              · kernel_rfl
              · (intro _ _ _ hq; exact hq)
              · rfl
              · (intro _w hSw; (try dsimp only at hSw); go_simp; try with_reducible rfl)
              · assumption
              try simp only [Act.put, List.setIfInBounds_toArray, List.set_cons_zero, List.set_cons_succ]
              refine take_in (i := 3) (v := ?_) (d := (some 34)) rfl rfl ?_ ?_ ?_ ?_ ?_ ?_ ?_ ?_
              rotate_left
              · kernel_rfl
              · kernel_rfl
              · kernel_rfl
              · (intro _ _ _ hq; exact hq)
              · rfl
              · (intro _w hSw; (try dsimp only at hSw); go_simp; try with_reducible rfl)
              · assumption
              try simp only [Act.put, List.setIfInBounds_toArray, List.set_cons_zero, List.set_cons_succ]
              refine take_in (i := 4) (v := ?_) (d := (some 35)) rfl rfl ?_ ?_ ?_ ?_ ?_ ?_ ?_ ?_
              rotate_left
              · kernel_rfl
              · kernel_rfl
              · kernel_rfl
              · (intro _ _ _ hq; exact hq)
              · rfl
              · (intro _w hSw; (try dsimp only at hSw); go_simp; try with_reducible rfl)
              · assumption
              try simp only [Act.put, List.setIfInBounds_toArray, List.set_cons_zero, List.set_cons_succ]
              refine wpAnyH_ready (rs := [5]) ?_ ?_ ?_
              · kernel_rfl
              · simp
              refine (AllReadyH.cons rfl (fun K hK => ?_) AllReadyH.nil)
              go_simp
              first | (go_at_call 80; refine (touch_any _ _ _ _ _ _ _ _ _ c1 c2 c3 c4 d1 d2 d3 d4 _ HT.out).mono ?_; rintro e w3 ⟨rfl, hb⟩)
              refine hK.out _ _ ?_ (fun hHeld => ?_)
              · ((try dsimp only); ((try go_split_ands); (repeat' apply And.intro) <;> (repeat (first | assumption | (exact Gr.refl _) | (refine Gr.drew ?_) | (refine Gr.alloc ?_ _) | (refine alloc_old ?_) | (refine Gr.keep (by assumption) ?_) | (refine Gr.trans ?_ (by assumption))))))
              clear hK K
              try simp only [Act.put, List.setIfInBounds_toArray, List.set_cons_zero, List.set_cons_succ]
              refine wpAnyH_done ?_ ?_ _
              · kernel_rfl
              rotate_left
              obtain ⟨hB, -⟩ := hHeld
              go_wp2_with fail
              go_ret
              exact ⟨true, rfl, ⟨fun _ => ⟨k, j, hkj, by rw [HN.out]; exact hj, by rw [HN.out]; exact hs, HTT.out.trans HT.out⟩, fun _ => rfl⟩, (hg.trans hWg).trans hB⟩
        · go_wp2_with fail
          go_roundw
          case rel => exact ⟨k + 1, by omega, by go_num, hnj.next (by rw [HN.out]; omega), (hg.trans hWg).trans hgw⟩
          case measure => simp [intOf]; omega
    · go_wp2_with fail
      go_ret
      exact ⟨false, rfl, ⟨fun h => absurd h (by decide), fun h => absurd h (hno.not (by rw [HN.out]; omega))⟩, hg⟩

end Go.Proofs.YtpnkpejnahhajaaGreat
