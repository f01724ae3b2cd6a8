/- Layer 4: the reference's Job, Task and overlap. -/
import Derived.Test.YtfmojiaaoebodaaBnRight
namespace Go.Proofs.Ytfmojiaaoebodaa
open Go.RowKit
set_option linter.unusedSimpArgs false

set_option maxRecDepth 100000 in
set_option maxHeartbeats 2000000 in
theorem rJob_any (x : Jb) (w : World) (r : Bool) (hr : okJ x = r) : Calls Try.prog 20 #[.agg #[.int .i64 x.1, .int .i64 x.2.1, .int .i64 x.2.2]] w fun e w' => e = .returned (.bool r) ∧ Gr w w' := by
  subst hr
  obtain ⟨a, b, c⟩ := x
  dsimp only
  unfold okJ
  dsimp only
  by_cases h1 : 0 ≤ a
  · by_cases h2 : a < b
    · by_cases h3 : b ≤ 1048576
      · by_cases h4 : 1 ≤ c
        · by_cases h5 : c ≤ 1048576
          all_goals
            have hd : decide ((0 ≤ a ∧ a < b ∧ b ≤ 1048576) ∧ 1 ≤ c ∧ c ≤ 1048576) = decide (c ≤ 1048576) := by rw [decide_eq_decide]; omega
            rw [hd]
            clear hd
            go_enter Try.func20, Try.ntmps20
            go_wp2_with fail
            go_ret
            exact ⟨ret_bool (by simp [h5]), by (repeat (first | exact Gr.refl _ | assumption | (refine Gr.drew ?_) | (refine Gr.drewN ?_ _) | (refine Gr.alloc ?_ _) | (refine Gr.trans ?_ (by assumption))))⟩
        · have hd : decide ((0 ≤ a ∧ a < b ∧ b ≤ 1048576) ∧ 1 ≤ c ∧ c ≤ 1048576) = false := decide_eq_false (by omega)
          rw [hd]
          clear hd
          go_enter Try.func20, Try.ntmps20
          go_wp2_with fail
          go_ret
          exact ⟨rfl, by (repeat (first | exact Gr.refl _ | assumption | (refine Gr.drew ?_) | (refine Gr.drewN ?_ _) | (refine Gr.alloc ?_ _) | (refine Gr.trans ?_ (by assumption))))⟩
      · have hd : decide ((0 ≤ a ∧ a < b ∧ b ≤ 1048576) ∧ 1 ≤ c ∧ c ≤ 1048576) = false := decide_eq_false (by omega)
        rw [hd]
        clear hd
        go_enter Try.func20, Try.ntmps20
        go_wp2_with fail
        go_ret
        exact ⟨rfl, by (repeat (first | exact Gr.refl _ | assumption | (refine Gr.drew ?_) | (refine Gr.drewN ?_ _) | (refine Gr.alloc ?_ _) | (refine Gr.trans ?_ (by assumption))))⟩
    · have hd : decide ((0 ≤ a ∧ a < b ∧ b ≤ 1048576) ∧ 1 ≤ c ∧ c ≤ 1048576) = false := decide_eq_false (by omega)
      rw [hd]
      clear hd
      go_enter Try.func20, Try.ntmps20
      go_wp2_with fail
      go_ret
      exact ⟨rfl, by (repeat (first | exact Gr.refl _ | assumption | (refine Gr.drew ?_) | (refine Gr.drewN ?_ _) | (refine Gr.alloc ?_ _) | (refine Gr.trans ?_ (by assumption))))⟩
  · have hd : decide ((0 ≤ a ∧ a < b ∧ b ≤ 1048576) ∧ 1 ≤ c ∧ c ≤ 1048576) = false := decide_eq_false (by omega)
    rw [hd]
    clear hd
    go_enter Try.func20, Try.ntmps20
    go_wp2_with fail
    go_ret
    exact ⟨rfl, by (repeat (first | exact Gr.refl _ | assumption | (refine Gr.drew ?_) | (refine Gr.drewN ?_ _) | (refine Gr.alloc ?_ _) | (refine Gr.trans ?_ (by assumption))))⟩

set_option maxRecDepth 100000 in
set_option maxHeartbeats 2000000 in
theorem overlap_any (a b c d : Int) (w : World) (ha : 0 ≤ a ∧ a ≤ 1048576) (hb : 0 ≤ b ∧ b ≤ 1048576) (hc : 0 ≤ c ∧ c ≤ 1048576) (hd : 0 ≤ d ∧ d ≤ 1048576) : Calls Try.prog 44 #[.int .i64 a, .int .i64 b, .int .i64 c, .int .i64 d] w fun e w' => e = .returned (.int .i64 (ovr a b c d)) ∧ Gr w w' := by
  obtain ⟨mn, hmn⟩ : ∃ q, min b d = q := ⟨_, rfl⟩
  obtain ⟨mx, hmx⟩ : ∃ q, max a c = q := ⟨_, rfl⟩
  obtain ⟨ov, hov⟩ : ∃ q, max 0 (mn - mx) = q := ⟨_, rfl⟩
  have hoe : ovr a b c d = ov := by unfold ovr; omega
  rw [hoe]
  have e1 : (if d < b then d else b) = mn := by omega
  have e1' : (if b < d then b else d) = mn := by omega
  have e2 : (if c < a then a else c) = mx := by omega
  have e2' : (if a < c then c else a) = mx := by omega
  have e3 : (if 0 < mn - mx then mn - mx else 0) = ov := by omega
  have e3' : (if mn - mx < 0 then 0 else mn - mx) = ov := by omega
  have e3s : (if mx < mn then mn - mx else 0) = ov := by omega
  have f1 : IntKind.i64.wrap (mn - mx) = mn - mx := IntWalk.i64_in _ (by omega)
  clear hoe ha hb hc hd
  go_enter Try.func44, Try.ntmps44
  go_wp2_with fail
  go_ret
  exact ⟨rfl, Gr.refl _⟩

set_option maxRecDepth 100000 in
set_option maxHeartbeats 4000000 in
theorem rTask_any4 (B : Int) (A : Option Addr) (n c : Nat) (l : List Jb) (w : World) (hn : l.length = n) (hb : n ≤ 281474976710656) (hp : Tris w A l) (r : Bool) (hr : okT B l = r) :
    Calls Try.prog 8 #[.int .i64 B, .slice A n c] w fun e w' => e = .returned (.bool r) ∧ Gr w w' := by
  by_cases h1 : B < 1
  · obtain rfl : r = false := by rw [← hr]; unfold okT; simp; omega
    clear hr hn hp
    go_enter Try.func8, Try.ntmps8
    go_wp2_with fail
    go_ret
    exact ⟨rfl, Gr.refl _⟩
  · by_cases h2 : 8 < B
    · obtain rfl : r = false := by rw [← hr]; unfold okT; simp; omega
      clear hr hn hp
      go_enter Try.func8, Try.ntmps8
      go_wp2_with fail
      go_ret
      exact ⟨rfl, Gr.refl _⟩
    · by_cases h3 : 32 < n
      · obtain rfl : r = false := by rw [← hr]; unfold okT; simp; omega
        have h3' : (32 : Int) < (n : Int) := by omega
        clear hr hn hp
        go_enter Try.func8, Try.ntmps8
        go_wp2_with fail
        go_ret
        exact ⟨rfl, Gr.refl _⟩
      · have hq : l.all okJ = r := by
          rw [← hr]; unfold okT
          rw [decide_eq_true (by omega : 1 ≤ B), decide_eq_true (by omega : B ≤ 8), decide_eq_true (by omega : l.length ≤ 32)]
          rfl
        have HN := Lib.hid hn
        have HP := Lib.hid hp
        have HQ := Lib.hid hq
        have h3' : ¬ (32 : Int) < (n : Int) := by omega
        clear hr hn hp hq
        go_enter Try.func8, Try.ntmps8
        go_wp2_with fail
        go_loopw [5] (fun z wr => ∃ k : Nat, k ≤ n ∧ z = .int .i64 (k : Int) ∧ Hid ((l.take k).all okJ = true) ∧ Gr w wr) (fun z _ => n - (intOf z).toNat)
        case atStart => exact ⟨0, Nat.zero_le _, rfl, Lib.hid rfl, Gr.refl _⟩
        case round =>
          obtain ⟨k, hk, rfl, hA, hgr⟩ := hrel
          by_cases hlt : k < n
          · have hki : (k : Int) < (n : Int) := by omega
            have hkl : k < l.length := by rw [HN.out]; exact hlt
            obtain ⟨b, off, rfl, c0, c1, c2⟩ := Tris_at (HP.out.keep hgr) (i := k) hkl
            have HT := Lib.hid (all_take_succ okJ l (0, 0, 0) k hkl)
            have HF := Lib.hid (all_false okJ l (0, 0, 0) k hkl)
            generalize l.getD k (0, 0, 0) = x at c0 c1 c2 HT HF
            have HJ := Lib.hid (fun q hq => rJob_any x wr q hq)
            obtain ⟨q, hq⟩ : ∃ q, okJ x = q := ⟨_, rfl⟩
            have HJ2 := Lib.hid (HJ.out q hq)
            have HQX := Lib.hid hq
            obtain ⟨xa, xb, xc⟩ := x
            dsimp only at c0 c1 c2 HJ2
            clear hq HJ
            go_wp2_with fail
            refine HJ2.out.mono ?_
            rintro e w3 ⟨rfl, hg3⟩
            have hgr3 := hgr.trans hg3
            clear HJ2 c0 c1 c2 hg3
            cases q with
            | false =>
              go_wp2_with fail
              try rw [Exit.noGoto_ret]
              go_ret
              exact ⟨ret_bool (by rw [← HQ.out, HF.out HQX.out]), hgr3⟩
            | true =>
              have HA2 : Hid ((l.take (k + 1)).all okJ = true) := Lib.hid (by rw [HT.out, hA.out, HQX.out]; rfl)
              go_wp2_with fail
              go_roundw
              case rel => exact ⟨k + 1, by omega, by go_num, HA2, hgr3⟩
              case measure => simp [intOf]; omega
          · obtain rfl : k = n := by omega
            go_wp2_with fail
            try rw [Exit.noGoto_ret]
            go_ret
            exact ⟨ret_bool (by rw [← HQ.out, ← hA.out, List.take_of_length_le (by rw [HN.out]; exact Nat.le_refl _)]), hgr⟩

end Go.Proofs.Ytfmojiaaoebodaa
