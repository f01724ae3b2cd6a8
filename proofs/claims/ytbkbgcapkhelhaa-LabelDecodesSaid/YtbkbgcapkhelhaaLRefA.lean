/- Layer 3: the reference's products, powers, values. -/
import Derived.Test.YtbkbgcapkhelhaaLDec
import Derived.Test.YtbkbgcapkhelhaaLIs
import Derived.Deep.RegionLaw
namespace Go.Proofs.Ytbkbgcapkhelhaa
open Go.RowKit
set_option linter.unusedSimpArgs false

theorem i64_xor_gg (a b : G) : bits .xor .i64 ((a.v : Nat) : Int) ((b.v : Nat) : Int) = (((a + b).v : Nat) : Int) :=
  i64_xor_nat a.v b.v (by have := a.lt; omega) (by have := b.lt; omega)

set_option maxRecDepth 100000 in
set_option maxHeartbeats 1000000 in
theorem rMul_any (a b : Nat) (ha : a < 256) (hb : b < 256) (w : World) : Calls Try.prog 15 #[.int .i64 (a : Int), .int .i64 (b : Int)] w fun e w' => e = .returned (.int .i64 (mulN a b : Int)) ∧ w' = w := by
  go_enter Try.func15, Try.ntmps15
  go_wp2_with fail
  go_loop [0, 1, 5] (fun x y s => ∃ k u v p : Nat, k ≤ 8 ∧ u < 256 ∧ p < 256 ∧ v < 2 ^ k ∧ Hid (mulN a b = p ^^^ mulF k u v) ∧ x = .int .i64 (u : Int) ∧ y = .int .i64 (v : Int) ∧ s = .int .i64 (p : Int)) (fun _ y _ => (intOf y).toNat)
  case atStart => exact ⟨8, a, b, 0, by omega, ha, by omega, hb, Lib.hid (by rw [Nat.zero_xor]; rfl), rfl, rfl, rfl⟩
  case round =>
    obtain ⟨k, u, v, p, hk, hu, hp, hv, HE, rfl, rfl, rfl⟩ := hrel
    have hv8 : v < 256 := Nat.lt_of_lt_of_le hv (Nat.pow_le_pow_right (by decide) hk : 2 ^ k ≤ 2 ^ 8)
    by_cases h0 : 0 < v
    · obtain ⟨k, rfl⟩ : ∃ m, k = m + 1 := ⟨k - 1, by
        cases k with
        | zero => simp at hv; omega
        | succ k => rfl⟩
      have hv2 : v / 2 < 2 ^ k := by rw [Nat.pow_succ] at hv; omega
      have HS : Hid (mulF (k + 1) u v = (if v % 2 = 1 then u else 0) ^^^ mulF k (xt u) (v / 2)) := Lib.hid rfl
      have hxt := xt_lt hu
      have x1 := i64_xor_nat p u (by omega) (by omega)
      have hpu := xor_lt hp hu
      have x2 : bits .xor .i64 (2 * (u : Int)) 285 = ((2 * u ^^^ 285 : Nat) : Int) := by
        have := i64_xor_nat (2 * u) 285 (by omega) (by omega)
        rw [show (2 * (u : Int)) = ((2 * u : Nat) : Int) by omega]; exact this
      clear hv
      by_cases hbit : v % 2 = 1
      all_goals
        have hbi : ((v : Int) % 2 == 1) = decide (v % 2 = 1) := by
          rw [Bool.eq_iff_iff]; simp only [beq_iff_eq, decide_eq_true_eq]; omega
        first | rw [decide_eq_true hbit] at hbi | rw [decide_eq_false hbit] at hbi
        first | rw [if_pos hbit] at HS | rw [if_neg hbit] at HS
        by_cases h2 : 255 < 2 * u
        all_goals
          have hs2 : Hid (xt u = if 255 < 2 * u then 2 * u ^^^ 285 else 2 * u) := Lib.hid rfl
          first | rw [if_pos h2] at hs2 | rw [if_neg h2] at hs2
          clear hbit
          go_wp2_with fail
          go_round
          case rel =>
            first
            | exact ⟨k, xt u, v / 2, p ^^^ u, by omega, hxt, hpu, hv2, Lib.hid ((HE.out.trans (congrArg (p ^^^ ·) HS.out)).trans (Nat.xor_assoc ..).symm), by rw [hs2.out] <;> first | rfl | exact vint8 (by omega), by go_num, rfl⟩
            | exact ⟨k, xt u, v / 2, p, by omega, hxt, hp, hv2, Lib.hid ((HE.out.trans (congrArg (p ^^^ ·) HS.out)).trans (by rw [Nat.zero_xor])), by rw [hs2.out] <;> first | rfl | exact vint8 (by omega), by go_num, rfl⟩
          case measure => simp [intOf] <;> omega
    · have hv0 : v = 0 := by omega
      subst hv0
      have HZ : Hid (mulF k u 0 = 0) := Lib.hid (mulF_right0 k u)
      have HP : Hid (mulN a b = p) := Lib.hid (by rw [HE.out, HZ.out, Nat.xor_zero])
      go_wp2_with fail
      go_ret
      exact ⟨by rw [HP.out]; rfl, rfl⟩
theorem rMul_g (a b : G) (w : World) : Calls Try.prog 15 #[.int .i64 (a.v : Int), .int .i64 (b.v : Int)] w fun e w' => e = .returned (.int .i64 ((a * b).v : Int)) ∧ w' = w := rMul_any a.v b.v a.lt b.lt w

theorem gw_half (x : G) : ∀ m : Nat, gw x (2 * m) = gw (x * x) m
  | 0 => rfl
  | m + 1 => by
    rw [show 2 * (m + 1) = 2 * m + 1 + 1 by omega]
    show gw x (2 * m) * x * x = gw (x * x) m * (x * x)
    rw [gw_half x m, gmul_assoc]
theorem gw_odd (x : G) (n : Nat) : gw x n = (if n % 2 = 1 then x else g1) * gw (x * x) (n / 2) := by
  rw [← gw_half]
  split
  · rename_i h
    obtain ⟨m, rfl⟩ : ∃ m, n = 2 * m + 1 := ⟨n / 2, by omega⟩
    rw [show (2 * m + 1) / 2 = m by omega]
    show gw x (2 * m) * x = _
    exact gmul_comm _ _
  · rename_i h
    rw [show 2 * (n / 2) = n by omega, gone_mul]
theorem gw_two (n : Nat) : gw (gp 1) n = gp n := by rw [gw_gp, Nat.one_mul]
set_option maxRecDepth 100000 in
set_option maxHeartbeats 1000000 in
theorem rPow_any (a : G) (n : Nat) (hn : n ≤ 1048576) (w : World) : Calls Try.prog 39 #[.int .i64 (a.v : Int), .int .i64 (n : Int)] w fun e w' => e = .returned (.int .i64 ((gw a n).v : Int)) ∧ w' = w := by
  go_enter Try.func39, Try.ntmps39
  go_wp2_with fail
  go_loop [0, 1, 5] (fun x y s => ∃ (k : Nat) (u p : G), k ≤ n ∧ Hid (gw a n = p * gw u k) ∧ x = .int .i64 (u.v : Int) ∧ y = .int .i64 (k : Int) ∧ s = .int .i64 (p.v : Int)) (fun _ y _ => (intOf y).toNat)
  case atStart => exact ⟨n, a, g1, Nat.le_refl _, Lib.hid (gone_mul _).symm, rfl, rfl, rfl⟩
  case round =>
    obtain ⟨k, u, p, hk, HE, rfl, rfl, rfl⟩ := hrel
    by_cases h0 : 0 < k
    · have HS := Lib.hid (gw_odd u k)
      by_cases hbit : k % 2 = 1
      · have hbi : ((k : Int) % 2 == 1) = true := by rw [beq_iff_eq]; omega
        rw [if_pos hbit] at HS
        clear hbit
        go_wp2_with fail
        refine (rMul_g p u _).mono ?_
        rintro e w1 ⟨rfl, rfl⟩
        go_wp2_with fail
        refine (rMul_g u u _).mono ?_
        rintro e w1 ⟨rfl, rfl⟩
        go_wp2_with fail
        go_round
        case rel => exact ⟨k / 2, u * u, p * u, by omega, Lib.hid (by rw [HE.out, HS.out, gmul_assoc]), rfl, by go_num, rfl⟩
        case measure => simp [intOf] <;> omega
      · have hbi : ((k : Int) % 2 == 1) = false := by rw [beq_eq_false_iff_ne]; omega
        rw [if_neg hbit] at HS
        clear hbit
        go_wp2_with fail
        refine (rMul_g u u _).mono ?_
        rintro e w1 ⟨rfl, rfl⟩
        go_wp2_with fail
        go_round
        case rel => exact ⟨k / 2, u * u, p, by omega, Lib.hid (by rw [HE.out, HS.out, gone_mul]), rfl, by go_num, rfl⟩
        case measure => simp [intOf] <;> omega
    · have hk0 : k = 0 := by omega
      subst hk0
      have HP : Hid (gw a n = p) := Lib.hid (by rw [HE.out]; exact gmul_one _)
      go_wp2_with fail
      go_ret
      exact ⟨by rw [HP.out]; rfl, rfl⟩
theorem rPow_two (n : Nat) (hn : n ≤ 1048576) (w : World) : Calls Try.prog 39 #[.int .i64 2, .int .i64 (n : Int)] w fun e w' => e = .returned (.int .i64 ((gp n).v : Int)) ∧ w' = w := by
  have := rPow_any (gp 1) n hn w
  rw [gw_two] at this
  exact this
theorem gw_254 (a : G) (h : a ≠ g0) : gw a 254 = ginv a := by
  obtain ⟨i, hi, rfl⟩ := g_some h
  refine gmul_can h ?_
  rw [gmul_inv h, gw_gp, gp_add, ← gp_mod, show i + i * 254 = 255 * i by omega, Nat.mul_mod_right]
  rfl
theorem rInverse_any (a : G) (h : a ≠ g0) (w : World) : Calls Try.prog 50 #[.int .i64 (a.v : Int)] w fun e w' => e = .returned (.int .i64 ((ginv a).v : Int)) ∧ w' = w := by
  have HP := Lib.hid (rPow_any a 254 (by omega) w)
  rw [gw_254 a h] at HP
  clear h
  go_enter Try.func50, Try.ntmps50
  go_wp2_with fail
  refine HP.out.mono ?_
  rintro e w1 ⟨rfl, rfl⟩
  go_wp2_with fail
  go_ret
  exact ⟨rfl, rfl⟩
theorem rplace_any (n i : Nat) (hn : n ≤ 255) (hi : i < n) (w : World) : Calls Try.prog 48 #[.int .i64 (n : Int), .int .i64 (i : Int)] w fun e w' => e = .returned (.int .i64 ((plc n i).v : Int)) ∧ w' = w := by
  obtain ⟨m, hm⟩ : ∃ m, n - 1 - i = m := ⟨_, rfl⟩
  have HP := Lib.hid (rPow_two m (by omega) w)
  have hp : plc n i = gp m := by unfold plc; rw [hm]
  have hmi : (n : Int) - 1 - (i : Int) = (m : Int) := by omega
  rw [hp]
  clear hp hm
  go_enter Try.func48, Try.ntmps48
  go_wp2_with fail
  refine HP.out.mono ?_
  rintro e w1 ⟨rfl, rfl⟩
  go_wp2_with fail
  go_ret
  exact ⟨rfl, rfl⟩
set_option maxRecDepth 100000 in
theorem rRight_any (n p : Int) (w : World) (r : Bool) (hr : okB n p = r) : Calls Try.prog 19 #[.int .i64 n, .int .i64 p] w fun e w' => e = .returned (.bool r) ∧ w' = w := by
  have hE : okB n p = (decide (0 ≤ p) && (decide (p ≤ 64) && (decide (p < n) && decide (n ≤ 255)))) := by
    unfold okB
    have : decide (p + 1 ≤ n) = decide (p < n) := by rw [decide_eq_decide]; omega
    rw [this]
  rw [hE] at hr
  clear hE
  rcases h1 : decide (0 ≤ p) with _ | _
  · rw [h1] at hr
    obtain rfl : r = false := hr.symm
    go_enter Try.func19, Try.ntmps19
    go_wp2_with fail
    go_ret
    exact ⟨rfl, rfl⟩
  · rcases h2 : decide (p ≤ 64) with _ | _
    · rw [h1, h2] at hr
      obtain rfl : r = false := hr.symm
      go_enter Try.func19, Try.ntmps19
      go_wp2_with fail
      go_ret
      exact ⟨rfl, rfl⟩
    · rcases h3 : decide (p < n) with _ | _
      · rw [h1, h2, h3] at hr
        obtain rfl : r = false := hr.symm
        go_enter Try.func19, Try.ntmps19
        go_wp2_with fail
        go_ret
        exact ⟨rfl, rfl⟩
      · rcases h4 : decide (n ≤ 255) with _ | _
        all_goals
          rw [h1, h2, h3, h4] at hr
          first | obtain rfl : r = false := hr.symm | obtain rfl : r = true := hr.symm
          go_enter Try.func19, Try.ntmps19
          go_wp2_with fail
          go_ret
          exact ⟨rfl, rfl⟩

/-- Elements as ints. -/
def gints (xs : List G) : List Int := xs.map fun x => (x.v : Int)
theorem gints_len (xs : List G) : (gints xs).length = xs.length := by simp [gints]
theorem gints_at {xs : List G} {i : Nat} (h : i < xs.length) : (gints xs).getD i 0 = ((xs.getD i g0).v : Int) := by
  unfold gints
  rw [List.getD_eq_getElem?_getD, List.getElem?_map, getD_of g0 h]
  rfl
set_option maxRecDepth 100000 in
set_option maxHeartbeats 1000000 in
theorem rAt_any (A : Option Addr) (n c : Nat) (q : List G) (x : G) (w : World) (hn : q.length = n) (hl : n ≤ 1048576) (hp : Ints w A (gints q)) :
    Calls Try.prog 42 #[.slice A n c, .int .i64 (x.v : Int)] w fun e w' => e = .returned (.int .i64 ((val q x).v : Int)) ∧ Gr w w' := by
  have HN := Lib.hid hn
  have HP := Lib.hid hp
  clear hn hp
  go_enter Try.func42, Try.ntmps42
  go_wp2_with fail
  go_loopw [5, 6] (fun s z wr => ∃ k : Nat, k ≤ n ∧ z = .int .i64 k ∧ s = .int .i64 ((val (q.take k) x).v : Int) ∧ Gr w wr) (fun _ z _ => n - (intOf z).toNat)
  case atStart => exact ⟨0, Nat.zero_le _, rfl, rfl, Gr.refl _⟩
  case round =>
    obtain ⟨k, hk, rfl, rfl, hg⟩ := hrel
    by_cases hlt : k < n
    · have hkl : k < q.length := by have := HN.out; omega
      obtain ⟨b, off, rfl, c0⟩ := Ints_at (HP.out.keep hg) (i := k) (by rw [gints_len]; exact hkl)
      rw [gints_at hkl] at c0
      have HV : Hid (val (q.take (k + 1)) x = val (q.take k) x * x + q.getD k g0) := Lib.hid (by rw [List.take_add_one, getD_of g0 hkl]; exact val_snoc _ _ _)
      generalize q.getD k g0 = y at c0 HV
      generalize val (q.take k) x = s at HV ⊢
      have hx := i64_xor_gg (s * x) y
      have HR := Lib.hid (fun W => rMul_g s x W)
      go_wp2_with fail
      go_region_law (go_simp; go_at_call 15; refine (HR.out _).mono ?_; rintro e w1 ⟨rfl, rfl⟩)
      all_goals
        go_wp2_with fail
        go_roundw
        case rel => exact ⟨k + 1, by omega, by go_num, by rw [HV.out], by first | exact hg | exact hg.drew⟩
        case measure => simp [intOf] <;> omega
    · obtain rfl : k = n := by omega
      have HF : Hid (q.take k = q) := Lib.hid (List.take_of_length_le (by have := HN.out; omega))
      rw [HF.out]
      go_wp2_with fail
      go_ret
      exact ⟨rfl, hg⟩
end Go.Proofs.Ytbkbgcapkhelhaa
