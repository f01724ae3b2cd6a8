/- Layer 3: whether all bytes are 0. -/
import Derived.Test.YtbkbgcapkhelhaaLVal
namespace Go.Proofs.Ytbkbgcapkhelhaa
open Go.RowKit
set_option linter.unusedSimpArgs false

theorem g_nz_test (a : G) : (((a.v : Nat) : Int) != 0) = !decide (a = g0) := by rw [bne, g_zero_test]
theorem zeroFn_any (x : G) (w : World) (r : Bool) (hr : (!decide (x = g0)) = r) : Calls Try.prog 55 #[.int .u8 (x.v : Int)] w fun e w' => e = .returned (.bool r) ∧ w' = w := by
  have h := g_nz_test x
  rw [hr] at h
  clear hr
  go_enter Try.func55, Try.ntmps55
  go_wp2_with fail
  go_ret
  exact ⟨rfl, rfl⟩

set_option maxRecDepth 100000 in
set_option maxHeartbeats 1000000 in
theorem index_zero (A : Option Addr) (n c : Nat) (q : List G) (w : World) (hn : q.length = n) (hl : n ≤ 1048576) (hp : Byts w A q) (r : Bool) (hr : q.all (fun x => decide (x = g0)) = r) :
    Calls Try.prog 67 #[.slice A n c, .func (.func 55) #[] #[]] w fun e w' => (∃ z, e = .returned (.int .i64 z) ∧ Hid ((0 ≤ z ↔ r = false) ∧ -1 ≤ z ∧ z ≤ n)) ∧ w' = w := by
  have HN := Lib.hid hn
  have HP := Lib.hid hp
  have HR := Lib.hid hr
  clear hn hp hr
  go_enter Try.func67, Try.ntmps67
  go_wp2_with fail
  go_loop [8] (fun z => ∃ k : Nat, k ≤ n ∧ z = .int .i64 k ∧ Hid ((q.take k).all (fun x => decide (x = g0)) = true)) (fun z => n - (intOf z).toNat)
  case atStart => exact ⟨0, Nat.zero_le _, rfl, Lib.hid rfl⟩
  case round =>
    obtain ⟨k, hk, rfl, hA⟩ := hrel
    by_cases hlt : k < n
    · have hkl : k < q.length := by have := HN.out; omega
      obtain ⟨b, off, rfl, c0⟩ := Byts_at HP.out hkl
      have HS := Lib.hid (all_take_succ (fun x => decide (x = g0)) q g0 k hkl)
      have HF := Lib.hid (all_false (fun x => decide (x = g0)) q g0 k hkl)
      generalize q.getD k g0 = x at c0 HS HF
      by_cases hx : x = g0
      · have hz := zeroFn_any x w false (by simp [hx])
        have HS' : Hid ((q.take (k + 1)).all (fun x => decide (x = g0)) = true) := Lib.hid (by rw [HS.out, hA.out]; simp [hx])
        clear hx HS HF
        go_wp2_with fail
        refine hz.mono ?_
        rintro e w1 ⟨rfl, rfl⟩
        go_wp2_with fail
        go_round
        case rel => exact ⟨k + 1, by omega, by go_num, HS'⟩
        case measure => simp [intOf] <;> omega
      · have hz := zeroFn_any x w true (by simp [hx])
        have HQ : Hid (r = false) := Lib.hid (by rw [← HR.out]; exact HF.out (by simp [hx]))
        clear hx HS HF
        go_wp2_with fail
        refine hz.mono ?_
        rintro e w1 ⟨rfl, rfl⟩
        go_wp2_with fail
        try rw [Exit.noGoto_ret]
        go_ret
        exact ⟨⟨_, rfl, Lib.hid ⟨⟨fun _ => HQ.out, fun _ => by omega⟩, by omega, by omega⟩⟩, rfl⟩
    · obtain rfl : k = n := by omega
      have HQ : Hid (r = true) := Lib.hid (by rw [← HR.out]; have := hA.out; rwa [List.take_of_length_le (by have := HN.out; omega)] at this)
      go_wp2_with fail
      try rw [Exit.noGoto_ret]
      go_ret
      exact ⟨⟨_, rfl, Lib.hid ⟨⟨fun h => by omega, fun h => by rw [HQ.out] at h; cases h⟩, by omega, by omega⟩⟩, rfl⟩

set_option maxRecDepth 100000 in
theorem areZero_any (A : Option Addr) (n c : Nat) (q : List G) (w : World) (hn : q.length = n) (hl : n ≤ 1048576) (hp : Byts w A q) (r : Bool) (hr : q.all (fun x => decide (x = g0)) = r) :
    Calls Try.prog 40 #[.slice A n c] w fun e w' => e = .returned (.bool r) ∧ w' = w := by
  have HC : Calls Try.prog 54 #[.slice A n c, .func (.func 55) #[] #[]] w fun e w' => e = .returned (.bool (!r)) ∧ w' = w := by
    have HI := Lib.hid (index_zero A n c q w hn hl hp r hr)
    clear hr hn hp
    go_enter Try.func54, Try.ntmps54
    go_wp2_with fail
    refine HI.out.mono ?_
    rintro e w1 ⟨⟨z, rfl, hz⟩, rfl⟩
    have hd : Hid (decide (0 ≤ z) = !r) := Lib.hid (by
      cases r
      · exact decide_eq_true (hz.out.1.2 rfl)
      · exact decide_eq_false (fun h => by have := hz.out.1.1 h; cases this))
    cases r
    · have h2 : decide (0 ≤ z) = true := hd.out
      go_wp2_with fail
      go_ret
      exact ⟨rfl, rfl⟩
    · have h2 : decide (0 ≤ z) = false := hd.out
      go_wp2_with fail
      go_ret
      exact ⟨rfl, rfl⟩
  have HC' := Lib.hid HC
  clear HC hr hp hn
  go_enter Try.func40, Try.ntmps40
  go_wp2_with fail
  refine HC'.out.mono ?_
  rintro e w1 ⟨rfl, rfl⟩
  cases r
  all_goals
    go_wp2_with fail
    go_ret
    exact ⟨rfl, rfl⟩

end Go.Proofs.Ytbkbgcapkhelhaa
