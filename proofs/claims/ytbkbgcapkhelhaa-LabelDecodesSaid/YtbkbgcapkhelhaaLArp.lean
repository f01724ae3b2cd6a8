/- Layer 3: whether all numbers are positions. -/
import Derived.Test.YtbkbgcapkhelhaaLZero
namespace Go.Proofs.Ytbkbgcapkhelhaa
open Go.RowKit
set_option linter.unusedSimpArgs false

def isPos (n : Nat) (x : Int) : Bool := decide (0 ≤ x) && decide (x < (n : Int))
theorem posFn_any (S n : Nat) (x : Int) (w : World) (hs : w.cell? ⟨S, 0, none⟩ = some (.int .i64 (n : Int))) (r : Bool) (hr : (!isPos n x) = r) : Calls Try.prog 58 #[.int .i64 x, .pointer (some ⟨S, 0, none⟩)] w fun e w' => e = .returned (.bool r) ∧ w' = w := by
  by_cases h1 : x < 0
  · have hd : decide (x < 0) = true := decide_eq_true h1
    have HR : Hid (r = true) := Lib.hid (by rw [← hr]; unfold isPos; rw [decide_eq_false (by omega)]; rfl)
    clear hr
    go_enter Try.func58, Try.ntmps58
    go_wp2_with fail
    go_ret
    exact ⟨by rw [HR.out]; rfl, rfl⟩
  · have hd : decide (x < 0) = false := decide_eq_false h1
    have hge : decide ((n : Int) ≤ x) = r := by rw [← hr, Bool.eq_iff_iff]; simp [isPos]; omega
    clear hr
    go_enter Try.func58, Try.ntmps58
    go_wp2_with fail
    go_ret
    exact ⟨by first | rfl | rw [hge], rfl⟩

set_option maxRecDepth 100000 in
set_option maxHeartbeats 1000000 in
theorem index_pos (S N : Nat) (A : Option Addr) (n c : Nat) (q : List Int) (w : World) (hs : w.cell? ⟨S, 0, none⟩ = some (.int .i64 (N : Int))) (hn : q.length = n) (hl : n ≤ 1048576) (hp : Ints w A q) (r : Bool) (hr : q.all (isPos N) = r) :
    Calls Try.prog 68 #[.slice A n c, .func (.func 58) #[] #[.pointer (some ⟨S, 0, none⟩)]] w fun e w' => (∃ z, e = .returned (.int .i64 z) ∧ Hid ((0 ≤ z ↔ r = false) ∧ -1 ≤ z ∧ z ≤ n)) ∧ w' = w := by
  have HN := Lib.hid hn
  have HP := Lib.hid hp
  have HR := Lib.hid hr
  have HS := Lib.hid hs
  clear hn hp hr hs
  go_enter Try.func68, Try.ntmps68
  go_wp2_with fail
  go_loop [8] (fun z => ∃ k : Nat, k ≤ n ∧ z = .int .i64 k ∧ Hid ((q.take k).all (isPos N) = true)) (fun z => n - (intOf z).toNat)
  case atStart => exact ⟨0, Nat.zero_le _, rfl, Lib.hid rfl⟩
  case round =>
    obtain ⟨k, hk, rfl, hA⟩ := hrel
    by_cases hlt : k < n
    · have hkl : k < q.length := by have := HN.out; omega
      obtain ⟨b, off, rfl, c0⟩ := Ints_at HP.out hkl
      have HT := Lib.hid (all_take_succ (isPos N) q 0 k hkl)
      have HF := Lib.hid (all_false (isPos N) q 0 k hkl)
      generalize q.getD k 0 = x at c0 HT HF
      rcases hx : isPos N x with _ | _
      · have hz := posFn_any S N x w HS.out true (by simp [hx])
        have HQ : Hid (r = false) := Lib.hid (by rw [← HR.out]; exact HF.out (by simp [hx]))
        clear hx HT HF
        go_wp2_with fail
        refine hz.mono ?_
        rintro e w1 ⟨rfl, rfl⟩
        go_wp2_with fail
        try rw [Exit.noGoto_ret]
        go_ret
        exact ⟨⟨_, rfl, Lib.hid ⟨⟨fun _ => HQ.out, fun _ => by omega⟩, by omega, by omega⟩⟩, rfl⟩
      · have hz := posFn_any S N x w HS.out false (by simp [hx])
        have HS' : Hid ((q.take (k + 1)).all (isPos N) = true) := Lib.hid (by rw [HT.out, hA.out]; simp [hx])
        clear hx HT HF
        go_wp2_with fail
        refine hz.mono ?_
        rintro e w1 ⟨rfl, rfl⟩
        go_wp2_with fail
        go_round
        case rel => exact ⟨k + 1, by omega, by go_num, HS'⟩
        case measure => simp [intOf] <;> omega
    · obtain rfl : k = n := by omega
      have HQ : Hid (r = true) := Lib.hid (by rw [← HR.out]; have := hA.out; rwa [List.take_of_length_le (by have := HN.out; omega)] at this)
      go_wp2_with fail
      try rw [Exit.noGoto_ret]
      go_ret
      exact ⟨⟨_, rfl, Lib.hid ⟨⟨fun h => by omega, fun h => by rw [HQ.out] at h; cases h⟩, by omega, by omega⟩⟩, rfl⟩

set_option maxRecDepth 100000 in
theorem arePositions_any (A : Option Addr) (n c N : Nat) (q : List Int) (w : World) (hn : q.length = n) (hl : n ≤ 255) (hp : Ints w A q) (r : Bool) (hr : q.all (isPos N) = r) :
    Calls Try.prog 43 #[.slice A n c, .int .i64 (N : Int)] w fun e w' => e = .returned (.bool r) ∧ Gr w w' := by
  obtain ⟨w0, hw0⟩ : ∃ w0, w.alloc (.cells #[.int .i64 (N : Int)] 3) = w0 := ⟨_, rfl⟩
  have hg0 : Gr w w0 := by rw [← hw0]; exact (Gr.refl _).alloc _
  have hs0 : w0.cell? ⟨w.heap.size, 0, none⟩ = some (.int .i64 (N : Int)) := by rw [← hw0]; exact alloc_new rfl rfl
  have HC : Calls Try.prog 57 #[.slice A n c, .func (.func 58) #[] #[.pointer (some ⟨w.heap.size, 0, none⟩)]] w0 fun e w' => e = .returned (.bool (!r)) ∧ w' = w0 := by
    have HI := Lib.hid (index_pos w.heap.size N A n c q w0 hs0 hn (by omega) (hp.keep hg0) r hr)
    clear hr hn hp hw0 hg0 hs0
    go_enter Try.func57, Try.ntmps57
    go_wp2_with fail
    refine HI.out.mono ?_
    rintro e w1 ⟨⟨z, rfl, hz⟩, rfl⟩
    have hd : Hid (decide (0 ≤ z) = !r) := Lib.hid (by
      cases r
      · exact decide_eq_true (hz.out.1.2 rfl)
      · exact decide_eq_false (fun h => by have := hz.out.1.1 h; cases this))
    cases r
    · have h2 : decide (0 ≤ z) = true := hd.out
      go_wp2_with fail
      go_ret
      exact ⟨rfl, rfl⟩
    · have h2 : decide (0 ≤ z) = false := hd.out
      go_wp2_with fail
      go_ret
      exact ⟨rfl, rfl⟩
  have HC' := Lib.hid HC
  have HG0 := Lib.hid hg0
  have hlt : ¬ ((255 : Int) < (n : Int)) := by omega
  clear HC hr hp hn hs0 hg0
  go_enter Try.func43, Try.ntmps43
  go_wp2_with fail
  refine HC'.out.mono ?_
  rintro e w1 ⟨rfl, rfl⟩
  cases r
  all_goals
    go_wp2_with fail
    go_ret
    exact ⟨rfl, HG0.out⟩
end Go.Proofs.Ytbkbgcapkhelhaa
