/- Layer 5: calls of a net without sites. -/
import Derived.Test.YtnoeiocbmhkmeaaPtAN
namespace Go.Proofs.Ytnoeiocbmhkmeaa
open Go.RowKit
set_option linter.unusedSimpArgs false

section
variable {B p : Nat} {W : World}
theorem zr_S (p : Nat) (i : Int) : refS (zeroN p) i = 1 := rfl
theorem zr_L (p : Nat) (i : Int) : refL (zeroN p) i = 1 := rfl
theorem zr_D (p : Nat) (i : Int) : refD (zeroN p) i = 1 := rfl
theorem zr_s (p : Nat) (i : Int) : stockN (zeroN p) i = 0 := rfl
theorem zr_u (p : Nat) (i : Int) : upN (zeroN p) i = false := rfl
theorem zr_o (p : Nat) (i t : Int) : outN (zeroN p) i t = 0 := rfl
theorem Stock_z (h : NetR B W (zeroN p)) (i : Int) : Calls Try.prog 14 #[.pointer (some ⟨p, 0, none⟩), .int .i64 i] W fun e w' => e = .returned (.tuple #[.int .i64 0, .int .i64 1]) ∧ w' = W := by
  have := Stock_any h i
  rw [zr_s, zr_S] at this
  exact this
theorem Begin_z (h : NetR B W (zeroN p)) (i : Int) (A : Option Addr) (n c : Nat) (l : List Mv) (hn : l.length = n) (hl : n ≤ 512) (hq : ∀ W', Ch [p] W W' → Pts W' A l) (hI : ∀ q ∈ l, I64 q.1) : Calls Try.prog 15 #[.pointer (some ⟨p, 0, none⟩), .int .i64 i, .slice A n c] W fun e w' => e = .returned (.tuple #[.int .i64 0, .int .i64 1]) ∧ Gr W w' := by
  have h1 := Begin_any i A n c l W h (by show 0 ≤ 8; omega) (by show 0 ≤ 1024; omega) (by show (0 : Int) ≤ 0; omega) hn hl hq hI (fun s hs => by cases hs)
  refine Calls.mono h1 ?_
  rintro e w5 (⟨-, rfl, hg5⟩ | ⟨hz, -⟩ | ⟨hz, -⟩ | ⟨hz, -⟩)
  · rw [zr_D]; exact ⟨rfl, hg5⟩
  · rw [zr_D] at hz; exact absurd hz (by decide)
  · rw [zr_D] at hz; exact absurd hz (by decide)
  · rw [zr_D] at hz; exact absurd hz (by decide)
theorem Sites_z (h : NetR B W (zeroN p)) : Calls Try.prog 17 #[.pointer (some ⟨p, 0, none⟩)] W fun e w' => e = .returned (.int .i64 0) ∧ w' = W := by
  have := Sites_any h
  rw [show (((zeroN p).sites.length : Nat) : Int) = 0 from rfl] at this
  exact this
theorem Up_z (h : NetR B W (zeroN p)) (i : Int) : Calls Try.prog 18 #[.pointer (some ⟨p, 0, none⟩), .int .i64 i] W fun e w' => e = .returned (.bool false) ∧ w' = W := by
  have := Up_any h i
  rw [zr_u] at this
  exact this
theorem Letters_z (h : NetR B W (zeroN p)) : Calls Try.prog 19 #[.pointer (some ⟨p, 0, none⟩)] W fun e w' => ∃ A c, e = .returned (.slice A 0 c) ∧ Gr W w' := by
  have h1 := Letters_any h (by show 0 ≤ 1024; omega)
  refine Calls.mono h1 ?_
  rintro e w5 ⟨A, c, rfl, -, hg5, -⟩
  exact ⟨A, c, rfl, hg5⟩
theorem Outcome_z (h : NetR B W (zeroN p)) (i t : Int) (ht : I64 t) : Calls Try.prog 20 #[.pointer (some ⟨p, 0, none⟩), .int .i64 i, .int .i64 t] W fun e w' => e = .returned (.int .i64 0) ∧ Gr W w' := by
  have := Outcome_any h i t ht
  rw [zr_o] at this
  exact this
theorem Settled_z (h : NetR B W (zeroN p)) : Calls Try.prog 21 #[.pointer (some ⟨p, 0, none⟩)] W fun e w' => e = .returned (.bool false) ∧ w' = W := by
  have h1 : (zeroN p).sites.length = 0 := rfl
  exact Settled_zero (N := zeroN p) h h1
theorem Clone_z (h : NetR B W (zeroN p)) : Calls Try.prog 22 #[.pointer (some ⟨p, 0, none⟩)] W fun e w' => e = .returned (.pointer none) ∧ w' = W := by
  have h1 : (zeroN p).sites.length = 0 := rfl
  exact Clone_zero (N := zeroN p) h h1
theorem Cancel_z (h : NetR B W (zeroN p)) (i t : Int) : Calls Try.prog 23 #[.pointer (some ⟨p, 0, none⟩), .int .i64 i, .int .i64 t] W fun e w' => e = .returned (.int .i64 1) ∧ w' = W := by
  have := Cancel_bad i t h (by rw [zr_D]; decide)
  rw [zr_D] at this
  exact this
theorem Deliver_z (h : NetR B W (zeroN p)) (i : Int) : Calls Try.prog 24 #[.pointer (some ⟨p, 0, none⟩), .int .i64 i] W fun e w' => e = .returned (.int .i64 1) ∧ w' = W := by
  have := Deliver_bad i h (by rw [zr_L]; decide)
  rw [zr_L] at this
  exact this
theorem Repeat_z (h : NetR B W (zeroN p)) (i : Int) : Calls Try.prog 25 #[.pointer (some ⟨p, 0, none⟩), .int .i64 i] W fun e w' => e = .returned (.int .i64 1) ∧ w' = W := by
  have := Repeat_bad i h (by rw [zr_L]; decide)
  rw [zr_L] at this
  exact this
theorem Lose_z (h : NetR B W (zeroN p)) (i : Int) : Calls Try.prog 26 #[.pointer (some ⟨p, 0, none⟩), .int .i64 i] W fun e w' => e = .returned (.int .i64 1) ∧ w' = W := by
  have := Lose_bad i h (by rw [zr_L]; decide)
  rw [zr_L] at this
  exact this
theorem Tick_z (h : NetR B W (zeroN p)) (i : Int) : Calls Try.prog 27 #[.pointer (some ⟨p, 0, none⟩), .int .i64 i] W fun e w' => e = .returned (.int .i64 1) ∧ w' = W := by
  have := Tick_bad i h (by rw [zr_D]; decide)
  rw [zr_D] at this
  exact this
theorem Crash_z (h : NetR B W (zeroN p)) (i : Int) : Calls Try.prog 28 #[.pointer (some ⟨p, 0, none⟩), .int .i64 i] W fun e w' => e = .returned (.int .i64 1) ∧ w' = W := by
  have := Crash_bad i h (by rw [zr_D]; decide)
  rw [zr_D] at this
  exact this
theorem Start_z (h : NetR B W (zeroN p)) (i : Int) : Calls Try.prog 29 #[.pointer (some ⟨p, 0, none⟩), .int .i64 i] W fun e w' => e = .returned (.int .i64 1) ∧ w' = W := by
  have := Start_bad i h (by rw [zr_S]; decide)
  rw [zr_S] at this
  exact this
end

end Go.Proofs.Ytnoeiocbmhkmeaa
