/- Layer 3: valid parameters out of any. -/
import Derived.Test.YtbkbgcapkhelhaaLCode
import Derived.Test.YtbkbgcapkhelhaaLLawEnc
namespace Go.Proofs.Ytbkbgcapkhelhaa
open Go.RowKit
set_option linter.unusedSimpArgs false

/-- the laws' remainder of any number by a positive one -/
def modL (x n : Int) : Int := wrap64 ((IntKind.u64.wrap x).tmod n)
theorem modL_le {x n : Int} (h1 : 0 < n) (h2 : n ≤ 9223372036854775807) : 0 ≤ modL x n ∧ modL x n < n := by
  have hx : 0 ≤ IntKind.u64.wrap x := by
    simp only [IntKind.wrap, IntKind.signed]
    first | (exact Int.emod_nonneg _ (by decide)) | omega
  have e : (IntKind.u64.wrap x).tmod n = (IntKind.u64.wrap x) % n := Int.tmod_eq_emod_of_nonneg hx
  have a := Int.emod_nonneg (IntKind.u64.wrap x) (by omega : n ≠ 0)
  have b := Int.emod_lt_of_pos (IntKind.u64.wrap x) h1
  unfold modL
  rw [e, show wrap64 (IntKind.u64.wrap x % n) = IntKind.u64.wrap x % n from IntWalk.wrap64_in _ (by omega)]
  exact ⟨a, b⟩
set_option maxRecDepth 100000 in
theorem mod_any (x n : Int) (w : World) (h1 : 0 < n) (h2 : n ≤ 9223372036854775807) :
    Calls Try.prog 32 #[.int .i64 x, .int .i64 n] w fun e w' => e = .returned (.int .i64 (modL x n)) ∧ w' = w := by
  have e0 : IntKind.u64.wrap n = n := by
    simp only [IntKind.wrap, IntKind.signed]
    first | (exact Int.emod_eq_of_lt (by omega) (by simp [IntKind.bits]; omega)) | omega
  have e1 : (n == 0) = false := by simp; omega
  go_enter Try.func32, Try.ntmps32
  go_wp2_with fail
  go_ret
  exact ⟨rfl, rfl⟩
/-- The remainder as a position. -/
def modP (x : Int) (n : Nat) : Nat := (modL x n).toNat
theorem modP_lt {x : Int} {n : Nat} (h : 1 ≤ n) (h2 : n ≤ 1048576) : modP x n < n := by
  have := modL_le (x := x) (n := (n : Int)) (by omega) (by omega)
  unfold modP; omega
theorem modP_any (x : Int) (n : Nat) (w : World) (h : 1 ≤ n) (h2 : n ≤ 1048576) :
    Calls Try.prog 32 #[.int .i64 x, .int .i64 (n : Int)] w fun e w' => e = .returned (.int .i64 (modP x n : Int)) ∧ w' = w := by
  have h3 := modL_le (x := x) (n := (n : Int)) (by omega) (by omega)
  have := mod_any x n w (by omega) (by omega)
  rw [show ((modP x n : Nat) : Int) = modL x n by unfold modP; omega]
  exact this

def FitPost (m : Nat) (w : World) (e : Ending) (w' : World) : Prop := ∃ (t : ByteArray) (q : Nat), e = .returned (.tuple #[.string t, .int .i64 (q : Int)]) ∧ 1 ≤ t.size ∧ t.size ≤ m ∧ t.size + q ≤ 255 ∧ q ≤ 64 ∧ w' = w
theorem ex_size (s : ByteArray) (k : Nat) (h : k ≤ s.size) : (s.extract 0 k).size = k := by
  rw [ByteArray.size_extract]; omega
theorem ne_empty {s : ByteArray} (h : s ≠ ⟨#[]⟩) : 1 ≤ s.size := by
  refine Nat.lt_of_not_le fun h0 => h ?_
  obtain ⟨a⟩ := s
  have : a.size = 0 := by have h1 : a.size ≤ 0 := h0; omega
  rw [Array.eq_empty_of_size_eq_zero this]
set_option maxRecDepth 100000 in
set_option maxHeartbeats 2000000 in
theorem fit_any (s : ByteArray) (p : Int) (m : Nat) (hm : 1 ≤ m) (hm2 : m ≤ 1000) (w : World) : Calls Try.prog 29 #[.string s, .int .i64 p, .int .i64 (m : Int)] w (FitPost m w) := by
  have HM := Lib.hid (fun W => modP_any p 65 W (by decide) (by decide))
  have hml := modP_lt (x := p) (n := 65) (by decide) (by decide)
  obtain ⟨q0, hq0⟩ : ∃ q0, modP p 65 = q0 := ⟨_, rfl⟩
  rw [hq0] at HM hml
  clear hq0
  have key : ∀ (q : Nat), q ≤ 64 → ∀ t : ByteArray, 1 ≤ t.size → FitPost m w (.returned (.tuple #[.string (t.extract 0 (min (t.size : Int) (min (m : Int) (255 - (q : Int)))).toNat), .int .i64 (q : Int)])) w := fun q hq t ht => by
    refine ⟨_, q, rfl, ?_, ?_, ?_, hq, rfl⟩ <;> rw [ex_size _ _ (by omega)] <;> omega
  have HK := Lib.hid key
  clear key
  have hs : s = ⟨#[]⟩ ∨ 1 ≤ s.size ∧ s ≠ ⟨#[]⟩ := by
    by_cases h : s = ⟨#[]⟩
    · exact Or.inl h
    · exact Or.inr ⟨ne_empty h, h⟩
  have hp : (p < 0 ∨ 64 < p) ∨ ∃ q : Nat, p = (q : Int) ∧ q ≤ 64 := by
    by_cases h1 : p < 0
    · exact Or.inl (Or.inl h1)
    · by_cases h2 : 64 < p
      · exact Or.inl (Or.inr h2)
      · exact Or.inr ⟨p.toNat, by omega, by omega⟩
  have hq64 : q0 ≤ 64 := by omega
  rcases hs with rfl | ⟨hs1, hs2⟩
  · have HK2 := Lib.hid (fun q hq => HK.out q hq ⟨#[120]⟩ (by decide))
    rcases hp with (h1 | h1) | ⟨q, rfl, hq⟩
    · go_enter Try.func29, Try.ntmps29
      go_wp2_with fail
      refine (HM.out _).mono ?_
      rintro e w1 ⟨rfl, rfl⟩
      go_wp2_with fail
      go_ret2
      exact HK2.out q0 hq64
    · have h0 : ¬ p < 0 := by omega
      go_enter Try.func29, Try.ntmps29
      go_wp2_with fail
      refine (HM.out _).mono ?_
      rintro e w1 ⟨rfl, rfl⟩
      go_wp2_with fail
      go_ret2
      exact HK2.out q0 hq64
    · go_enter Try.func29, Try.ntmps29
      go_wp2_with fail
      go_ret2
      exact HK2.out q hq
  · have HK2 := Lib.hid (fun q hq => HK.out q hq s hs1)
    have he : s.toList.isEmpty = false := by
      rw [ByteArray.toList_eq, List.isEmpty_eq_false_iff]
      intro e
      have h1 : s.data.toList.length = 0 := by rw [e]; rfl
      have h2 : s.size = s.data.toList.length := rfl
      omega
    clear hs2
    rcases hp with (h1 | h1) | ⟨q, rfl, hq⟩
    · go_enter Try.func29, Try.ntmps29
      go_wp2_with fail
      refine (HM.out _).mono ?_
      rintro e w1 ⟨rfl, rfl⟩
      go_wp2_with fail
      go_ret2
      exact HK2.out q0 hq64
    · have h0 : ¬ p < 0 := by omega
      go_enter Try.func29, Try.ntmps29
      go_wp2_with fail
      refine (HM.out _).mono ?_
      rintro e w1 ⟨rfl, rfl⟩
      go_wp2_with fail
      go_ret2
      exact HK2.out q0 hq64
    · go_enter Try.func29, Try.ntmps29
      go_wp2_with fail
      go_ret2
      exact HK2.out q hq
end Go.Proofs.Ytbkbgcapkhelhaa
