/- A law's sets: the reference's test, the length of the law's own copy. -/
import Derived.Test.YtjkdjfagaakijaaSome
import Derived.Test.YtjkdjfagaakijaaTurns
namespace Go.Proofs.Ytjkdjfagaakijaa
open Go.RowKit
set_option linter.unusedSimpArgs false

theorem take_len {ps : List (Int × Int)} {n m : Nat} (hn : ps.length = n) : (ps.take (someN n m)).length ≤ 513 := by
  rw [List.length_take]; unfold someN; split <;> omega

set_option maxRecDepth 100000 in
set_option maxHeartbeats 1000000 in
theorem rSet_any (A : Option Addr) (n c : Nat) (ps : List (Int × Int)) (w : World) (hn : ps.length = n) (hl : n ≤ 1048576) (hp : Pts w A ps) (r : Bool) (hr : (decide (1 ≤ n ∧ n ≤ 512) && ps.all fun p => vld p.1 p.2) = r) :
    Calls Try.prog 17 #[.slice A n c] w fun e w' => e = .returned (.bool r) ∧ Gr w w' := by
  by_cases h : 1 ≤ n ∧ n ≤ 512
  · have HR : Hid ((ps.all fun p => vld p.1 p.2) = r) := Lib.hid (by rw [← hr]; simp [h])
    have HN := Lib.hid hn
    have HP := Lib.hid hp
    obtain ⟨h1, h2⟩ := h
    clear hn hp hr
    go_enter Try.func17, Try.ntmps17
    go_wp2_with fail
    refine (rValids_any A n c ps _ HN.out (by omega) HP.out r HR.out).mono ?_
    rintro e w1 ⟨rfl, hb⟩
    go_wp2_with fail
    go_ret
    exact ⟨rfl, hb⟩
  · obtain rfl : r = false := by rw [← hr]; simp; intro h1 h2; exact absurd ⟨h1, h2⟩ h
    clear hn hp hr
    by_cases h1 : 1 ≤ n
    · have h2 : ¬ n ≤ 512 := fun k => h ⟨h1, k⟩
      clear h
      go_enter Try.func17, Try.ntmps17
      go_wp2_with fail
      go_ret
      exact ⟨rfl, Gr.refl _⟩
    · clear h
      go_enter Try.func17, Try.ntmps17
      go_wp2_with fail
      go_ret
      exact ⟨rfl, Gr.refl _⟩

end Go.Proofs.Ytjkdjfagaakijaa
