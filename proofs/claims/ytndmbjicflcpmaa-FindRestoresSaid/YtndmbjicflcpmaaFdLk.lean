/- Layer 7: the law of restoring. -/
import Derived.Test.YtndmbjicflcpmaaFdRf
namespace Go.Proofs.Ytndmbjicflcpmaa
open Go.RowKit Go.Shelf
set_option linter.unusedSimpArgs false

theorem resV_shape (t : ByteArray) (m : Nat) : ∃ (s : ByteArray) (e : Int), resV t m = .tuple #[.string s, .int .i64 e] := by
  unfold resV
  split
  · exact ⟨_, _, rfl⟩
  · exact ⟨_, _, rfl⟩

set_option maxRecDepth 1000000 in
set_option maxHeartbeats 16000000 in
theorem lawRestores_any (s0 : ByteArray) (x : Int) (w : World) : Calls Try.prog 9 #[.string s0, .int .i64 x] w fun e w' => e = .returned (.bool true) ∧ Gr w w' := by
  obtain ⟨s, hs⟩ : ∃ s, shortB s0 300 = s := ⟨_, rfl⟩
  have hsz := shortB_size s0 300
  have HSH := Lib.hid (short_any s0 300 w)
  rw [hs] at hsz HSH
  clear hs
  obtain ⟨v, er, H1, H2⟩ : ∃ (v : ByteArray) (er : Int), Hid (∀ W, Calls Try.prog 38 #[.string s, .int .i64 x] W fun e w' => e = .returned (.tuple #[.string v, .int .i64 er]) ∧ Gr W w') ∧
      Hid (∀ W, Calls Try.prog 39 #[.string s, .int .i64 x] W fun e w' => e = .returned (.tuple #[.string v, .int .i64 er]) ∧ Gr W w') := by
    by_cases h : 4096 < s.size ∨ x < 0 ∨ (s.size : Int) < x
    · exact ⟨⟨#[]⟩, 2, Lib.hid (fun W => restore_no s x W h), Lib.hid (fun W => rRestore_no s x W h)⟩
    · obtain ⟨m, rfl⟩ : ∃ m : Nat, x = (m : Int) := ⟨x.toNat, by omega⟩
      obtain ⟨v, er, hv⟩ := resV_shape s m
      refine ⟨v, er, Lib.hid (fun W => ?_), Lib.hid (fun W => ?_)⟩
      · have := restore_yes s m W (by omega) (by omega)
        rwa [hv] at this
      · have := rRestore_yes s s.size m W rfl (by omega) (by omega)
        rwa [hv] at this
  clear hsz
  go_enter Try.func9, Try.ntmps9
  go_wp2_with fail
  refine HSH.out.mono ?_
  rintro e w0 ⟨rfl, hw0⟩
  rw [hw0]
  have H11 := Lib.hid (H1.out w)
  clear HSH hw0 H1
  go_wp2_with fail
  refine H11.out.mono ?_
  rintro e w1 ⟨rfl, hg1⟩
  have H21 := Lib.hid (H2.out w1)
  clear H11 H2
  go_wp2_with fail
  refine H21.out.mono ?_
  rintro e w2 ⟨rfl, hg2⟩
  have hgr := hg1.trans hg2
  have HA := Lib.hid (awake_any w2)
  clear H21
  go_wp2_with fail
  refine HA.out.mono ?_
  rintro e w3 ⟨rfl, hg3⟩
  clear HA
  go_wp2_with fail
  go_ret
  exact ⟨rfl, hgr.trans hg3⟩

end Go.Proofs.Ytndmbjicflcpmaa
