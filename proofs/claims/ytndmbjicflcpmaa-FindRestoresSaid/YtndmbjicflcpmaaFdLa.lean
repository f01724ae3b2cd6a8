/- Layer 7: the law of Turn. -/
import Derived.Test.YtndmbjicflcpmaaFdRc
namespace Go.Proofs.Ytndmbjicflcpmaa
open Go.RowKit Go.Shelf
set_option linter.unusedSimpArgs false

set_option maxRecDepth 1000000 in
set_option maxHeartbeats 8000000 in
theorem lawTurns_any (s0 : ByteArray) (w : World) : Calls Try.prog 8 #[.string s0] w fun e w' => e = .returned (.bool true) ∧ Gr w w' := by
  obtain ⟨s, hs⟩ : ∃ s, shortB s0 300 = s := ⟨_, rfl⟩
  have hsz := shortB_size s0 300
  have HSH := Lib.hid (short_any s0 300 w)
  rw [hs] at hsz HSH
  clear hs
  go_enter Try.func8, Try.ntmps8
  go_wp2_with fail
  refine HSH.out.mono ?_
  rintro e w0 ⟨rfl, hw0⟩
  rw [hw0]
  clear HSH hw0
  rcases hsz with h | h
  · have HT := Lib.hid (turn_yes s s.size w rfl (by omega))
    have HR := Lib.hid (fun W => rTurn_any s s.size W rfl (by omega))
    go_wp2_with fail
    refine HT.out.mono ?_
    rintro e w1 ⟨o, ho, rfl, hg1⟩
    have HR1 := Lib.hid (HR.out w1)
    have HOO := Lib.hid ho
    unfold turV
    clear HT HR ho
    obtain ⟨T, hT⟩ : ∃ T, (turF (bts s) (s.size :: o) (s.size + 1)).1 = T := ⟨_, rfl⟩
    obtain ⟨M, hM⟩ : ∃ M, (turF (bts s) (s.size :: o) (s.size + 1)).2 = M := ⟨_, rfl⟩
    rw [hT, hM]
    have HT := Lib.hid hT
    have HM := Lib.hid hM
    clear hT hM
    go_wp2_with fail
    refine HR1.out.mono ?_
    rintro e w2 ⟨o', ho', rfl, hg2⟩
    obtain rfl : o' = o := ho'.one HOO.out
    rw [HT.out, HM.out]
    have hgr := hg1.trans hg2
    have HA := Lib.hid (awake_any w2)
    clear HR1 ho' HOO HT HM
    go_wp2_with fail
    refine HA.out.mono ?_
    rintro e w3 ⟨rfl, hg3⟩
    clear HA
    go_wp2_with fail
    go_ret
    exact ⟨rfl, hgr.trans hg3⟩
  · have HT := Lib.hid (turn_no s w (by omega))
    have hi : (s.size : Int) = 4097 := by omega
    go_wp2_with fail
    refine HT.out.mono ?_
    rintro e w1 ⟨rfl, hg1⟩
    have HA := Lib.hid (awake_any w1)
    clear HT
    go_wp2_with fail
    refine HA.out.mono ?_
    rintro e w3 ⟨rfl, hg3⟩
    clear HA
    go_wp2_with fail
    go_ret
    exact ⟨rfl, hg1.trans hg3⟩

end Go.Proofs.Ytndmbjicflcpmaa
