/- The translation is a cut: what its head says, by lemmas in place of the kernel (a string taken apart by the kernel costs seconds a word). -/
import Derived.Test.YtnoeiocbmhkmeaaGreatRows
import Derived.ProofKit
namespace Go.Proofs.YtnoeiocbmhkmeaaGreat
set_option linter.unusedSimpArgs false
set_option maxRecDepth 100000
set_option maxHeartbeats 80000000

theorem strip_cut (r : List (List Char)) : stripLifts liftWords ("cut".toList :: r) = ([], "cut".toList :: r) := by
 simp [liftWords, stripLifts]
theorem make_of {P : Program} {r : List (List Char)} (h : behindMainWord (wordsSigns P.initOrder.toList) = "cut".toList :: r) : P.make = some .cut := by
 unfold Program.make
 rw [h]
 simp
theorem lifts_of {P : Program} {r : List (List Char)} (h : behindMainWord (wordsSigns P.initOrder.toList) = "cut".toList :: r) : (false == P.liftsFinal) = true := by
 unfold Program.liftsFinal Program.headLifts
 simp only [h, strip_cut]
 simp
theorem enter_of {P : Program} {r : List (List Char)} (h : behindMainWord (wordsSigns P.initOrder.toList) = "cut".toList :: r) (h0 : P.doorFits [] = true) (h1 : P.laysLater = false) (h2 : P.bearsReflect = false) : P.mayEnter = true := by
 unfold Program.mayEnter
 simp only [h, strip_cut, h0]
 simp [h1, h2]
theorem init_text : Tryz.prog.initOrder = "harness f47e8eb3d0df12f70068653d58f8e9b951516e14b1c1d59254fd9fcfa0208085 cut at silverside/silversidelaw05.PactRuns silverside/silversidelaw05.PactLong silverside/silversidelaw05.PactAsks silverside/silversidelaw05.PactClones silverside/silversidelaw05.PactOwn" := by kernel_rfl
theorem init_list : ∃ l, Tryz.prog.initOrder.toList = l ∧ (behindMainWord (wordsSigns l)).head? = some "cut".toList := by
 rw [init_text]
 refine ⟨_, (by show (String.ofList _).toList = _; exact String.toList_ofList), ?_⟩
 kernel_rfl
theorem init_cut : ∃ r, behindMainWord (wordsSigns Tryz.prog.initOrder.toList) = "cut".toList :: r := by
 obtain ⟨l, h, k⟩ := init_list
 rw [h]
 cases hb : behindMainWord (wordsSigns l) with
 | nil => rw [hb] at k; cases k
 | cons c r => rw [hb] at k; exact ⟨r, by rw [Option.some.inj k]⟩
theorem make_cut {c : OpenClaim} (hc : c.make = .cut) : (Tryz.pinned.checked.prog.make == some c.make) = true := by
 obtain ⟨r, h⟩ := init_cut
 have k : Tryz.pinned.checked.prog.make = some .cut := make_of h
 rw [k, hc]; rfl
theorem no_lifts {c : OpenClaim} (hc : c.lifted = false) : (c.lifted == Tryz.pinned.checked.prog.liftsFinal) = true := by
 obtain ⟨r, h⟩ := init_cut
 have k : (false == Tryz.pinned.checked.prog.liftsFinal) = true := lifts_of h
 rw [hc, k]
theorem may_enter : Tryz.pinned.checked.prog.mayEnter = true := by
 obtain ⟨r, h⟩ := init_cut
 exact enter_of h (by kernel_rfl) (by kernel_rfl) (by kernel_rfl)

end Go.Proofs.YtnoeiocbmhkmeaaGreat
