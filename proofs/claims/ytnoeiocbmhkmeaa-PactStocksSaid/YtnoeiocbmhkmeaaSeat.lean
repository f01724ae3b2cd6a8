/- The translation is a cut: what its head says, by lemmas in place of the kernel (a string taken apart by the kernel costs seconds a word). -/
import Derived.Test.YtnoeiocbmhkmeaaRows
import Derived.ProofKit
namespace Go.Proofs.Ytnoeiocbmhkmeaa

theorem strip_cut (r : List (List Char)) : stripLifts liftWords ("cut".toList :: r) = ([], "cut".toList :: r) := by
  simp [liftWords, stripLifts]
theorem make_of {P : Program} {r : List (List Char)} (h : behindMainWord (wordsSigns P.initOrder.toList) = "cut".toList :: r) : P.make = some .cut := by
  unfold Program.make
  rw [h]
  simp
theorem lifts_of {P : Program} {r : List (List Char)} (h : behindMainWord (wordsSigns P.initOrder.toList) = "cut".toList :: r) : (false == P.liftsFinal) = true := by
  unfold Program.liftsFinal Program.headLifts
  simp only [h, strip_cut]
  simp
theorem enter_of {P : Program} {r : List (List Char)} (h : behindMainWord (wordsSigns P.initOrder.toList) = "cut".toList :: r) (h0 : P.doorFits [] = true) (h1 : P.laysLater = false) (h2 : P.bearsReflect = false) : P.mayEnter = true := by
  unfold Program.mayEnter
  simp only [h, strip_cut, h0]
  simp [h1, h2]
theorem init_text : Try.prog.initOrder = "harness 850ae245d4e3edf614caa6f90d568bd02c0c9c25aa9c73814154b51d7b6ba22b cut at silverside/silversidelaw05.PactNew silverside/silversidelaw05.PactVoid silverside/silversidelaw05.PactAgrees silverside/silversidelaw05.PactSettles silverside/silversidelaw05.PactStocks silverside/silversidelaw05.PactPays" := by kernel_rfl
set_option maxRecDepth 100000 in
theorem init_list : ∃ l, Try.prog.initOrder.toList = l ∧ (behindMainWord (wordsSigns l)).head? = some "cut".toList := by
  rw [init_text]
  refine ⟨_, (by show (String.ofList _).toList = _; exact String.toList_ofList), ?_⟩
  kernel_rfl
theorem init_cut : ∃ r, behindMainWord (wordsSigns Try.prog.initOrder.toList) = "cut".toList :: r := by
  obtain ⟨l, h, k⟩ := init_list
  rw [h]
  cases hb : behindMainWord (wordsSigns l) with
  | nil => rw [hb] at k; cases k
  | cons c r => rw [hb] at k; exact ⟨r, by rw [Option.some.inj k]⟩
theorem make_cut {c : OpenClaim} (hc : c.make = .cut) : (Try.pinned.checked.prog.make == some c.make) = true := by
  obtain ⟨r, h⟩ := init_cut
  have k : Try.pinned.checked.prog.make = some .cut := make_of h
  rw [k, hc]; rfl
theorem no_lifts {c : OpenClaim} (hc : c.lifted = false) : (c.lifted == Try.pinned.checked.prog.liftsFinal) = true := by
  obtain ⟨r, h⟩ := init_cut
  have k : (false == Try.pinned.checked.prog.liftsFinal) = true := lifts_of h
  rw [hc, k]
theorem may_enter : Try.pinned.checked.prog.mayEnter = true := by
  obtain ⟨r, h⟩ := init_cut
  exact enter_of h (by kernel_rfl) (by kernel_rfl) (by kernel_rfl)

end Go.Proofs.Ytnoeiocbmhkmeaa
