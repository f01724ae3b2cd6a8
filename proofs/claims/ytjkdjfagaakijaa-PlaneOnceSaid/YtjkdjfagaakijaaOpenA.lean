/- A verdict that came in by value, opened. -/
import Derived.Test.YtjkdjfagaakijaaLift
import Derived.Test.YtjkdjfagaakijaaRows
import Derived.ProofKit
import Derived.Lib.SmallJoins
namespace Go.Proofs.Ytjkdjfagaakijaa
open Go.RowKit Go.Deep Go.Joins Go.ChangeShapes Go.WideShapes Go.ChangeAt

theorem array7 {α : Type} {cs : Array α} (h : cs.size = 7) : ∃ c0 c1 c2 c3 c4 c5 c6, cs = #[c0, c1, c2, c3, c4, c5, c6] := by
  obtain ⟨l⟩ := cs
  match l, h with
  | [c0, c1, c2, c3, c4, c5, c6], _ => exact ⟨c0, c1, c2, c3, c4, c5, c6, rfl⟩
set_option maxRecDepth 100000 in
theorem apart_one : ∃ f0 f1 f2 f3 f4 f5 f6 : Field, Try.prog.underlying 33 = some (.struct #[f0, f1, f2, f3, f4, f5, f6]) ∧ oneCellFields Try.prog #[f0, f1, f2, f3, f4, f5, f6] = true ∧ Try.prog.cellsOf 33 = 7 ∧ Try.prog.underlying f0.type = some .bool ∧
    Try.prog.underlying f1.type = some (.int .i64) ∧ Try.prog.underlying f2.type = some (.int .i64) ∧ Try.prog.underlying f3.type = some (.int .i64) ∧ Try.prog.underlying f4.type = some (.int .i64) ∧ Try.prog.underlying f5.type = some (.int .i64) ∧ Try.prog.underlying f6.type = some (.int .i64) :=
  ⟨_, _, _, _, _, _, _, Try.underlying33, by kernel_rfl, by kernel_rfl, Try.underlying4, Try.underlying3, Try.underlying3, Try.underlying3, Try.underlying3, Try.underlying3, Try.underlying3⟩
set_option maxRecDepth 100000 in
/-- A verdict by value is a bool and six ints. -/
theorem open_apart {H : Type} {enc : TypeId × Value → H} {w : World} {base : Nat} {sp : Nat → Bool} {hd : Bool} {r : Reach} {b0 : Nat} {v : Value} {dd : DataW H} {p : List MemPlace}
    (hv : Value.okWide Try.prog w r b0 33 v) (h : DataW.Trod enc Try.prog w base sp hd 33 v dd p) :
    ∃ (m : Bool) (x y d a b t : Int), v = .agg #[.bool m, .int .i64 x, .int .i64 y, .int .i64 d, .int .i64 a, .int .i64 b, .int .i64 t] := by
  obtain ⟨f0, f1, f2, f3, f4, f5, f6, hs, hone, hC, u0, u1, u2, u3, u4, u5, u6⟩ := apart_one
  obtain ⟨cs, rfl, hsz⟩ := okWide_struct hs hv
  obtain ⟨c0, c1, c2, c3, c4, c5, c6, rfl⟩ := array7 (hsz.trans hC)
  obtain ⟨fuel, hf⟩ := h
  obtain ⟨xs, n, _, hx, _, hlen, hg⟩ := DataW.trod_struct hs hf
  have hl7 : xs.length = 7 := by simpa using hlen
  have g0 := hg 0 f0 rfl
  have g1 := hg 1 f1 rfl
  have g2 := hg 2 f2 rfl
  have g3 := hg 3 f3 rfl
  have g4 := hg 4 f4 rfl
  have g5 := hg 5 f5 rfl
  have g6 := hg 6 f6 rfl
  obtain ⟨o0, k0⟩ := hone_of hone 0 f0 rfl
  obtain ⟨o1, k1⟩ := hone_of hone 1 f1 rfl
  obtain ⟨o2, k2⟩ := hone_of hone 2 f2 rfl
  obtain ⟨o3, k3⟩ := hone_of hone 3 f3 rfl
  obtain ⟨o4, k4⟩ := hone_of hone 4 f4 rfl
  obtain ⟨o5, k5⟩ := hone_of hone 5 f5 rfl
  obtain ⟨o6, k6⟩ := hone_of hone 6 f6 rfl
  rw [o0, k0, List.getElem?_eq_getElem (by omega)] at g0
  rw [o1, k1, List.getElem?_eq_getElem (by omega)] at g1
  rw [o2, k2, List.getElem?_eq_getElem (by omega)] at g2
  rw [o3, k3, List.getElem?_eq_getElem (by omega)] at g3
  rw [o4, k4, List.getElem?_eq_getElem (by omega)] at g4
  rw [o5, k5, List.getElem?_eq_getElem (by omega)] at g5
  rw [o6, k6, List.getElem?_eq_getElem (by omega)] at g6
  obtain ⟨b, hb, -⟩ := DataW.trod_bool u0 g0
  obtain rfl : c0 = .bool b := by simpa [Value.cells] using hb
  obtain ⟨x1, rfl⟩ := trod_int u1 (v := c1) (by simpa [Value.cells] using g1)
  obtain ⟨x2, rfl⟩ := trod_int u2 (v := c2) (by simpa [Value.cells] using g2)
  obtain ⟨x3, rfl⟩ := trod_int u3 (v := c3) (by simpa [Value.cells] using g3)
  obtain ⟨x4, rfl⟩ := trod_int u4 (v := c4) (by simpa [Value.cells] using g4)
  obtain ⟨x5, rfl⟩ := trod_int u5 (v := c5) (by simpa [Value.cells] using g5)
  obtain ⟨x6, rfl⟩ := trod_int u6 (v := c6) (by simpa [Value.cells] using g6)
  exact ⟨b, x1, x2, x3, x4, x5, x6, rfl⟩

end Go.Proofs.Ytjkdjfagaakijaa
