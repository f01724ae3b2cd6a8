/- A pair of numbers that came in, opened. -/
import Derived.Test.YtfmojiaaoebodaaLift
import Derived.OpenShut
namespace Go.Proofs.Ytfmojiaaoebodaa
open Go.RowKit Go.Deep Go.Joins Go.ChangeShapes Go.WideShapes Go.ChangeAt

theorem two_cells : Try.prog.cellsOf 67 = 2 := by kernel_rfl
theorem int_cells : Try.prog.cellsOf 3 = 1 := by kernel_rfl
set_option maxRecDepth 100000 in
theorem open_two {H : Type} {enc : TypeId × Value → H} {w : World} {base : Nat} {hd : Bool} {r : Reach} {b0 : Nat} {v : Value} {d : DataW H} {p : List MemPlace}
    (hv : Value.okWide Try.prog w r b0 67 v) (h : DataW.Trod enc Try.prog w base (fun _ => true) hd 67 v d p) :
    ∃ x y : Int, v = .agg #[.int .i64 x, .int .i64 y] := by
  unfold Value.okWide at hv
  rw [Try.underlying67] at hv
  obtain ⟨cs, rfl, hsz, -⟩ := hv
  rw [two_cells] at hsz
  obtain ⟨c0, c1, rfl⟩ := array2 hsz
  obtain ⟨fuel, hf⟩ := h
  obtain ⟨xs, m, -, -, -, hl, hi⟩ := DataW.trod_array Try.underlying67 hf
  have h0 := hi 0 (by omega)
  have h1 := hi 1 (by omega)
  rw [int_cells, List.getElem?_eq_getElem (by omega)] at h0 h1
  obtain ⟨x, rfl⟩ := trod_int Try.underlying3 (v := c0) (by simpa [Value.cells] using h0)
  obtain ⟨y, rfl⟩ := trod_int Try.underlying3 (v := c1) (by simpa [Value.cells] using h1)
  exact ⟨x, y, rfl⟩

end Go.Proofs.Ytfmojiaaoebodaa
