/- Layer 2: further arguments opened: a blank by value, a pair of numbers. -/
import Derived.Test.YtcojionipffanabCOpen
import Derived.OpenShut
namespace Go.Proofs.Ytcojionipffanab
open Go.RowKit Go.Deep Go.Joins Go.ChangeShapes Go.WideShapes Go.ChangeAt

set_option maxRecDepth 100000 in
theorem blank_parts : ∃ f0 f1 f2 : Field, Try.prog.underlying 49 = some (.struct #[f0, f1, f2]) ∧ oneCellFields Try.prog #[f0, f1, f2] = true ∧ Try.prog.cellsOf 49 = 3 ∧ Try.prog.underlying f0.type = some (.int .i64) ∧ Try.prog.underlying f1.type = some (.int .i64) ∧ Try.prog.underlying f2.type = some (.int .i64) :=
  ⟨_, _, _, Try.underlying49, by kernel_rfl, by kernel_rfl, Try.underlying3, Try.underlying3, Try.underlying3⟩
set_option maxRecDepth 100000 in
theorem open_blank {H : Type} {enc : TypeId × Value → H} {w : World} {base : Nat} {hd : Bool} {r : Reach} {b0 : Nat} {v : Value} {d : DataW H} {p : List MemPlace}
    (hv : Value.okWide Try.prog w r b0 49 v) (h : DataW.Trod enc Try.prog w base (fun _ => true) hd 49 v d p) :
    ∃ x y z : Int, v = .agg #[.int .i64 x, .int .i64 y, .int .i64 z] := by
  obtain ⟨f0, f1, f2, h1, h2, h3, h4, h5, h6⟩ := blank_parts
  obtain ⟨v0, v1, v2, y0, y1, y2, n, rfl, -, -, t0, t1, t2⟩ := open_agg3 h1 h2 h3 hv h
  obtain ⟨x, rfl⟩ := trod_int h4 t0
  obtain ⟨y, rfl⟩ := trod_int h5 t1
  obtain ⟨z, rfl⟩ := trod_int h6 t2
  exact ⟨x, y, z, rfl⟩
theorem two_cells : Try.prog.cellsOf 47 = 2 := by kernel_rfl
theorem int_cells : Try.prog.cellsOf 3 = 1 := by kernel_rfl
set_option maxRecDepth 100000 in
theorem open_two {H : Type} {enc : TypeId × Value → H} {w : World} {base : Nat} {hd : Bool} {r : Reach} {b0 : Nat} {v : Value} {d : DataW H} {p : List MemPlace}
    (hv : Value.okWide Try.prog w r b0 47 v) (h : DataW.Trod enc Try.prog w base (fun _ => true) hd 47 v d p) :
    ∃ x y : Int, v = .agg #[.int .i64 x, .int .i64 y] := by
  unfold Value.okWide at hv
  rw [Try.underlying47] at hv
  obtain ⟨cs, rfl, hsz, -⟩ := hv
  rw [two_cells] at hsz
  obtain ⟨c0, c1, rfl⟩ := array2 hsz
  obtain ⟨fuel, hf⟩ := h
  obtain ⟨xs, m, -, -, -, hl, hi⟩ := DataW.trod_array Try.underlying47 hf
  have h0 := hi 0 (by omega)
  have h1 := hi 1 (by omega)
  rw [int_cells, List.getElem?_eq_getElem (by omega)] at h0 h1
  obtain ⟨x, rfl⟩ := trod_int Try.underlying3 (v := c0) (by simpa [Value.cells] using h0)
  obtain ⟨y, rfl⟩ := trod_int Try.underlying3 (v := c1) (by simpa [Value.cells] using h1)
  exact ⟨x, y, rfl⟩
end Go.Proofs.Ytcojionipffanab
