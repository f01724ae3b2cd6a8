/- Layer 2: further arguments opened: a blank by value, a pair of numbers. -/
import Derived.Test.YtcojionipffanabCOpen
import Derived.OpenShut
namespace Go.Proofs.Ytcojionipffanab
open Go.RowKit Go.Deep Go.Joins Go.ChangeShapes Go.WideShapes Go.ChangeAt

set_option maxRecDepth 100000 in
theorem blank_parts : ∃ f0 f1 f2 : Field, Try.prog.underlying 49 = some (.struct #[f0, f1, f2]) ∧ oneCellFields Try.prog #[f0, f1, f2] = true ∧ Try.prog.cellsOf 49 = 3 ∧ Try.prog.underlying f0.type = some (.int .i64) ∧ Try.prog.underlying f1.type = some (.int .i64) ∧ Try.prog.underlying f2.type = some (.int .i64) :=
  ⟨_, _, _, Try.underlying49, by kernel_rfl, by kernel_rfl, Try.underlying3, Try.underlying3, Try.underlying3⟩
set_option maxRecDepth 100000 in
theorem open_blank {H : Type} {enc : TypeId × Value → H} {w : World} {base : Nat} {hd : Bool} {r : Reach} {b0 : Nat} {v : Value} {d : DataW H} {p : List MemPlace}
    (hv : Value.okWide Try.prog w r b0 49 v) (h : DataW.Trod enc Try.prog w base (fun _ => true) hd 49 v d p) :
    ∃ x y z : Int, v = .agg #[.int .i64 x, .int .i64 y, .int .i64 z] := by
  obtain ⟨f0, f1, f2, h1, h2, h3, h4, h5, h6⟩ := blank_parts
  obtain ⟨v0, v1, v2, y0, y1, y2, n, rfl, -, -, t0, t1, t2⟩ := open_agg3 h1 h2 h3 hv h
  obtain ⟨x, rfl⟩ := trod_int h4 t0
  obtain ⟨y, rfl⟩ := trod_int h5 t1
  obtain ⟨z, rfl⟩ := trod_int h6 t2
  exact ⟨x, y, z, rfl⟩
theorem two_cells : Try.prog.cellsOf 47 = 2 := by kernel_rfl
theorem int_cells : Try.prog.cellsOf 3 = 1 := by kernel_rfl
set_option maxRecDepth 100000 in
theorem open_two {H : Type} {enc : TypeId × Value → H} {w : World} {base : Nat} {hd : Bool} {r : Reach} {b0 : Nat} {v : Value} {d : DataW H} {p : List MemPlace}
    (hv : Value.okWide Try.prog w r b0 47 v) (h : DataW.Trod enc Try.prog w base (fun _ => true) hd 47 v d p) :
    ∃ x y : Int, v = .agg #[.int .i64 x, .int .i64 y] := by
  unfold Value.okWide at hv
  rw [Try.underlying47] at hv
  obtain ⟨cs, rfl, hsz, -⟩ := hv
  rw [two_cells] at hsz
  obtain ⟨c0, c1, rfl⟩ := array2 hsz
  obtain ⟨fuel, hf⟩ := h
  obtain ⟨xs, m, -, -, -, hl, hi⟩ := DataW.trod_array Try.underlying47 hf
  have h0 := hi 0 (by omega)
  have h1 := hi 1 (by omega)
  rw [int_cells, List.getElem?_eq_getElem (by omega)] at h0 h1
  obtain ⟨x, rfl⟩ := trod_int Try.underlying3 (v := c0) (by simpa [Value.cells] using h0)
  obtain ⟨y, rfl⟩ := trod_int Try.underlying3 (v := c1) (by simpa [Value.cells] using h1)
  exact ⟨x, y, rfl⟩
set_option maxRecDepth 100000 in
/-- A slice of numbers. -/
theorem open_numbers {H : Type} {enc : TypeId × Value → H} {w : World} {base : Nat} {hd : Bool} {fuel : Nat} {v : Value} {y : DataW H × List MemPlace} (h : DataW.trod enc Try.prog w base (fun _ => true) hd fuel 41 [v] = some y) :
    ∃ A n c ns, v = .slice A n c ∧ n ≤ c ∧ c ≤ maxLen ∧ (A = none → c = 0) ∧ List.length ns = n ∧ Ints w A ns := by
  rcases open_slice Try.underlying41 h with ⟨hc, -⟩ | ⟨a, len, cap, m, n, D, Pl, hc, -, hl, hm, hmm, -, hi⟩
  · obtain rfl : v = .slice none 0 0 := by simpa using hc
    exact ⟨none, 0, 0, [], rfl, Nat.le_refl _, Nat.zero_le _, fun _ => rfl, rfl, Rd_nil _ _⟩
  · obtain rfl : v = .slice (some a) len cap := by simpa using hc
    have hmc : m = cap := by simpa using hmm
    subst hmc
    refine ⟨some a, len, m, (List.range len).map fun i => intOf ((w.cell? (a.add i)).getD undef), rfl, hl, hm, (fun h => by cases h), by simp, fun i x hx => ?_⟩
    have hil : i < len := by have := (List.getElem?_eq_some_iff.1 hx).1; simpa using this
    obtain ⟨cs, h1, h2⟩ := hi i (by omega)
    rw [int_cells, Nat.mul_one] at h1
    obtain ⟨-, hlen, hat⟩ := World.cells?_some h1
    obtain ⟨z0, rfl⟩ : ∃ z, cs = [z] := List.length_eq_one_iff.1 hlen
    obtain ⟨z, rfl⟩ := trod_int Try.underlying3 h2
    have h3 := hat 0 (by omega)
    have e0 : (a.add i).add 0 = a.add i := by simp [Addr.add]
    rw [e0] at h3
    have h3 : w.cell? (a.add i) = some (.int .i64 z) := h3
    have hsp : a.spot = none := by
      obtain ⟨cs0, g1, -⟩ := hi 0 (by omega)
      rw [int_cells] at g1
      obtain ⟨-, glen, gat⟩ := World.cells?_some g1
      have g2 := gat 0 (by omega)
      rw [List.getElem?_eq_getElem (by omega)] at g2
      have e0 : (a.add (0 * 1)).add 0 = a := by rw [add_add, Nat.zero_mul, Nat.zero_add]; simp [Addr.add]
      rw [e0] at g2
      exact cell_spot g2
    obtain ⟨b, off, sp⟩ := a
    obtain rfl : sp = none := hsp
    have hx' : x = z := by
      rw [List.getElem?_map, List.getElem?_range hil, Option.map_some, h3] at hx
      have := Option.some.inj hx
      simpa [intOf] using this.symm
    subst hx'
    refine ⟨b, off, rfl, fun j u hu => ?_⟩
    match j, hu with
    | 0, hu =>
      obtain rfl := Option.some.inj hu
      rw [Nat.mul_one, Nat.add_zero]
      rw [Addr.add_lit] at h3
      exact h3
    | j + 1, hu => simp [enc1] at hu

end Go.Proofs.Ytcojionipffanab
