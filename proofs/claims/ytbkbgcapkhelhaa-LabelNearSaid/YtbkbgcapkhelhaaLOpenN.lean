/- Lists of numbers that came in, opened as lists. -/
import Derived.Test.YtbkbgcapkhelhaaLOpen
import Derived.Deep.SlicePairs
import Derived.SizedLaws
namespace Go.Proofs.Ytbkbgcapkhelhaa
open Go.RowKit Go.Deep Go.Joins Go.ChangeShapes Go.WideShapes Go.ChangeAt

theorem int_cells : Try.prog.cellsOf 3 = 1 := by kernel_rfl
set_option maxRecDepth 100000 in
theorem open_numbers {H : Type} {enc : TypeId × Value → H} {w : World} {base : Nat} {hd : Bool} {fuel : Nat} {v : Value} {y : DataW H × List MemPlace} (h : DataW.trod enc Try.prog w base (fun _ => true) hd fuel 34 [v] = some y) :
    ∃ A n c ns, v = .slice A n c ∧ n ≤ c ∧ c ≤ maxLen ∧ (A = none → c = 0) ∧ List.length ns = n ∧ Ints w A ns := by
  rcases open_slice Try.underlying34 h with ⟨hc, -⟩ | ⟨a, len, cap, m, n, D, Pl, hc, -, hl, hm, hmm, -, hi⟩
  · obtain rfl : v = .slice none 0 0 := by simpa using hc
    exact ⟨none, 0, 0, [], rfl, Nat.le_refl _, Nat.zero_le _, fun _ => rfl, rfl, Rd_nil _ _⟩
  · obtain rfl : v = .slice (some a) len cap := by simpa using hc
    have hmc : m = cap := by simpa using hmm
    subst hmc
    refine ⟨some a, len, m, (List.range len).map fun i => intOf ((w.cell? (a.add i)).getD undef), rfl, hl, hm, (fun h => by cases h), by simp, fun i x hx => ?_⟩
    have hil : i < len := by have := (List.getElem?_eq_some_iff.1 hx).1; simpa using this
    obtain ⟨cs, h1, h2⟩ := hi i (by omega)
    rw [int_cells, Nat.mul_one] at h1
    obtain ⟨-, hlen, hat⟩ := World.cells?_some h1
    obtain ⟨z0, rfl⟩ : ∃ z, cs = [z] := List.length_eq_one_iff.1 hlen
    obtain ⟨z, rfl⟩ := trod_int Try.underlying3 h2
    have h3 := hat 0 (by omega)
    have e0 : (a.add i).add 0 = a.add i := by simp [Addr.add]
    rw [e0] at h3
    have h3 : w.cell? (a.add i) = some (.int .i64 z) := h3
    have hsp : a.spot = none := by
      obtain ⟨cs0, g1, -⟩ := hi 0 (by omega)
      rw [int_cells] at g1
      obtain ⟨-, glen, gat⟩ := World.cells?_some g1
      have g2 := gat 0 (by omega)
      rw [List.getElem?_eq_getElem (by omega)] at g2
      have e0 : (a.add (0 * 1)).add 0 = a := by rw [add_add, Nat.zero_mul, Nat.zero_add]; simp [Addr.add]
      rw [e0] at g2
      exact cell_spot g2
    obtain ⟨b, off, sp⟩ := a
    obtain rfl : sp = none := hsp
    have hx' : x = z := by
      rw [List.getElem?_map, List.getElem?_range hil, Option.map_some, h3] at hx
      have := Option.some.inj hx
      simpa [intOf] using this.symm
    subst hx'
    refine ⟨b, off, rfl, fun j u hu => ?_⟩
    match j, hu with
    | 0, hu =>
      obtain rfl := Option.some.inj hu
      rw [Nat.mul_one, Nat.add_zero]
      rw [Addr.add_lit] at h3
      exact h3
    | j + 1, hu => simp [enc1] at hu
end Go.Proofs.Ytbkbgcapkhelhaa
