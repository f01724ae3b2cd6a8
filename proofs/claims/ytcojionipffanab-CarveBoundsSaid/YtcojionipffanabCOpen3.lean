/- Layer 2: a table of numbers opened. -/
import Derived.Test.YtcojionipffanabCOpen
import Derived.Test.YtcojionipffanabCTab
import Derived.Deep.Matrix
namespace Go.Proofs.Ytcojionipffanab
open Go.RowKit Go.Deep Go.Joins Go.ChangeShapes Go.WideShapes Go.ChangeAt

theorem ints_cells1 : Try.prog.cellsOf 41 = 1 := by kernel_rfl
theorem int_cells1 : Try.prog.cellsOf 3 = 1 := by kernel_rfl
theorem spot_of {w : World} {a : Addr} {i : Nat} {v : Value} (h : w.cell? (a.add i) = some v) : ∃ b o, a.add i = ⟨b, o, none⟩ ∧ (a.spot = none → ∃ off, a = ⟨b, off, none⟩ ∧ o = off + i) := by
  have hs := cell_spot h
  obtain ⟨b, off, sp⟩ := a
  refine ⟨(Addr.add ⟨b, off, sp⟩ i).block, (Addr.add ⟨b, off, sp⟩ i).off, ?_, fun e => ?_⟩
  · cases hx : Addr.add ⟨b, off, sp⟩ i with
    | mk b' o' s' => rw [hx] at hs; dsimp only at hs; subst hs; rfl
  · dsimp only at e
    subst e
    rw [Addr.add_lit]
    exact ⟨off, rfl, rfl⟩
theorem spot_zero {w : World} {a : Addr} {v : Value} (h : w.cell? (a.add 0) = some v) : a.spot = none := by
  have e0 : a.add 0 = a := by simp [Addr.add]
  rw [e0] at h
  exact cell_spot h
set_option maxRecDepth 100000 in
theorem open_table {H : Type} {enc : TypeId × Value → H} {w : World} {base : Nat} {hd : Bool} {fuel : Nat} {v : Value} {y : DataW H × List MemPlace} (h : DataW.trod enc Try.prog w base (fun _ => true) hd fuel 36 [v] = some y) :
    ∃ A n c tb, v = .slice A n c ∧ n ≤ c ∧ c ≤ maxLen ∧ (A = none → c = 0) ∧ List.length tb = n ∧ RdT w A tb := by
  rcases open_int_rows Try.underlying36 Try.underlying41 Try.underlying3 ints_cells1 int_cells1 h with ⟨hc, -⟩ | ⟨a, len, cap, A, L, C, Z, hc, -, hl, hm, -, hi⟩
  · obtain rfl : v = .slice none 0 0 := by simpa using hc
    exact ⟨none, 0, 0, [], rfl, Nat.le_refl _, Nat.zero_le _, fun _ => rfl, rfl, fun i row hr => by simp at hr⟩
  · obtain rfl : v = .slice (some a) len cap := by simpa using hc
    refine ⟨some a, len, cap, (List.range len).map fun r => (Z r).take (L r), rfl, hl, hm, (fun h => by cases h), by simp, fun i row hr => ?_⟩
    have hil : i < len := by have := (List.getElem?_eq_some_iff.1 hr).1; simpa using this
    obtain ⟨g1, g2, g3, g4, -, g5, g6⟩ := hi i (by omega)
    have hrow : row = (Z i).take (L i) := by
      rw [List.getElem?_map, List.getElem?_range hil, Option.map_some] at hr
      exact (Option.some.inj hr).symm
    have hlr : row.length = L i := by rw [hrow, List.length_take, g4]; omega
    have hsp : a.spot = none := spot_zero (hi 0 (by omega)).1
    obtain ⟨b, o, e1, e2⟩ := spot_of g1
    obtain ⟨off, rfl, rfl⟩ := e2 hsp
    rw [e1] at g1
    refine ⟨b, off, A i, C i, rfl, by rw [hlr]; exact g1, by omega, g3, g5, fun j x hx => ?_⟩
    have hj : j < L i := by have := (List.getElem?_eq_some_iff.1 hx).1; omega
    cases hA : A i with
    | none => have := g5 hA; omega
    | some a' =>
      obtain ⟨-, hcell⟩ := g6 a' hA
      have hsp' : a'.spot = none := spot_zero (hcell 0 (by omega))
      have hc := hcell j (by omega)
      obtain ⟨b', o', f1, f2⟩ := spot_of hc
      obtain ⟨off', rfl, rfl⟩ := f2 hsp'
      rw [f1] at hc
      refine ⟨b', off', rfl, fun t u hu => ?_⟩
      have hxz : x = (Z i).getD j 0 := by
        rw [hrow, List.getElem?_take, if_pos hj] at hx
        rw [List.getD_eq_getElem?_getD, hx]; rfl
      match t, hu with
      | 0, hu =>
        obtain rfl := Option.some.inj hu
        rw [Nat.mul_one, Nat.add_zero, hc, hxz]
      | t + 1, hu => simp [enc1] at hu

end Go.Proofs.Ytcojionipffanab
