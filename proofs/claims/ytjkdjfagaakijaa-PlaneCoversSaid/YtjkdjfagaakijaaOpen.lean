/- A list of points that came in, opened as a list. -/
import Derived.Test.YtjkdjfagaakijaaOpenP
import Derived.Deep.SlicePairs
import Derived.SizedLaws
namespace Go.Proofs.Ytjkdjfagaakijaa
open Go.RowKit Go.Deep Go.Joins Go.ChangeShapes Go.WideShapes Go.ChangeAt

set_option maxRecDepth 100000 in
theorem point_two : ∃ f0 f1 : Field, Try.prog.underlying 40 = some (.struct #[f0, f1]) ∧ Try.prog.cellsOf 40 = 2 ∧ f0.offset = 0 ∧ f1.offset = 1 ∧ Try.prog.cellsOf f0.type = 1 ∧ Try.prog.cellsOf f1.type = 1 ∧
    Try.prog.underlying f0.type = some (.int .i64) ∧ Try.prog.underlying f1.type = some (.int .i64) :=
  ⟨_, _, Try.underlying40, by kernel_rfl, rfl, rfl, by kernel_rfl, by kernel_rfl, Try.underlying3, Try.underlying3⟩
theorem bytes_pt : Try.prog.bytesOf 40 = 16 := by kernel_rfl

set_option maxRecDepth 100000 in
/-- A list of points: the value, and the list that it reads as. -/
theorem open_points {H : Type} {enc : TypeId × Value → H} {w : World} {r : Reach} {b0 base : Nat} {v : Value} {d : DataW H} {p : List MemPlace} {ts : List TypeId} {ds : List (DataW H)} {j : Nat}
    (hv : Value.okWide Try.prog w r b0 22 v) (h : DataW.Trod enc Try.prog w base (fun _ => true) true 22 v d p)
    (hz : (DataW.weightsEach Try.prog ts ds).all (· ≤ reachBytes) = true) (hj : ts[j]? = some 22) (hd : ds[j]? = some d) :
    ∃ (A : Option Addr) (n c : Nat) (ps : List (Int × Int)), v = .slice A n c ∧ n ≤ c ∧ ps.length = n ∧ n ≤ 8796093022208 ∧ Pts w A ps ∧ (A = none → c = 0) := by
  obtain ⟨f0, f1, he, ce, o0, o1, c0, c1, u0, u1⟩ := point_two
  obtain ⟨a0, l0, k0, rfl⟩ := okWide_slice Try.underlying22 hv
  obtain ⟨fuel, hf⟩ := h
  rcases open_slice_pairs Try.underlying22 he ce o0 o1 c0 c1 hf with ⟨hc, hx⟩ | ⟨a, len, cap, m, n, V0, V1, D0, D1, P0, P1, hc, hb, hl, hm, hmm, hx, hi⟩
  · have e : Value.slice a0 l0 k0 = .slice none 0 0 := by simpa [Value.cells] using hc
    exact ⟨none, 0, 0, [], e, Nat.le_refl _, rfl, by omega, fun i x hx => by simp at hx, fun _ => rfl⟩
  · have e : Value.slice a0 l0 k0 = .slice (some a) len cap := by simpa [Value.cells] using hc
    have hdd : d = .slice ((List.range len).map fun i => .agg [D0 i, D1 i]) ((List.range (m - len)).map fun j => .agg [D0 (len + j), D1 (len + j)]) := (Prod.mk.inj hx).1
    have hs := sized_slice hz hj (hd.trans (by rw [hdd])) Try.underlying22
    rw [bytes_pt] at hs
    have hr := reachBytes_lt
    simp only [List.length_map, List.length_range] at hs
    refine ⟨some a, len, cap, (List.range len).map fun i => (intOf (V0 i), intOf (V1 i)), e, hl, by simp, by omega, fun i x hxi => ?_, fun h => by cases h⟩
    have hil : i < len := by
      have := (List.getElem?_eq_some_iff.1 hxi).1
      simpa using this
    have hm' : m = cap := by simpa using hmm
    obtain ⟨z0, -, -, -⟩ := hi 0 (by omega)
    have sp : a.spot = none := by rw [Nat.zero_mul, Addr.add, if_pos rfl] at z0; exact cell_spot z0
    obtain ⟨b, off, spt⟩ := a
    obtain rfl : spt = none := sp
    obtain ⟨g0, g1, t0, t1⟩ := hi i (by omega)
    obtain ⟨x0, e0⟩ := trod_int u0 t0
    obtain ⟨x1, e1⟩ := trod_int u1 t1
    obtain rfl : (intOf (V0 i), intOf (V1 i)) = x := by simpa [hil] using hxi
    rw [e0] at g0
    rw [e1] at g1
    rw [e0, e1]
    refine ⟨b, off, rfl, fun j v hv => ?_⟩
    rw [add_plain] at g0 g1
    match j, hv with
    | 0, hv => simp [enc2, intOf] at hv; subst hv; exact g0
    | 1, hv => simp [enc2, intOf] at hv; subst hv; rw [Nat.add_assoc]; exact g1
    | j + 2, hv => simp [enc2] at hv

end Go.Proofs.Ytjkdjfagaakijaa
