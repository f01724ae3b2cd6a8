/- Layer 2: tasks, steps and tables that came in, opened as lists. -/
import Derived.Test.YthleajmamkihaaaLift
import Derived.Test.YthleajmamkihaaaCTable
namespace Go.Proofs.Ythleajmamkihaaa
open Go.RowKit Go.Deep Go.Joins Go.ChangeShapes Go.WideShapes Go.ChangeAt

set_option maxRecDepth 100000 in
theorem blank_fields : ∃ fs : Array Field, Try.prog.underlying 39 = some (.struct fs) ∧ fs.size = 3 ∧ oneCellFields Try.prog fs = true ∧ Try.prog.cellsOf 39 = 3 ∧ ∀ (j : Nat) (f : Field), fs[j]? = some f → Try.prog.underlying f.type = some (.int .i64) :=
  ⟨_, Try.underlying39, rfl, by kernel_rfl, by kernel_rfl, fun j f h => by
    match j, h with
    | 0, h => obtain rfl := Option.some.inj h; exact Try.underlying3
    | 1, h => obtain rfl := Option.some.inj h; exact Try.underlying3
    | 2, h => obtain rfl := Option.some.inj h; exact Try.underlying3⟩
set_option maxRecDepth 100000 in
theorem step_fields : ∃ fs : Array Field, Try.prog.underlying 74 = some (.struct fs) ∧ fs.size = 2 ∧ oneCellFields Try.prog fs = true ∧ Try.prog.cellsOf 74 = 2 ∧ ∀ (j : Nat) (f : Field), fs[j]? = some f → Try.prog.underlying f.type = some (.int .i64) :=
  ⟨_, Try.underlying74, rfl, by kernel_rfl, by kernel_rfl, fun j f h => by
    match j, h with
    | 0, h => obtain rfl := Option.some.inj h; exact Try.underlying3
    | 1, h => obtain rfl := Option.some.inj h; exact Try.underlying3⟩

section
variable {H : Type} {enc : TypeId × Value → H} {w : World} {base : Nat} {hd : Bool}
theorem open_blanks {fuel : Nat} {v : Value} {y : DataW H × List MemPlace} (h : DataW.trod enc Try.prog w base (fun _ => true) hd fuel 22 [v] = some y) :
    ∃ A n c bs, v = .slice A n c ∧ n ≤ c ∧ c ≤ maxLen ∧ (A = none → c = 0) ∧ List.length bs = n ∧ Tris w A bs := by
  obtain ⟨fs, h1, h2, h3, h4, h5⟩ := blank_fields
  obtain ⟨A, n, c, rfl, hc, hm, h0, Z, hZ⟩ := open_records Try.underlying22 h1 h3 (by rw [h4, h2]) h5 (by omega) h
  refine ⟨A, n, c, (List.range n).map fun i => (Z i 0, Z i 1, Z i 2), rfl, hc, hm, h0, by simp, fun i x hx => ?_⟩
  have hi : i < n := by have := (List.getElem?_eq_some_iff.1 hx).1; simpa using this
  obtain rfl : (Z i 0, Z i 1, Z i 2) = x := by simpa [hi] using hx
  obtain ⟨b, off, e, c0⟩ := hZ i (by omega) 0 (by omega)
  obtain ⟨b1, off1, e1, c1⟩ := hZ i (by omega) 1 (by omega)
  obtain ⟨b2, off2, e2, c2⟩ := hZ i (by omega) 2 (by omega)
  subst e
  obtain ⟨rfl, rfl⟩ : b = b1 ∧ off = off1 := by simpa using e1
  obtain ⟨rfl, rfl⟩ : b = b2 ∧ off = off2 := by simpa using e2
  rw [h2] at c0 c1 c2
  refine ⟨b, off, rfl, fun j v hv => ?_⟩
  match j, hv with
  | 0, hv => obtain rfl := Option.some.inj hv; exact c0
  | 1, hv => obtain rfl := Option.some.inj hv; exact c1
  | 2, hv => obtain rfl := Option.some.inj hv; exact c2
  | j + 3, hv => simp [enc3] at hv
theorem open_steps {fuel : Nat} {v : Value} {y : DataW H × List MemPlace} (h : DataW.trod enc Try.prog w base (fun _ => true) hd fuel 40 [v] = some y) :
    ∃ A n c ps, v = .slice A n c ∧ n ≤ c ∧ c ≤ maxLen ∧ (A = none → c = 0) ∧ List.length ps = n ∧ Pts w A ps := by
  obtain ⟨fs, h1, h2, h3, h4, h5⟩ := step_fields
  obtain ⟨A, n, c, rfl, hc, hm, h0, Z, hZ⟩ := open_records Try.underlying40 h1 h3 (by rw [h4, h2]) h5 (by omega) h
  refine ⟨A, n, c, (List.range n).map fun i => (Z i 0, Z i 1), rfl, hc, hm, h0, by simp, fun i x hx => ?_⟩
  have hi : i < n := by have := (List.getElem?_eq_some_iff.1 hx).1; simpa using this
  obtain rfl : (Z i 0, Z i 1) = x := by simpa [hi] using hx
  obtain ⟨b, off, e, c0⟩ := hZ i (by omega) 0 (by omega)
  obtain ⟨b1, off1, e1, c1⟩ := hZ i (by omega) 1 (by omega)
  subst e
  obtain ⟨rfl, rfl⟩ : b = b1 ∧ off = off1 := by simpa using e1
  rw [h2] at c0 c1
  refine ⟨b, off, rfl, fun j v hv => ?_⟩
  match j, hv with
  | 0, hv => obtain rfl := Option.some.inj hv; exact c0
  | 1, hv => obtain rfl := Option.some.inj hv; exact c1
  | j + 2, hv => simp [enc2] at hv
end
set_option maxRecDepth 100000 in
theorem task_fields : ∃ f0 f1 f2 : Field, Try.prog.underlying 24 = some (.struct #[f0, f1, f2]) ∧ oneCellFields Try.prog #[f0, f1, f2] = true ∧ Try.prog.cellsOf 24 = 3 ∧ Try.prog.underlying f0.type = some (.int .i64) ∧ Try.prog.underlying f1.type = some (.int .i64) ∧ f2.type = 22 :=
  ⟨_, _, _, Try.underlying24, by kernel_rfl, by kernel_rfl, Try.underlying3, Try.underlying3, rfl⟩
set_option maxRecDepth 100000 in
/-- A task by value. -/
theorem open_task {H : Type} {enc : TypeId × Value → H} {w : World} {base : Nat} {hd : Bool} {r : Reach} {b0 : Nat} {v : Value} {d : DataW H} {p : List MemPlace}
    (hv : Value.okWide Try.prog w r b0 24 v) (h : DataW.Trod enc Try.prog w base (fun _ => true) hd 24 v d p) :
    ∃ W0 H0 A n c bs, v = .agg #[.int .i64 W0, .int .i64 H0, .slice A n c] ∧ n ≤ c ∧ c ≤ maxLen ∧ (A = none → c = 0) ∧ List.length bs = n ∧ Tris w A bs := by
  obtain ⟨f0, f1, f2, h1, h2, h3, h4, h5, h6⟩ := task_fields
  obtain ⟨v0, v1, v2, y0, y1, y2, n, rfl, -, -, t0, t1, t2⟩ := open_agg3 h1 h2 h3 hv h
  obtain ⟨x, rfl⟩ := trod_int h4 t0
  obtain ⟨y, rfl⟩ := trod_int h5 t1
  rw [h6] at t2
  obtain ⟨A, m, c, bs, rfl, r1, r2, r3, r4, r5⟩ := open_blanks t2
  exact ⟨x, y, A, m, c, bs, rfl, r1, r2, r3, r4, r5⟩

end Go.Proofs.Ythleajmamkihaaa
