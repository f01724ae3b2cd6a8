/- A pair of numbers that came in, opened.
Layer 4: arguments that came in, opened: jobs, slots, spans, an answer. -/
import Derived.Test.YtpnkpejnahhajaaGreatBu2
import Derived.OpenShut
import Derived.Test.YtpnkpejnahhajaaGreatBu23
namespace Go.Proofs.YtpnkpejnahhajaaGreat
open Go.RowKit Go.Deep Go.Joins Go.ChangeShapes Go.WideShapes Go.ChangeAt

end Go.Proofs.YtpnkpejnahhajaaGreat

namespace Go.Proofs.YtpnkpejnahhajaaGreat
open Go.RowKit Go.Deep Go.Joins Go.ChangeShapes Go.WideShapes Go.ChangeAt

section
variable {H : Type} {enc : TypeId × Value → H} {P : Program} {w : World} {base : Nat} {hd : Bool}
end
set_option maxRecDepth 100000 in
theorem jobs_fields : ∃ fs : Array Field, Tryz.prog.underlying 39 = some (.struct fs) ∧ fs.size = 3 ∧ oneCellFields Tryz.prog fs = true ∧ Tryz.prog.cellsOf 39 = 3 ∧ ∀ (j : Nat) (f : Field), fs[j]? = some f → Tryz.prog.underlying f.type = some (.int .i64) :=
  ⟨_, Tryz.underlying39, rfl, by kernel_rfl, by kernel_rfl, fun j f h => by
    match j, h with
    | 0, h => obtain rfl := Option.some.inj h; exact Tryz.underlying3
    | 1, h => obtain rfl := Option.some.inj h; exact Tryz.underlying3
    | 2, h => obtain rfl := Option.some.inj h; exact Tryz.underlying3⟩
section
variable {H : Type} {enc : TypeId × Value → H} {w : World} {base : Nat} {hd : Bool}
set_option maxRecDepth 100000 in
theorem open_jobs {fuel : Nat} {v : Value} {y : DataW H × List MemPlace} (h : DataW.trod enc Tryz.prog w base (fun _ => true) hd fuel 22 [v] = some y) :
    ∃ A n c bs, v = .slice A n c ∧ n ≤ c ∧ c ≤ maxLen ∧ (A = none → c = 0) ∧ List.length bs = n ∧ Rd 3 enc3 w A bs := by
  obtain ⟨fs, h1, h2, h3, h4, h5⟩ := jobs_fields
  obtain ⟨A, n, c, rfl, hc, hm, h0, Z, hZ⟩ := open_records Tryz.underlying22 h1 h3 (by rw [h4, h2]) h5 (by omega) h
  refine ⟨A, n, c, (List.range n).map fun i => (Z i 0, Z i 1, Z i 2), rfl, hc, hm, h0, by simp, fun i x hx => ?_⟩
  have hi : i < n := by have := (List.getElem?_eq_some_iff.1 hx).1; simpa using this
  obtain rfl : (Z i 0, Z i 1, Z i 2) = x := by simpa [hi] using hx
  obtain ⟨b, off, e, c0⟩ := hZ i (by omega) 0 (by omega)
  obtain ⟨b1, off1, e1, c1⟩ := hZ i (by omega) 1 (by omega)
  obtain ⟨b2, off2, e2, c2⟩ := hZ i (by omega) 2 (by omega)
  subst e
  obtain ⟨rfl, rfl⟩ : b = b1 ∧ off = off1 := by simpa using e1
  obtain ⟨rfl, rfl⟩ : b = b2 ∧ off = off2 := by simpa using e2
  rw [h2] at c0 c1 c2
  refine ⟨b, off, rfl, fun j v hv => ?_⟩
  match j, hv with
  | 0, hv => obtain rfl := Option.some.inj hv; exact c0
  | 1, hv => obtain rfl := Option.some.inj hv; exact c1
  | 2, hv => obtain rfl := Option.some.inj hv; exact c2
  | j + 3, hv => simp [enc3] at hv
end
end Go.Proofs.YtpnkpejnahhajaaGreat
