/- What every row asks of the translation, and arguments opened to lists. -/
import Derived.Test.YtnoeiocbmhkmeaaRow
import Derived.Test.YtnoeiocbmhkmeaaRows
import Derived.ProofKit
import Derived.Lib.SmallJoins
import Derived.Deep.Slices
import Derived.Deep.Fields
import Derived.ChangeSame
namespace Go.Proofs.Ytnoeiocbmhkmeaa
open Go.RowKit Go.Deep Go.Joins Go.ChangeShapes Go.WideShapes Go.ChangeAt

theorem own_knob : ownKnob Try.prog.godebug = none := by kernel_rfl
theorem laid_out : laidOutB Try.prog = true := by kernel_rfl
section
variable {H : Type} {enc : TypeId × Value → H} {P : Program} {w : World} {base : Nat} {sp : Nat → Bool} {hd : Bool}
theorem trod_int {t : TypeId} (ht : P.underlying t = some (.int .i64)) {n : Nat} {v : Value} {y : DataW H × List MemPlace}
    (h : DataW.trod enc P w base sp hd n t [v] = some y) : ∃ i, v = .int .i64 i := by
  cases n with
  | zero => simp [DataW.trod] at h
  | succ n =>
    unfold DataW.trod at h
    rw [ht] at h
    split at h <;> simp_all
end
theorem cell_spot {w : World} {a : Addr} {v : Value} (h : w.cell? a = some v) : a.spot = none := by
  unfold World.cell? at h
  split at h
  · split at h
    · cases h
    · rename_i hs; simpa using hs
  · cases h

section
variable {H : Type} {enc : TypeId × Value → H} {P : Program} {w : World} {base : Nat} {hd : Bool}
/-- A slice of structs whose fields are ints: every number in its cell. -/
theorem open_records {t e : TypeId} {fs : Array Field} {fuel : Nat} {v : Value} {y : DataW H × List MemPlace} (ht : P.underlying t = some (.slice e)) (he : P.underlying e = some (.struct fs)) (hone : oneCellFields P fs = true) (hC : P.cellsOf e = fs.size)
    (hint : ∀ (j : Nat) (f : Field), fs[j]? = some f → P.underlying f.type = some (.int .i64)) (h0 : 0 < fs.size) (h : DataW.trod enc P w base (fun _ => true) hd fuel t [v] = some y) :
    ∃ A n c, v = .slice A n c ∧ n ≤ c ∧ c ≤ maxLen ∧ (A = none → c = 0) ∧ ∃ Z : Nat → Nat → Int, ∀ i, i < c → ∀ j, j < fs.size → ∃ b off, A = some ⟨b, off, none⟩ ∧ w.cell? ⟨b, off + i * fs.size + j, none⟩ = some (.int .i64 (Z i j)) := by
  rcases open_slice ht h with ⟨hc, -⟩ | ⟨a, len, cap, m, n, D, Pl, hc, -, hl, hm, hmm, -, hi⟩
  · obtain rfl : v = .slice none 0 0 := by simpa using hc
    exact ⟨none, 0, 0, rfl, Nat.le_refl _, Nat.zero_le _, fun _ => rfl, fun _ _ => 0, fun i hi => by omega⟩
  · obtain rfl : v = .slice (some a) len cap := by simpa using hc
    have hmc : m = cap := by simpa using hmm
    subst hmc
    refine ⟨some a, len, m, rfl, hl, hm, (fun h => by cases h), fun i j => intOf ((w.cell? (a.add (i * fs.size + j))).getD undef), fun i him j hj => ?_⟩
    obtain ⟨cs, h1, h2⟩ := hi i him
    rw [hC] at h1
    obtain ⟨-, hlen, hat⟩ := World.cells?_some h1
    obtain ⟨xs, k, -, -, -, hxl, hf⟩ := DataW.trod_struct he h2
    obtain ⟨f, hfj⟩ : ∃ f, fs[j]? = some f := ⟨_, Array.getElem?_eq_getElem hj⟩
    obtain ⟨o1, o2⟩ := hone_of hone j f hfj
    have h3 := hf j f hfj
    rw [o1, o2, List.getElem?_eq_getElem (by omega)] at h3
    have h4 : (cs.drop j).take 1 = [cs[j]'(by omega)] := by rw [List.drop_eq_getElem_cons (by omega)]; rfl
    rw [h4] at h3
    obtain ⟨z, hz⟩ := trod_int (hint j f hfj) h3
    have h5 := hat j hj
    rw [add_add, List.getElem?_eq_getElem (by omega), hz] at h5
    have hsp : a.spot = none := by
      obtain ⟨cs0, g1, -⟩ := hi 0 (by omega)
      rw [hC] at g1
      obtain ⟨-, glen, gat⟩ := World.cells?_some g1
      have g2 := gat 0 h0
      rw [List.getElem?_eq_getElem (by omega)] at g2
      have e0 : (a.add (0 * fs.size)).add 0 = a := by rw [add_add, Nat.zero_mul, Nat.zero_add]; simp [Addr.add]
      rw [e0] at g2
      exact cell_spot g2
    obtain ⟨b, off, sp⟩ := a
    obtain rfl : sp = none := hsp
    refine ⟨b, off, rfl, ?_⟩
    have h6 := h5
    rw [Addr.add_lit] at h6
    rw [Nat.add_assoc, h6]
    show _ = some (Value.int .i64 (intOf ((w.cell? ((⟨b, off, none⟩ : Addr).add (i * fs.size + j))).getD undef)))
    rw [h5]
    rfl
end
/-- A slice as a value is one cell. -/
theorem slice_one {P : Program} {w : World} {r : Reach} {b0 : Nat} {t e : TypeId} {v : Value} (ht : P.underlying t = some (.slice e)) (hv : Value.okWide P w r b0 t v) : ∃ u : Value, v.cells.toList = [u] ∧ v = u := by
  obtain ⟨a0, l0, k0, rfl⟩ := okWide_slice ht hv
  exact ⟨_, by simp [Value.cells], rfl⟩

end Go.Proofs.Ytnoeiocbmhkmeaa
