/- A slice of triples that came in, opened. -/
import Derived.Test.YtjkdjfagaakijaaLift
import Derived.OpenShut
namespace Go.Proofs.Ytjkdjfagaakijaa
open Go.RowKit Go.Deep Go.Joins Go.ChangeShapes Go.WideShapes Go.ChangeAt

section
variable {H : Type} {enc : TypeId × Value → H} {P : Program} {w : World} {base : Nat} {hd : Bool}
theorem open_arrays {t e ei : TypeId} {k0 : Nat} {fuel : Nat} {v : Value} {y : DataW H × List MemPlace} (ht : P.underlying t = some (.slice e)) (he : P.underlying e = some (.array k0 ei)) (hC : P.cellsOf e = k0) (h1' : P.cellsOf ei = 1)
    (hint : P.underlying ei = some (.int .i64)) (h0 : 0 < k0) (h : DataW.trod enc P w base (fun _ => true) hd fuel t [v] = some y) :
    ∃ A n c, v = .slice A n c ∧ n ≤ c ∧ c ≤ maxLen ∧ (A = none → c = 0) ∧ ∃ Z : Nat → Nat → Int, ∀ i, i < c → ∀ j, j < k0 → ∃ b off, A = some ⟨b, off, none⟩ ∧ w.cell? ⟨b, off + i * k0 + j, none⟩ = some (.int .i64 (Z i j)) := by
  rcases open_slice ht h with ⟨hc, -⟩ | ⟨a, len, cap, m, n, D, Pl, hc, -, hl, hm, hmm, -, hi⟩
  · obtain rfl : v = .slice none 0 0 := by simpa using hc
    exact ⟨none, 0, 0, rfl, Nat.le_refl _, Nat.zero_le _, fun _ => rfl, fun _ _ => 0, fun i hi => by omega⟩
  · obtain rfl : v = .slice (some a) len cap := by simpa using hc
    have hmc : m = cap := by simpa using hmm
    subst hmc
    refine ⟨some a, len, m, rfl, hl, hm, (fun h => by cases h), fun i j => intOf ((w.cell? (a.add (i * k0 + j))).getD undef), fun i him j hj => ?_⟩
    obtain ⟨cs, h1, h2⟩ := hi i him
    rw [hC] at h1
    obtain ⟨-, hlen, hat⟩ := World.cells?_some h1
    obtain ⟨xs, k, -, -, -, hxl, hf⟩ := DataW.trod_array he h2
    have h3 := hf j hj
    rw [h1', Nat.mul_one, List.getElem?_eq_getElem (by omega)] at h3
    have h4 : (cs.drop j).take 1 = [cs[j]'(by omega)] := by rw [List.drop_eq_getElem_cons (by omega)]; rfl
    rw [h4] at h3
    obtain ⟨z, hz⟩ := trod_int hint h3
    have h5 := hat j hj
    rw [add_add, List.getElem?_eq_getElem (by omega), hz] at h5
    have hsp : a.spot = none := by
      obtain ⟨cs0, g1, -⟩ := hi 0 (by omega)
      rw [hC] at g1
      obtain ⟨-, glen, gat⟩ := World.cells?_some g1
      have g2 := gat 0 h0
      rw [List.getElem?_eq_getElem (by omega)] at g2
      have e0 : (a.add (0 * k0)).add 0 = a := by rw [add_add, Nat.zero_mul, Nat.zero_add]; simp [Addr.add]
      rw [e0] at g2
      exact cell_spot g2
    obtain ⟨b, off, sp⟩ := a
    obtain rfl : sp = none := hsp
    refine ⟨b, off, rfl, ?_⟩
    have h6 := h5
    rw [Addr.add_lit] at h6
    rw [Nat.add_assoc, h6]
    show _ = some (Value.int .i64 (intOf ((w.cell? ((⟨b, off, none⟩ : Addr).add (i * k0 + j))).getD undef)))
    rw [h5]
    rfl
end
section
variable {H : Type} {enc : TypeId × Value → H} {w : World} {base : Nat} {hd : Bool}
set_option maxRecDepth 100000 in
theorem open_triples {r : Reach} {b0 : Nat} {v : Value} {d : DataW H} {p : List MemPlace} (hv : Value.okWide Try.prog w r b0 24 v) (h : DataW.Trod enc Try.prog w base (fun _ => true) hd 24 v d p) :
    ∃ A n c bs, v = .slice A n c ∧ n ≤ c ∧ c ≤ maxLen ∧ (A = none → c = 0) ∧ List.length bs = n ∧ Tris w A bs := by
  obtain ⟨u, e0, rfl⟩ := slice_one Try.underlying24 hv
  obtain ⟨fuel, hf⟩ := h
  rw [e0] at hf
  obtain ⟨A, n, c, rfl, hc, hm, h0, Z, hZ⟩ := open_arrays Try.underlying24 Try.underlying45 (by kernel_rfl) (by kernel_rfl) Try.underlying3 (by omega) hf
  refine ⟨A, n, c, (List.range n).map fun i => (Z i 0, Z i 1, Z i 2), rfl, hc, hm, h0, by simp, fun i x hx => ?_⟩
  have hi : i < n := by have := (List.getElem?_eq_some_iff.1 hx).1; simpa using this
  obtain rfl : (Z i 0, Z i 1, Z i 2) = x := by simpa [hi] using hx
  obtain ⟨b, off, e, c0⟩ := hZ i (by omega) 0 (by omega)
  obtain ⟨b1, off1, e1, c1⟩ := hZ i (by omega) 1 (by omega)
  obtain ⟨b2, off2, e2, c2⟩ := hZ i (by omega) 2 (by omega)
  subst e
  obtain ⟨rfl, rfl⟩ : b = b1 ∧ off = off1 := by simpa using e1
  obtain ⟨rfl, rfl⟩ : b = b2 ∧ off = off2 := by simpa using e2
  refine ⟨b, off, rfl, fun j v hv => ?_⟩
  match j, hv with
  | 0, hv => obtain rfl := Option.some.inj hv; exact c0
  | 1, hv => obtain rfl := Option.some.inj hv; exact c1
  | 2, hv => obtain rfl := Option.some.inj hv; exact c2
  | j + 3, hv => simp [enc3] at hv
end

end Go.Proofs.Ytjkdjfagaakijaa
