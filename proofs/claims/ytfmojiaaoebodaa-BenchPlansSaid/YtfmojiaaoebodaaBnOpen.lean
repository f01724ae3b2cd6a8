/- Layer 4: arguments that came in, opened: jobs, slots, spans, an answer. -/
import Derived.Test.YtfmojiaaoebodaaOpenT
import Derived.Test.YtfmojiaaoebodaaBnSorted
namespace Go.Proofs.Ytfmojiaaoebodaa
open Go.RowKit Go.Deep Go.Joins Go.ChangeShapes Go.WideShapes Go.ChangeAt

section
variable {H : Type} {enc : TypeId × Value → H} {P : Program} {w : World} {base : Nat} {hd : Bool}
theorem open_arrays {t e ei : TypeId} {k0 : Nat} {fuel : Nat} {v : Value} {y : DataW H × List MemPlace} (ht : P.underlying t = some (.slice e)) (he : P.underlying e = some (.array k0 ei)) (hC : P.cellsOf e = k0) (h1' : P.cellsOf ei = 1)
    (hint : P.underlying ei = some (.int .i64)) (h0 : 0 < k0) (h : DataW.trod enc P w base (fun _ => true) hd fuel t [v] = some y) :
    ∃ A n c, v = .slice A n c ∧ n ≤ c ∧ c ≤ maxLen ∧ (A = none → c = 0) ∧ ∃ Z : Nat → Nat → Int, ∀ i, i < c → ∀ j, j < k0 → ∃ b off, A = some ⟨b, off, none⟩ ∧ w.cell? ⟨b, off + i * k0 + j, none⟩ = some (.int .i64 (Z i j)) := by
  rcases open_slice ht h with ⟨hc, -⟩ | ⟨a, len, cap, m, n, D, Pl, hc, -, hl, hm, hmm, -, hi⟩
  · obtain rfl : v = .slice none 0 0 := by simpa using hc
    exact ⟨none, 0, 0, rfl, Nat.le_refl _, Nat.zero_le _, fun _ => rfl, fun _ _ => 0, fun i hi => by omega⟩
  · obtain rfl : v = .slice (some a) len cap := by simpa using hc
    have hmc : m = cap := by simpa using hmm
    subst hmc
    refine ⟨some a, len, m, rfl, hl, hm, (fun h => by cases h), fun i j => intOf ((w.cell? (a.add (i * k0 + j))).getD undef), fun i him j hj => ?_⟩
    obtain ⟨cs, h1, h2⟩ := hi i him
    rw [hC] at h1
    obtain ⟨-, hlen, hat⟩ := World.cells?_some h1
    obtain ⟨xs, k, -, -, -, hxl, hf⟩ := DataW.trod_array he h2
    have h3 := hf j hj
    rw [h1', Nat.mul_one, List.getElem?_eq_getElem (by omega)] at h3
    have h4 : (cs.drop j).take 1 = [cs[j]'(by omega)] := by rw [List.drop_eq_getElem_cons (by omega)]; rfl
    rw [h4] at h3
    obtain ⟨z, hz⟩ := trod_int hint h3
    have h5 := hat j hj
    rw [add_add, List.getElem?_eq_getElem (by omega), hz] at h5
    have hsp : a.spot = none := by
      obtain ⟨cs0, g1, -⟩ := hi 0 (by omega)
      rw [hC] at g1
      obtain ⟨-, glen, gat⟩ := World.cells?_some g1
      have g2 := gat 0 h0
      rw [List.getElem?_eq_getElem (by omega)] at g2
      have e0 : (a.add (0 * k0)).add 0 = a := by rw [add_add, Nat.zero_mul, Nat.zero_add]; simp [Addr.add]
      rw [e0] at g2
      exact cell_spot g2
    obtain ⟨b, off, sp⟩ := a
    obtain rfl : sp = none := hsp
    refine ⟨b, off, rfl, ?_⟩
    have h6 := h5
    rw [Addr.add_lit] at h6
    rw [Nat.add_assoc, h6]
    show _ = some (Value.int .i64 (intOf ((w.cell? ((⟨b, off, none⟩ : Addr).add (i * k0 + j))).getD undef)))
    rw [h5]
    rfl
end
set_option maxRecDepth 100000 in
theorem jobs_fields : ∃ fs : Array Field, Try.prog.underlying 48 = some (.struct fs) ∧ fs.size = 3 ∧ oneCellFields Try.prog fs = true ∧ Try.prog.cellsOf 48 = 3 ∧ ∀ (j : Nat) (f : Field), fs[j]? = some f → Try.prog.underlying f.type = some (.int .i64) :=
  ⟨_, Try.underlying48, rfl, by kernel_rfl, by kernel_rfl, fun j f h => by
    match j, h with
    | 0, h => obtain rfl := Option.some.inj h; exact Try.underlying3
    | 1, h => obtain rfl := Option.some.inj h; exact Try.underlying3
    | 2, h => obtain rfl := Option.some.inj h; exact Try.underlying3⟩
set_option maxRecDepth 100000 in
theorem slots_fields : ∃ fs : Array Field, Try.prog.underlying 72 = some (.struct fs) ∧ fs.size = 4 ∧ oneCellFields Try.prog fs = true ∧ Try.prog.cellsOf 72 = 4 ∧ ∀ (j : Nat) (f : Field), fs[j]? = some f → Try.prog.underlying f.type = some (.int .i64) :=
  ⟨_, Try.underlying72, rfl, by kernel_rfl, by kernel_rfl, fun j f h => by
    match j, h with
    | 0, h => obtain rfl := Option.some.inj h; exact Try.underlying3
    | 1, h => obtain rfl := Option.some.inj h; exact Try.underlying3
    | 2, h => obtain rfl := Option.some.inj h; exact Try.underlying3
    | 3, h => obtain rfl := Option.some.inj h; exact Try.underlying3⟩
section
variable {H : Type} {enc : TypeId × Value → H} {w : World} {base : Nat} {hd : Bool}
set_option maxRecDepth 100000 in
theorem open_jobs {fuel : Nat} {v : Value} {y : DataW H × List MemPlace} (h : DataW.trod enc Try.prog w base (fun _ => true) hd fuel 22 [v] = some y) :
    ∃ A n c bs, v = .slice A n c ∧ n ≤ c ∧ c ≤ maxLen ∧ (A = none → c = 0) ∧ List.length bs = n ∧ Rd 3 enc3 w A bs := by
  obtain ⟨fs, h1, h2, h3, h4, h5⟩ := jobs_fields
  obtain ⟨A, n, c, rfl, hc, hm, h0, Z, hZ⟩ := open_records Try.underlying22 h1 h3 (by rw [h4, h2]) h5 (by omega) h
  refine ⟨A, n, c, (List.range n).map fun i => (Z i 0, Z i 1, Z i 2), rfl, hc, hm, h0, by simp, fun i x hx => ?_⟩
  have hi : i < n := by have := (List.getElem?_eq_some_iff.1 hx).1; simpa using this
  obtain rfl : (Z i 0, Z i 1, Z i 2) = x := by simpa [hi] using hx
  obtain ⟨b, off, e, c0⟩ := hZ i (by omega) 0 (by omega)
  obtain ⟨b1, off1, e1, c1⟩ := hZ i (by omega) 1 (by omega)
  obtain ⟨b2, off2, e2, c2⟩ := hZ i (by omega) 2 (by omega)
  subst e
  obtain ⟨rfl, rfl⟩ : b = b1 ∧ off = off1 := by simpa using e1
  obtain ⟨rfl, rfl⟩ : b = b2 ∧ off = off2 := by simpa using e2
  rw [h2] at c0 c1 c2
  refine ⟨b, off, rfl, fun j v hv => ?_⟩
  match j, hv with
  | 0, hv => obtain rfl := Option.some.inj hv; exact c0
  | 1, hv => obtain rfl := Option.some.inj hv; exact c1
  | 2, hv => obtain rfl := Option.some.inj hv; exact c2
  | j + 3, hv => simp [enc3] at hv
set_option maxRecDepth 100000 in
theorem open_slots {fuel : Nat} {v : Value} {y : DataW H × List MemPlace} (h : DataW.trod enc Try.prog w base (fun _ => true) hd fuel 24 [v] = some y) :
    ∃ A n c bs, v = .slice A n c ∧ n ≤ c ∧ c ≤ maxLen ∧ (A = none → c = 0) ∧ List.length bs = n ∧ Rd 4 enc4 w A bs := by
  obtain ⟨fs, h1, h2, h3, h4, h5⟩ := slots_fields
  obtain ⟨A, n, c, rfl, hc, hm, h0, Z, hZ⟩ := open_records Try.underlying24 h1 h3 (by rw [h4, h2]) h5 (by omega) h
  refine ⟨A, n, c, (List.range n).map fun i => (Z i 0, Z i 1, Z i 2, Z i 3), rfl, hc, hm, h0, by simp, fun i x hx => ?_⟩
  have hi : i < n := by have := (List.getElem?_eq_some_iff.1 hx).1; simpa using this
  obtain rfl : (Z i 0, Z i 1, Z i 2, Z i 3) = x := by simpa [hi] using hx
  obtain ⟨b, off, e, c0⟩ := hZ i (by omega) 0 (by omega)
  obtain ⟨b1, off1, e1, c1⟩ := hZ i (by omega) 1 (by omega)
  obtain ⟨b2, off2, e2, c2⟩ := hZ i (by omega) 2 (by omega)
  obtain ⟨b3, off3, e3, c3⟩ := hZ i (by omega) 3 (by omega)
  subst e
  obtain ⟨rfl, rfl⟩ : b = b1 ∧ off = off1 := by simpa using e1
  obtain ⟨rfl, rfl⟩ : b = b2 ∧ off = off2 := by simpa using e2
  obtain ⟨rfl, rfl⟩ : b = b3 ∧ off = off3 := by simpa using e3
  rw [h2] at c0 c1 c2 c3
  refine ⟨b, off, rfl, fun j v hv => ?_⟩
  match j, hv with
  | 0, hv => obtain rfl := Option.some.inj hv; exact c0
  | 1, hv => obtain rfl := Option.some.inj hv; exact c1
  | 2, hv => obtain rfl := Option.some.inj hv; exact c2
  | 3, hv => obtain rfl := Option.some.inj hv; exact c3
  | j + 4, hv => simp [enc4] at hv
set_option maxRecDepth 100000 in
theorem open_pairs {fuel : Nat} {v : Value} {y : DataW H × List MemPlace} (h : DataW.trod enc Try.prog w base (fun _ => true) hd fuel 26 [v] = some y) :
    ∃ A n c bs, v = .slice A n c ∧ n ≤ c ∧ c ≤ maxLen ∧ (A = none → c = 0) ∧ List.length bs = n ∧ Rd 2 enc2 w A bs := by
  obtain ⟨A, n, c, rfl, hc, hm, h0, Z, hZ⟩ := open_arrays Try.underlying26 Try.underlying67 (by kernel_rfl) (by kernel_rfl) Try.underlying3 (by omega) h
  refine ⟨A, n, c, (List.range n).map fun i => (Z i 0, Z i 1), rfl, hc, hm, h0, by simp, fun i x hx => ?_⟩
  have hi : i < n := by have := (List.getElem?_eq_some_iff.1 hx).1; simpa using this
  obtain rfl : (Z i 0, Z i 1) = x := by simpa [hi] using hx
  obtain ⟨b, off, e, c0⟩ := hZ i (by omega) 0 (by omega)
  obtain ⟨b1, off1, e1, c1⟩ := hZ i (by omega) 1 (by omega)
  subst e
  obtain ⟨rfl, rfl⟩ : b = b1 ∧ off = off1 := by simpa using e1
  refine ⟨b, off, rfl, fun j v hv => ?_⟩
  match j, hv with
  | 0, hv => obtain rfl := Option.some.inj hv; exact c0
  | 1, hv => obtain rfl := Option.some.inj hv; exact c1
  | j + 2, hv => simp [enc2] at hv
end
set_option maxRecDepth 100000 in
/-- A slice of numbers. -/
theorem open_numbers {H : Type} {enc : TypeId × Value → H} {w : World} {base : Nat} {hd : Bool} {fuel : Nat} {v : Value} {y : DataW H × List MemPlace} (h : DataW.trod enc Try.prog w base (fun _ => true) hd fuel 25 [v] = some y) :
    ∃ A n c ns, v = .slice A n c ∧ n ≤ c ∧ c ≤ maxLen ∧ (A = none → c = 0) ∧ List.length ns = n ∧ Ints w A ns := by
  rcases open_slice Try.underlying25 h with ⟨hc, -⟩ | ⟨a, len, cap, m, n, D, Pl, hc, -, hl, hm, hmm, -, hi⟩
  · obtain rfl : v = .slice none 0 0 := by simpa using hc
    exact ⟨none, 0, 0, [], rfl, Nat.le_refl _, Nat.zero_le _, fun _ => rfl, rfl, Rd_nil _ _⟩
  · obtain rfl : v = .slice (some a) len cap := by simpa using hc
    have hmc : m = cap := by simpa using hmm
    subst hmc
    refine ⟨some a, len, m, (List.range len).map fun i => intOf ((w.cell? (a.add i)).getD undef), rfl, hl, hm, (fun h => by cases h), by simp, fun i x hx => ?_⟩
    have hil : i < len := by have := (List.getElem?_eq_some_iff.1 hx).1; simpa using this
    obtain ⟨cs, h1, h2⟩ := hi i (by omega)
    rw [int_cells, Nat.mul_one] at h1
    obtain ⟨-, hlen, hat⟩ := World.cells?_some h1
    obtain ⟨z0, rfl⟩ : ∃ z, cs = [z] := List.length_eq_one_iff.1 hlen
    obtain ⟨z, rfl⟩ := trod_int Try.underlying3 h2
    have h3 := hat 0 (by omega)
    have e0 : (a.add i).add 0 = a.add i := by simp [Addr.add]
    rw [e0] at h3
    have h3 : w.cell? (a.add i) = some (.int .i64 z) := h3
    have hsp : a.spot = none := by
      obtain ⟨cs0, g1, -⟩ := hi 0 (by omega)
      rw [int_cells] at g1
      obtain ⟨-, glen, gat⟩ := World.cells?_some g1
      have g2 := gat 0 (by omega)
      rw [List.getElem?_eq_getElem (by omega)] at g2
      have e0 : (a.add (0 * 1)).add 0 = a := by rw [add_add, Nat.zero_mul, Nat.zero_add]; simp [Addr.add]
      rw [e0] at g2
      exact cell_spot g2
    obtain ⟨b, off, sp⟩ := a
    obtain rfl : sp = none := hsp
    have hx' : x = z := by
      rw [List.getElem?_map, List.getElem?_range hil, Option.map_some, h3] at hx
      have := Option.some.inj hx
      simpa [intOf] using this.symm
    subst hx'
    refine ⟨b, off, rfl, fun j u hu => ?_⟩
    match j, hu with
    | 0, hu =>
      obtain rfl := Option.some.inj hu
      rw [Nat.mul_one, Nat.add_zero]
      rw [Addr.add_lit] at h3
      exact h3
    | j + 1, hu => simp [enc1] at hu

set_option maxRecDepth 100000 in
theorem answer_fields : ∃ f0 f1 f2 f3 : Field, Try.prog.underlying 28 = some (.struct #[f0, f1, f2, f3]) ∧ oneCellFields Try.prog #[f0, f1, f2, f3] = true ∧ Try.prog.cellsOf 28 = 4 ∧ Try.prog.underlying f0.type = some .bool ∧ f1.type = 24 ∧ f2.type = 25 ∧ f3.type = 26 :=
  ⟨_, _, _, _, Try.underlying28, by kernel_rfl, by kernel_rfl, Try.underlying4, rfl, rfl, rfl⟩
set_option maxRecDepth 100000 in
/-- An answer by value. -/
theorem open_answer {H : Type} {enc : TypeId × Value → H} {w : World} {base : Nat} {hd : Bool} {r : Reach} {b0 : Nat} {v : Value} {d : DataW H} {p : List MemPlace}
    (hv : Value.okWide Try.prog w r b0 28 v) (h : DataW.Trod enc Try.prog w base (fun _ => true) hd 28 v d p) :
    ∃ q C m cc s JA m1 c1 J SA m2 c2 S, v = .agg #[.bool q, .slice C m cc, .slice JA m1 c1, .slice SA m2 c2] ∧
      (m ≤ cc ∧ cc ≤ maxLen ∧ (C = none → cc = 0) ∧ List.length s = m ∧ Rd 4 enc4 w C s) ∧ (m1 ≤ c1 ∧ c1 ≤ maxLen ∧ (JA = none → c1 = 0) ∧ List.length J = m1 ∧ Ints w JA J) ∧ (m2 ≤ c2 ∧ c2 ≤ maxLen ∧ (SA = none → c2 = 0) ∧ List.length S = m2 ∧ Pts w SA S) := by
  obtain ⟨f0, f1, f2, f3, h1, h2, h3, h4, h5, h6, h7⟩ := answer_fields
  obtain ⟨v0, v1, v2, v3, y0, y1, y2, y3, n, rfl, -, -, t0, t1, t2, t3⟩ := open_agg4 h1 h2 h3 hv h
  obtain ⟨q, hb, -⟩ := DataW.trod_bool h4 t0
  obtain rfl : v0 = .bool q := by simpa using hb
  rw [h5] at t1
  rw [h6] at t2
  rw [h7] at t3
  obtain ⟨C, m, cc, s, rfl, r1⟩ := open_slots t1
  obtain ⟨JA, m1, c1, J, rfl, r2⟩ := open_numbers t2
  obtain ⟨SA, m2, c2, S, rfl, r3⟩ := open_pairs t3
  exact ⟨q, C, m, cc, s, JA, m1, c1, J, SA, m2, c2, S, rfl, r1, r2, r3⟩

end Go.Proofs.Ytfmojiaaoebodaa
