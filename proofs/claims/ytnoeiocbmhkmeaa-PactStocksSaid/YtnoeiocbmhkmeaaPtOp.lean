/- Layer 5: arguments that came in, opened: numbers, parts, acts. -/
import Derived.Test.YtnoeiocbmhkmeaaLift
import Derived.Test.YtnoeiocbmhkmeaaPtS
import Derived.OpenShut
namespace Go.Proofs.Ytnoeiocbmhkmeaa
open Go.RowKit Go.Deep Go.Joins Go.ChangeShapes Go.WideShapes Go.ChangeAt

theorem i64_of {x : Int} (h : (Lit.int .i64 x).wf = true) : I64 x := by
  show -9223372036854775808 ≤ x ∧ x ≤ 9223372036854775807
  have h' : (decide ((-9223372036854775808 : Int) ≤ x) && decide (x ≤ 9223372036854775807)) = true := h
  rw [Bool.and_eq_true, decide_eq_true_eq, decide_eq_true_eq] at h'
  exact h'
section
variable {H : Type} {enc : TypeId × Value → H} {P : Program} {w : World} {base : Nat} {sp : Nat → Bool} {hd : Bool}
theorem trod_intB {t : TypeId} (ht : P.underlying t = some (.int .i64)) {n : Nat} {v : Value} {y : DataW H × List MemPlace}
    (h : DataW.trod enc P w base sp hd n t [v] = some y) : ∃ i, v = .int .i64 i ∧ I64 i := by
  obtain ⟨x, e, -, hw⟩ := DataW.trod_int ht h
  exact ⟨x, by simpa using e, i64_of hw⟩
end
section
variable {H : Type} {enc : TypeId × Value → H} {P : Program} {w : World} {base : Nat} {hd : Bool}
/-- A slice: where it lies, and each element's cells, trodden. -/
theorem open_slots5 {t e : TypeId} {z : Nat} {fuel : Nat} {v : Value} {y : DataW H × List MemPlace} (ht : P.underlying t = some (.slice e)) (hC : P.cellsOf e = z) (h0 : 0 < z) (h : DataW.trod enc P w base (fun _ => true) hd fuel t [v] = some y) :
    ∃ A n c, v = .slice A n c ∧ n ≤ c ∧ c ≤ maxLen ∧ (A = none → c = 0) ∧ ∀ i, i < c → ∃ b off m y, A = some ⟨b, off, none⟩ ∧ ∃ cs : List Value, cs.length = z ∧ (∀ j v, cs[j]? = some v → w.cell? ⟨b, off + i * z + j, none⟩ = some v) ∧ DataW.trod enc P w base (fun _ => true) hd m e cs = some y := by
  rcases open_slice ht h with ⟨hc, -⟩ | ⟨a, len, cap, m, n, D, Pl, hc, -, hl, hm, hmm, -, hi⟩
  · obtain rfl : v = .slice none 0 0 := by simpa using hc
    exact ⟨none, 0, 0, rfl, Nat.le_refl _, Nat.zero_le _, fun _ => rfl, fun i hi => by omega⟩
  · obtain rfl : v = .slice (some a) len cap := by simpa using hc
    have hmc : m = cap := by simpa using hmm
    subst hmc
    refine ⟨some a, len, m, rfl, hl, hm, (fun h => by cases h), fun i him => ?_⟩
    have hsp : a.spot = none := by
      obtain ⟨cs0, g1, -⟩ := hi 0 (by omega)
      rw [hC] at g1
      obtain ⟨-, glen, gat⟩ := World.cells?_some g1
      have g2 := gat 0 h0
      rw [List.getElem?_eq_getElem (by omega)] at g2
      have e0 : (a.add (0 * z)).add 0 = a := by rw [add_add, Nat.zero_mul, Nat.zero_add]; simp [Addr.add]
      rw [e0] at g2
      exact cell_spot g2
    obtain ⟨b, off, spt⟩ := a
    obtain rfl : spt = none := hsp
    obtain ⟨cs, h1, h2⟩ := hi i him
    rw [hC] at h1
    obtain ⟨-, hlen, hat⟩ := World.cells?_some h1
    refine ⟨b, off, n, _, rfl, cs, hlen, fun j v hv => ?_, h2⟩
    have hj : j < z := by rw [← hlen]; exact (List.getElem?_eq_some_iff.1 hv).1
    have h3 := hat j hj
    rw [hv, add_add, Addr.add_lit] at h3
    rw [Nat.add_assoc]
    exact h3
end
set_option maxRecDepth 100000 in
theorem move_two : ∃ f0 f1 : Field, Try.prog.underlying 66 = some (.struct #[f0, f1]) ∧ oneCellFields Try.prog #[f0, f1] = true ∧ Try.prog.cellsOf 66 = 2 ∧ Try.prog.underlying f0.type = some (.int .i64) ∧ Try.prog.underlying f1.type = some (.int .i64) :=
  ⟨_, _, Try.underlying66, by kernel_rfl, by kernel_rfl, Try.underlying3, Try.underlying3⟩
set_option maxRecDepth 100000 in
theorem act_four : ∃ f0 f1 f2 f3 : Field, Try.prog.underlying 40 = some (.struct #[f0, f1, f2, f3]) ∧ oneCellFields Try.prog #[f0, f1, f2, f3] = true ∧ Try.prog.cellsOf 40 = 4 ∧ Try.prog.underlying f0.type = some (.int .i64) ∧ Try.prog.underlying f1.type = some (.int .i64) ∧ Try.prog.underlying f2.type = some (.int .i64) ∧ f3.type = 38 :=
  ⟨_, _, _, _, Try.underlying40, by kernel_rfl, by kernel_rfl, Try.underlying3, Try.underlying3, Try.underlying3, rfl⟩
section
variable {H : Type} {enc : TypeId × Value → H} {w : World} {base : Nat} {hd : Bool}
/-- Parts as they came in. -/
structure MovesIn (w : World) (A : Option Addr) (n c : Nat) (bs : List (Int × Int)) : Prop where
  le : n ≤ c
  max : c ≤ maxLen
  nil : A = none → c = 0
  len : bs.length = n
  rd : Pts w A bs
  small : ∀ p ∈ bs, I64 p.1 ∧ I64 p.2
set_option maxRecDepth 100000 in
theorem open_moves {fuel : Nat} {v : Value} {y : DataW H × List MemPlace} (h : DataW.trod enc Try.prog w base (fun _ => true) hd fuel 38 [v] = some y) :
    ∃ A n c bs, v = .slice A n c ∧ MovesIn w A n c bs := by
  obtain ⟨f0, f1, hs, hone, hC, u0, u1⟩ := move_two
  obtain ⟨A, n, c, rfl, hc, hm, h0, hi⟩ := open_slots5 Try.underlying38 hC (by omega) h
  have key : ∀ i, i < c → ∃ b off x0 x1, A = some ⟨b, off, none⟩ ∧ w.cell? ⟨b, off + i * 2, none⟩ = some (.int .i64 x0) ∧ w.cell? ⟨b, off + i * 2 + 1, none⟩ = some (.int .i64 x1) ∧ I64 x0 ∧ I64 x1 := fun i hic => by
    obtain ⟨b, off, m, y, e, cs, hl, hat, ht⟩ := hi i hic
    obtain ⟨xs, k, -, -, -, hxl, hf⟩ := DataW.trod_struct hs ht
    have hx2 : xs.length = 2 := by simpa using hxl
    have g0 := hf 0 f0 rfl
    have g1 := hf 1 f1 rfl
    obtain ⟨o0, k0⟩ := hone_of hone 0 f0 rfl
    obtain ⟨o1, k1⟩ := hone_of hone 1 f1 rfl
    obtain ⟨c0, c1, rfl⟩ : ∃ c0 c1, cs = [c0, c1] := by
      match cs, hl with
      | [c0, c1], _ => exact ⟨c0, c1, rfl⟩
    rw [o0, k0, List.getElem?_eq_getElem (by omega)] at g0
    rw [o1, k1, List.getElem?_eq_getElem (by omega)] at g1
    obtain ⟨x0, rfl, hb0⟩ := trod_intB u0 (v := c0) (by simpa using g0)
    obtain ⟨x1, rfl, hb1⟩ := trod_intB u1 (v := c1) (by simpa using g1)
    exact ⟨b, off, x0, x1, e, hat 0 _ rfl, hat 1 _ rfl, hb0, hb1⟩
  refine ⟨A, n, c, (List.range n).map fun i => match A with
    | some a => (intOf ((w.cell? ⟨a.block, a.off + i * 2, none⟩).getD undef), intOf ((w.cell? ⟨a.block, a.off + i * 2 + 1, none⟩).getD undef))
    | none => (0, 0), rfl, hc, hm, h0, by simp, fun i x hx => ?_, fun p hp => ?_⟩
  · have hil : i < n := by have := (List.getElem?_eq_some_iff.1 hx).1; simpa using this
    obtain ⟨b, off, x0, x1, rfl, e0, e1, -, -⟩ := key i (by omega)
    rw [List.getElem?_map, List.getElem?_range hil] at hx
    simp only [Option.map_some, e0, e1, Option.getD_some, intOf] at hx
    injection hx with hx
    subst hx
    refine ⟨b, off, rfl, fun j v hv => ?_⟩
    match j, hv with
    | 0, hv => injection hv with hv; subst hv; exact e0
    | 1, hv => injection hv with hv; subst hv; exact e1
    | j + 2, hv => simp [enc2] at hv
  · obtain ⟨i, hil, rfl⟩ := List.mem_map.1 hp
    rw [List.mem_range] at hil
    obtain ⟨b, off, x0, x1, rfl, e0, e1, b0, b1⟩ := key i (by omega)
    simp only [e0, e1, Option.getD_some, intOf]
    exact ⟨b0, b1⟩
/-- An act as it came in. -/
structure ActIn (w : World) (kd st nn : Int) (A : Option Addr) (n c : Nat) (bs : List (Int × Int)) : Prop where
  ik : I64 kd
  is : I64 st
  ino : I64 nn
  parts : MovesIn w A n c bs
set_option maxRecDepth 100000 in
theorem open_act {r : Reach} {b0 : Nat} {v : Value} {d : DataW H} {p : List MemPlace}
    (hv : Value.okWide Try.prog w r b0 40 v) (h : DataW.Trod enc Try.prog w base (fun _ => true) hd 40 v d p) :
    ∃ kd st nn A n c bs, v = .agg #[.int .i64 kd, .int .i64 st, .int .i64 nn, .slice A n c] ∧ ActIn w kd st nn A n c bs := by
  obtain ⟨f0, f1, f2, f3, h1, h2, h3, u0, u1, u2, u3⟩ := act_four
  obtain ⟨v0, v1, v2, v3, y0, y1, y2, y3, n, rfl, -, -, t0, t1, t2, t3⟩ := open_agg4 h1 h2 h3 hv h
  rw [u3] at t3
  obtain ⟨x0, rfl, hb0⟩ := trod_intB u0 t0
  obtain ⟨x1, rfl, hb1⟩ := trod_intB u1 t1
  obtain ⟨x2, rfl, hb2⟩ := trod_intB u2 t2
  obtain ⟨A, n, c, bs, rfl, hm⟩ := open_moves t3
  exact ⟨x0, x1, x2, A, n, c, bs, rfl, hb0, hb1, hb2, hm⟩
/-- An act: what the law reads of it. -/
structure Ac where
  kd : Int
  st : Int
  nn : Int
  A : Option Addr
  n : Nat
  c : Nat
  bs : List (Int × Int)
def encA (a : Ac) : List Value := [.int .i64 a.kd, .int .i64 a.st, .int .i64 a.nn, .slice a.A a.n a.c]
def AcOk (w : World) (a : Ac) : Prop := ActIn w a.kd a.st a.nn a.A a.n a.c a.bs
set_option maxRecDepth 100000 in
/-- A list of acts. -/
theorem open_acts {r : Reach} {b0 : Nat} {v : Value} {d : DataW H} {p : List MemPlace} (hv : Value.okWide Try.prog w r b0 56 v) (h : DataW.Trod enc Try.prog w base (fun _ => true) hd 56 v d p) :
    ∃ A n c l, v = .slice A n c ∧ n ≤ c ∧ c ≤ maxLen ∧ List.length l = n ∧ Rd 4 encA w A l ∧ ∀ a ∈ l, AcOk w a := by
  obtain ⟨u, e0, rfl⟩ := slice_one Try.underlying56 hv
  obtain ⟨fuel, hf⟩ := h
  rw [e0] at hf
  obtain ⟨f0, f1, f2, f3, hs, hone, hC, u0, u1, u2, u3⟩ := act_four
  obtain ⟨A, n, c, rfl, hc, hm, h0, hi⟩ := open_slots5 Try.underlying56 hC (by omega) hf
  have key : ∀ i, i < c → ∃ a : Ac, AcOk w a ∧ ∃ b off, A = some ⟨b, off, none⟩ ∧ ∀ j v, (encA a)[j]? = some v → w.cell? ⟨b, off + i * 4 + j, none⟩ = some v := fun i hic => by
    obtain ⟨b, off, m, y, e, cs, hl, hat, ht⟩ := hi i hic
    obtain ⟨xs, k, -, -, -, hxl, hf⟩ := DataW.trod_struct hs ht
    have hx4 : xs.length = 4 := by simpa using hxl
    have g0 := hf 0 f0 rfl
    have g1 := hf 1 f1 rfl
    have g2 := hf 2 f2 rfl
    have g3 := hf 3 f3 rfl
    obtain ⟨o0, k0⟩ := hone_of hone 0 f0 rfl
    obtain ⟨o1, k1⟩ := hone_of hone 1 f1 rfl
    obtain ⟨o2, k2⟩ := hone_of hone 2 f2 rfl
    obtain ⟨o3, k3⟩ := hone_of hone 3 f3 rfl
    obtain ⟨c0, c1, c2, c3, rfl⟩ : ∃ c0 c1 c2 c3, cs = [c0, c1, c2, c3] := by
      match cs, hl with
      | [c0, c1, c2, c3], _ => exact ⟨c0, c1, c2, c3, rfl⟩
    rw [o0, k0, List.getElem?_eq_getElem (by omega)] at g0
    rw [o1, k1, List.getElem?_eq_getElem (by omega)] at g1
    rw [o2, k2, List.getElem?_eq_getElem (by omega)] at g2
    rw [o3, k3, List.getElem?_eq_getElem (by omega), u3] at g3
    obtain ⟨x0, rfl, hb0⟩ := trod_intB u0 (v := c0) (by simpa using g0)
    obtain ⟨x1, rfl, hb1⟩ := trod_intB u1 (v := c1) (by simpa using g1)
    obtain ⟨x2, rfl, hb2⟩ := trod_intB u2 (v := c2) (by simpa using g2)
    obtain ⟨A3, n3, e3, bs, rfl, hm3⟩ := open_moves (v := c3) (by simpa using g3)
    exact ⟨⟨x0, x1, x2, A3, n3, e3, bs⟩, ⟨hb0, hb1, hb2, hm3⟩, b, off, e, hat⟩
  refine ⟨A, n, c, (List.range n).map fun i => if hic : i < c then (key i hic).choose else ⟨0, 0, 0, none, 0, 0, []⟩, rfl, hc, hm, by simp, fun i x hx => ?_, fun a ha => ?_⟩
  · have hil : i < n := by have := (List.getElem?_eq_some_iff.1 hx).1; simpa using this
    rw [List.getElem?_map, List.getElem?_range hil, Option.map_some, dif_pos (by omega)] at hx
    injection hx with hx
    have h1 := (key i (by omega)).choose_spec.2
    rw [hx] at h1
    exact h1
  · obtain ⟨i, hil, rfl⟩ := List.mem_map.1 ha
    rw [List.mem_range] at hil
    rw [dif_pos (by omega)]
    exact (key i (by omega)).choose_spec.1
end

section
variable {H : Type} {enc : TypeId × Value → H} {w : World} {base : Nat} {hd : Bool}
set_option maxRecDepth 100000 in
/-- A list of numbers. -/
theorem open_ints5 {r : Reach} {b0 : Nat} {v : Value} {d : DataW H} {p : List MemPlace} (hv : Value.okWide Try.prog w r b0 22 v) (h : DataW.Trod enc Try.prog w base (fun _ => true) hd 22 v d p) :
    ∃ A n c l, v = .slice A n c ∧ n ≤ c ∧ c ≤ maxLen ∧ (A = none → c = 0) ∧ List.length l = n ∧ Ints w A l ∧ ∀ x ∈ l, I64 x := by
  obtain ⟨u, e0, rfl⟩ := slice_one Try.underlying22 hv
  obtain ⟨fuel, hf⟩ := h
  rw [e0] at hf
  obtain ⟨A, n, c, rfl, hc, hm, h0, hi⟩ := open_slots5 Try.underlying22 (show Try.prog.cellsOf 3 = 1 by kernel_rfl) (by omega) hf
  have key : ∀ i, i < c → ∃ b off x0, A = some ⟨b, off, none⟩ ∧ w.cell? ⟨b, off + i * 1, none⟩ = some (.int .i64 x0) ∧ I64 x0 := fun i hic => by
    obtain ⟨b, off, m, y, e, cs, hl, hat, ht⟩ := hi i hic
    obtain ⟨c0, rfl⟩ : ∃ c0, cs = [c0] := by
      match cs, hl with
      | [c0], _ => exact ⟨c0, rfl⟩
    obtain ⟨x0, rfl, hb0⟩ := trod_intB Try.underlying3 ht
    exact ⟨b, off, x0, e, hat 0 _ rfl, hb0⟩
  refine ⟨A, n, c, (List.range n).map fun i => match A with
    | some a => intOf ((w.cell? ⟨a.block, a.off + i * 1, none⟩).getD undef)
    | none => 0, rfl, hc, hm, h0, by simp, fun i x hx => ?_, fun p hp => ?_⟩
  · have hil : i < n := by have := (List.getElem?_eq_some_iff.1 hx).1; simpa using this
    obtain ⟨b, off, x0, rfl, e0, -⟩ := key i (by omega)
    rw [List.getElem?_map, List.getElem?_range hil] at hx
    simp only [Option.map_some, e0, Option.getD_some, intOf] at hx
    injection hx with hx
    subst hx
    refine ⟨b, off, rfl, fun j v hv => ?_⟩
    match j, hv with
    | 0, hv => injection hv with hv; subst hv; exact e0
    | j + 1, hv => simp [enc1] at hv
  · obtain ⟨i, hil, rfl⟩ := List.mem_map.1 hp
    rw [List.mem_range] at hil
    obtain ⟨b, off, x0, rfl, e0, b0⟩ := key i (by omega)
    simp only [e0, Option.getD_some, intOf]
    exact b0
end

end Go.Proofs.Ytnoeiocbmhkmeaa
