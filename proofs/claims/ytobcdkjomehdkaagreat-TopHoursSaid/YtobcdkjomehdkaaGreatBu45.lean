/- A slice and a list of numbers that came in, opened. -/
import Derived.Test.YtobcdkjomehdkaaGreatBu28
import Derived.Test.YtobcdkjomehdkaaGreatBu2
import Derived.OpenShut
import Derived.Test.YtobcdkjomehdkaaGreatRows
import Derived.ProofKit
namespace Go.Proofs.YtobcdkjomehdkaaGreat
open Go.RowKit Go.Deep Go.Joins Go.ChangeShapes Go.WideShapes Go.ChangeAt
set_option linter.unusedSimpArgs false
set_option maxRecDepth 100000
set_option maxHeartbeats 80000000

theorem i64_of {x : Int} (h : (Lit.int .i64 x).wf = true) : I64 x := by
 show -9223372036854775808 ≤ x ∧ x ≤ 9223372036854775807
 have h' : (decide ((-9223372036854775808 : Int) ≤ x) && decide (x ≤ 9223372036854775807)) = true := h
 rw [Bool.and_eq_true, decide_eq_true_eq, decide_eq_true_eq] at h'
 exact h'
section
variable {H : Type} {enc : TypeId × Value → H} {P : Program} {w : World} {base : Nat} {sp : Nat → Bool} {hd : Bool}
theorem trod_intB {t : TypeId} (ht : P.underlying t = some (.int .i64)) {n : Nat} {v : Value} {y : DataW H × List MemPlace}
 (h : DataW.trod enc P w base sp hd n t [v] = some y) : ∃ i, v = .int .i64 i ∧ I64 i := by
 obtain ⟨x, e, -, hw⟩ := DataW.trod_int ht h
 exact ⟨x, by simpa using e, i64_of hw⟩
end
section
variable {H : Type} {enc : TypeId × Value → H} {P : Program} {w : World} {base : Nat} {hd : Bool}
theorem open_slots5 {t e : TypeId} {z : Nat} {fuel : Nat} {v : Value} {y : DataW H × List MemPlace} (ht : P.underlying t = some (.slice e)) (hC : P.cellsOf e = z) (h0 : 0 < z) (h : DataW.trod enc P w base (fun _ => true) hd fuel t [v] = some y) :
 ∃ A n c, v = .slice A n c ∧ n ≤ c ∧ c ≤ maxLen ∧ (A = none → c = 0) ∧ ∀ i, i < c → ∃ b off m y, A = some ⟨b, off, none⟩ ∧ ∃ cs : List Value, cs.length = z ∧ (∀ j v, cs[j]? = some v → w.cell? ⟨b, off + i * z + j, none⟩ = some v) ∧ DataW.trod enc P w base (fun _ => true) hd m e cs = some y := by
 rcases open_slice ht h with ⟨hc, -⟩ | ⟨a, len, cap, m, n, D, Pl, hc, -, hl, hm, hmm, -, hi⟩
 ·obtain rfl : v = .slice none 0 0 := by simpa using hc
  exact ⟨none, 0, 0, rfl, Nat.le_refl _, Nat.zero_le _, fun _ => rfl, fun i hi => by omega⟩
 ·obtain rfl : v = .slice (some a) len cap := by simpa using hc
  have hmc : m = cap := by simpa using hmm
  subst hmc
  refine ⟨some a, len, m, rfl, hl, hm, (fun h => by cases h), fun i him => ?_⟩
  have hsp : a.spot = none := by
   obtain ⟨cs0, g1, -⟩ := hi 0 (by omega)
   rw [hC] at g1
   obtain ⟨-, glen, gat⟩ := World.cells?_some g1
   have g2 := gat 0 h0
   rw [List.getElem?_eq_getElem (by omega)] at g2
   have e0 : (a.add (0 * z)).add 0 = a := by rw [add_add, Nat.zero_mul, Nat.zero_add]; simp [Addr.add]
   rw [e0] at g2
   exact cell_spot g2
  obtain ⟨b, off, spt⟩ := a
  obtain rfl : spt = none := hsp
  obtain ⟨cs, h1, h2⟩ := hi i him
  rw [hC] at h1
  obtain ⟨-, hlen, hat⟩ := World.cells?_some h1
  refine ⟨b, off, n, _, rfl, cs, hlen, fun j v hv => ?_, h2⟩
  have hj : j < z := by rw [← hlen]; exact (List.getElem?_eq_some_iff.1 hv).1
  have h3 := hat j hj
  rw [hv, add_add, Addr.add_lit] at h3
  rw [Nat.add_assoc]
  exact h3
end

section
variable {H : Type} {enc : TypeId × Value → H} {w : World} {base : Nat} {hd : Bool}
theorem open_ints5 {r : Reach} {b0 : Nat} {v : Value} {d : DataW H} {p : List MemPlace} (hv : Value.okWide Tryz.prog w r b0 25 v) (h : DataW.Trod enc Tryz.prog w base (fun _ => true) hd 25 v d p) :
 ∃ A n c l, v = .slice A n c ∧ n ≤ c ∧ c ≤ maxLen ∧ (A = none → c = 0) ∧ List.length l = n ∧ Ints w A l ∧ ∀ x ∈ l, I64 x := by
 obtain ⟨u, e0, rfl⟩ := slice_one Tryz.underlying25 hv
 obtain ⟨fuel, hf⟩ := h
 rw [e0] at hf
 obtain ⟨A, n, c, rfl, hc, hm, h0, hi⟩ := open_slots5 Tryz.underlying25 (show Tryz.prog.cellsOf 3 = 1 by kernel_rfl) (by omega) hf
 have key : ∀ i, i < c → ∃ b off x0, A = some ⟨b, off, none⟩ ∧ w.cell? ⟨b, off + i * 1, none⟩ = some (.int .i64 x0) ∧ I64 x0 := fun i hic => by
  obtain ⟨b, off, m, y, e, cs, hl, hat, ht⟩ := hi i hic
  obtain ⟨c0, rfl⟩ : ∃ c0, cs = [c0] := by
   match cs, hl with
   | [c0], _ => exact ⟨c0, rfl⟩
  obtain ⟨x0, rfl, hb0⟩ := trod_intB Tryz.underlying3 ht
  exact ⟨b, off, x0, e, hat 0 _ rfl, hb0⟩
 refine ⟨A, n, c, (List.range n).map fun i => match A with
  | some a => intOf ((w.cell? ⟨a.block, a.off + i * 1, none⟩).getD undef)
  | none => 0, rfl, hc, hm, h0, by simp, fun i x hx => ?_, fun p hp => ?_⟩
 ·have hil : i < n := by have := (List.getElem?_eq_some_iff.1 hx).1; simpa using this
  obtain ⟨b, off, x0, rfl, e0, -⟩ := key i (by omega)
  rw [List.getElem?_map, List.getElem?_range hil] at hx
  simp only [Option.map_some, e0, Option.getD_some, intOf] at hx
  injection hx with hx
  subst hx
  refine ⟨b, off, rfl, fun j v hv => ?_⟩
  match j, hv with
  | 0, hv => injection hv with hv; subst hv; exact e0
  | j + 1, hv => simp [enc1] at hv
 ·obtain ⟨i, hil, rfl⟩ := List.mem_map.1 hp
  rw [List.mem_range] at hil
  obtain ⟨b, off, x0, rfl, e0, b0⟩ := key i (by omega)
  simp only [e0, Option.getD_some, intOf]
  exact b0
end

end Go.Proofs.YtobcdkjomehdkaaGreat

namespace Go.Proofs.YtobcdkjomehdkaaGreat
set_option linter.unusedSimpArgs false
set_option maxRecDepth 100000
set_option maxHeartbeats 80000000

theorem strip_cut (r : List (List Char)) : stripLifts liftWords ("cut".toList :: r) = ([], "cut".toList :: r) := by
 simp [liftWords, stripLifts]
theorem make_of {P : Program} {r : List (List Char)} (h : behindMainWord (wordsSigns P.initOrder.toList) = "cut".toList :: r) : P.make = some .cut := by
 unfold Program.make
 rw [h]
 simp
theorem lifts_of {P : Program} {r : List (List Char)} (h : behindMainWord (wordsSigns P.initOrder.toList) = "cut".toList :: r) : (false == P.liftsFinal) = true := by
 unfold Program.liftsFinal Program.headLifts
 simp only [h, strip_cut]
 simp
theorem enter_of {P : Program} {r : List (List Char)} (h : behindMainWord (wordsSigns P.initOrder.toList) = "cut".toList :: r) (h0 : P.doorFits [] = true) (h1 : P.laysLater = false) (h2 : P.bearsReflect = false) : P.mayEnter = true := by
 unfold Program.mayEnter
 simp only [h, strip_cut, h0]
 simp [h1, h2]
theorem init_text : Tryz.prog.initOrder = "harness c29e9d6120690f92b8e851c7b593156f67e1468fd3a91a84f65f866fe0036dac cut at silverside/silversidetop.TopSold silverside/silversidetop.TopHours" := by kernel_rfl
theorem init_list : ∃ l, Tryz.prog.initOrder.toList = l ∧ (behindMainWord (wordsSigns l)).head? = some "cut".toList := by
 rw [init_text]
 refine ⟨_, (by show (String.ofList _).toList = _; exact String.toList_ofList), ?_⟩
 kernel_rfl
theorem init_cut : ∃ r, behindMainWord (wordsSigns Tryz.prog.initOrder.toList) = "cut".toList :: r := by
 obtain ⟨l, h, k⟩ := init_list
 rw [h]
 cases hb : behindMainWord (wordsSigns l) with
 | nil => rw [hb] at k; cases k
 | cons c r => rw [hb] at k; exact ⟨r, by rw [Option.some.inj k]⟩
theorem make_cut {c : OpenClaim} (hc : c.make = .cut) : (Tryz.pinned.checked.prog.make == some c.make) = true := by
 obtain ⟨r, h⟩ := init_cut
 have k : Tryz.pinned.checked.prog.make = some .cut := make_of h
 rw [k, hc]; rfl
theorem no_lifts {c : OpenClaim} (hc : c.lifted = false) : (c.lifted == Tryz.pinned.checked.prog.liftsFinal) = true := by
 obtain ⟨r, h⟩ := init_cut
 have k : (false == Tryz.pinned.checked.prog.liftsFinal) = true := lifts_of h
 rw [hc, k]
theorem may_enter : Tryz.pinned.checked.prog.mayEnter = true := by
 obtain ⟨r, h⟩ := init_cut
 exact enter_of h (by kernel_rfl) (by kernel_rfl) (by kernel_rfl)

end Go.Proofs.YtobcdkjomehdkaaGreat
