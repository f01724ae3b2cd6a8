/- Arguments of the laws of layer 3, opened. -/
import Derived.Test.YtbkbgcapkhelhaaLift
import Derived.Test.YtbkbgcapkhelhaaLVal
import Derived.Carry
namespace Go.Proofs.Ytbkbgcapkhelhaa
open Go.RowKit Go.Deep Go.Joins Go.ChangeShapes Go.WideShapes Go.ChangeAt

theorem byte_bound {x : Int} (h : (Lit.int .u8 x).wf = true) : 0 ≤ x ∧ x ≤ 255 := by
  have h' : (decide ((0 : Int) ≤ x) && decide (x ≤ 255)) = true := h
  rw [Bool.and_eq_true, decide_eq_true_eq, decide_eq_true_eq] at h'
  exact h'
theorem int_bound {x : Int} (h : (Lit.int .i64 x).wf = true) : -9223372036854775808 ≤ x ∧ x ≤ 9223372036854775807 := by
  have h' : (decide ((-9223372036854775808 : Int) ≤ x) && decide (x ≤ 9223372036854775807)) = true := h
  rw [Bool.and_eq_true, decide_eq_true_eq, decide_eq_true_eq] at h'
  exact h'
set_option maxRecDepth 100000 in
theorem open_byte {H : Type} {enc : TypeId × Value → H} {w : World} {base : Nat} {sp : Nat → Bool} {hd : Bool} {r : Reach} {b0 : Nat} {v : Value} {d : DataW H} {p : List MemPlace}
    (hv : Value.okWide Try.prog w r b0 5 v) (h : DataW.Trod enc Try.prog w base sp hd 5 v d p) : ∃ g : G, v = .int .u8 (g.v : Int) := by
  obtain ⟨x, rfl, -, -, hw⟩ := open_int Try.underlying5 hv h
  have hb := byte_bound hw
  exact ⟨⟨x.toNat, by omega⟩, by show Value.int .u8 x = .int .u8 ((x.toNat : Nat) : Int); rw [Int.toNat_of_nonneg hb.1]⟩
end Go.Proofs.Ytbkbgcapkhelhaa
