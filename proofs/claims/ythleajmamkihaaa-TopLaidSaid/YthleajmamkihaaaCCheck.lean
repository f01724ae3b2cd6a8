/- Layer 2: Check.
Layer 2: holds and Check. -/
import Derived.Test.YthleajmamkihaaaCTable
import Derived.Test.YthleajmamkihaaaCWorth
namespace Go.Proofs.Ythleajmamkihaaa
open Go.RowKit
set_option linter.unusedSimpArgs false

def rowB (H : Nat) (row : List Int) : Bool := decide (row.length = H + 1) && row.all numB
def formB (W H : Nat) (tb : List (List Int)) : Bool := decide (tb.length = W + 1) && tb.all (rowB H)
def boundB (bs : List Bl) (tb : List (List Int)) (W H : Nat) : Bool := (List.range (W + 1)).all fun w => (List.range (H + 1)).all fun h => decide (needT bs (at2 tb) w h ≤ at2 tb w h)
theorem boundB_iff (bs : List Bl) (tb : List (List Int)) (W H : Nat) : boundB bs tb W H = true ↔ BoundF bs (at2 tb) W H := by
  unfold boundB BoundF
  simp only [List.all_eq_true, List.mem_range, decide_eq_true_eq]
  exact ⟨fun h w k hw hk => h w (by omega) k (by omega), fun h w hw k hk => h w k (by omega) (by omega)⟩
theorem getD_mem {α : Type} {l : List α} {d : α} {i : Nat} (h : i < l.length) : l.getD i d ∈ l := List.mem_of_getElem? (getD_of d h)
theorem formB_iff (W H : Nat) (tb : List (List Int)) : formB W H tb = true ↔ Frm W H tb := by
  unfold formB Frm
  rw [Bool.and_eq_true, decide_eq_true_eq, List.all_eq_true]
  constructor
  · rintro ⟨h1, h2⟩
    refine ⟨h1, fun w hw => ?_⟩
    have h3 := h2 _ (getD_mem (d := []) (show w < tb.length by omega))
    unfold rowB at h3
    rw [Bool.and_eq_true, decide_eq_true_eq, List.all_eq_true] at h3
    exact ⟨h3.1, fun h hh => (numB_iff _).1 (h3.2 _ (getD_mem (by omega)))⟩
  · rintro ⟨h1, h2⟩
    refine ⟨h1, fun row hr => ?_⟩
    obtain ⟨i, hi, rfl⟩ := List.mem_iff_getElem.1 hr
    have e : tb.getD i [] = tb[i] := by rw [List.getD_eq_getElem?_getD, List.getElem?_eq_getElem hi]; rfl
    have h3 := h2 i (by omega)
    unfold at2 at h3
    rw [e] at h3
    unfold rowB
    rw [Bool.and_eq_true, decide_eq_true_eq, List.all_eq_true]
    refine ⟨h3.1, fun n hn => ?_⟩
    obtain ⟨k, hk, rfl⟩ := List.mem_iff_getElem.1 hn
    have h4 := h3.2 k (by omega)
    rw [List.getD_eq_getElem?_getD, List.getElem?_eq_getElem hk] at h4
    exact (numB_iff _).2 h4

/-- A slice of slices, one row of it. -/
theorem RdRows.get {w : World} {A : Option Addr} {tb : List (List Int)} (h : RdRows w A tb) {i : Nat} (hi : i < tb.length) :
    ∃ b off Ai ci, A = some ⟨b, off, none⟩ ∧ w.cell? ⟨b, off + i, none⟩ = some (.slice Ai (tb.getD i []).length ci) ∧ Ints w Ai (tb.getD i []) := h i _ (getD_of [] hi)

end Go.Proofs.Ythleajmamkihaaa

namespace Go.Proofs.Ythleajmamkihaaa
open Go.RowKit
set_option linter.unusedSimpArgs false

theorem Frm.len {W H : Nat} {tb : List (List Int)} (h : Frm W H tb) {i : Nat} (hi : i ≤ W) : (tb.getD i []).length = H + 1 := (h.2 i hi).1

/-- What Check answers. -/
def checkC (W H : Int) (bs : List Bl) (tb : List (List Int)) : Int :=
  if taskB W H bs = true then (if (formB W.toNat H.toNat tb && boundB bs tb W.toNat H.toNat) = true then 0 else 21) else 2

end Go.Proofs.Ythleajmamkihaaa
