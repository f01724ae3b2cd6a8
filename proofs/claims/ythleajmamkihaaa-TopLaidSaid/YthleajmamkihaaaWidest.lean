/- The hull, and the greatest distance. -/
import Derived.Test.YthleajmamkihaaaSeparate
namespace Go.Proofs.Ythleajmamkihaaa
open Go.RowKit
set_option linter.unusedSimpArgs false

def HullPost (qs : List (Int × Int)) (w : World) (e : Ending) (w' : World) : Prop :=
  ∃ g c, e = .returned (.tuple #[.slice (some ⟨g, 0, none⟩) qs.length c, .int .i64 0]) ∧ qs.length ≤ c ∧ w.heap.size ≤ g ∧ Own w' g 0 qs ∧ Gr w w'

def sqP (p q : Int × Int) : Int := sqd p.1 p.2 q.1 q.2
theorem sqP_bd {p q : Int × Int} (hp : Co p.1 ∧ Co p.2) (hq : Co q.1 ∧ Co q.2) : 0 ≤ sqP p q ∧ sqP p q ≤ 134217728 := by
  unfold sqP sqd
  unfold Co at *
  have b1 := mul_bd (a := q.1 - p.1) (b := q.1 - p.1) (A := 8192) (B := 8192) (by omega) (by omega)
  have b2 := mul_bd (a := q.2 - p.2) (b := q.2 - p.2) (A := 8192) (B := 8192) (by omega) (by omega)
  have n1 : 0 ≤ (q.1 - p.1) * (q.1 - p.1) := by
    rcases Int.le_total 0 (q.1 - p.1) with h | h
    · exact Int.mul_nonneg h h
    · exact Int.mul_nonneg_of_nonpos_of_nonpos h h
  have n2 : 0 ≤ (q.2 - p.2) * (q.2 - p.2) := by
    rcases Int.le_total 0 (q.2 - p.2) with h | h
    · exact Int.mul_nonneg h h
    · exact Int.mul_nonneg_of_nonpos_of_nonpos h h
  omega
def wiJ (cs : List (Int × Int)) (i : Nat) (a : Int) : Nat → Int
  | 0 => a
  | j + 1 => max (wiJ cs i a j) (sqP (cs.getD i (0, 0)) (cs.getD (i + 1 + j) (0, 0)))
def wiI (cs : List (Int × Int)) : Nat → Int
  | 0 => 0
  | i + 1 => wiJ cs i (wiI cs i) (cs.length - (i + 1))
def widestL (cs : List (Int × Int)) : Int := wiI cs cs.length
theorem wiJ_bd {cs : List (Int × Int)} (h : Cos cs) (i : Nat) {a : Int} (ha : 0 ≤ a ∧ a ≤ 134217728) : ∀ j, 0 ≤ wiJ cs i a j ∧ wiJ cs i a j ≤ 134217728
  | 0 => ha
  | j + 1 => by
    have h1 := wiJ_bd h i ha j
    have h2 := sqP_bd (h i) (h (i + 1 + j))
    unfold wiJ; omega
theorem wiI_bd {cs : List (Int × Int)} (h : Cos cs) : ∀ i, 0 ≤ wiI cs i ∧ wiI cs i ≤ 134217728
  | 0 => by simp [wiI]
  | i + 1 => wiJ_bd h i (wiI_bd h i) _

end Go.Proofs.Ythleajmamkihaaa
