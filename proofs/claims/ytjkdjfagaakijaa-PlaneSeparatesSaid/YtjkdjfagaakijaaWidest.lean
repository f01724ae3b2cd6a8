/- The hull, and the greatest distance. -/
import Derived.Test.YtjkdjfagaakijaaSeparate
namespace Go.Proofs.Ytjkdjfagaakijaa
open Go.RowKit
set_option linter.unusedSimpArgs false

def HullPost (qs : List (Int × Int)) (w : World) (e : Ending) (w' : World) : Prop :=
  ∃ g c, e = .returned (.tuple #[.slice (some ⟨g, 0, none⟩) qs.length c, .int .i64 0]) ∧ qs.length ≤ c ∧ w.heap.size ≤ g ∧ Own w' g 0 qs ∧ Gr w w'

set_option maxRecDepth 100000 in
set_option maxHeartbeats 1000000 in
theorem Hull_yes (A : Option Addr) (n c : Nat) (ps : List (Int × Int)) (w : World) (hn : ps.length = n) (h1 : 1 ≤ n) (hl : n ≤ 512) (hp : Pts w A ps) (hv : (ps.all fun p => vld p.1 p.2) = true) :
    Calls Try.prog 27 #[.slice A n c] w (HullPost (cornersL ps) w) := by
  have HN := Lib.hid hn
  have HP := Lib.hid hp
  have HV := Lib.hid hv
  obtain ⟨qs, hqs⟩ : ∃ qs, cornersL ps = qs := ⟨_, rfl⟩
  rw [hqs]
  have HE := Lib.hid hqs
  clear hn hp hv hqs
  go_enter Try.func27, Try.ntmps27
  go_wp2_with fail
  refine (isSet_any A n c ps _ HN.out (by omega) HP.out true (by rw [HV.out]; simp; omega)).mono ?_
  rintro e w1 ⟨rfl, hb⟩
  go_wp2_with fail
  refine (corners_any A n c ps _ HN.out hl h1 (HP.out.keep hb) (Cos_of HV.out)).mono ?_
  rintro e w2 ⟨g, c2, rfl, hc, hg, hO, hb2⟩
  rw [HE.out] at hc hO ⊢
  have HO := Lib.hid hO
  clear hO
  go_wp2_with fail
  go_ret2
  exact ⟨g, c2, rfl, hc, Nat.le_trans hb.size hg, HO.out, hb.trans hb2⟩

set_option maxRecDepth 100000 in
set_option maxHeartbeats 1000000 in
theorem Hull_no (A : Option Addr) (n c : Nat) (ps : List (Int × Int)) (w : World) (hn : ps.length = n) (hl : n ≤ 281474976710656) (hp : Pts w A ps) (hv : (decide (1 ≤ n ∧ n ≤ 512) && ps.all fun p => vld p.1 p.2) = false) :
    Calls Try.prog 27 #[.slice A n c] w fun e w' => e = .returned (.tuple #[.slice none 0 0, .int .i64 2]) ∧ Gr w w' := by
  have HN := Lib.hid hn
  have HP := Lib.hid hp
  have HV := Lib.hid hv
  clear hn hp hv
  go_enter Try.func27, Try.ntmps27
  go_wp2_with fail
  refine (isSet_any A n c ps _ HN.out hl HP.out false HV.out).mono ?_
  rintro e w1 ⟨rfl, hb⟩
  go_wp2_with fail
  go_ret2
  exact ⟨rfl, hb⟩

def sqP (p q : Int × Int) : Int := sqd p.1 p.2 q.1 q.2
theorem sqP_bd {p q : Int × Int} (hp : Co p.1 ∧ Co p.2) (hq : Co q.1 ∧ Co q.2) : 0 ≤ sqP p q ∧ sqP p q ≤ 134217728 := by
  unfold sqP sqd
  unfold Co at *
  have b1 := mul_bd (a := q.1 - p.1) (b := q.1 - p.1) (A := 8192) (B := 8192) (by omega) (by omega)
  have b2 := mul_bd (a := q.2 - p.2) (b := q.2 - p.2) (A := 8192) (B := 8192) (by omega) (by omega)
  have n1 : 0 ≤ (q.1 - p.1) * (q.1 - p.1) := by
    rcases Int.le_total 0 (q.1 - p.1) with h | h
    · exact Int.mul_nonneg h h
    · exact Int.mul_nonneg_of_nonpos_of_nonpos h h
  have n2 : 0 ≤ (q.2 - p.2) * (q.2 - p.2) := by
    rcases Int.le_total 0 (q.2 - p.2) with h | h
    · exact Int.mul_nonneg h h
    · exact Int.mul_nonneg_of_nonpos_of_nonpos h h
  omega
def wiJ (cs : List (Int × Int)) (i : Nat) (a : Int) : Nat → Int
  | 0 => a
  | j + 1 => max (wiJ cs i a j) (sqP (cs.getD i (0, 0)) (cs.getD (i + 1 + j) (0, 0)))
def wiI (cs : List (Int × Int)) : Nat → Int
  | 0 => 0
  | i + 1 => wiJ cs i (wiI cs i) (cs.length - (i + 1))
def widestL (cs : List (Int × Int)) : Int := wiI cs cs.length
theorem wiJ_bd {cs : List (Int × Int)} (h : Cos cs) (i : Nat) {a : Int} (ha : 0 ≤ a ∧ a ≤ 134217728) : ∀ j, 0 ≤ wiJ cs i a j ∧ wiJ cs i a j ≤ 134217728
  | 0 => ha
  | j + 1 => by
    have h1 := wiJ_bd h i ha j
    have h2 := sqP_bd (h i) (h (i + 1 + j))
    unfold wiJ; omega
theorem wiI_bd {cs : List (Int × Int)} (h : Cos cs) : ∀ i, 0 ≤ wiI cs i ∧ wiI cs i ≤ 134217728
  | 0 => by simp [wiI]
  | i + 1 => wiJ_bd h i (wiI_bd h i) _

end Go.Proofs.Ytjkdjfagaakijaa
