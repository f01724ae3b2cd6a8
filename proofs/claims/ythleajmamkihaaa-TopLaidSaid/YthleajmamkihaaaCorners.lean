/- The corners of a hull, as the program finds them. -/
import Derived.Test.YthleajmamkihaaaSort
import Derived.Test.YthleajmamkihaaaCompact
import Derived.Test.YthleajmamkihaaaChain
import Derived.Test.YthleajmamkihaaaConcat
namespace Go.Proofs.Ythleajmamkihaaa
open Go.RowKit Go.Sort
set_option linter.unusedSimpArgs false

theorem holdsK_of {w : World} {g off : Nat} {ps : List (Int × Int)} (h : Own w g off ps) : HoldsK enc2 2 w g off ps.toArray := fun j hj => by
  have hj' : j < ps.length * 2 := by simpa using hj
  obtain ⟨⟨h1, h2⟩, h3, h4⟩ := h (j / 2) (by omega)
  have e : (flatK enc2 2 ps.toArray)[j]! = (enc2 (ps.getD (j / 2) (0, 0)))[j % 2]! := by
    rw [get_flatK _ _ _ _ (by simpa using hj')]
    congr 2
    rw [getElem!_pos _ _ (by simp; omega), List.getD_eq_getElem?_getD, List.getElem?_eq_getElem (by omega)]
    simp
  rw [e]
  rcases Nat.mod_two_eq_zero_or_one j with hm | hm
  · rw [hm, show off + j = off + j / 2 * 2 by omega]; exact ⟨h1, h3⟩
  · rw [hm, show off + j = off + j / 2 * 2 + 1 by omega]; exact ⟨h2, h4⟩
theorem own_of_holdsK {w : World} {g off : Nat} {ps : List (Int × Int)} (h : HoldsK enc2 2 w g off ps.toArray) : Own w g off ps := fun i hi => by
  have e : ∀ t, t < 2 → (flatK enc2 2 ps.toArray)[i * 2 + t]! = (enc2 (ps.getD i (0, 0)))[t]! := fun t ht => by
    rw [get_flatK _ _ _ _ (by simp; omega), show (i * 2 + t) / 2 = i by omega, show (i * 2 + t) % 2 = t by omega]
    congr 2
    rw [getElem!_pos _ _ (by simpa using hi), List.getD_eq_getElem?_getD, List.getElem?_eq_getElem hi]
    simp
  obtain ⟨a0, b0⟩ := h (i * 2) (by simp; omega)
  obtain ⟨a1, b1⟩ := h (i * 2 + 1) (by simp; omega)
  have e0 := e 0 (by omega)
  have e1 := e 1 (by omega)
  simp only [Nat.add_zero] at e0
  simp only [id_eq] at a0 a1
  rw [e0] at a0
  rw [e1] at a1
  exact ⟨⟨a0, a1⟩, b0, b1⟩
theorem gb_sortWorld (w : World) (g off n : Nat) (d : Array (Int × Int)) (os : Array Obj) : Gb g w (sortWorldK enc2 2 w g off n d os) := by
  refine ⟨rfl, rfl, rfl, ?_, fun i hi hn => ?_⟩
  · show w.heap.size ≤ ((w.heap.modify g _) ++ os).size
    simp
  · show ((w.heap.modify g _) ++ os)[i]? = w.heap[i]?
    rw [Array.getElem?_append_left (by simpa using hi), Array.getElem?_modify, if_neg (fun e => hn (by rw [e]))]
theorem own_sortWorld {w : World} {g off : Nat} {ps qs : List (Int × Int)} (h : Own w g off ps) (hl : qs.length = ps.length) (hg : g < w.heap.size) (n : Nat) (os : Array Obj) : Own (sortWorldK enc2 2 w g off n qs.toArray os) g off qs := by
  have h1 : HoldsK enc2 2 (Sort.ahead w n) g off ps.toArray := holdsK_of h
  have h2 := holds_putRow id (Sort.ahead w n) g off _ (flatK enc2 2 qs.toArray) h1 (by simp [hl])
  exact own_of_holdsK (holds_grow id _ os g off _ (by show g < (Array.modify _ _ _).size; simpa using hg) h2)

def srtL (ps : List (Int × Int)) : List (Int × Int) := ps.mergeSort fun x y => !(ltOf cfP y x)
theorem ltP (p q : Int × Int) : ltOf cfP p q = decide (p.1 < q.1 ∨ (p.1 = q.1 ∧ p.2 < q.2)) := by
  unfold ltOf cfP
  congr 1
  apply propext
  unfold sgn
  constructor
  · intro h; split at h <;> (repeat' split at h) <;> omega
  · intro h; split <;> (repeat' split) <;> omega
theorem swoP : SWO (ltOf cfP) where
  irrefl x := by rw [ltP]; simp
  trans x y z h1 h2 := by rw [ltP] at *; simp only [decide_eq_true_eq] at *; omega
  ntrans x y z h1 h2 := by rw [ltP] at *; simp only [decide_eq_false_iff_not] at *; omega

theorem sort_any (g c : Nat) (ps : List (Int × Int)) (w : World) (hl : ps.length ≤ 512) (hO : Own w g 0 ps) (hg : g < w.heap.size) :
    Calls Try.prog 54 #[.slice (some ⟨g, 0, none⟩) ps.length c, .func (.func 55) #[] #[]] w fun e w' => e = .returned (.tuple #[]) ∧ Own w' g 0 (srtL ps) ∧ Gb g w w' := by
  have eg : ∀ args w, (callFunc 55 args).run Try.prog w = .ok (.enter 55 args) w := enters_of Try.func55 (by kernel_rfl) rfl
  have aE : ∀ w, (isAgg (Try.sortPts_ren.t 24)).run Try.prog w = .ok true w := fun w => by kernel_rfl
  have zE : ∀ w, (Go.sizeOf (Try.sortPts_ren.t 24)).run Try.prog w = .ok 2 w := fun w => by kernel_rfl
  have h := AnyQ.slices_SortFunc_total Try.sortPts 2 aE zE enc2 (fun _ => rfl) (fun x v hv => by simp [enc2] at hv; rcases hv with rfl | rfl <;> rfl) cfP swoP 55 #[] g 0 c ps.toArray w eg
    (fun _ _ _ _ x y => compare_any x y _) (holdsK_of hO) hg (by simp; omega) (fun x y h1 h2 => by
      rw [ltP] at h1 h2
      simp only [decide_eq_false_iff_not] at h1 h2
      exact Prod.ext (by omega) (by omega))
  change Calls Try.prog 54 _ _ _ at h
  have e : ps.toArray.size = ps.length := by simp
  rw [e] at h
  refine h.mono ?_
  rintro e w' ⟨rfl, n, os, rfl⟩
  exact ⟨rfl, own_sortWorld hO (List.length_mergeSort _) hg n os, gb_sortWorld _ _ _ _ _ _⟩

theorem reverse_any (g c : Nat) (ps : List (Int × Int)) (w : World) (hl : ps.length ≤ 512) (hO : Own w g 0 ps) (hg : g < w.heap.size) :
    Calls Try.prog 58 #[.slice (some ⟨g, 0, none⟩) ps.length c] w fun e w' => e = .returned (.tuple #[]) ∧ Own w' g 0 ps.reverse ∧ Gb g w w' := by
  have aE : ∀ w, (isAgg (Try.revPts_ren.t 23)).run Try.prog w = .ok true w := fun w => by kernel_rfl
  have zE : ∀ w, (Go.sizeOf (Try.revPts_ren.t 23)).run Try.prog w = .ok 2 w := fun w => by kernel_rfl
  have h := AnyQ.slices_Reverse Try.revPts 2 aE zE enc2 (fun _ => rfl) (fun x v hv => by simp [enc2] at hv; rcases hv with rfl | rfl <;> rfl) g 0 c ps.toArray w (holdsK_of hO) (by simp; omega)
  change Calls Try.prog 58 _ _ _ at h
  have e : ps.toArray.size = ps.length := by simp
  rw [e] at h
  refine h.mono ?_
  rintro e w' ⟨rfl, n, rfl⟩
  have e2 : ps.toArray.reverse = ps.reverse.toArray := by simp
  rw [e2]
  have e3 : ∀ d : Array (Int × Int), putRowK enc2 2 (Sort.ahead w n) g 0 d = sortWorldK enc2 2 w g 0 n d #[] := fun d => by unfold sortWorldK; rw [grow_empty]
  rw [e3]
  exact ⟨rfl, own_sortWorld hO (by simp) hg n #[], gb_sortWorld _ _ _ _ _ _⟩

end Go.Proofs.Ythleajmamkihaaa
