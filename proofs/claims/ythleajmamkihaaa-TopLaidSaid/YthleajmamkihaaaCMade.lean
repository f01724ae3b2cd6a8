/- Layer 2: the blanks that a plan makes, step by step (mathematics). -/
import Derived.Test.YthleajmamkihaaaCMath
namespace Go.Proofs.Ythleajmamkihaaa

/-- The blanks that the steps make, in their order. -/
def msL (bs : List Bl) : List St → List Bl
  | [] => []
  | s :: r => if s.1 = 1 then bl bs s.2.toNat :: msL bs r else msL bs r
theorem msL_app (bs : List Bl) (a b : List St) : msL bs (a ++ b) = msL bs a ++ msL bs b := by
  induction a with
  | nil => rfl
  | cons s r ih => simp only [List.cons_append, msL, ih]; split <;> simp
theorem Makes.made {bs : List Bl} {w h : Nat} {P : List St} {m : List Bl} (k : Makes bs w h P m) : msL bs P = m ∧ ∀ s ∈ P, s.1 = 1 → 0 ≤ s.2 ∧ s.2 < bs.length := by
  induction k with
  | waste w h => exact ⟨rfl, fun s hs => by obtain rfl : s = (0, 0) := by simpa using hs
                                            intro e; exact absurd e (by decide)⟩
  | make w h i hi hf => exact ⟨by simp [msL], fun s hs _ => by obtain rfl : s = (1, (i : Int)) := by simpa using hs
                                                               dsimp only; omega⟩
  | across w h x P Q m n h1 h2 _ _ ih1 ih2 =>
    refine ⟨by simp [msL, msL_app, ih1.1, ih2.1], fun s hs e => ?_⟩
    rcases List.mem_cons.1 hs with rfl | hs
    · exact absurd e (by simp)
    · rcases List.mem_append.1 hs with hs | hs
      · exact ih1.2 s hs e
      · exact ih2.2 s hs e
  | along w h x P Q m n h1 h2 _ _ ih1 ih2 =>
    refine ⟨by simp [msL, msL_app, ih1.1, ih2.1], fun s hs e => ?_⟩
    rcases List.mem_cons.1 hs with rfl | hs
    · exact absurd e (by simp)
    · rcases List.mem_append.1 hs with hs | hs
      · exact ih1.2 s hs e
      · exact ih2.2 s hs e
theorem Makes.area {bs : List Bl} (hb : ∀ b ∈ bs, blB b = true) {w h : Nat} {P : List St} {m : List Bl} (k : Makes bs w h P m) : sumA m ≤ (w : Int) * h := by
  induction k with
  | waste w h => exact Int.mul_nonneg (by omega) (by omega)
  | make w h i hi hf =>
    have h1 := (blB_iff _).1 (hb _ (bl_mem hi))
    have h2 := (fitsB_iff _ _ _).1 hf
    simp only [sumA, Int.add_zero]
    exact Int.mul_le_mul h2.1 h2.2 (by omega) (by omega)
  | across w h x P Q m n h1 h2 _ _ ih1 ih2 =>
    rw [sumA_app]
    have e : (w : Int) * h = (x : Int) * h + ((w - x : Nat) : Int) * h := by rw [← Int.add_mul]; congr 1; omega
    omega
  | along w h x P Q m n h1 h2 _ _ ih1 ih2 =>
    rw [sumA_app]
    have e : (w : Int) * h = (w : Int) * x + (w : Int) * ((h - x : Nat) : Int) := by rw [← Int.mul_add]; congr 1; omega
    omega
theorem drop_at {P : List St} {k : Nat} (h : k < P.length) : P.drop k = P.getD k (0, 0) :: P.drop (k + 1) := by
  rw [List.drop_eq_getElem_cons h, List.getD_eq_getElem?_getD, List.getElem?_eq_getElem h]; rfl
theorem msL_mem {bs : List Bl} {P : List St} (h : ∀ s ∈ P, s.1 = 1 → 0 ≤ s.2 ∧ s.2 < bs.length) : ∀ b ∈ msL bs P, b ∈ bs := by
  induction P with
  | nil => intro b hb; cases hb
  | cons s r ih =>
    have ih := ih (fun t ht => h t (List.mem_cons_of_mem _ ht))
    intro b hb
    unfold msL at hb
    split at hb
    · rename_i e
      rcases List.mem_cons.1 hb with rfl | hb
      · have := h s (List.mem_cons_self ..) e
        exact bl_mem (by omega)
      · exact ih b hb
    · exact ih b hb
theorem msL_len (bs : List Bl) (P : List St) : (msL bs P).length ≤ P.length := by
  induction P with
  | nil => exact Nat.le_refl _
  | cons s r ih => unfold msL; split <;> simp <;> omega

end Go.Proofs.Ythleajmamkihaaa
