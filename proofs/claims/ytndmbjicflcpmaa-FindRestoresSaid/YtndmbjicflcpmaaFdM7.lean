/- Layer 7: restoring backward, as the reference does. -/
import Derived.Test.YtndmbjicflcpmaaFdM6
namespace Go.Proofs.Ytndmbjicflcpmaa

/-- The place of a row in the sorted list. -/
def fstR (t : List UInt8) (m r : Nat) : Nat := posB (lastF t m) (List.range (t.length + 1)) r
theorem fstR_lt (t : List UInt8) (m : Nat) {r : Nat} (hr : r < t.length + 1) : fstR t m r < t.length + 1 := by
  have := posB_lt (lastF t m) (List.range (t.length + 1)) (t := r) (by rw [List.length_range]; exact hr)
  rwa [List.length_range] at this
theorem nxt_fst (t : List UInt8) (m : Nat) {r : Nat} (hr : r < t.length + 1) : (nxtL t m).getD (fstR t m r) 0 = r := by
  have h := posB_at (lastF t m) (List.range (t.length + 1)) 4097 (fun x _ => by have := lastF_le t m x; omega) (t := r) (by rw [List.length_range]; exact hr)
  have e : (List.range (t.length + 1)).getD r 0 = r := by rw [List.getD_eq_getElem?_getD, List.getElem?_range hr]; rfl
  rw [e] at h
  rw [List.getD_eq_getElem?_getD]
  show ((sortB (lastF t m) (List.range (t.length + 1)) 4097)[posB (lastF t m) (List.range (t.length + 1)) r]?).getD 0 = r
  rw [h]; rfl
/-- The rows from the end backward. -/
def bkR (t : List UInt8) (m : Nat) : Nat → Nat
  | 0 => 0
  | j + 1 => fstR t m (bkR t m j)
theorem bkR_lt (t : List UInt8) (m : Nat) : ∀ j, bkR t m j < t.length + 1
  | 0 => by show 0 < _; omega
  | j + 1 => fstR_lt t m (bkR_lt t m j)
theorem bk_pth {t bs : List UInt8} {m r0 : Nat} (hm : m ≤ t.length) (h : resF t m t.length = some (r0, bs)) : ∀ j, j ≤ t.length → bkR t m j = pth t m (t.length - j)
  | 0, _ => by
    obtain ⟨-, hlen, hb⟩ := res_path h
    obtain ⟨hinj, hsur, hend⟩ := visited hm (fun j hj => (hb j hj).1)
    -- the least row leads to the row of the mark
    obtain ⟨k, hk, e⟩ := hsur 0 (by omega)
    rcases Nat.eq_or_lt_of_le (show k ≤ t.length by omega) with c | c
    · rw [Nat.sub_zero, ← c, e]; rfl
    · exfalso
      have h1 := (hb k c).1
      have hlt := pth_lt hm t.length
      have hne : pth t m t.length ≠ 0 := fun e2 => by
        have := hinj k t.length hk (by omega) (by rw [e, e2])
        omega
      have h2 := nxt_at t m (r := 0) (r' := pth t m t.length) (by omega) hlt
      have e3 : (nxtL t m).getD 0 0 = pth t m (k + 1) := by show _ = (nxtL t m).getD (pth t m k) 0; rw [e]
      have e4 : (nxtL t m).getD (pth t m t.length) 0 = m := hend
      rw [e3, e4] at h2
      have h0 : lastF t m m = 0 := (lastF_zero t m m).2 rfl
      unfold RkL at h2
      rw [h0] at h2
      rcases h2 with d | ⟨d, _⟩
      · omega
      · exact h1 d
  | j + 1, hj => by
    have ih := bk_pth hm h j (by omega)
    have h1 := nxt_fst t m (pth_lt hm (t.length - j))
    have e : pth t m (t.length - j) = (nxtL t m).getD (pth t m (t.length - (j + 1))) 0 := by rw [show t.length - j = (t.length - (j + 1)) + 1 by omega]; rfl
    have e5 : fstR t m (pth t m (t.length - j)) = pth t m (t.length - (j + 1)) := nxt_inj (fstR_lt t m (pth_lt hm _)) (pth_lt hm _) (h1.trans e)
    have e6 : bkR t m (j + 1) = fstR t m (bkR t m j) := rfl
    rw [e6, ih, e5]
/-- What the reference lays at a position. -/
def bkB (t : List UInt8) (m i : Nat) : UInt8 := UInt8.ofNat (lastF t m (bkR t m (t.length - 1 - i)) - 1)
theorem bk_some {t bs : List UInt8} {m r0 : Nat} (hm : m ≤ t.length) (h : resF t m t.length = some (r0, bs)) : (∀ j, j < t.length → lastF t m (bkR t m j) ≠ 0) ∧ bs = (List.range t.length).map (bkB t m) := by
  obtain ⟨-, hlen, hb⟩ := res_path h
  have hbk := bk_pth hm h
  refine ⟨fun j hj => ?_, ?_⟩
  · rw [hbk j (by omega), show t.length - j = (t.length - j - 1) + 1 by omega]
    exact (hb _ (by omega)).1
  · apply List.ext_getElem
    · rw [hlen, List.length_map, List.length_range]
    · intro i h1 h2
      rw [hlen] at h1
      rw [List.getElem_map, List.getElem_range]
      obtain ⟨h3, h4⟩ := hb i h1
      rw [List.getD_eq_getElem?_getD, List.getElem?_eq_getElem (by omega)] at h4
      simp only [Option.getD_some] at h4
      unfold bkB
      rw [hbk _ (by omega), show t.length - (t.length - 1 - i) = i + 1 by omega, ← h4, Nat.add_sub_cancel]
      exact UInt8.ofNat_toNat.symm
/-- What does not turn back was no transform. -/
theorem no_turn {t T : List UInt8} {m : Nat} (h : resF t m t.length = none) {o : List Nat} (hO : IsOrd T o) (hT : T.length = t.length) : turF T (T.length :: o) (T.length + 1) ≠ (t, m) := fun e => by
  have := (rows_of hO).restored T.length (Nat.le_refl _)
  rw [e, hT] at this
  dsimp only at this
  rw [h] at this; cases this

end Go.Proofs.Ytndmbjicflcpmaa
