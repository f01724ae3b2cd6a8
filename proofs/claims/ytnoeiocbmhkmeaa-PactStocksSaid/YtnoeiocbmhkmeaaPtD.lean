/- A row whose elements are moved up, and cleared behind: what slices.Delete does to a row of one's own. -/
import Derived.Test.YtnoeiocbmhkmeaaBase
namespace Go.Proofs.Ytnoeiocbmhkmeaa
open Go.RowKit
set_option linter.unusedSimpArgs false

/-- Some cells of a block from a place on, set one by one. -/
def putAll (cs : Array Value) : Nat → List Value → Array Value
  | _, [] => cs
  | o, v :: r => putAll (cs.setIfInBounds o v) (o + 1) r
theorem putAll_size : ∀ (vs : List Value) (cs : Array Value) (o : Nat), (putAll cs o vs).size = cs.size
  | [], _, _ => rfl
  | v :: r, cs, o => by rw [putAll, putAll_size r]; simp
theorem putAll_get : ∀ (vs : List Value) (cs : Array Value) (o k : Nat), k < cs.size → (putAll cs o vs)[k]? = if o ≤ k ∧ k < o + vs.length then vs[k - o]? else cs[k]?
  | [], cs, o, k, h => by rw [putAll, if_neg (by simp)]
  | v :: r, cs, o, k, h => by
    rw [putAll, putAll_get r _ (o + 1) k (by simpa using h), Array.getElem?_setIfInBounds]
    by_cases e : o = k
    · subst e
      rw [if_neg (by omega), if_pos rfl, if_pos h, if_pos (by simp)]
      simp
    · rw [if_neg e]
      by_cases h2 : o + 1 ≤ k ∧ k < o + 1 + r.length
      · rw [if_pos h2, if_pos (by simp; omega)]
        rw [show k - o = (k - (o + 1)) + 1 by omega, List.getElem?_cons_succ]
      · rw [if_neg h2, if_neg (by simp; omega)]
theorem Blk.puts {g : Nat} {t : TypeId} : ∀ (vs : List Value) (o : Nat) {w : World} {cs : Array Value}, Blk w g t cs → Blk (w.setCells g o vs) g t (putAll cs o vs)
  | [], _, _, _, h => h
  | v :: r, o, _, _, h => Blk.puts r (o + 1) (h.put o v)
theorem setCells_gb {g : Nat} : ∀ (vs : List Value) (o : Nat) (w : World), Gb g w (w.setCells g o vs)
  | [], _, w => Gb.refl g w
  | v :: r, o, w => ((Gb.refl g w).put o v).trans (setCells_gb r (o + 1) _)
/-- A row without its k-th element. -/
theorem flat_erase {α : Type} {enc : α → List Value} (l : List α) (k : Nat) : flatE enc (l.eraseIdx k) = flatE enc (l.take k) ++ flatE enc (l.drop (k + 1)) := by
  rw [List.eraseIdx_eq_take_drop_succ, flatE_app]
/-- Moved up and cleared, the row's own cells are the row without the element. -/
theorem del_row {α : Type} {enc : α → List Value} {z : Nat} (hk : ∀ x, (enc x).length = z) {w : World} {base n cap k : Nat} {t : TypeId} {g : Nat} {l : List α} (hl : l.length = n) (hkn : k < n)
    (h : w.ownsRow base t z (.slice (some ⟨g, 0, none⟩) n cap) n (flatE enc l)) (zs : List Value) :
    ((w.setCells g (k * z) (flatE enc (l.drop (k + 1)))).setCells g ((n - 1) * z) zs).ownsRow base t z (.slice (some ⟨g, 0, none⟩) (n - 1) cap) (n - 1) (flatE enc (l.eraseIdx k)) := by
  obtain ⟨h1, h2⟩ := h
  rcases h2 with ⟨e, -⟩ | ⟨g', cap', cur, e, hb, hh, hnc, hcm, hcs, htk⟩
  · cases e
  · injection e with e1 e2 e3
    injection e1 with e1
    injection e1 with e1
    subst e1; subst e3
    have hB : Blk w g t cur := hh
    have hB2 := Blk.puts zs ((n - 1) * z) (Blk.puts (flatE enc (l.drop (k + 1))) (k * z) hB)
    have hl1 : (l.eraseIdx k).length = n - 1 := by rw [List.length_eraseIdx, if_pos (by omega), hl]
    have hle : (flatE enc (l.eraseIdx k)).length = (n - 1) * z := by rw [flatE_len hk, hl1]
    refine ⟨hle, Or.inr ⟨g, cap, _, rfl, hb, hB2, by omega, hcm, by rw [putAll_size, putAll_size]; exact hcs, ?_⟩⟩
    have hm1 : (n - 1) * z ≤ n * z := Nat.mul_le_mul_right _ (by omega)
    have hm2 : n * z ≤ cap * z := Nat.mul_le_mul_right _ hnc
    have hld : (flatE enc (l.drop (k + 1))).length = (n - 1 - k) * z := by rw [flatE_len hk, List.length_drop, hl]; congr 1; omega
    have hmul : k * z + (n - 1 - k) * z = (n - 1) * z := by rw [← Nat.add_mul]; congr 1; omega
    have hlt : (flatE enc (l.take k)).length = k * z := by rw [flatE_len hk, List.length_take]; congr 1; omega
    apply List.ext_getElem?
    intro i
    rw [List.getElem?_take]
    by_cases hi : i < (n - 1) * z
    · rw [if_pos hi, Array.getElem?_toList, putAll_get _ _ _ _ (by rw [putAll_size]; omega), if_neg (by omega), putAll_get _ _ _ _ (by omega), hld, flat_erase]
      by_cases hik : k * z ≤ i
      · rw [if_pos (by omega), List.getElem?_append_right (by omega), hlt]
      · rw [if_neg (by omega), List.getElem?_append_left (by omega)]
        have h3 : (flatE enc l)[i]? = cur[i]? := by
          rw [← htk, List.getElem?_take, if_pos (by omega), Array.getElem?_toList]
        rw [← h3]
        have h4 : flatE enc l = flatE enc (l.take k) ++ flatE enc (l.drop k) := by rw [← flatE_app, List.take_append_drop]
        rw [h4, List.getElem?_append_left (by omega)]
    · rw [if_neg hi, List.getElem?_eq_none (by omega)]

end Go.Proofs.Ytnoeiocbmhkmeaa
