/- Layer 2: tables of numbers; the least that a bound's number may be. -/
import Derived.Test.YthleajmamkihaaaCNum
import Derived.Test.YthleajmamkihaaaHeld
namespace Go.Proofs.Ythleajmamkihaaa
open Go.RowKit
set_option linter.unusedSimpArgs false

/-- A slice of slices of numbers reads as a table. -/
def RdRows (w : World) (A : Option Addr) (tb : List (List Int)) : Prop :=
  ∀ i row, tb[i]? = some row → ∃ b off Ai ci, A = some ⟨b, off, none⟩ ∧ w.cell? ⟨b, off + i, none⟩ = some (.slice Ai row.length ci) ∧ Ints w Ai row
theorem RdRows.keep {w w' : World} {A : Option Addr} {tb : List (List Int)} (h : RdRows w A tb) (hg : Gr w w') : RdRows w' A tb := fun i row hr => by
  obtain ⟨b, off, Ai, ci, e, hc, hI⟩ := h i row hr
  exact ⟨b, off, Ai, ci, e, hg.keep hc, hI.keep hg⟩
def at2 (tb : List (List Int)) (w h : Nat) : Int := (tb.getD w []).getD h 0
def numB (n : Int) : Bool := decide (0 ≤ n) && decide (n ≤ 1099511627776)
theorem numB_iff (n : Int) : numB n = true ↔ 0 ≤ n ∧ n ≤ 1099511627776 := by simp [numB]
/-- The right lengths, and numbers that are small. -/
def Frm (W H : Nat) (tb : List (List Int)) : Prop := tb.length = W + 1 ∧ ∀ w, w ≤ W → (tb.getD w []).length = H + 1 ∧ ∀ h, h ≤ H → 0 ≤ at2 tb w h ∧ at2 tb w h ≤ 1099511627776
theorem RdRows.at {w : World} {A : Option Addr} {tb : List (List Int)} {W H : Nat} (h : RdRows w A tb) (hF : Frm W H tb) {i k : Nat} (hi : i ≤ W) (hk : k ≤ H) :
    ∃ b off b' off' c', A = some ⟨b, off, none⟩ ∧ w.cell? ⟨b, off + i, none⟩ = some (.slice (some ⟨b', off', none⟩) (H + 1) c') ∧ w.cell? ⟨b', off' + k, none⟩ = some (.int .i64 (at2 tb i k)) := by
  obtain ⟨h1, h2⟩ := hF
  obtain ⟨h3, -⟩ := h2 i hi
  obtain ⟨b, off, Ai, ci, e, hc, hI⟩ := h i _ (getD_of [] (by omega : i < tb.length))
  obtain ⟨b', off', e', hc'⟩ := Ints_at hI (i := k) (by omega)
  subst e'
  rw [h3] at hc
  exact ⟨b, off, b', off', ci, e, hc, hc'⟩
theorem RdRows.row {w : World} {A : Option Addr} {tb : List (List Int)} {W H : Nat} (h : RdRows w A tb) (hF : Frm W H tb) {b off b' off' c' : Nat} {i : Nat} (hi : i ≤ W) (hA : A = some ⟨b, off, none⟩) (hc : w.cell? ⟨b, off + i, none⟩ = some (.slice (some ⟨b', off', none⟩) (H + 1) c')) {k : Nat} (hk : k ≤ H) :
    w.cell? ⟨b', off' + k, none⟩ = some (.int .i64 (at2 tb i k)) := by
  obtain ⟨b2, off2, b3, off3, c3, e, h1, h2⟩ := h.at hF hi hk
  rw [hA] at e
  obtain ⟨rfl, rfl⟩ : b = b2 ∧ off = off2 := by simpa using e
  rw [hc] at h1
  obtain ⟨⟨rfl, rfl⟩, -⟩ : (b' = b3 ∧ off' = off3) ∧ c' = c3 := by simpa using h1
  exact h2

theorem cutT_end {f : Nat → Int} {s k : Nat} (h1 : 1 ≤ k) (h2 : 2 * (k - 1) ≤ s) (h3 : s < 2 * k) : cutT f s k = cutT f s s := by
  by_cases e : k ≤ s
  · exact cutT_half f s k e h3
  · obtain rfl : k = 1 := by omega
    have hs : s = 0 := by omega
    subst hs; rfl
theorem blT_bd {bs : List Bl} (hb : ∀ b ∈ bs, blB b = true) (w h : Int) (k : Nat) (hk : k ≤ bs.length) : 0 ≤ blT bs w h k ∧ blT bs w h k ≤ 1048576 :=
  ⟨blT_nonneg bs w h k, blT_le bs w h (by omega) k (fun i hi _ => ((blB_iff _).1 (hb _ (bl_mem (by omega)))).2.2.2)⟩
theorem cutT_bd {f : Nat → Int} {s M : Nat} (h : ∀ x, x ≤ s → 0 ≤ f x ∧ f x ≤ M) (k : Nat) (hk : k ≤ s + 1) : 0 ≤ cutT f s k ∧ cutT f s k ≤ 2 * M :=
  ⟨cutT_nonneg f s k, cutT_le f s (by omega) k (fun x a b => by
    have h1 := h x (by omega)
    have h2 := h (s - x) (by omega)
    omega)⟩

end Go.Proofs.Ythleajmamkihaaa
