/- Layer 2: no plan is worth more than the best; larger bounds (mathematics). -/
import Derived.Test.YtcojionipffanabCSame
import Derived.Test.YtcojionipffanabCCheck
import Derived.Test.YtcojionipffanabCBound
namespace Go.Proofs.Ytcojionipffanab

/-- No plan that reads is worth more than the best. -/
theorem rd_le (bs : List Bl) : ∀ (n w h : Nat) (p : List St) (m : List Bl) (r : List St), 1 ≤ w → 1 ≤ h → rd bs n w h p = some (m, r) → sumV m ≤ mst bs w h
  | 0, _, _, _, _, _, _, _, e => by simp [rd] at e
  | _ + 1, _, _, [], _, _, _, _, e => by simp [rd] at e
  | n + 1, w, h, s :: t, m, r, hw, hh, e => by
    have ih := rd_le bs n
    unfold rd at e
    split at e
    · split at e
      · injection e with e; injection e with e1 e2; subst e1; exact mst_nonneg _ _ _
      · cases e
    · split at e
      · split at e
        · rename_i hc
          injection e with e; injection e with e1 e2; subst e1
          have := mst_has (bs := bs) (b := bl bs s.2.toNat) (bl_mem (by omega)) hw hh hc.2.2
          simpa [sumV] using this
        · cases e
      · split at e
        · split at e
          · rename_i hc
            obtain ⟨m1, r1, m2, h1, h2, rfl⟩ := two2_some e
            obtain ⟨x, hx⟩ : ∃ x : Nat, s.2 = x := ⟨s.2.toNat, by omega⟩
            rw [hx] at h1 h2 hc
            rw [show (w : Int) - (x : Int) = ((w - x : Nat) : Int) by omega] at h2
            have a1 := ih x h t m1 r1 (by omega) hh h1
            have a2 := ih (w - x) h r1 m2 r (by omega) hh h2
            have a3 := mst_x bs (a := x) (b := w - x) (h := h) (by omega) (by omega) hh
            rw [show x + (w - x) = w by omega] at a3
            rw [sumV_app]; omega
          · cases e
        · split at e
          · split at e
            · rename_i hc
              obtain ⟨m1, r1, m2, h1, h2, rfl⟩ := two2_some e
              obtain ⟨y, hy⟩ : ∃ y : Nat, s.2 = y := ⟨s.2.toNat, by omega⟩
              rw [hy] at h1 h2 hc
              rw [show (h : Int) - (y : Int) = ((h - y : Nat) : Int) by omega] at h2
              have a1 := ih w y t m1 r1 hw (by omega) h1
              have a2 := ih w (h - y) r1 m2 r hw (by omega) h2
              have a3 := mst_y bs (w := w) (a := y) (b := h - y) hw (by omega) (by omega)
              rw [show y + (h - y) = h by omega] at a3
              rw [sumV_app]; omega
            · cases e
          · cases e

/-- A table of a function's values. -/
def fTb (F : Nat → Nat → Int) (W H : Nat) : List (List Int) := (List.range (W + 1)).map fun a => (List.range (H + 1)).map (F a)
theorem fTb_len (F : Nat → Nat → Int) (W H : Nat) : (fTb F W H).length = W + 1 := by simp [fTb]
theorem fTb_row (F : Nat → Nat → Int) (W H : Nat) {a : Nat} (h : a ≤ W) : (fTb F W H).getD a [] = (List.range (H + 1)).map (F a) := by
  rw [List.getD_eq_getElem?_getD, List.getElem?_eq_getElem (by rw [fTb_len]; omega)]
  simp [fTb]
theorem fTb_at (F : Nat → Nat → Int) (W H : Nat) {a b : Nat} (h : a ≤ W) (k : b ≤ H) : at2 (fTb F W H) a b = F a b := by
  unfold at2
  rw [fTb_row F W H h, List.getD_eq_getElem?_getD, List.getElem?_eq_getElem (by simp; omega)]
  simp
/-- The best values, raised by a multiple of the area. -/
def raise (bs : List Bl) (e : Nat) (a b : Nat) : Int := mst bs a b + (e : Int) * (a : Int) * (b : Int)
theorem area_bd {e a b : Nat} (he : e ≤ 16) (ha : a ≤ 48) (hb : b ≤ 48) : 0 ≤ (e : Int) * (a : Int) ∧ (e : Int) * (a : Int) ≤ 16 * 48 ∧ 0 ≤ (e : Int) * (a : Int) * (b : Int) ∧ (e : Int) * (a : Int) * (b : Int) ≤ 16 * 48 * 48 := by
  have h1 : 0 ≤ (e : Int) * (a : Int) := Int.mul_nonneg (by omega) (by omega)
  have h2 : (e : Int) * (a : Int) ≤ 16 * 48 := Int.mul_le_mul (by omega) (by omega) (by omega) (by omega)
  exact ⟨h1, h2, Int.mul_nonneg h1 (by omega), Int.mul_le_mul h2 (by omega) (by omega) (by omega)⟩
theorem raise_frm {bs : List Bl} (hb : ∀ b ∈ bs, blB b = true) {e W H : Nat} (he : e ≤ 16) (hW : W ≤ 48) (hH : H ≤ 48) : Frm W H (fTb (raise bs e) W H) :=
  ⟨fTb_len _ W H, fun a ha => ⟨by rw [fTb_row _ W H ha]; simp, fun b hb' => by
    rw [fTb_at _ W H ha hb']
    have h1 := mst_bd hb (w := a) (h := b) (by omega) (by omega)
    have h2 := area_bd he (show a ≤ 48 by omega) (show b ≤ 48 by omega)
    unfold raise
    omega⟩⟩
theorem raise_bound {bs : List Bl} (hb : ∀ b ∈ bs, blB b = true) (e W H : Nat) : BoundF bs (at2 (fTb (raise bs e) W H)) W H := fun w h hw hh => by
  rw [needT_congr (T' := raise bs e) (fun a b h1 h2 => fTb_at _ W H (by omega) (by omega)), fTb_at _ W H hw hh]
  by_cases ez : w = 0 ∨ h = 0
  · have hz : ∀ w h, w = 0 ∨ h = 0 → raise bs e w h = 0 := fun w h k => by
      unfold raise
      rw [mst_zero bs k]
      rcases k with rfl | rfl <;> simp
    rw [needT_zero hb hz ez, hz w h ez]; exact Int.le_refl _
  · have h0 : 0 ≤ (e : Int) * (w : Int) * (h : Int) := Int.mul_nonneg (Int.mul_nonneg (by omega) (by omega)) (by omega)
    have hn := mst_nonneg bs w h
    have hR : 0 ≤ raise bs e w h := by unfold raise; omega
    have q1 : blT bs w h bs.length ≤ raise bs e w h := blT_le bs w h hR _ (fun i hi hf => by
      have := mst_has (bs := bs) (b := bl bs i) (bl_mem hi) (show 1 ≤ w by omega) (show 1 ≤ h by omega) hf
      unfold raise; omega)
    have q2 : cutT (fun x => raise bs e x h) w w ≤ raise bs e w h := cutT_le _ _ hR _ (fun x a b => by
      have a3 := mst_x bs (a := x) (b := w - x) (h := h) (by omega) (by omega) (by omega)
      rw [show x + (w - x) = w by omega] at a3
      have a4 : (e : Int) * (x : Int) * (h : Int) + (e : Int) * ((w - x : Nat) : Int) * (h : Int) = (e : Int) * (w : Int) * (h : Int) := by
        rw [← Int.add_mul, ← Int.mul_add]; congr 2; omega
      unfold raise; omega)
    have q3 : cutT (fun y => raise bs e w y) h h ≤ raise bs e w h := cutT_le _ _ hR _ (fun y a b => by
      have a3 := mst_y bs (w := w) (a := y) (b := h - y) (by omega) (by omega) (by omega)
      rw [show y + (h - y) = h by omega] at a3
      have a4 : (e : Int) * (w : Int) * (y : Int) + (e : Int) * (w : Int) * ((h - y : Nat) : Int) = (e : Int) * (w : Int) * (h : Int) := by
        rw [← Int.mul_add]; congr 1; omega
      unfold raise; omega)
    unfold needT; omega

end Go.Proofs.Ytcojionipffanab
