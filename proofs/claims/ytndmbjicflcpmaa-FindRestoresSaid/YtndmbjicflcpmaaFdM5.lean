/- Layer 7: turning and restoring are inverse to each other, the rest. -/
import Derived.Test.YtndmbjicflcpmaaFdM4
namespace Go.Proofs.Ytndmbjicflcpmaa

/-- Rows by rank, those of equal rank as they stand. -/
def RkL (f : Nat → Nat) (a b : Nat) : Prop := f a < f b ∨ (f a = f b ∧ a < b)
theorem RkL.as (f : Nat → Nat) : ∀ a b, RkL f a b → ¬ RkL f b a := fun a b h h' => by unfold RkL at *; omega
theorem nxt_asc (t : List UInt8) (m : Nat) : (nxtL t m).Pairwise (RkL (lastF t m)) := sortB_asc (lastF t m) (R := (· < ·)) List.pairwise_lt_range 4097
theorem nxt_at (t : List UInt8) (m : Nat) {r r' : Nat} (h : r < r') (h' : r' < t.length + 1) : RkL (lastF t m) ((nxtL t m).getD r 0) ((nxtL t m).getD r' 0) := by
  have hl : (nxtL t m).length = t.length + 1 := by rw [(nxtL_perm t m).length_eq, List.length_range]
  have := List.pairwise_iff_getElem.1 (nxt_asc t m) r r' (by omega) (by omega) h
  rw [List.getD_eq_getElem?_getD, List.getD_eq_getElem?_getD, List.getElem?_eq_getElem (show r' < (nxtL t m).length by omega), List.getElem?_eq_getElem (show r < (nxtL t m).length by omega)]
  exact this
theorem nodup_all {l : List Nat} {N : Nat} (hn : l.Nodup) (hl : ∀ x ∈ l, x < N) (hN : l.length = N) : ∀ r, r < N → r ∈ l := fun r hr => by
  by_cases h : r ∈ l
  · exact h
  · have h1 : (r :: l).Nodup := List.nodup_cons.2 ⟨h, hn⟩
    have h2 : (r :: l) ⊆ List.range N := fun x hx => by
      rcases List.mem_cons.1 hx with e | e
      · rw [e]; exact List.mem_range.2 hr
      · exact List.mem_range.2 (hl x e)
    have := h1.length_le_of_subset h2
    rw [List.length_cons, List.length_range] at this
    omega
theorem sfx_step {T : List UInt8} {a : Nat} (ha : a < T.length) : T.drop a = T.getD a 0 :: T.drop (a + 1) := by
  rw [List.drop_eq_getElem_cons ha, List.getD_eq_getElem?_getD, List.getElem?_eq_getElem ha]; rfl
theorem rank_lt {T : List UInt8} {a b : Nat} (ha : a < T.length) (hb : b < T.length) : ltS (T.drop a) (T.drop b) = true ↔ (T.getD a 0).toNat < (T.getD b 0).toNat ∨ (T.getD a 0).toNat = (T.getD b 0).toNat ∧ ltS (T.drop (a + 1)) (T.drop (b + 1)) = true := by
  rw [sfx_step ha, sfx_step hb, ltS_cons, UInt8.lt_iff_toNat_lt, ← UInt8.toNat_inj]
section
variable {T : List UInt8} {l : List Nat}
/-- The row one byte on. -/
def onR (T : List UInt8) (l : List Nat) (r : Nat) : Nat := if l.getD r 0 = T.length then l.idxOf 0 else l.idxOf (l.getD r 0 + 1)
theorem Rows.on_lt (h : Rows T l) {r : Nat} (hr : r < T.length + 1) : onR T l r < T.length + 1 := by
  unfold onR
  have := h.lt hr
  split
  · exact (h.row (by omega)).1
  · exact (h.row (by omega)).1
theorem Rows.last_on (h : Rows T l) {r : Nat} (hr : r < T.length + 1) : lastT T l (onR T l r) = if l.getD r 0 = T.length then 0 else (T.getD (l.getD r 0) 0).toNat + 1 := by
  unfold onR lastT
  have hlt := h.lt hr
  split
  · rw [(h.row (by omega)).2, if_pos rfl]
  · rw [(h.row (by omega)).2, if_neg (by omega)]; rfl
theorem Rows.on_asc (h : Rows T l) {r r' : Nat} (hrr : r < r') (hr' : r' < T.length + 1) : RkL (lastT T l) (onR T l r) (onR T l r') := by
  have hr : r < T.length + 1 := by omega
  have h1 := h.lt hr
  have h2 := h.lt hr'
  have hs := h.asc r r' hrr hr'
  have e2 : l.getD r' 0 ≠ T.length := fun e => by rw [e, List.drop_length, ltS_nil] at hs; cases hs
  unfold RkL
  rw [h.last_on hr, h.last_on hr', if_neg e2]
  by_cases e1 : l.getD r 0 = T.length
  · rw [if_pos e1]; left; omega
  · rw [if_neg e1]
    rcases (rank_lt (by omega) (by omega)).1 hs with c | ⟨c, d⟩
    · left; omega
    · right
      refine ⟨by omega, ?_⟩
      unfold onR
      rw [if_neg e1, if_neg e2]
      exact h.rlt (by omega) (by omega) d
theorem Rows.nxt (h : Rows T l) {t : List UInt8} {m : Nat} (ht : t.length = T.length) (hf : ∀ r, r < T.length + 1 → lastF t m r = lastT T l r) : ∀ r, r < T.length + 1 → (nxtL t m).getD r 0 = onR T l r := by
  have hp : ((List.range (T.length + 1)).map (onR T l)).Pairwise (RkL (lastF t m)) := by
    rw [List.pairwise_iff_getElem]
    intro i j hi hj hij
    rw [List.length_map, List.length_range] at hi hj
    simp only [List.getElem_map, List.getElem_range]
    have := h.on_asc hij hj
    unfold RkL at this ⊢
    rw [hf _ (h.on_lt hi), hf _ (h.on_lt hj)]
    exact this
  have hnd : ((List.range (T.length + 1)).map (onR T l)).Nodup := hp.imp (fun {a b} hab e => by rw [e] at hab; exact RkL.as _ _ _ hab hab)
  have hmem : ∀ x ∈ (List.range (T.length + 1)).map (onR T l), x < T.length + 1 := fun x hx => by
    obtain ⟨r, hr, rfl⟩ := List.mem_map.1 hx
    exact h.on_lt (List.mem_range.1 hr)
  have e : nxtL t m = (List.range (T.length + 1)).map (onR T l) := by
    refine asc_uniq (RkL.as (lastF t m)) (nxt_asc t m) hp (fun z => ?_)
    rw [(nxtL_perm t m).mem_iff, List.mem_range, ht]
    exact ⟨fun hz => nodup_all hnd hmem (by rw [List.length_map, List.length_range]) z hz, fun hz => hmem z hz⟩
  intro r hr
  rw [e, List.getD_eq_getElem?_getD, List.getElem?_map, List.getElem?_range hr]; rfl
/-- Restoring what was turned. -/
theorem Rows.restored (h : Rows T l) : ∀ k, k ≤ T.length → resF (turF T l (T.length + 1)).1 (turF T l (T.length + 1)).2 k = some (l.idxOf k, T.take k)
  | 0, _ => by
    rw [h.turned.2.1]; simp [resF]
  | k + 1, hk => by
    obtain ⟨t1, t2, t3⟩ := h.turned
    have ih := h.restored k (by omega)
    rw [t2] at ih ⊢
    obtain ⟨r1, r2⟩ := h.row (k := k) (by omega)
    have hnx := h.nxt t1 t3 _ r1
    have hon : onR T l (l.idxOf k) = l.idxOf (k + 1) := by unfold onR; rw [r2, if_neg (by omega)]
    have hla := h.last_on r1
    rw [hon, r2, if_neg (by omega)] at hla
    rw [hon] at hnx
    simp only [resF]
    rw [ih]
    dsimp only
    rw [hnx, t3 _ (h.row (by omega)).1, hla, if_neg (by omega)]
    have hb : UInt8.ofNat ((T.getD k 0).toNat + 1 - 1) = T.getD k 0 := by rw [Nat.add_sub_cancel]; exact UInt8.ofNat_toNat
    rw [hb, List.take_succ_eq_append_getElem (by omega), List.getD_eq_getElem?_getD, List.getElem?_eq_getElem (by omega)]; rfl
end

end Go.Proofs.Ytndmbjicflcpmaa
