/- Layer 7: what was restored turns to what it was restored from. -/
import Derived.Test.YtndmbjicflcpmaaFdM5
namespace Go.Proofs.Ytndmbjicflcpmaa

/-- The rows that are visited. -/
def pth (t : List UInt8) (m : Nat) : Nat → Nat
  | 0 => m
  | k + 1 => (nxtL t m).getD (pth t m k) 0
theorem lastF_zero (t : List UInt8) (m r : Nat) : lastF t m r = 0 ↔ r = m := by
  unfold lastF
  split
  · omega
  · split <;> omega
theorem res_path {t : List UInt8} {m : Nat} : ∀ {k r : Nat} {bs : List UInt8}, resF t m k = some (r, bs) → r = pth t m k ∧ bs.length = k ∧ ∀ j, j < k → lastF t m (pth t m (j + 1)) ≠ 0 ∧ (bs.getD j 0).toNat + 1 = lastF t m (pth t m (j + 1))
  | 0, r, bs, h => by
    simp only [resF, Option.some.injEq, Prod.mk.injEq] at h
    obtain ⟨rfl, rfl⟩ := h
    exact ⟨rfl, rfl, fun j hj => by omega⟩
  | k + 1, r, bs, h => by
    simp only [resF] at h
    cases hk : resF t m k with
    | none => rw [hk] at h; simp at h
    | some q =>
      obtain ⟨r0, b0⟩ := q
      rw [hk] at h
      dsimp only at h
      obtain ⟨a1, a2, a3⟩ := res_path hk
      subst a1
      split at h
      · cases h
      · rename_i hne
        simp only [Option.some.injEq, Prod.mk.injEq] at h
        obtain ⟨rfl, rfl⟩ := h
        refine ⟨rfl, by rw [List.length_append, a2]; rfl, fun j hj => ?_⟩
        by_cases e : j = k
        · subst e
          refine ⟨hne, ?_⟩
          have hle := lastF_le t m ((nxtL t m).getD (pth t m j) 0)
          rw [List.getD_eq_getElem?_getD, List.getElem?_append_right (by omega), a2]
          simp only [Nat.sub_self, List.getElem?_cons_zero, Option.getD_some]
          rw [UInt8.toNat_ofNat']
          show _ = lastF t m ((nxtL t m).getD (pth t m j) 0)
          omega
        · obtain ⟨b1, b2⟩ := a3 j (by omega)
          refine ⟨b1, ?_⟩
          rw [List.getD_eq_getElem?_getD, List.getElem?_append_left (by omega), ← List.getD_eq_getElem?_getD]
          exact b2
section
variable {t : List UInt8} {m : Nat}
theorem pth_lt (hm : m ≤ t.length) : ∀ k, pth t m k < t.length + 1
  | 0 => by show m < _; omega
  | k + 1 => nxtL_lt t m (pth_lt hm k)
theorem nxt_inj {a b : Nat} (ha : a < t.length + 1) (hb : b < t.length + 1) (h : (nxtL t m).getD a 0 = (nxtL t m).getD b 0) : a = b := by
  rcases Nat.lt_trichotomy a b with c | c | c
  · have := nxt_at t m c hb; rw [h] at this; exact absurd this (RkL.as _ _ _ this)
  · exact c
  · have := nxt_at t m c ha; rw [h] at this; exact absurd this (RkL.as _ _ _ this)
theorem pth_cancel (hm : m ≤ t.length) (i d : Nat) (h : pth t m i = pth t m (i + d)) : m = pth t m d := by
  induction i with
  | zero => rw [Nat.zero_add] at h; exact h
  | succ i ih =>
    rw [Nat.succ_add] at h
    exact ih (nxt_inj (pth_lt hm i) (pth_lt hm (i + d)) h)
/-- All rows are visited. -/
theorem visited (hm : m ≤ t.length) (hne : ∀ j, j < t.length → lastF t m (pth t m (j + 1)) ≠ 0) :
    (∀ i j, i < t.length + 1 → j < t.length + 1 → pth t m i = pth t m j → i = j) ∧ (∀ r, r < t.length + 1 → ∃ k, k < t.length + 1 ∧ pth t m k = r) ∧ pth t m (t.length + 1) = m := by
  have hnm : ∀ d, 1 ≤ d → d ≤ t.length → m ≠ pth t m d := fun d h1 h2 e => by
    obtain ⟨d, rfl⟩ : ∃ d', d = d' + 1 := ⟨d - 1, by omega⟩
    exact hne d (by omega) ((lastF_zero t m _).2 e.symm)
  have hinj : ∀ i j, i < t.length + 1 → j < t.length + 1 → pth t m i = pth t m j → i = j := fun i j hi hj h => by
    rcases Nat.lt_trichotomy i j with c | c | c
    · exact absurd (pth_cancel hm i (j - i) (by rw [show i + (j - i) = j by omega]; exact h)) (hnm _ (by omega) (by omega))
    · exact c
    · exact absurd (pth_cancel hm j (i - j) (by rw [show j + (i - j) = i by omega]; exact h.symm)) (hnm _ (by omega) (by omega))
  have hnd : ((List.range (t.length + 1)).map (pth t m)).Nodup := by
    rw [List.Nodup, List.pairwise_iff_getElem]
    intro i j hi hj hij
    rw [List.length_map, List.length_range] at hi hj
    simp only [List.getElem_map, List.getElem_range]
    intro e
    have := hinj i j hi hj e
    omega
  have hall := nodup_all hnd (N := t.length + 1) (fun x hx => by
    obtain ⟨k, _, rfl⟩ := List.mem_map.1 hx
    exact pth_lt hm k) (by rw [List.length_map, List.length_range])
  have hsur : ∀ r, r < t.length + 1 → ∃ k, k < t.length + 1 ∧ pth t m k = r := fun r hr => by
    obtain ⟨k, hk, e⟩ := List.mem_map.1 (hall r hr)
    exact ⟨k, List.mem_range.1 hk, e⟩
  refine ⟨hinj, hsur, ?_⟩
  obtain ⟨k, hk, e⟩ := hsur _ (pth_lt hm (t.length + 1))
  cases k with
  | zero => exact e.symm
  | succ k =>
    have := nxt_inj (pth_lt hm k) (pth_lt hm t.length) e
    have := hinj k t.length (by omega) (by omega) this
    omega
/-- The suffixes in the order of their rows. -/
theorem back_rows {bs : List UInt8} {r0 : Nat} (hm : m ≤ t.length) (h : resF t m t.length = some (r0, bs)) : ∃ l, Rows bs l ∧ bs.length = t.length ∧ ∀ r, r < t.length + 1 → lastT bs l r = lastF t m r := by
  obtain ⟨-, hlen, hb⟩ := res_path h
  obtain ⟨hinj, hsur, hend⟩ := visited hm (fun j hj => (hb j hj).1)
  obtain ⟨pl, hpl⟩ : ∃ pl, (List.range (t.length + 1)).map (pth t m) = pl := ⟨_, rfl⟩
  have hplat : ∀ k, k < t.length + 1 → pl.getD k 0 = pth t m k := fun k hk => by
    rw [← hpl, List.getD_eq_getElem?_getD, List.getElem?_map, List.getElem?_range hk]; rfl
  -- where a row is visited
  obtain ⟨l, hl⟩ : ∃ l, (List.range (t.length + 1)).map (fun r => pl.idxOf r) = l := ⟨_, rfl⟩
  have hlat : ∀ r, r < t.length + 1 → l.getD r 0 = pl.idxOf r := fun r hr => by
    rw [← hl, List.getD_eq_getElem?_getD, List.getElem?_map, List.getElem?_range hr]; rfl
  have hpos : ∀ k, k < t.length + 1 → l.getD (pth t m k) 0 = k := fun k hk => by
    rw [hlat _ (pth_lt hm k)]
    have hmem : pth t m k ∈ pl := by rw [← hpl]; exact List.mem_map.2 ⟨k, List.mem_range.2 hk, rfl⟩
    have h1 := List.idxOf_lt_length_of_mem hmem
    have h2 : pl.length = t.length + 1 := by rw [← hpl, List.length_map, List.length_range]
    have h3 : pl.getD (pl.idxOf (pth t m k)) 0 = pth t m k := by rw [List.getD_eq_getElem?_getD, List.getElem?_eq_getElem h1]; simp
    rw [hplat _ (by omega)] at h3
    exact hinj _ _ (by omega) hk h3
  have hrow : ∀ r, r < t.length + 1 → l.getD r 0 < t.length + 1 ∧ pth t m (l.getD r 0) = r := fun r hr => by
    obtain ⟨k, hk, rfl⟩ := hsur r hr
    rw [hpos k hk]; exact ⟨hk, rfl⟩
  have hllen : l.length = t.length + 1 := by rw [← hl, List.length_map, List.length_range]
  have hasc : ∀ d r r', r < r' → r' < t.length + 1 → t.length - l.getD r 0 ≤ d → ltS (bs.drop (l.getD r 0)) (bs.drop (l.getD r' 0)) = true := by
    intro d
    induction d with
    | zero =>
      intro r r' hrr hr' hd
      obtain ⟨a1, a2⟩ := hrow r (by omega)
      obtain ⟨b1, b2⟩ := hrow r' hr'
      have e1 : l.getD r 0 = t.length := by omega
      have e2 : l.getD r' 0 ≠ t.length := fun e => by rw [e1] at a2; rw [e, a2] at b2; omega
      rw [e1, List.drop_of_length_le (by omega), sfx_step (T := bs) (by omega)]; rfl
    | succ d ih =>
      intro r r' hrr hr' hd
      obtain ⟨a1, a2⟩ := hrow r (by omega)
      obtain ⟨b1, b2⟩ := hrow r' hr'
      by_cases e1 : l.getD r 0 = t.length
      · have e2 : l.getD r' 0 ≠ t.length := fun e => by rw [e1] at a2; rw [e, a2] at b2; omega
        rw [e1, List.drop_of_length_le (by omega), sfx_step (T := bs) (by omega)]; rfl
      · have hk2 : RkL (lastF t m) (pth t m (l.getD r 0 + 1)) (pth t m (l.getD r' 0 + 1)) := by
          show RkL (lastF t m) ((nxtL t m).getD (pth t m (l.getD r 0)) 0) ((nxtL t m).getD (pth t m (l.getD r' 0)) 0)
          rw [a2, b2]
          exact nxt_at t m hrr hr'
        have hba := hb (l.getD r 0) (by omega)
        by_cases e2 : l.getD r' 0 = t.length
        · rw [e2, hend] at hk2
          have h0 : lastF t m m = 0 := (lastF_zero t m m).2 rfl
          unfold RkL at hk2
          rw [h0] at hk2
          rcases hk2 with c | ⟨c, _⟩
          · omega
          · exact absurd c hba.1
        · have hbb := hb (l.getD r' 0) (by omega)
          refine (rank_lt (by omega) (by omega)).2 ?_
          unfold RkL at hk2
          rw [← hba.2, ← hbb.2] at hk2
          rcases hk2 with c | ⟨c, c2⟩
          · left; omega
          · right
            refine ⟨by omega, ?_⟩
            have h1 := hpos (l.getD r 0 + 1) (by omega)
            have h2 := hpos (l.getD r' 0 + 1) (by omega)
            have := ih _ _ c2 (pth_lt hm _) (by rw [h1]; omega)
            rwa [h1, h2] at this
  have hnd : l.Nodup := by
    rw [List.Nodup, List.pairwise_iff_getElem]
    intro i j hi hj hij e
    have h1 := hrow i (by omega)
    have h2 := hrow j (by omega)
    rw [List.getD_eq_getElem?_getD, List.getElem?_eq_getElem hi] at h1
    rw [List.getD_eq_getElem?_getD, List.getElem?_eq_getElem hj] at h2
    simp only [Option.getD_some] at h1 h2
    rw [e, h2.2] at h1
    omega
  have hmem : ∀ x ∈ l, x < t.length + 1 := fun x hx => by
    obtain ⟨i, hi, rfl⟩ := List.mem_iff_getElem.1 hx
    have h1 := hrow i (by omega)
    rw [List.getD_eq_getElem?_getD, List.getElem?_eq_getElem hi] at h1
    exact h1.1
  refine ⟨l, ⟨?_, fun r r' h1 h2 => hasc _ r r' h1 (by rw [hlen] at h2; exact h2) (Nat.le_refl _)⟩, hlen, fun r hr => ?_⟩
  · rw [hlen, List.perm_ext_iff_of_nodup hnd List.nodup_range]
    intro a
    rw [List.mem_range]
    exact ⟨fun ha => hmem a ha, fun ha => nodup_all hnd hmem hllen a ha⟩
  · obtain ⟨a1, a2⟩ := hrow r hr
    unfold lastT
    split
    · rename_i e
      rw [e] at a2
      rw [← a2]
      exact ((lastF_zero t m m).2 rfl).symm
    · rename_i e
      have := (hb (l.getD r 0 - 1) (by omega)).2
      rw [this, show l.getD r 0 - 1 + 1 = l.getD r 0 by omega, a2]
/-- A restored text turns to what it was restored from. -/
theorem turned_back {bs : List UInt8} {r0 : Nat} (hm : m ≤ t.length) (h : resF t m t.length = some (r0, bs)) : ∃ o, IsOrd bs o ∧ bs.length = t.length ∧ turF bs (bs.length :: o) (bs.length + 1) = (t, m) := by
  obtain ⟨l, hR, hlen, hla⟩ := back_rows hm h
  obtain ⟨o, rfl, hO⟩ := hR.order
  refine ⟨o, hO, hlen, ?_⟩
  obtain ⟨t1, t2, t3⟩ := hR.turned
  obtain ⟨z1, z2⟩ := hR.row (k := 0) (by omega)
  have hmz : (bs.length :: o).idxOf 0 = m := by
    have h1 := t3 _ z1
    rw [(lastF_zero _ _ _).2 rfl] at h1
    exact (lastF_zero t m _).1 (by rw [← hla _ (by omega), ← h1])
  rw [hmz] at t2 t3
  refine Prod.ext ?_ t2
  apply List.ext_getElem
  · rw [t1, hlen]
  · intro i h1 h2
    have h1' : i < t.length := by rw [t1, hlen] at h1; exact h1
    have hget : ∀ (x : List UInt8) (hx : i < x.length), x.getD i 0 = x[i] := fun x hx => by rw [List.getD_eq_getElem?_getD, List.getElem?_eq_getElem hx]; rfl
    have g1 := hget _ h1
    have g2 := hget t h1'
    show _ = t[i]
    rw [← g1, ← g2]
    by_cases c : i < m
    · have h3 := t3 i (by omega)
      rw [hla i (by omega)] at h3
      unfold lastF at h3
      rw [if_pos c, if_pos c] at h3
      exact UInt8.toNat_inj.1 (by omega)
    · have h3 := t3 (i + 1) (by omega)
      rw [hla (i + 1) (by omega)] at h3
      unfold lastF at h3
      have c1 : ¬ i + 1 < m := by omega
      have c2 : m < i + 1 := by omega
      rw [if_neg c1, if_neg c1, if_pos c2, if_pos c2, Nat.add_sub_cancel] at h3
      exact UInt8.toNat_inj.1 (by omega)
end

end Go.Proofs.Ytndmbjicflcpmaa
