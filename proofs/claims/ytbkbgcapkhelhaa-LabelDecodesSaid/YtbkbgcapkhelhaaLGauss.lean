/- Layer 3: linear equations over the field (mathematics of the reference's solve). -/
import Derived.Test.YtbkbgcapkhelhaaLDec
namespace Go.Proofs.Ytbkbgcapkhelhaa

theorem isum_mul (c : G) (f : Nat → G) : ∀ l : List Nat, isum l (fun i => c * f i) = c * isum l f
  | [] => (gmul_zero _).symm
  | a :: r => by rw [isum_cons, isum_cons, isum_mul c f r, gmul_add]
/-- What a row says of v: the sum of its first n numbers times v. -/
def dotF (n : Nat) (r : List G) (v : Nat → G) : G := isum (List.range n) (fun k => r.getD k g0 * v k)
def rowZ (f : G) (r own : List G) : List G := List.zipWith (fun a b => a + f * b) r own
theorem rowZ_len {f : G} {r own : List G} {m : Nat} (h1 : r.length = m) (h2 : own.length = m) : (rowZ f r own).length = m := by unfold rowZ; rw [List.length_zipWith, h1, h2, Nat.min_self]
theorem rowZ_at {f : G} {r own : List G} {m k : Nat} (h1 : r.length = m) (h2 : own.length = m) (hk : k < m) : (rowZ f r own).getD k g0 = r.getD k g0 + f * own.getD k g0 := by
  unfold rowZ
  rw [List.getD_eq_getElem?_getD, List.getElem?_zipWith, getD_of g0 (by omega : k < r.length), getD_of g0 (by omega : k < own.length)]
  rfl
theorem rowZ_dot {n m : Nat} {f : G} {r own : List G} (h1 : r.length = m) (h2 : own.length = m) (hn : n ≤ m) (v : Nat → G) : dotF n (rowZ f r own) v = dotF n r v + f * dotF n own v := by
  unfold dotF
  rw [← isum_mul, ← isum_add]
  refine isum_congr _ (fun k hk => ?_)
  rw [rowZ_at h1 h2 (by have : k < n := by simpa using hk
                        omega), gadd_mul, gmul_assoc]
def rowM (r : List G) (k : G) : List G := r.map (· * k)
theorem rowM_at {r : List G} {k : G} {i : Nat} : (rowM r k).getD i g0 = r.getD i g0 * k := by
  unfold rowM
  rw [List.getD_eq_getElem?_getD, List.getElem?_map, List.getD_eq_getElem?_getD]
  cases r[i]? with
  | none => exact (gzero_mul _).symm
  | some x => rfl
theorem rowM_dot {n : Nat} {r : List G} {k : G} (v : Nat → G) : dotF n (rowM r k) v = k * dotF n r v := by
  unfold dotF
  rw [← isum_mul]
  refine isum_congr _ (fun i _ => ?_)
  rw [rowM_at, gmul_comm (r.getD i g0) k, gmul_assoc]

/-- All of the rows' lengths. -/
def Wid (R : List (List G)) (n : Nat) : Prop := ∀ i, i < R.length → (R.getD i []).length = n + 1
def SatF (R : List (List G)) (n : Nat) (x : Nat → G) : Prop := ∀ i, i < R.length → dotF n (R.getD i []) x = (R.getD i []).getD n g0
def TrivF (R : List (List G)) (n : Nat) : Prop := ∀ v : Nat → G, (∀ i, i < R.length → dotF n (R.getD i []) v = g0) → ∀ k, k < n → v k = g0
def Unit_ (R : List (List G)) (c : Nat) : Prop := ∀ i, i < R.length → ∀ k, k < c → (R.getD i []).getD k g0 = if i = k then g1 else g0
theorem getD_setL {R : List (List G)} {i j : Nat} {r : List G} (hi : i < R.length) : (R.set i r).getD j [] = if i = j then r else R.getD j [] := by
  rw [List.getD_eq_getElem?_getD, List.getElem?_set]
  by_cases e : i = j
  · rw [if_pos e, if_pos e, if_pos hi]; rfl
  · rw [if_neg e, if_neg e, List.getD_eq_getElem?_getD]
/-- A row with the pivot's row taken off. -/
def elimR (c : Nat) (own : List G) (i : Nat) (r : List G) : List G := if i = c then r else rowZ (r.getD c g0) r own
def elimT (c : Nat) (own : List G) (R : List (List G)) : Nat → List (List G)
  | 0 => R
  | i + 1 => (elimT c own R i).set i (elimR c own i ((elimT c own R i).getD i []))
theorem elimT_len (c : Nat) (own : List G) (R : List (List G)) : ∀ i, (elimT c own R i).length = R.length
  | 0 => rfl
  | i + 1 => by rw [elimT, List.length_set, elimT_len c own R i]
theorem elimT_at (c : Nat) (own : List G) (R : List (List G)) (j : Nat) : ∀ i, i ≤ R.length → (elimT c own R i).getD j [] = if j < i then elimR c own j (R.getD j []) else R.getD j []
  | 0, _ => by rw [if_neg (by omega)]; rfl
  | i + 1, h => by
    have ih := elimT_at c own R i i (by omega)
    rw [if_neg (by omega)] at ih
    rw [elimT, getD_setL (by rw [elimT_len]; omega), ih]
    by_cases e : i = j
    · subst e; rw [if_pos rfl, if_pos (by omega)]
    · rw [if_neg e, elimT_at c own R j i (by omega)]
      by_cases e2 : j < i
      · rw [if_pos e2, if_pos (by omega)]
      · rw [if_neg e2, if_neg (by omega)]
def ownR (R : List (List G)) (c a : Nat) : List G := rowM (R.getD a []) (ginv ((R.getD a []).getD c g0))
def swapR (R : List (List G)) (c a : Nat) : List (List G) := (R.set a (R.getD c [])).set c (ownR R c a)
def stepR (R : List (List G)) (c a : Nat) : List (List G) := elimT c (ownR R c a) (swapR R c a) R.length
theorem swapR_len (R : List (List G)) (c a : Nat) : (swapR R c a).length = R.length := by unfold swapR; rw [List.length_set, List.length_set]
theorem stepR_len (R : List (List G)) (c a : Nat) : (stepR R c a).length = R.length := by unfold stepR; rw [elimT_len, swapR_len]
theorem swapR_at {R : List (List G)} {c a i : Nat} (hc : c < R.length) (ha : a < R.length) : (swapR R c a).getD i [] = if c = i then ownR R c a else if a = i then R.getD c [] else R.getD i [] := by
  unfold swapR
  rw [getD_setL (by rw [List.length_set]; exact hc)]
  split
  · rfl
  · rw [getD_setL ha]
theorem stepR_at {R : List (List G)} {c a i : Nat} (hi : i < R.length) : (stepR R c a).getD i [] = elimR c (ownR R c a) i ((swapR R c a).getD i []) := by
  unfold stepR
  rw [elimT_at _ _ _ _ _ (by rw [swapR_len]; exact Nat.le_refl _), if_pos hi]
theorem ownR_len {R : List (List G)} {n c a : Nat} (hW : Wid R n) (ha : a < R.length) : (ownR R c a).length = n + 1 := by unfold ownR rowM; rw [List.length_map]; exact hW a ha
theorem swapR_wid {R : List (List G)} {n c a : Nat} (hW : Wid R n) (hc : c < R.length) (ha : a < R.length) : Wid (swapR R c a) n := fun i hi => by
  rw [swapR_len] at hi
  rw [swapR_at hc ha]
  split
  · exact ownR_len hW ha
  · split
    · exact hW c hc
    · exact hW i hi
theorem elimR_len {c i n : Nat} {own r : List G} (h1 : r.length = n + 1) (h2 : own.length = n + 1) : (elimR c own i r).length = n + 1 := by
  unfold elimR; split
  · exact h1
  · exact rowZ_len h1 h2
theorem stepR_wid {R : List (List G)} {n c a : Nat} (hW : Wid R n) (hc : c < R.length) (ha : a < R.length) : Wid (stepR R c a) n := fun i hi => by
  rw [stepR_len] at hi
  rw [stepR_at hi]
  exact elimR_len (swapR_wid hW hc ha i (by rw [swapR_len]; exact hi)) (ownR_len hW ha)
theorem own_dot {R : List (List G)} {n c a : Nat} (v : Nat → G) : dotF n (ownR R c a) v = ginv ((R.getD a []).getD c g0) * dotF n (R.getD a []) v := rowM_dot v
theorem own_at {R : List (List G)} {c a k : Nat} : (ownR R c a).getD k g0 = (R.getD a []).getD k g0 * ginv ((R.getD a []).getD c g0) := rowM_at
theorem step_sat {R : List (List G)} {n c a : Nat} {x : Nat → G} (hW : Wid R n) (hc : c < R.length) (ha : a < R.length) (h : SatF R n x) : SatF (stepR R c a) n x := fun i hi => by
  rw [stepR_len] at hi
  rw [stepR_at hi]
  have ho : dotF n (ownR R c a) x = (ownR R c a).getD n g0 := by rw [own_dot, h a ha, own_at, gmul_comm]
  have hs : dotF n ((swapR R c a).getD i []) x = ((swapR R c a).getD i []).getD n g0 := by
    rw [swapR_at hc ha]
    split
    · exact ho
    · split
      · exact h c hc
      · exact h i hi
  have hl := swapR_wid hW hc ha i (by rw [swapR_len]; exact hi)
  unfold elimR
  split
  · exact hs
  · rw [rowZ_dot hl (ownR_len hW ha) (by omega), rowZ_at hl (ownR_len hW ha) (by omega), hs, ho]
theorem step_triv {R : List (List G)} {n c a : Nat} (hW : Wid R n) (hc : c < R.length) (ha : a < R.length) (h : TrivF R n) : TrivF (stepR R c a) n := fun v hv => by
  have ho : dotF n (ownR R c a) v = g0 := by
    have := hv c (by rw [stepR_len]; exact hc)
    rw [stepR_at hc] at this
    unfold elimR at this
    rw [if_pos rfl, swapR_at hc ha, if_pos rfl] at this
    exact this
  have hs : ∀ i, i < R.length → dotF n ((swapR R c a).getD i []) v = g0 := fun i hi => by
    have := hv i (by rw [stepR_len]; exact hi)
    rw [stepR_at hi] at this
    unfold elimR at this
    split at this
    · exact this
    · rw [rowZ_dot (swapR_wid hW hc ha i (by rw [swapR_len]; exact hi)) (ownR_len hW ha) (by omega), ho, gmul_zero, gadd_zero] at this
      exact this
  have hra : dotF n (R.getD a []) v = g0 := by
    rw [own_dot] at ho
    rcases gmul_eq0 ho with e | e
    · exact absurd e ginv_pos
    · exact e
  refine h v (fun i hi => ?_)
  by_cases e1 : i = a
  · rw [e1]; exact hra
  · by_cases e2 : i = c
    · have := hs a ha
      rw [swapR_at hc ha, if_neg (fun e => e1 (e2.trans e)), if_pos rfl] at this
      rw [e2]; exact this
    · have := hs i hi
      rw [swapR_at hc ha, if_neg (fun e => e2 e.symm), if_neg (fun e => e1 e.symm)] at this
      exact this
theorem step_unit {R : List (List G)} {n c a : Nat} (hW : Wid R n) (hcn : c < n) (hca : c ≤ a) (ha : a < R.length) (hp : (R.getD a []).getD c g0 ≠ g0) (h : Unit_ R c) : Unit_ (stepR R c a) (c + 1) := fun i hi k hk => by
  have hc : c < R.length := by omega
  rw [stepR_len] at hi
  rw [stepR_at hi]
  have hl := swapR_wid hW hc ha i (by rw [swapR_len]; exact hi)
  have hol := ownR_len (c := c) hW ha
  by_cases ek : k = c
  · subst ek
    have ho : (ownR R k a).getD k g0 = g1 := by rw [own_at]; exact gmul_inv hp
    unfold elimR
    by_cases ei : i = k
    · subst ei
      rw [if_pos rfl, if_pos rfl, swapR_at hc ha, if_pos rfl]; exact ho
    · rw [if_neg ei, if_neg ei, rowZ_at hl hol (by omega), ho, gmul_one, gadd_self]
  · have hkc : k < c := by omega
    have ho : (ownR R c a).getD k g0 = g0 := by rw [own_at, h a ha k hkc, if_neg (by omega), gzero_mul]
    have hs : ((swapR R c a).getD i []).getD k g0 = if i = k then g1 else g0 := by
      rw [swapR_at hc ha]
      split
      · rename_i e; rw [ho, if_neg (by omega)]
      · split
        · rename_i e; rw [h c hc k hkc, if_neg (by omega), if_neg (by omega)]
        · exact h i hi k hkc
    unfold elimR
    split
    · exact hs
    · rw [rowZ_at hl hol (by omega), ho, gmul_zero, gadd_zero]; exact hs
/-- What elimination may come to. -/
inductive Reach (R0 : List (List G)) : Nat → List (List G) → Prop
  | zero : Reach R0 0 R0
  | step {c a : Nat} {R : List (List G)} : Reach R0 c R → c ≤ a → a < R.length → (R.getD a []).getD c g0 ≠ g0 → Reach R0 (c + 1) (stepR R c a)
theorem Reach.wid {R0 R : List (List G)} {c n : Nat} (hW : Wid R0 n) (h : Reach R0 c R) : Wid R n := by
  induction h with
  | zero => exact hW
  | step _ h1 h2 _ ih => exact stepR_wid ih (by omega) h2
theorem Reach.len {R0 R : List (List G)} {c : Nat} (h : Reach R0 c R) : R.length = R0.length ∧ c ≤ R0.length := by
  induction h with
  | zero => exact ⟨rfl, Nat.zero_le _⟩
  | step _ h1 h2 _ ih => exact ⟨by rw [stepR_len]; exact ih.1, by omega⟩
theorem Reach.keeps {R0 R : List (List G)} {c n : Nat} {x : Nat → G} (hW : Wid R0 n) (h : Reach R0 c R) (hc : c ≤ n) (hs : SatF R0 n x) (ht : TrivF R0 n) : SatF R n x ∧ TrivF R n ∧ Unit_ R c := by
  induction h with
  | zero => exact ⟨hs, ht, fun i _ k hk => by omega⟩
  | step h0 h1 h2 h3 ih =>
    obtain ⟨a1, a2, a3⟩ := ih (by omega)
    have hw := h0.wid hW
    exact ⟨step_sat hw (by omega) h2 a1, step_triv hw (by omega) h2 a2, step_unit hw (by omega) h1 h2 h3 a3⟩
/-- Without a pivot there is more than one solution. -/
theorem stuck {R : List (List G)} {c n : Nat} (hcn : c < n) (hu : Unit_ R c) (hz : ∀ a, c ≤ a → a < R.length → (R.getD a []).getD c g0 = g0) (ht : TrivF R n) : False := by
  have h := ht (fun k => if k = c then g1 else if k < c then (R.getD k []).getD c g0 else g0) (fun i hi => ?_) c hcn
  · simp only [if_pos] at h
    exact gp_pos 0 h
  · unfold dotF
    have e : ∀ k ∈ List.range n, (R.getD i []).getD k g0 * (if k = c then g1 else if k < c then (R.getD k []).getD c g0 else g0) = (if k = c then (R.getD i []).getD c g0 else g0) + (if k = i ∧ k < c then (R.getD i []).getD c g0 else g0) := fun k _ => by
      by_cases e1 : k = c
      · subst e1
        rw [if_pos rfl, if_pos rfl, if_neg (by omega), gmul_one, gadd_zero]
      · rw [if_neg e1, if_neg e1, gzero_add]
        by_cases e2 : k < c
        · rw [if_pos e2, hu i hi k e2]
          by_cases e3 : i = k
          · rw [if_pos e3, if_pos ⟨e3.symm, e2⟩, gone_mul, e3]
          · rw [if_neg e3, if_neg (fun h => e3 h.1.symm), gzero_mul]
        · rw [if_neg e2, if_neg (fun h => e2 h.2), gmul_zero]
    rw [isum_congr _ e, isum_add, isum_one (i := c) _ List.nodup_range (by simpa using hcn) (fun j _ hj => by rw [if_neg hj]), if_pos rfl]
    by_cases hic : i < c
    · rw [isum_one (i := i) _ List.nodup_range (by simp; omega) (fun j _ hj => by rw [if_neg (fun h => hj h.1)]), if_pos ⟨rfl, hic⟩, gadd_self]
    · rw [isum_zero _ (fun j _ => by rw [if_neg (fun h => by have := h.1; have := h.2; omega)]), gadd_zero]
      exact hz i (by omega) hi
/-- At the end the solution can be read. -/
theorem read_off {R : List (List G)} {n : Nat} {x : Nat → G} (hs : SatF R n x) (hu : Unit_ R n) : ∀ i, i < R.length → (R.getD i []).getD n g0 = if i < n then x i else g0 := fun i hi => by
  rw [← hs i hi]
  unfold dotF
  by_cases h : i < n
  · rw [if_pos h, isum_one (i := i) _ List.nodup_range (by simpa using h) (fun j hj hne => by rw [hu i hi j (by simpa using hj), if_neg (Ne.symm hne), gzero_mul]), hu i hi i h, if_pos rfl, gone_mul]
  · rw [if_neg h]
    exact isum_zero _ (fun j hj => by
      have : j < n := by simpa using hj
      rw [hu i hi j this, if_neg (by omega), gzero_mul])
end Go.Proofs.Ytbkbgcapkhelhaa
