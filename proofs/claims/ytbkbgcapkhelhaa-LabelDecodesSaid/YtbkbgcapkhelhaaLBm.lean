/- Layer 3: the shortest recurrence (mathematics of Berlekamp and Massey). -/
import Derived.Test.YtbkbgcapkhelhaaLPoly
namespace Go.Proofs.Ytbkbgcapkhelhaa

/-- the sum of two lists, the shorter one filled up -/
def addP : List G → List G → List G
  | [], b => b
  | a :: r, [] => a :: r
  | a :: r, b :: t => (a + b) :: addP r t
theorem addP_nil (a : List G) : addP a [] = a := by cases a <;> rfl
theorem addP_len : ∀ a b : List G, (addP a b).length = max a.length b.length
  | [], b => by simp [addP]
  | a :: r, [] => by simp [addP]
  | a :: r, b :: t => by simp [addP, addP_len r t]
theorem dsum_addP (s : Nat → G) : ∀ (a b : List G) (t : Nat), dsum (addP a b) s t = dsum a s t + dsum b s t
  | [], b, t => (gzero_add _).symm
  | a :: r, [], t => (gadd_zero _).symm
  | a :: r, b :: u, t => by
    cases t with
    | zero => exact gadd_mul _ _ _
    | succ t => simp only [addP, dsum, dsum_addP s r u t, gadd_mul]; exact gpair _ _ _ _
theorem dsum_scale (s : Nat → G) (k : G) (a : List G) : ∀ t, dsum (a.map (k * ·)) s t = k * dsum a s t := by
  induction a with
  | nil => intro t; exact (gmul_zero _).symm
  | cons c r ih =>
    intro t
    cases t with
    | zero => exact gmul_assoc _ _ _
    | succ t => simp only [List.map_cons, dsum, ih, gmul_add, gmul_assoc]
/-- What the search for a recurrence has. -/
structure Bm where
  now : List G
  bef : List G
  deg : Nat
/-- One step of it. -/
def bmStep (s : Nat → G) (at_ : Nat) (m : Bm) : Bm :=
  if dsum m.now s at_ = g0 then ⟨m.now, g0 :: m.bef, m.deg⟩
  else if 2 * m.deg ≤ at_ then ⟨addP m.now ((g0 :: m.bef).map (dsum m.now s at_ * ·)), m.now.map (ginv (dsum m.now s at_) * ·), at_ + 1 - m.deg⟩
  else ⟨addP m.now ((g0 :: m.bef).map (dsum m.now s at_ * ·)), g0 :: m.bef, m.deg⟩
def bmL (s : Nat → G) : Nat → Bm
  | 0 => ⟨[g1], [g1], 0⟩
  | n + 1 => bmStep s n (bmL s n)
/-- The search's invariant at n, for any recurrence of at most e that holds below N. -/
structure BmI (s : Nat → G) (e n : Nat) (m : Bm) : Prop where
  head : m.now.head? = some g1
  len : m.now.length ≤ m.deg + 1
  blen : m.bef.length + m.deg ≤ n + 1
  deg : m.deg ≤ n
  few : m.deg ≤ e
  gen : ∀ t, m.deg ≤ t → t < n → dsum m.now s t = g0
  bgen : m.deg = 0 ∨ (dsum (g0 :: m.bef) s n = g1 ∧ ∀ t, n + 1 - m.deg ≤ t → t < n → dsum (g0 :: m.bef) s t = g0)
theorem dsum_zcons (b : List G) (s : Nat → G) (t : Nat) : dsum (g0 :: b) s (t + 1) = dsum b s t := by
  simp only [dsum, gzero_mul, gzero_add]
theorem addP_head {a b : List G} (h : a.head? = some g1) (h0 : ∀ c, b.head? = some c → c = g0) : (addP a b).head? = some g1 := by
  cases a with
  | nil => cases h
  | cons x r =>
    obtain rfl := Option.some.inj h
    cases b with
    | nil => rfl
    | cons y t =>
      obtain rfl := h0 y rfl
      simp [addP, gadd_zero]
/-- A recurrence that holds below n and not at n, and one that holds: together they are longer than n. -/
theorem massey {a l : List G} {s : Nat → G} {L e n : Nat} (hl : l.head? = some g1) (hle : l.length ≤ e + 1) (ha : a.length ≤ L + 1)
    (hgl : ∀ t, e ≤ t → t ≤ n → dsum l s t = g0) (hga : ∀ t, L ≤ t → t < n → dsum a s t = g0) (hn : dsum a s n ≠ g0) : n < L + e := by
  refine Nat.lt_of_not_le fun hLe => hn ?_
  -- all of the sums with l are 0
  have z : ∀ (q : List G) (u : Nat → G) (t k : Nat), q.length ≤ k + 1 → k ≤ t → (∀ i, t - k ≤ i → i ≤ t → u i = g0) → dsum q u t = g0 := by
    intro q
    induction q with
    | nil => intro u t k _ _ _; rfl
    | cons c r ih =>
      intro u t k h1 h2 h3
      cases t with
      | zero => simp only [dsum, h3 0 (by omega) (by omega), gmul_zero]
      | succ t =>
        simp only [dsum, h3 (t + 1) (by omega) (by omega), gmul_zero, gzero_add]
        cases k with
        | zero =>
          obtain rfl : r = [] := (by simpa using h1)
          rfl
        | succ k => exact ih u t k (by simp at h1; omega) (by omega) (fun i h4 h5 => h3 i (by omega) (by omega))
  have h1 : dsum a (dsum l s) n = g0 := z a _ n L ha (by omega) (fun i h4 h5 => hgl i (by omega) h5)
  rw [dsum_swap] at h1
  cases l with
  | nil => cases hl
  | cons c r =>
    obtain rfl := Option.some.inj hl
    cases n with
    | zero => simpa only [dsum, gone_mul] using h1
    | succ n =>
      have h2 : dsum r (dsum a s) n = g0 := by
        cases e with
        | zero =>
          obtain rfl : r = [] := (by simpa using hle)
          rfl
        | succ e => exact z r _ n e (by simp at hle; omega) (by omega) (fun i h4 h5 => hga i (by omega) (by omega))
      have h3 : dsum (g1 :: r) (dsum a s) (n + 1) = dsum a s (n + 1) + dsum r (dsum a s) n := by simp only [dsum, gone_mul]
      rw [h3, h2, gadd_zero] at h1
      exact h1
theorem bm_inv {s : Nat → G} {e N : Nat} {l : List G} (hl : l.head? = some g1) (hle : l.length ≤ e + 1) (hgl : ∀ t, e ≤ t → t < N → dsum l s t = g0) :
    ∀ n, n ≤ N → BmI s e n (bmL s n)
  | 0, _ => ⟨rfl, by simp [bmL], by simp [bmL], Nat.le_refl _, Nat.zero_le _, fun t _ h => absurd h (Nat.not_lt_zero _), Or.inl rfl⟩
  | n + 1, h => by
    have I := bm_inv hl hle hgl n (by omega)
    rw [bmL]
    generalize bmL s n = m at I
    have hb := I.blen
    have hd := I.deg
    have hln := I.len
    unfold bmStep
    by_cases hz : dsum m.now s n = g0
    · rw [if_pos hz]
      refine ⟨I.head, I.len, by simp; omega, by show m.deg ≤ n + 1; omega, I.few, fun t h1 h2 => ?_, ?_⟩
      · by_cases e1 : t = n
        · rw [e1]; exact hz
        · exact I.gen t h1 (by omega)
      · rcases I.bgen with h0 | ⟨h1, h2⟩
        · exact Or.inl h0
        · refine Or.inr ⟨by rw [dsum_zcons]; exact h1, fun t h3 h4 => ?_⟩
          dsimp only at h3
          cases t with
          | zero => simp only [dsum, gzero_mul]
          | succ t => rw [dsum_zcons]; exact h2 t (by omega) (by omega)
    · rw [if_neg hz]
      have hhead : (addP m.now ((g0 :: m.bef).map (dsum m.now s n * ·))).head? = some g1 := addP_head I.head (fun c hc => by
        simp only [List.map_cons, List.head?_cons, Option.some.injEq] at hc
        rw [← hc, gmul_zero])
      have hlen : (addP m.now ((g0 :: m.bef).map (dsum m.now s n * ·))).length = max m.now.length (m.bef.length + 1) := by rw [addP_len]; simp
      by_cases h2 : 2 * m.deg ≤ n
      · rw [if_pos h2]
        have hmas : n < m.deg + e := massey hl hle I.len (fun t h3 h4 => hgl t h3 (by omega)) I.gen hz
        refine ⟨hhead, by rw [hlen]; dsimp only; omega, by simp; omega, by dsimp only; omega, by dsimp only; omega, fun t h3 h4 => ?_, Or.inr ⟨?_, fun t h3 h4 => ?_⟩⟩
        · dsimp only at h3
          rw [dsum_addP, dsum_scale]
          rcases I.bgen with h0 | ⟨h5, h6⟩
          · omega
          · by_cases e1 : t = n
            · subst e1; rw [h5, gmul_one, gadd_self]
            · rw [I.gen t (by omega) (by omega), h6 t (by omega) (by omega), gmul_zero, gadd_zero]
        · rw [dsum_zcons, dsum_scale, gmul_comm]; exact gmul_inv hz
        · dsimp only at h3
          cases t with
          | zero => simp only [dsum, gzero_mul]
          | succ t => rw [dsum_zcons, dsum_scale, I.gen t (by omega) (by omega), gmul_zero]
      · rw [if_neg h2]
        have hb2 : dsum (g0 :: m.bef) s n = g1 ∧ ∀ t, n + 1 - m.deg ≤ t → t < n → dsum (g0 :: m.bef) s t = g0 := by
          rcases I.bgen with h0 | h0
          · omega
          · exact h0
        refine ⟨hhead, by rw [hlen]; dsimp only; omega, by simp; omega, by dsimp only; omega, I.few, fun t h3 h4 => ?_, Or.inr ⟨by rw [dsum_zcons]; exact hb2.1, fun t h3 h4 => ?_⟩⟩
        · dsimp only at h3
          rw [dsum_addP, dsum_scale]
          by_cases e1 : t = n
          · subst e1; rw [hb2.1, gmul_one, gadd_self]
          · rw [I.gen t (by omega) (by omega), hb2.2 t (by omega) (by omega), gmul_zero, gadd_zero]
        · dsimp only at h3
          cases t with
          | zero => simp only [dsum, gzero_mul]
          | succ t => rw [dsum_zcons]; exact hb2.2 t (by omega) (by omega)
/-- Without any recurrence known: the lengths alone. -/
theorem bm_len {s : Nat → G} (n : Nat) : (bmL s n).now.head? = some g1 ∧ (bmL s n).now.length ≤ (bmL s n).deg + 1 ∧ (bmL s n).bef.length + (bmL s n).deg ≤ n + 1 ∧ (bmL s n).deg ≤ n := by
  induction n with
  | zero => exact ⟨rfl, by simp [bmL], by simp [bmL], Nat.le_refl _⟩
  | succ n ih =>
    rw [bmL]
    generalize bmL s n = m at ih
    obtain ⟨h1, h2, h3, h4⟩ := ih
    have hhead : (addP m.now ((g0 :: m.bef).map (dsum m.now s n * ·))).head? = some g1 := addP_head h1 (fun c hc => by
      simp only [List.map_cons, List.head?_cons, Option.some.injEq] at hc
      rw [← hc, gmul_zero])
    have hlen : (addP m.now ((g0 :: m.bef).map (dsum m.now s n * ·))).length = max m.now.length (m.bef.length + 1) := by rw [addP_len]; simp
    unfold bmStep
    split
    · exact ⟨h1, h2, by simp; omega, by dsimp only; omega⟩
    · split
      · exact ⟨hhead, by rw [hlen]; dsimp only; omega, by simp; omega, by dsimp only; omega⟩
      · exact ⟨hhead, by rw [hlen]; dsimp only; omega, by simp; omega, by dsimp only; omega⟩
/-- The places of few errors are the roots of what is found. -/
theorem bm_roots {E : List (G × G)} {N : Nat} (hd : (E.map (·.1)).Nodup) (hy : ∀ a ∈ E, a.2 ≠ g0) (hx : ∀ a ∈ E, a.1 ≠ g0) (hN : 2 * E.length ≤ N) (s : Nat → G) (hs : ∀ t, t < N → s t = pws E t) (x : G) :
    val (bmL s N).now x = g0 ↔ x ∈ E.map (·.1) := by
  have hloc : ∀ t, E.length ≤ t → t < N → dsum (rootP (E.map (·.1))) s t = g0 := fun t h1 h2 => by
    rw [dsum_congr _ _ (fun i hi => hs i (by omega)), dsum_es _ _ _ (by rw [rootP_len]; simp; omega)]
    refine es_none fun a ha => ?_
    rw [rootP_val, prodR_root (List.mem_map.2 ⟨a, ha, rfl⟩), gzero_mul, gmul_zero]
  have I := bm_inv (s := s) (e := E.length) (N := N) (rootP_head _) (by rw [rootP_len]; simp) hloc N (Nat.le_refl _)
  generalize bmL s N = m at I
  have hl := I.len
  have hf := I.few
  -- each place is a root
  have hroot : ∀ a ∈ E, val m.now a.1 = g0 := fun a ha => by
    have hz := no_errors (E := E.map (fun b => (b.1, b.2 * (val m.now b.1 * gw b.1 (m.deg + 1 - m.now.length))))) (by rw [List.map_map]; exact hd) (fun t ht => by
      rw [List.length_map] at ht
      have h1 := I.gen (m.deg + t) (by omega) (by omega)
      rw [dsum_congr _ _ (fun i hi => hs i (by omega)), dsum_es _ _ _ (by omega)] at h1
      rw [← h1]
      unfold pws
      clear h1
      have hg : ∀ F : List (G × G), es (F.map (fun b => (b.1, b.2 * (val m.now b.1 * gw b.1 (m.deg + 1 - m.now.length))))) (fun x => gw x t) = es F (fun x => val m.now x * gw x (m.deg + t + 1 - m.now.length)) := by
        intro F
        induction F with
        | nil => rfl
        | cons b r ih =>
          obtain ⟨x, y⟩ := b
          simp only [List.map_cons, es, ih]
          rw [show m.deg + t + 1 - m.now.length = (m.deg + 1 - m.now.length) + t by omega, gw_add]
          simp only [gmul_assoc]
      exact hg E) (a.1, a.2 * (val m.now a.1 * gw a.1 (m.deg + 1 - m.now.length))) (List.mem_map.2 ⟨a, ha, rfl⟩)
    rcases gmul_eq0 hz with e | e
    · exact absurd e (hy a ha)
    · rcases gmul_eq0 e with e | e
      · exact e
      · exact absurd e (gw_pos (hx a ha) _)
  constructor
  · intro hv
    refine Decidable.byContradiction fun hn => ?_
    have := few_roots _ m.now (x :: E.map (·.1)) rfl I.head (List.nodup_cons.2 ⟨hn, hd⟩) (fun z hz => by
      rcases List.mem_cons.1 hz with e | e
      · rw [e]; exact hv
      · obtain ⟨a, ha, rfl⟩ := List.mem_map.1 e
        exact hroot a ha)
    simp at this
    omega
  · intro hm
    obtain ⟨a, ha, rfl⟩ := List.mem_map.1 hm
    exact hroot a ha

end Go.Proofs.Ytbkbgcapkhelhaa
