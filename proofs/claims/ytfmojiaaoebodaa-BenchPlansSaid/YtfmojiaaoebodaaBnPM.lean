/- Layer 4: what a push sends. Plain mathematics. -/
import Derived.Test.YtfmojiaaoebodaaBnSM
namespace Go.Proofs.Ytfmojiaaoebodaa

/-- x more from u to v. -/
def flowR (r : Nat → Nat → Int) (u v : Nat) (x : Int) : Nat → Nat → Int := setR (setR r u v (r u v - x)) v u (r v u + x)
theorem flowR_at (r : Nat → Nat → Int) {u v : Nat} (h : u ≠ v) (x : Int) (a b : Nat) : flowR r u v x a b = if a = u ∧ b = v then r u v - x else if a = v ∧ b = u then r v u + x else r a b := by
  unfold flowR setR
  by_cases h1 : a = v ∧ b = u
  · rw [if_pos h1, if_neg (by omega), if_pos h1]
  · rw [if_neg h1]
    by_cases h2 : a = u ∧ b = v
    · rw [if_pos h2, if_pos h2]
    · rw [if_neg h2, if_neg h2, if_neg h1]
theorem flowR_zero (r : Nat → Nat → Int) {u v : Nat} (h : u ≠ v) : flowR r u v 0 = r := by
  funext a b
  rw [flowR_at r h]
  split
  · rename_i e; rw [e.1, e.2]; omega
  · split
    · rename_i e; rw [e.1, e.2]; omega
    · rfl
theorem smN_diff {f g : Nat → Int} {x : Int} : ∀ (N i : Nat), i < N → f i - g i = x → (∀ j, j < N → j ≠ i → f j = g j) → smN f N - smN g N = x := fun N i hi h1 h2 => by
  have h : smN (fun j => f j - g j) N = x := by rw [smN_one N i hi (fun j hj hne => by rw [h2 j hj hne]; omega)]; exact h1
  have e : smN f N = smN (fun j => (f j - g j) + g j) N := smN_congr N fun j _ => by omega
  rw [e, smN_add, h]; omega
theorem flowR_out (r : Nat → Nat → Int) {u v N : Nat} (h : u ≠ v) (hu : u < N) (hv : v < N) (x : Int) (a : Nat) : smN (r a) N - smN (flowR r u v x a) N = (if a = u then x else 0) - (if a = v then x else 0) := by
  by_cases e1 : a = u
  · subst e1
    rw [if_pos rfl, if_neg h, Int.sub_zero]
    refine smN_diff N v hv ?_ fun j _ hj => ?_
    · rw [flowR_at r h, if_pos ⟨rfl, rfl⟩]; omega
    · rw [flowR_at r h, if_neg (by omega), if_neg (by omega)]
  · by_cases e2 : a = v
    · subst e2
      rw [if_neg e1, if_pos rfl]
      refine smN_diff N u hu ?_ fun j _ hj => ?_
      · rw [flowR_at r h, if_neg (by omega), if_pos ⟨rfl, rfl⟩]; omega
      · rw [flowR_at r h, if_neg (by omega), if_neg (by omega)]
    · rw [if_neg e1, if_neg e2]
      have : smN (flowR r u v x a) N = smN (r a) N := smN_congr N fun j _ => by rw [flowR_at r h, if_neg (by omega), if_neg (by omega)]
      rw [this]; omega

/-- What a push from u, of level k, has done when it has sent s. -/
structure PushP (nx : Nat → List Nat) (N : Nat) (r r' : Nat → Nat → Int) (F F' : Nat → Option Nat) (u k : Nat) (s : Int) : Prop where
  pos : ∀ a b, 0 ≤ r' a b
  sum : ∀ a b, r' a b + r' b a = r a b + r b a
  out : ∀ a, a < N → smN (r a) N - smN (r' a) N = (if a = u then s else 0) - (if a = 1 then s else 0)
  loc : ∀ a b, r' a b ≠ r a b → (∃ d, F a = some d ∧ k ≤ d) ∧ ∃ d, F b = some d ∧ k ≤ d
  sub : ∀ a, F' a = F a ∨ (F' a = none ∧ ∃ d, F a = some d ∧ k ≤ d)
  zero : s = 0 → r' = r ∧ (∀ a, F' a = F a ∨ ¬ Lv r nx F a) ∧ ¬ Lv r nx F u
/-- What it has done when it has tried the first j ways. -/
structure PushL (nx : Nat → List Nat) (N : Nat) (r r' : Nat → Nat → Int) (F F' : Nat → Option Nat) (u k j : Nat) (s : Int) : Prop where
  pos : ∀ a b, 0 ≤ r' a b
  sum : ∀ a b, r' a b + r' b a = r a b + r b a
  out : ∀ a, a < N → smN (r a) N - smN (r' a) N = (if a = u then s else 0) - (if a = 1 then s else 0)
  loc : ∀ a b, r' a b ≠ r a b → (∃ d, F a = some d ∧ k ≤ d) ∧ ∃ d, F b = some d ∧ k ≤ d
  sub : ∀ a, F' a = F a ∨ (F' a = none ∧ ∃ d, F a = some d ∧ k + 1 ≤ d)
  zero : s = 0 → r' = r ∧ (∀ a, F' a = F a ∨ ¬ Lv r nx F a) ∧ ∀ v ∈ (nx u).take j, ¬ (F v = some (k + 1) ∧ 0 < r u v ∧ Lv r nx F v)

variable {nx : Nat → List Nat} {N : Nat} {r r' : Nat → Nat → Int} {F F' : Nat → Option Nat} {u k j : Nat} {s : Int}
theorem PushP.sink {s : Int} (hp : ∀ a b, 0 ≤ r a b) (hs : 1 ≤ s) : PushP nx N r r F F 1 k s :=
  ⟨hp, fun _ _ => rfl, fun a _ => by split <;> omega, fun _ _ h => absurd rfl h, fun _ => Or.inl rfl, fun e => by omega⟩
theorem PushL.start (hp : ∀ a b, 0 ≤ r a b) : PushL nx N r r F F u k 0 0 :=
  ⟨hp, fun _ _ => rfl, fun a _ => by split <;> split <;> omega, fun _ _ h => absurd rfl h, fun _ => Or.inl rfl, fun _ => ⟨rfl, fun _ => Or.inl rfl, fun v hv => by simp at hv⟩⟩
theorem PushL.own (h : PushL nx N r r' F F' u k j s) (hu : F u = some k) : F' u = some k := by
  rcases h.sub u with e | ⟨-, d, e, hd⟩
  · rw [e]; exact hu
  · rw [hu] at e; have : k = d := by simpa using e
    omega
theorem PushL.has (h : PushL nx N r r' F F' u k j s) {v d : Nat} (hv : F' v = some d) : F v = some d := by
  rcases h.sub v with e | ⟨e, -⟩
  · rw [← e]; exact hv
  · rw [e] at hv; cases hv
/-- A way that leads nowhere. -/
theorem PushL.skip (h : PushL nx N r r' F F' u k j s) {v : Nat} (hv : (nx u)[j]? = some v) (hc : F' v = none ∨ (∃ d, F' v = some d ∧ d ≠ k + 1) ∨ r' u v = 0) : PushL nx N r r' F F' u k (j + 1) s :=
  ⟨h.pos, h.sum, h.out, h.loc, h.sub, fun e => by
    obtain ⟨z1, z2, z3⟩ := h.zero e
    refine ⟨z1, z2, fun a ha => ?_⟩
    rw [List.take_add_one, hv] at ha
    rcases List.mem_append.1 ha with ha | ha
    · exact z3 a ha
    · simp at ha
      subst ha
      rintro ⟨y1, y2, y3⟩
      rcases z2 a with e1 | e1
      · rcases hc with c | ⟨d, c, hd⟩ | c
        · rw [e1, y1] at c; cases c
        · rw [e1, y1] at c; have : k + 1 = d := by simpa using c
          omega
        · rw [z1] at c; omega
      · exact e1 y3⟩

/-- What is sent on by way of v. -/
theorem PushL.send (h : PushL nx N r r' F F' u k j s) {v : Nat} {x : Int} {r2 : Nat → Nat → Int} {F2 : Nat → Option Nat} (hu : F u = some k) (huN : u < N) (hvN : v < N) (hu1 : u ≠ 1) (hv : (nx u)[j]? = some v) (hk : F' v = some (k + 1)) (hr : 0 < r' u v)
    (p : PushP nx N r' r2 F' F2 v (k + 1) x) (hx : 0 ≤ x) (hxr : x ≤ r' u v) (hs : 0 ≤ s) : PushL nx N r (flowR r2 u v x) F F2 u k (j + 1) (s + x) ∧ r2 u v = r' u v := by
  have hFv := h.has hk
  have huv : u ≠ v := fun e => by rw [← e, hu] at hFv; simp at hFv
  have hF'u := h.own hu
  have hruv : r2 u v = r' u v := Classical.byContradiction fun e => by
    obtain ⟨⟨d, hd, hkd⟩, -⟩ := p.loc u v e
    rw [hF'u] at hd
    have : k = d := by simpa using hd
    omega
  have hup : ∀ a d, F' a = some d → F a = some d := fun a d ha => h.has ha
  refine ⟨⟨fun a b => ?_, fun a b => ?_, fun a ha => ?_, fun a b hab => ?_, fun a => ?_, fun e => ?_⟩, hruv⟩
  · rw [flowR_at r2 huv]
    have := p.pos a b
    have := p.pos v u
    split
    · rw [hruv]; omega
    · split <;> omega
  · rw [flowR_at r2 huv, flowR_at r2 huv, ← h.sum a b, ← p.sum a b]
    by_cases e1 : a = u ∧ b = v
    · rw [if_pos e1, if_neg (by omega), if_pos (by omega), e1.1, e1.2]; omega
    · rw [if_neg e1]
      by_cases e2 : a = v ∧ b = u
      · rw [if_pos e2, if_pos (by omega), e2.1, e2.2]; omega
      · rw [if_neg e2, if_neg (by omega), if_neg (by omega)]
  · have h1 := h.out a ha
    have h2 := p.out a ha
    have h3 := flowR_out r2 huv huN hvN x a
    by_cases e1 : a = u
    · rw [if_pos e1] at h1 h3 ⊢
      rw [if_neg (by omega)] at h2 h3
      rw [if_neg (by omega)] at h1 h2 ⊢
      omega
    · rw [if_neg e1] at h1 h3 ⊢
      by_cases e2 : a = v
      · rw [if_pos e2] at h2 h3
        split at h1 <;> split at h2 <;> first | omega | (split <;> omega)
      · rw [if_neg e2] at h2 h3
        split at h1 <;> split at h2 <;> first | omega | (split <;> omega)
  · rw [flowR_at r2 huv] at hab
    by_cases e1 : a = u ∧ b = v
    · rw [e1.1, e1.2]; exact ⟨⟨k, hu, Nat.le_refl _⟩, k + 1, hFv, by omega⟩
    · by_cases e2 : a = v ∧ b = u
      · rw [e2.1, e2.2]; exact ⟨⟨k + 1, hFv, by omega⟩, k, hu, Nat.le_refl _⟩
      · rw [if_neg e1, if_neg e2] at hab
        by_cases e3 : r2 a b = r' a b
        · rw [e3] at hab; exact h.loc a b hab
        · obtain ⟨⟨d, hd, hkd⟩, d', hd', hkd'⟩ := p.loc a b e3
          exact ⟨⟨d, hup a d hd, by omega⟩, d', hup b d' hd', by omega⟩
  · rcases p.sub a with e1 | ⟨e1, d, hd, hkd⟩
    · rw [e1]; exact h.sub a
    · exact Or.inr ⟨e1, d, hup a d hd, hkd⟩
  · have es : s = 0 := by omega
    have ex : x = 0 := by omega
    obtain ⟨z1, z2, z3⟩ := h.zero es
    obtain ⟨y1, y2, y3⟩ := p.zero ex
    have hall : ∀ a, F' a = F a ∨ (F' a = none ∧ ¬ Lv r nx F a) := fun a => by
      rcases h.sub a with c | ⟨c, -⟩
      · exact Or.inl c
      · rcases z2 a with e1 | e1
        · exact Or.inl e1
        · exact Or.inr ⟨c, e1⟩
    rw [z1] at y2 y3
    have hno : ∀ a, ¬ Lv r nx F' a → ¬ Lv r nx F a := fun a hn hl => hn (Lv.without hall hl)
    refine ⟨by rw [ex, flowR_zero r2 huv, y1, z1], fun a => ?_, fun a ha => ?_⟩
    · rcases y2 a with e1 | e1
      · rw [e1]; exact z2 a
      · exact Or.inr (hno a e1)
    · rw [List.take_add_one, hv] at ha
      rcases List.mem_append.1 ha with ha | ha
      · exact z3 a ha
      · simp at ha
        subst ha
        exact fun hh => hno a y3 hh.2.2
/-- As much as was asked. -/
theorem PushL.full (h : PushL nx N r r' F F' u k j s) (hs : 1 ≤ s) : PushP nx N r r' F F' u k s :=
  ⟨h.pos, h.sum, h.out, h.loc, fun a => (h.sub a).imp id (fun ⟨e, d, hd, hk⟩ => ⟨e, d, hd, by omega⟩), fun e => by omega⟩
/-- All ways are tried. -/
theorem PushL.done (h : PushL nx N r r' F F' u k j s) (hu : F u = some k) (hu1 : u ≠ 1) (hj : (nx u).length ≤ j) : PushP nx N r r' F (setF F' u none) u k s := by
  refine ⟨h.pos, h.sum, h.out, h.loc, fun a => ?_, fun e => ?_⟩
  · unfold setF
    split
    · rename_i e; exact Or.inr ⟨rfl, k, by rw [e]; exact hu, Nat.le_refl _⟩
    · exact (h.sub a).imp id (fun ⟨e, d, hd, hk⟩ => ⟨e, d, hd, by omega⟩)
  · obtain ⟨z1, z2, z3⟩ := h.zero e
    have hno : ¬ Lv r nx F u := fun hl => by
      cases hl with
      | sink _ => exact hu1 rfl
      | step _ v d a1 a2 a3 a4 a5 =>
        rw [hu] at a1
        obtain rfl : k = d := by simpa using a1
        exact z3 v (by rw [List.take_of_length_le hj]; exact a3) ⟨a2, a4, a5⟩
    refine ⟨z1, fun a => ?_, hno⟩
    unfold setF
    split
    · rename_i e; rw [e]; exact Or.inr hno
    · exact z2 a

end Go.Proofs.Ytfmojiaaoebodaa
