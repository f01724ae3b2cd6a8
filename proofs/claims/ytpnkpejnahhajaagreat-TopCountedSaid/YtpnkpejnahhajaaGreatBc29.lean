/- Layer 4: a search from the source. Plain mathematics.
Layer 4: what a push sends. Plain mathematics. -/
import Derived.Test.YtpnkpejnahhajaaGreatBc27
namespace Go.Proofs.YtpnkpejnahhajaaGreat

theorem nodup_le : ∀ (N : Nat) (l : List Nat), l.Nodup → (∀ x ∈ l, x < N) → l.length ≤ N := fun N l h1 h2 => by
  have h3 : l.Pairwise fun x y : Nat => (1 : Int) = 1 → (1 : Int) = 1 → ((x : Nat) : Int) ≠ ((y : Nat) : Int) := h1.imp fun {a b} h _ _ e => h (by omega)
  have h := count_places (fun x : Nat => (x : Int)) (fun _ => 1) N l (fun _ _ => Or.inr rfl) (fun x hx _ => by have := h2 x hx; omega) h3
  have e : ∀ l : List Nat, lsum (fun _ => (1 : Int)) l = l.length := fun l => by
    induction l with
    | nil => rfl
    | cons x r ih => simp only [lsum, ih, List.length_cons]; omega
  rw [e] at h
  omega

/-- What a search has found: the nodes of the list Q, each but the source by way of one before it. -/
structure SI (r : Nat → Nat → Int) (nx : Nat → List Nat) (N : Nat) (F : Nat → Option Nat) (Q : List Nat) : Prop where
  mem : ∀ v, F v ≠ none ↔ v ∈ Q
  nodup : Q.Nodup
  lt : ∀ v ∈ Q, v < N
  zero : F 0 = some 0
  pred : ∀ v d, F v = some d → (v = 0 ∧ d = 0) ∨ ∃ u d', F u = some d' ∧ d = d' + 1 ∧ v ∈ nx u ∧ 0 < r u v
  dist : ∀ i u d, Q[i]? = some u → F u = some d → d ≤ i
/-- What one may come to from a node by its first ways is found. -/
def Clo (r : Nat → Nat → Int) (nx : Nat → List Nat) (F : Nat → Option Nat) (u j : Nat) : Prop := ∀ v ∈ (nx u).take j, 0 < r u v → F v ≠ none

theorem SI.start (r : Nat → Nat → Int) (nx : Nat → List Nat) {N : Nat} (hN : 1 ≤ N) {F : Nat → Option Nat} (h : ∀ v, F v = if v = 0 then some 0 else none) : SI r nx N F [0] := by
  refine ⟨fun v => ?_, by simp, fun v hv => ?_, by rw [h, if_pos rfl], fun v d hd => ?_, fun i u d hi hd => ?_⟩
  · rw [h]; split <;> simp_all
  · simp at hv; omega
  · rw [h] at hd
    split at hd
    · exact Or.inl ⟨by assumption, by simpa using hd.symm⟩
    · simp at hd
  · rw [h] at hd
    split at hd
    · have : d = 0 := by simpa using hd.symm
      omega
    · simp at hd

theorem SI.len {r : Nat → Nat → Int} {nx : Nat → List Nat} {N : Nat} {F : Nat → Option Nat} {Q : List Nat} (h : SI r nx N F Q) : Q.length ≤ N := nodup_le N Q h.nodup h.lt

theorem setF_mono {F : Nat → Option Nat} {u : Nat} {x : Nat} {v : Nat} (h : F v ≠ none) : setF F u (some x) v ≠ none := by
  unfold setF; split
  · simp
  · exact h
theorem Clo.mono {r : Nat → Nat → Int} {nx : Nat → List Nat} {F F' : Nat → Option Nat} {u j : Nat} (h : Clo r nx F u j) (k : ∀ v, F v ≠ none → F' v ≠ none) : Clo r nx F' u j := fun v hv hr => k v (h v hv hr)

theorem SI.add {r : Nat → Nat → Int} {nx : Nat → List Nat} {N : Nat} {F : Nat → Option Nat} {Q : List Nat} (h : SI r nx N F Q) {k u v d : Nat} (hk : Q[k]? = some u) (hd : F u = some d) (hv : v ∈ nx u) (hr : 0 < r u v) (hN : v < N) (hF : F v = none) :
    SI r nx N (setF F v (some (d + 1))) (Q ++ [v]) := by
  have hnq : v ∉ Q := fun hq => (h.mem v).2 hq hF
  have hs : ∀ a, a ≠ v → setF F v (some (d + 1)) a = F a := fun a ha => by unfold setF; rw [if_neg ha]
  have hvv : setF F v (some (d + 1)) v = some (d + 1) := by unfold setF; rw [if_pos rfl]
  have huv : u ≠ v := fun e => by rw [e, hF] at hd; cases hd
  refine ⟨fun a => ?_, ?_, ?_, ?_, ?_, ?_⟩
  · by_cases e : a = v
    · subst e; rw [hvv]; simp
    · rw [hs a e, h.mem a]; simp [e]
  · refine List.nodup_append.2 ⟨h.nodup, by simp, fun a ha b hb e => ?_⟩
    simp at hb
    subst e; subst hb
    exact hnq ha
  · intro a ha
    rcases List.mem_append.1 ha with ha | ha
    · exact h.lt a ha
    · simp at ha; omega
  · rw [hs 0 (fun e => by rw [← e, h.zero] at hF; cases hF)]; exact h.zero
  · intro a x hx
    by_cases e : a = v
    · subst e
      rw [hvv] at hx
      exact Or.inr ⟨u, d, (hs u huv).trans hd, by simpa using hx.symm, hv, hr⟩
    · rw [hs a e] at hx
      rcases h.pred a x hx with c | ⟨u', d', c1, c2, c3, c4⟩
      · exact Or.inl c
      · exact Or.inr ⟨u', d', (hs u' (fun e' => by rw [e', hF] at c1; cases c1)).trans c1, c2, c3, c4⟩
  · intro i a x hi hx
    rcases Nat.lt_or_ge i Q.length with c | c
    · rw [List.getElem?_append_left c] at hi
      have ha : a ≠ v := fun e => hnq (e ▸ List.mem_of_getElem? hi)
      rw [hs a ha] at hx
      exact h.dist i a x hi hx
    · rw [List.getElem?_append_right c] at hi
      have hi0 : i - Q.length = 0 := by
        rcases Nat.eq_zero_or_pos (i - Q.length) with z | z
        · exact z
        · rw [List.getElem?_eq_none (by simp; omega)] at hi; cases hi
      rw [hi0] at hi
      obtain rfl : v = a := by simpa using hi
      rw [hvv] at hx
      have e1 : d + 1 = x := by simpa using hx
      have e2 := h.dist k u d hk hd
      have e3 := (List.getElem?_eq_some_iff.1 hk).1
      omega
theorem Clo.step {r : Nat → Nat → Int} {nx : Nat → List Nat} {F : Nat → Option Nat} {u j v : Nat} (h : Clo r nx F u j) (hv : (nx u)[j]? = some v) (k : 0 < r u v → F v ≠ none) : Clo r nx F u (j + 1) := fun a ha hr => by
  rw [List.take_add_one, hv] at ha
  rcases List.mem_append.1 ha with ha | ha
  · exact h a ha hr
  · simp at ha; subst ha; exact k hr

/-- A node from which the sink may be come to by steps of distance 1. -/
inductive Lv (r : Nat → Nat → Int) (nx : Nat → List Nat) (F : Nat → Option Nat) : Nat → Prop
  | sink : F 1 ≠ none → Lv r nx F 1
  | step (u v d : Nat) : F u = some d → F v = some (d + 1) → v ∈ nx u → 0 < r u v → Lv r nx F v → Lv r nx F u

/-- What a search has found when it is done. -/
structure Found (r : Nat → Nat → Int) (nx : Nat → List Nat) (N : Nat) (F : Nat → Option Nat) : Prop where
  lt : ∀ v, F v ≠ none → v < N
  zero : F 0 = some 0
  pred : ∀ v d, F v = some d → (v = 0 ∧ d = 0) ∨ ∃ u d', F u = some d' ∧ d = d' + 1 ∧ v ∈ nx u ∧ 0 < r u v
  dist : ∀ v d, F v = some d → d < N
  clo : ∀ u, F u ≠ none → ∀ v ∈ nx u, 0 < r u v → F v ≠ none
theorem Found.lv {r : Nat → Nat → Int} {nx : Nat → List Nat} {N : Nat} {F : Nat → Option Nat} (h : Found r nx N F) : ∀ (d v : Nat), F v = some d → Lv r nx F v → Lv r nx F 0
  | 0, v, hv, hl => by
    rcases h.pred v 0 hv with ⟨rfl, -⟩ | ⟨u, d', -, e, -⟩
    · exact hl
    · omega
  | d + 1, v, hv, hl => by
    rcases h.pred v (d + 1) hv with ⟨rfl, e⟩ | ⟨u, d', c1, e, c3, c4⟩
    · omega
    · obtain rfl : d = d' := by omega
      exact Found.lv h d u c1 (Lv.step u v d c1 hv c3 c4 hl)
theorem Found.way {r : Nat → Nat → Int} {nx : Nat → List Nat} {N : Nat} {F : Nat → Option Nat} (h : Found r nx N F) (h1 : F 1 ≠ none) : Lv r nx F 0 := by
  obtain ⟨d, hd⟩ := Option.ne_none_iff_exists'.1 h1
  exact h.lv d 1 hd (Lv.sink h1)
/-- What can't lead on may be forgotten. -/
theorem Lv.without {r : Nat → Nat → Int} {nx : Nat → List Nat} {F F' : Nat → Option Nat} (hs : ∀ v, F' v = F v ∨ (F' v = none ∧ ¬ Lv r nx F v)) {u : Nat} (h : Lv r nx F u) : Lv r nx F' u := by
  induction h with
  | sink h1 =>
    rcases hs 1 with e | ⟨-, k⟩
    · exact Lv.sink (by rw [e]; exact h1)
    · exact absurd (Lv.sink h1) k
  | step u v d a1 a2 a3 a4 a5 ih =>
    rcases hs u with e | ⟨-, k⟩
    · rcases hs v with e' | ⟨-, k⟩
      · exact Lv.step u v d (e.trans a1) (e'.trans a2) a3 a4 ih
      · exact absurd a5 k
    · exact absurd (Lv.step u v d a1 a2 a3 a4 a5) k
theorem Lv.fewer {r : Nat → Nat → Int} {nx : Nat → List Nat} {F F' : Nat → Option Nat} (hs : ∀ v, F' v = F v ∨ F' v = none) {u : Nat} (h : Lv r nx F' u) : Lv r nx F u := by
  have hx : ∀ v x, F' v = some x → F v = some x := fun v x hv => by
    rcases hs v with e | e
    · rw [← e]; exact hv
    · rw [e] at hv; cases hv
  induction h with
  | sink h1 =>
    obtain ⟨d, hd⟩ := Option.ne_none_iff_exists'.1 h1
    exact Lv.sink (by rw [hx 1 d hd]; simp)
  | step u v d a1 a2 a3 a4 a5 ih => exact Lv.step u v d (hx _ _ a1) (hx _ _ a2) a3 a4 ih

end Go.Proofs.YtpnkpejnahhajaaGreat

namespace Go.Proofs.YtpnkpejnahhajaaGreat

/-- x more from u to v. -/
def flowR (r : Nat → Nat → Int) (u v : Nat) (x : Int) : Nat → Nat → Int := setR (setR r u v (r u v - x)) v u (r v u + x)
theorem flowR_at (r : Nat → Nat → Int) {u v : Nat} (h : u ≠ v) (x : Int) (a b : Nat) : flowR r u v x a b = if a = u ∧ b = v then r u v - x else if a = v ∧ b = u then r v u + x else r a b := by
  unfold flowR setR
  by_cases h1 : a = v ∧ b = u
  · rw [if_pos h1, if_neg (by omega), if_pos h1]
  · rw [if_neg h1]
    by_cases h2 : a = u ∧ b = v
    · rw [if_pos h2, if_pos h2]
    · rw [if_neg h2, if_neg h2, if_neg h1]
theorem flowR_zero (r : Nat → Nat → Int) {u v : Nat} (h : u ≠ v) : flowR r u v 0 = r := by
  funext a b
  rw [flowR_at r h]
  split
  · rename_i e; rw [e.1, e.2]; omega
  · split
    · rename_i e; rw [e.1, e.2]; omega
    · rfl
theorem smN_diff {f g : Nat → Int} {x : Int} : ∀ (N i : Nat), i < N → f i - g i = x → (∀ j, j < N → j ≠ i → f j = g j) → smN f N - smN g N = x := fun N i hi h1 h2 => by
  have h : smN (fun j => f j - g j) N = x := by rw [smN_one N i hi (fun j hj hne => by rw [h2 j hj hne]; omega)]; exact h1
  have e : smN f N = smN (fun j => (f j - g j) + g j) N := smN_congr N fun j _ => by omega
  rw [e, smN_add, h]; omega
theorem flowR_out (r : Nat → Nat → Int) {u v N : Nat} (h : u ≠ v) (hu : u < N) (hv : v < N) (x : Int) (a : Nat) : smN (r a) N - smN (flowR r u v x a) N = (if a = u then x else 0) - (if a = v then x else 0) := by
  by_cases e1 : a = u
  · subst e1
    rw [if_pos rfl, if_neg h, Int.sub_zero]
    refine smN_diff N v hv ?_ fun j _ hj => ?_
    · rw [flowR_at r h, if_pos ⟨rfl, rfl⟩]; omega
    · rw [flowR_at r h, if_neg (by omega), if_neg (by omega)]
  · by_cases e2 : a = v
    · subst e2
      rw [if_neg e1, if_pos rfl]
      refine smN_diff N u hu ?_ fun j _ hj => ?_
      · rw [flowR_at r h, if_neg (by omega), if_pos ⟨rfl, rfl⟩]; omega
      · rw [flowR_at r h, if_neg (by omega), if_neg (by omega)]
    · rw [if_neg e1, if_neg e2]
      have : smN (flowR r u v x a) N = smN (r a) N := smN_congr N fun j _ => by rw [flowR_at r h, if_neg (by omega), if_neg (by omega)]
      rw [this]; omega

/-- What a push from u, of level k, has done when it has sent s. -/
structure PushP (nx : Nat → List Nat) (N : Nat) (r r' : Nat → Nat → Int) (F F' : Nat → Option Nat) (u k : Nat) (s : Int) : Prop where
  pos : ∀ a b, 0 ≤ r' a b
  sum : ∀ a b, r' a b + r' b a = r a b + r b a
  out : ∀ a, a < N → smN (r a) N - smN (r' a) N = (if a = u then s else 0) - (if a = 1 then s else 0)
  loc : ∀ a b, r' a b ≠ r a b → (∃ d, F a = some d ∧ k ≤ d) ∧ ∃ d, F b = some d ∧ k ≤ d
  sub : ∀ a, F' a = F a ∨ (F' a = none ∧ ∃ d, F a = some d ∧ k ≤ d)
  zero : s = 0 → r' = r ∧ (∀ a, F' a = F a ∨ ¬ Lv r nx F a) ∧ ¬ Lv r nx F u
/-- What it has done when it has tried the first j ways. -/
structure PushL (nx : Nat → List Nat) (N : Nat) (r r' : Nat → Nat → Int) (F F' : Nat → Option Nat) (u k j : Nat) (s : Int) : Prop where
  pos : ∀ a b, 0 ≤ r' a b
  sum : ∀ a b, r' a b + r' b a = r a b + r b a
  out : ∀ a, a < N → smN (r a) N - smN (r' a) N = (if a = u then s else 0) - (if a = 1 then s else 0)
  loc : ∀ a b, r' a b ≠ r a b → (∃ d, F a = some d ∧ k ≤ d) ∧ ∃ d, F b = some d ∧ k ≤ d
  sub : ∀ a, F' a = F a ∨ (F' a = none ∧ ∃ d, F a = some d ∧ k + 1 ≤ d)
  zero : s = 0 → r' = r ∧ (∀ a, F' a = F a ∨ ¬ Lv r nx F a) ∧ ∀ v ∈ (nx u).take j, ¬ (F v = some (k + 1) ∧ 0 < r u v ∧ Lv r nx F v)

variable {nx : Nat → List Nat} {N : Nat} {r r' : Nat → Nat → Int} {F F' : Nat → Option Nat} {u k j : Nat} {s : Int}
theorem PushP.sink {s : Int} (hp : ∀ a b, 0 ≤ r a b) (hs : 1 ≤ s) : PushP nx N r r F F 1 k s :=
  ⟨hp, fun _ _ => rfl, fun a _ => by split <;> omega, fun _ _ h => absurd rfl h, fun _ => Or.inl rfl, fun e => by omega⟩
theorem PushL.start (hp : ∀ a b, 0 ≤ r a b) : PushL nx N r r F F u k 0 0 :=
  ⟨hp, fun _ _ => rfl, fun a _ => by split <;> split <;> omega, fun _ _ h => absurd rfl h, fun _ => Or.inl rfl, fun _ => ⟨rfl, fun _ => Or.inl rfl, fun v hv => by simp at hv⟩⟩
theorem PushL.own (h : PushL nx N r r' F F' u k j s) (hu : F u = some k) : F' u = some k := by
  rcases h.sub u with e | ⟨-, d, e, hd⟩
  · rw [e]; exact hu
  · rw [hu] at e; have : k = d := by simpa using e
    omega
theorem PushL.has (h : PushL nx N r r' F F' u k j s) {v d : Nat} (hv : F' v = some d) : F v = some d := by
  rcases h.sub v with e | ⟨e, -⟩
  · rw [← e]; exact hv
  · rw [e] at hv; cases hv
/-- A way that leads nowhere. -/
theorem PushL.skip (h : PushL nx N r r' F F' u k j s) {v : Nat} (hv : (nx u)[j]? = some v) (hc : F' v = none ∨ (∃ d, F' v = some d ∧ d ≠ k + 1) ∨ r' u v = 0) : PushL nx N r r' F F' u k (j + 1) s :=
  ⟨h.pos, h.sum, h.out, h.loc, h.sub, fun e => by
    obtain ⟨z1, z2, z3⟩ := h.zero e
    refine ⟨z1, z2, fun a ha => ?_⟩
    rw [List.take_add_one, hv] at ha
    rcases List.mem_append.1 ha with ha | ha
    · exact z3 a ha
    · simp at ha
      subst ha
      rintro ⟨y1, y2, y3⟩
      rcases z2 a with e1 | e1
      · rcases hc with c | ⟨d, c, hd⟩ | c
        · rw [e1, y1] at c; cases c
        · rw [e1, y1] at c; have : k + 1 = d := by simpa using c
          omega
        · rw [z1] at c; omega
      · exact e1 y3⟩

/-- What is sent on by way of v. -/
theorem PushL.send (h : PushL nx N r r' F F' u k j s) {v : Nat} {x : Int} {r2 : Nat → Nat → Int} {F2 : Nat → Option Nat} (hu : F u = some k) (huN : u < N) (hvN : v < N) (hu1 : u ≠ 1) (hv : (nx u)[j]? = some v) (hk : F' v = some (k + 1)) (hr : 0 < r' u v)
    (p : PushP nx N r' r2 F' F2 v (k + 1) x) (hx : 0 ≤ x) (hxr : x ≤ r' u v) (hs : 0 ≤ s) : PushL nx N r (flowR r2 u v x) F F2 u k (j + 1) (s + x) ∧ r2 u v = r' u v := by
  have hFv := h.has hk
  have huv : u ≠ v := fun e => by rw [← e, hu] at hFv; simp at hFv
  have hF'u := h.own hu
  have hruv : r2 u v = r' u v := Classical.byContradiction fun e => by
    obtain ⟨⟨d, hd, hkd⟩, -⟩ := p.loc u v e
    rw [hF'u] at hd
    have : k = d := by simpa using hd
    omega
  have hup : ∀ a d, F' a = some d → F a = some d := fun a d ha => h.has ha
  refine ⟨⟨fun a b => ?_, fun a b => ?_, fun a ha => ?_, fun a b hab => ?_, fun a => ?_, fun e => ?_⟩, hruv⟩
  · rw [flowR_at r2 huv]
    have := p.pos a b
    have := p.pos v u
    split
    · rw [hruv]; omega
    · split <;> omega
  · rw [flowR_at r2 huv, flowR_at r2 huv, ← h.sum a b, ← p.sum a b]
    by_cases e1 : a = u ∧ b = v
    · rw [if_pos e1, if_neg (by omega), if_pos (by omega), e1.1, e1.2]; omega
    · rw [if_neg e1]
      by_cases e2 : a = v ∧ b = u
      · rw [if_pos e2, if_pos (by omega), e2.1, e2.2]; omega
      · rw [if_neg e2, if_neg (by omega), if_neg (by omega)]
  · have h1 := h.out a ha
    have h2 := p.out a ha
    have h3 := flowR_out r2 huv huN hvN x a
    by_cases e1 : a = u
    · rw [if_pos e1] at h1 h3 ⊢
      rw [if_neg (by omega)] at h2 h3
      rw [if_neg (by omega)] at h1 h2 ⊢
      omega
    · rw [if_neg e1] at h1 h3 ⊢
      by_cases e2 : a = v
      · rw [if_pos e2] at h2 h3
        split at h1 <;> split at h2 <;> first | omega | (split <;> omega)
      · rw [if_neg e2] at h2 h3
        split at h1 <;> split at h2 <;> first | omega | (split <;> omega)
  · rw [flowR_at r2 huv] at hab
    by_cases e1 : a = u ∧ b = v
    · rw [e1.1, e1.2]; exact ⟨⟨k, hu, Nat.le_refl _⟩, k + 1, hFv, by omega⟩
    · by_cases e2 : a = v ∧ b = u
      · rw [e2.1, e2.2]; exact ⟨⟨k + 1, hFv, by omega⟩, k, hu, Nat.le_refl _⟩
      · rw [if_neg e1, if_neg e2] at hab
        by_cases e3 : r2 a b = r' a b
        · rw [e3] at hab; exact h.loc a b hab
        · obtain ⟨⟨d, hd, hkd⟩, d', hd', hkd'⟩ := p.loc a b e3
          exact ⟨⟨d, hup a d hd, by omega⟩, d', hup b d' hd', by omega⟩
  · rcases p.sub a with e1 | ⟨e1, d, hd, hkd⟩
    · rw [e1]; exact h.sub a
    · exact Or.inr ⟨e1, d, hup a d hd, hkd⟩
  · have es : s = 0 := by omega
    have ex : x = 0 := by omega
    obtain ⟨z1, z2, z3⟩ := h.zero es
    obtain ⟨y1, y2, y3⟩ := p.zero ex
    have hall : ∀ a, F' a = F a ∨ (F' a = none ∧ ¬ Lv r nx F a) := fun a => by
      rcases h.sub a with c | ⟨c, -⟩
      · exact Or.inl c
      · rcases z2 a with e1 | e1
        · exact Or.inl e1
        · exact Or.inr ⟨c, e1⟩
    rw [z1] at y2 y3
    have hno : ∀ a, ¬ Lv r nx F' a → ¬ Lv r nx F a := fun a hn hl => hn (Lv.without hall hl)
    refine ⟨by rw [ex, flowR_zero r2 huv, y1, z1], fun a => ?_, fun a ha => ?_⟩
    · rcases y2 a with e1 | e1
      · rw [e1]; exact z2 a
      · exact Or.inr (hno a e1)
    · rw [List.take_add_one, hv] at ha
      rcases List.mem_append.1 ha with ha | ha
      · exact z3 a ha
      · simp at ha
        subst ha
        exact fun hh => hno a y3 hh.2.2
/-- As much as was asked. -/
theorem PushL.full (h : PushL nx N r r' F F' u k j s) (hs : 1 ≤ s) : PushP nx N r r' F F' u k s :=
  ⟨h.pos, h.sum, h.out, h.loc, fun a => (h.sub a).imp id (fun ⟨e, d, hd, hk⟩ => ⟨e, d, hd, by omega⟩), fun e => by omega⟩
/-- All ways are tried. -/
theorem PushL.done (h : PushL nx N r r' F F' u k j s) (hu : F u = some k) (hu1 : u ≠ 1) (hj : (nx u).length ≤ j) : PushP nx N r r' F (setF F' u none) u k s := by
  refine ⟨h.pos, h.sum, h.out, h.loc, fun a => ?_, fun e => ?_⟩
  · unfold setF
    split
    · rename_i e; exact Or.inr ⟨rfl, k, by rw [e]; exact hu, Nat.le_refl _⟩
    · exact (h.sub a).imp id (fun ⟨e, d, hd, hk⟩ => ⟨e, d, hd, by omega⟩)
  · obtain ⟨z1, z2, z3⟩ := h.zero e
    have hno : ¬ Lv r nx F u := fun hl => by
      cases hl with
      | sink _ => exact hu1 rfl
      | step _ v d a1 a2 a3 a4 a5 =>
        rw [hu] at a1
        obtain rfl : k = d := by simpa using a1
        exact z3 v (by rw [List.take_of_length_le hj]; exact a3) ⟨a2, a4, a5⟩
    refine ⟨z1, fun a => ?_, hno⟩
    unfold setF
    split
    · rename_i e; rw [e]; exact Or.inr hno
    · exact z2 a

end Go.Proofs.YtpnkpejnahhajaaGreat
