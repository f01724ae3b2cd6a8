/- Layer 4: a search from the source. Plain mathematics. -/
import Derived.Test.YtfmojiaaoebodaaBnNet
namespace Go.Proofs.Ytfmojiaaoebodaa

theorem nodup_le : ∀ (N : Nat) (l : List Nat), l.Nodup → (∀ x ∈ l, x < N) → l.length ≤ N := fun N l h1 h2 => by
  have h3 : l.Pairwise fun x y : Nat => (1 : Int) = 1 → (1 : Int) = 1 → ((x : Nat) : Int) ≠ ((y : Nat) : Int) := h1.imp fun {a b} h _ _ e => h (by omega)
  have h := count_places (fun x : Nat => (x : Int)) (fun _ => 1) N l (fun _ _ => Or.inr rfl) (fun x hx _ => by have := h2 x hx; omega) h3
  have e : ∀ l : List Nat, lsum (fun _ => (1 : Int)) l = l.length := fun l => by
    induction l with
    | nil => rfl
    | cons x r ih => simp only [lsum, ih, List.length_cons]; omega
  rw [e] at h
  omega

/-- What a search has found: the nodes of the list Q, each but the source by way of one before it. -/
structure SI (r : Nat → Nat → Int) (nx : Nat → List Nat) (N : Nat) (F : Nat → Option Nat) (Q : List Nat) : Prop where
  mem : ∀ v, F v ≠ none ↔ v ∈ Q
  nodup : Q.Nodup
  lt : ∀ v ∈ Q, v < N
  zero : F 0 = some 0
  pred : ∀ v d, F v = some d → (v = 0 ∧ d = 0) ∨ ∃ u d', F u = some d' ∧ d = d' + 1 ∧ v ∈ nx u ∧ 0 < r u v
  dist : ∀ i u d, Q[i]? = some u → F u = some d → d ≤ i
/-- What one may come to from a node by its first ways is found. -/
def Clo (r : Nat → Nat → Int) (nx : Nat → List Nat) (F : Nat → Option Nat) (u j : Nat) : Prop := ∀ v ∈ (nx u).take j, 0 < r u v → F v ≠ none

theorem SI.start (r : Nat → Nat → Int) (nx : Nat → List Nat) {N : Nat} (hN : 1 ≤ N) {F : Nat → Option Nat} (h : ∀ v, F v = if v = 0 then some 0 else none) : SI r nx N F [0] := by
  refine ⟨fun v => ?_, by simp, fun v hv => ?_, by rw [h, if_pos rfl], fun v d hd => ?_, fun i u d hi hd => ?_⟩
  · rw [h]; split <;> simp_all
  · simp at hv; omega
  · rw [h] at hd
    split at hd
    · exact Or.inl ⟨by assumption, by simpa using hd.symm⟩
    · simp at hd
  · rw [h] at hd
    split at hd
    · have : d = 0 := by simpa using hd.symm
      omega
    · simp at hd

theorem SI.len {r : Nat → Nat → Int} {nx : Nat → List Nat} {N : Nat} {F : Nat → Option Nat} {Q : List Nat} (h : SI r nx N F Q) : Q.length ≤ N := nodup_le N Q h.nodup h.lt

theorem setF_mono {F : Nat → Option Nat} {u : Nat} {x : Nat} {v : Nat} (h : F v ≠ none) : setF F u (some x) v ≠ none := by
  unfold setF; split
  · simp
  · exact h
theorem Clo.mono {r : Nat → Nat → Int} {nx : Nat → List Nat} {F F' : Nat → Option Nat} {u j : Nat} (h : Clo r nx F u j) (k : ∀ v, F v ≠ none → F' v ≠ none) : Clo r nx F' u j := fun v hv hr => k v (h v hv hr)

theorem SI.add {r : Nat → Nat → Int} {nx : Nat → List Nat} {N : Nat} {F : Nat → Option Nat} {Q : List Nat} (h : SI r nx N F Q) {k u v d : Nat} (hk : Q[k]? = some u) (hd : F u = some d) (hv : v ∈ nx u) (hr : 0 < r u v) (hN : v < N) (hF : F v = none) :
    SI r nx N (setF F v (some (d + 1))) (Q ++ [v]) := by
  have hnq : v ∉ Q := fun hq => (h.mem v).2 hq hF
  have hs : ∀ a, a ≠ v → setF F v (some (d + 1)) a = F a := fun a ha => by unfold setF; rw [if_neg ha]
  have hvv : setF F v (some (d + 1)) v = some (d + 1) := by unfold setF; rw [if_pos rfl]
  have huv : u ≠ v := fun e => by rw [e, hF] at hd; cases hd
  refine ⟨fun a => ?_, ?_, ?_, ?_, ?_, ?_⟩
  · by_cases e : a = v
    · subst e; rw [hvv]; simp
    · rw [hs a e, h.mem a]; simp [e]
  · refine List.nodup_append.2 ⟨h.nodup, by simp, fun a ha b hb e => ?_⟩
    simp at hb
    subst e; subst hb
    exact hnq ha
  · intro a ha
    rcases List.mem_append.1 ha with ha | ha
    · exact h.lt a ha
    · simp at ha; omega
  · rw [hs 0 (fun e => by rw [← e, h.zero] at hF; cases hF)]; exact h.zero
  · intro a x hx
    by_cases e : a = v
    · subst e
      rw [hvv] at hx
      exact Or.inr ⟨u, d, (hs u huv).trans hd, by simpa using hx.symm, hv, hr⟩
    · rw [hs a e] at hx
      rcases h.pred a x hx with c | ⟨u', d', c1, c2, c3, c4⟩
      · exact Or.inl c
      · exact Or.inr ⟨u', d', (hs u' (fun e' => by rw [e', hF] at c1; cases c1)).trans c1, c2, c3, c4⟩
  · intro i a x hi hx
    rcases Nat.lt_or_ge i Q.length with c | c
    · rw [List.getElem?_append_left c] at hi
      have ha : a ≠ v := fun e => hnq (e ▸ List.mem_of_getElem? hi)
      rw [hs a ha] at hx
      exact h.dist i a x hi hx
    · rw [List.getElem?_append_right c] at hi
      have hi0 : i - Q.length = 0 := by
        rcases Nat.eq_zero_or_pos (i - Q.length) with z | z
        · exact z
        · rw [List.getElem?_eq_none (by simp; omega)] at hi; cases hi
      rw [hi0] at hi
      obtain rfl : v = a := by simpa using hi
      rw [hvv] at hx
      have e1 : d + 1 = x := by simpa using hx
      have e2 := h.dist k u d hk hd
      have e3 := (List.getElem?_eq_some_iff.1 hk).1
      omega
theorem Clo.step {r : Nat → Nat → Int} {nx : Nat → List Nat} {F : Nat → Option Nat} {u j v : Nat} (h : Clo r nx F u j) (hv : (nx u)[j]? = some v) (k : 0 < r u v → F v ≠ none) : Clo r nx F u (j + 1) := fun a ha hr => by
  rw [List.take_add_one, hv] at ha
  rcases List.mem_append.1 ha with ha | ha
  · exact h a ha hr
  · simp at ha; subst ha; exact k hr

/-- A node from which the sink may be come to by steps of distance 1. -/
inductive Lv (r : Nat → Nat → Int) (nx : Nat → List Nat) (F : Nat → Option Nat) : Nat → Prop
  | sink : F 1 ≠ none → Lv r nx F 1
  | step (u v d : Nat) : F u = some d → F v = some (d + 1) → v ∈ nx u → 0 < r u v → Lv r nx F v → Lv r nx F u

/-- What a search has found when it is done. -/
structure Found (r : Nat → Nat → Int) (nx : Nat → List Nat) (N : Nat) (F : Nat → Option Nat) : Prop where
  lt : ∀ v, F v ≠ none → v < N
  zero : F 0 = some 0
  pred : ∀ v d, F v = some d → (v = 0 ∧ d = 0) ∨ ∃ u d', F u = some d' ∧ d = d' + 1 ∧ v ∈ nx u ∧ 0 < r u v
  dist : ∀ v d, F v = some d → d < N
  clo : ∀ u, F u ≠ none → ∀ v ∈ nx u, 0 < r u v → F v ≠ none
theorem Found.lv {r : Nat → Nat → Int} {nx : Nat → List Nat} {N : Nat} {F : Nat → Option Nat} (h : Found r nx N F) : ∀ (d v : Nat), F v = some d → Lv r nx F v → Lv r nx F 0
  | 0, v, hv, hl => by
    rcases h.pred v 0 hv with ⟨rfl, -⟩ | ⟨u, d', -, e, -⟩
    · exact hl
    · omega
  | d + 1, v, hv, hl => by
    rcases h.pred v (d + 1) hv with ⟨rfl, e⟩ | ⟨u, d', c1, e, c3, c4⟩
    · omega
    · obtain rfl : d = d' := by omega
      exact Found.lv h d u c1 (Lv.step u v d c1 hv c3 c4 hl)
theorem Found.way {r : Nat → Nat → Int} {nx : Nat → List Nat} {N : Nat} {F : Nat → Option Nat} (h : Found r nx N F) (h1 : F 1 ≠ none) : Lv r nx F 0 := by
  obtain ⟨d, hd⟩ := Option.ne_none_iff_exists'.1 h1
  exact h.lv d 1 hd (Lv.sink h1)
/-- What can't lead on may be forgotten. -/
theorem Lv.without {r : Nat → Nat → Int} {nx : Nat → List Nat} {F F' : Nat → Option Nat} (hs : ∀ v, F' v = F v ∨ (F' v = none ∧ ¬ Lv r nx F v)) {u : Nat} (h : Lv r nx F u) : Lv r nx F' u := by
  induction h with
  | sink h1 =>
    rcases hs 1 with e | ⟨-, k⟩
    · exact Lv.sink (by rw [e]; exact h1)
    · exact absurd (Lv.sink h1) k
  | step u v d a1 a2 a3 a4 a5 ih =>
    rcases hs u with e | ⟨-, k⟩
    · rcases hs v with e' | ⟨-, k⟩
      · exact Lv.step u v d (e.trans a1) (e'.trans a2) a3 a4 ih
      · exact absurd a5 k
    · exact absurd (Lv.step u v d a1 a2 a3 a4 a5) k
theorem Lv.fewer {r : Nat → Nat → Int} {nx : Nat → List Nat} {F F' : Nat → Option Nat} (hs : ∀ v, F' v = F v ∨ F' v = none) {u : Nat} (h : Lv r nx F' u) : Lv r nx F u := by
  have hx : ∀ v x, F' v = some x → F v = some x := fun v x hv => by
    rcases hs v with e | e
    · rw [← e]; exact hv
    · rw [e] at hv; cases hv
  induction h with
  | sink h1 =>
    obtain ⟨d, hd⟩ := Option.ne_none_iff_exists'.1 h1
    exact Lv.sink (by rw [hx 1 d hd]; simp)
  | step u v d a1 a2 a3 a4 a5 ih => exact Lv.step u v d (hx _ _ a1) (hx _ _ a2) a3 a4 ih

end Go.Proofs.Ytfmojiaaoebodaa
