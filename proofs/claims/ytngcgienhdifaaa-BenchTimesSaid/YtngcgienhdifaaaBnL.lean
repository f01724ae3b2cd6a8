/- Layer 4: parts of a flow, laid one after the other, are a schedule. Plain mathematics. -/
import Derived.Test.YtngcgienhdifaaaBnM
namespace Go.Proofs.Ytngcgienhdifaaa

/-- A piece of a bench's time: span, job, bench, where it begins in the span, how long it is. -/
structure Rc where
  s : Nat
  j : Nat
  q : Nat
  o : Nat
  p : Nat

/-- The spans: where they begin, how long they are. -/
structure Grid where
  K : Nat
  at_ : Nat → Int
  ln : Nat → Nat
  pos : ∀ s, s < K → 1 ≤ ln s
  up : ∀ s t, s < t → t < K → at_ s + ln s ≤ at_ t

def slR (G : Grid) (r : Rc) : Sl := (r.j, r.q, G.at_ r.s + r.o, G.at_ r.s + r.o + r.p)
def begR (G : Grid) (r : Rc) : Nat := r.q * G.ln r.s + r.o
/-- What of a span is used by the jobs ahead of j. -/
def upto (f : Nat → Nat → Nat) (s : Nat) : Nat → Nat
  | 0 => 0
  | j + 1 => upto f s j + f j s
theorem upto_mono {f : Nat → Nat → Nat} {s i j : Nat} (h : i ≤ j) : upto f s i ≤ upto f s j := by
  induction j with
  | zero => obtain rfl : i = 0 := by omega
            exact Nat.le_refl _
  | succ j ih =>
    rcases Nat.lt_or_ge j i with c | c
    · obtain rfl : i = j + 1 := by omega
      exact Nat.le_refl _
    · have := ih c; simp only [upto]; omega
def okR (G : Grid) (N : Nat) (f : Nat → Nat → Nat) (r : Rc) : Prop :=
  r.s < G.K ∧ r.j < N ∧ 1 ≤ r.p ∧ r.o + r.p ≤ G.ln r.s ∧ upto f r.s r.j ≤ begR G r ∧ begR G r + r.p ≤ upto f r.s (r.j + 1)
def bfR (G : Grid) (r t : Rc) : Prop := r.s < t.s ∨ (r.s = t.s ∧ begR G r + r.p ≤ begR G t)
/-- How much the pieces have of a job in a span. -/
def gotR (L : List Rc) (j s : Nat) : Int := lsum (fun r => if r.j = j ∧ r.s = s then (r.p : Int) else 0) L
/-- The pieces so far: all spans ahead of s, of s the jobs ahead of j, and what lies ahead of u. -/
structure Lay (G : Grid) (N : Nat) (f : Nat → Nat → Nat) (s j u : Nat) (L : List Rc) : Prop where
  ok : ∀ r ∈ L, okR G N f r
  bf : L.Pairwise (bfR G)
  far : ∀ r ∈ L, r.s < s ∨ (r.s = s ∧ begR G r + r.p ≤ u)
  got : ∀ i t, i < N → t < G.K → gotR L i t = if t < s ∨ (t = s ∧ i < j) then (f i t : Int) else if t = s ∧ i = j then (u : Int) - upto f s j else 0
  lo : upto f s j ≤ u
  few : L.length ≤ 40 * s + j + u / G.ln s
theorem gotR_snoc (L : List Rc) (r : Rc) (j s : Nat) : gotR (L ++ [r]) j s = gotR L j s + if r.j = j ∧ r.s = s then (r.p : Int) else 0 := by
  unfold gotR; rw [lsum_app]; simp [lsum]

theorem Lay.nil (G : Grid) (N : Nat) (f : Nat → Nat → Nat) : Lay G N f 0 0 0 [] := by
  refine ⟨by simp, by simp, by simp, fun i t _ _ => ?_, Nat.le_refl _, by simp⟩
  unfold gotR; simp [lsum, upto]

/-- The next job of the span. -/
theorem Lay.job {G : Grid} {N : Nat} {f : Nat → Nat → Nat} {s j u : Nat} {L : List Rc} (h : Lay G N f s j u L) (hu : u = upto f s (j + 1)) : Lay G N f s (j + 1) u L := by
  refine ⟨h.ok, h.bf, h.far, fun i t hi ht => ?_, by omega, by have := h.few; omega⟩
  rw [h.got i t hi ht]
  by_cases a : t < s ∨ (t = s ∧ i < j)
  · rw [if_pos a, if_pos (by omega)]
  · rw [if_neg a]
    by_cases b : t = s ∧ i = j
    · obtain ⟨rfl, rfl⟩ := b
      rw [if_pos ⟨rfl, rfl⟩, if_pos (by omega), hu]
      simp only [upto]; omega
    · rw [if_neg b, if_neg (by omega)]
      split
      · omega
      · rfl

/-- The next span. -/
theorem Lay.span {G : Grid} {N : Nat} {f : Nat → Nat → Nat} {s u n : Nat} {L : List Rc} (h : Lay G N f s N u L) (hN : N ≤ 32) (hs : s < G.K) (hu : u ≤ n * G.ln s) (hn : n ≤ 8) : Lay G N f (s + 1) 0 0 L := by
  refine ⟨h.ok, h.bf, fun r hr => ?_, fun i t hi ht => ?_, Nat.le_refl _, ?_⟩
  · have := h.far r hr; omega
  · rw [h.got i t hi ht]
    by_cases a : t < s ∨ (t = s ∧ i < N)
    · rw [if_pos a, if_pos (by omega)]
    · rw [if_neg a, if_neg (by omega), if_neg (by omega)]
      split
      · simp [upto]
      · rfl
  · have h1 := h.few
    have h2 := G.pos s hs
    have h3 : u / G.ln s ≤ n := by
      rw [Nat.div_le_iff_le_mul_add_pred (by omega)]
      have : n * G.ln s = G.ln s * n := Nat.mul_comm _ _
      omega
    simp; omega

/-- A piece more. -/
theorem Lay.piece {G : Grid} {N : Nat} {f : Nat → Nat → Nat} {s j u p : Nat} {L : List Rc} (h : Lay G N f s j u L) (hs : s < G.K) (hj : j < N) (hu : u < upto f s (j + 1)) (hp : p = min (upto f s (j + 1) - u) (G.ln s - u % G.ln s)) :
    Lay G N f s j (u + p) (L ++ [⟨s, j, u / G.ln s, u % G.ln s, p⟩]) ∨ (u + p = upto f s (j + 1) ∧ Lay G N f s (j + 1) (u + p) (L ++ [⟨s, j, u / G.ln s, u % G.ln s, p⟩])) := by
  have hl := G.pos s hs
  have hm := Nat.mod_lt u (by omega : 0 < G.ln s)
  have hd : u / G.ln s * G.ln s + u % G.ln s = u := by rw [Nat.mul_comm]; exact Nat.div_add_mod u _
  have hp1 : 1 ≤ p := by omega
  have hbeg : begR G ⟨s, j, u / G.ln s, u % G.ln s, p⟩ = u := hd
  have hlo := h.lo
  have ok' : ∀ r ∈ L ++ [⟨s, j, u / G.ln s, u % G.ln s, p⟩], okR G N f r := fun r hr => by
    rcases List.mem_append.1 hr with hr | hr
    · exact h.ok r hr
    · obtain rfl := List.mem_singleton.1 hr
      refine ⟨hs, hj, hp1, ?_, ?_, ?_⟩
      · show u % G.ln s + p ≤ G.ln s; omega
      · rw [hbeg]; exact hlo
      · rw [hbeg]; show u + p ≤ upto f s (j + 1); omega
  have bf' : (L ++ [(⟨s, j, u / G.ln s, u % G.ln s, p⟩ : Rc)]).Pairwise (bfR G) := by
    refine List.pairwise_append.2 ⟨h.bf, List.pairwise_singleton _ _, fun r hr t ht => ?_⟩
    obtain rfl := List.mem_singleton.1 ht
    have := h.far r hr
    unfold bfR
    rw [hbeg]
    exact this
  have far' : ∀ r ∈ L ++ [(⟨s, j, u / G.ln s, u % G.ln s, p⟩ : Rc)], r.s < s ∨ (r.s = s ∧ begR G r + r.p ≤ u + p) := fun r hr => by
    rcases List.mem_append.1 hr with hr | hr
    · have := h.far r hr; omega
    · obtain rfl := List.mem_singleton.1 hr
      rw [hbeg]; exact Or.inr ⟨rfl, Nat.le_refl _⟩
  have got' : ∀ i t, i < N → t < G.K → gotR (L ++ [⟨s, j, u / G.ln s, u % G.ln s, p⟩]) i t = if t < s ∨ (t = s ∧ i < j) then (f i t : Int) else if t = s ∧ i = j then ((u + p : Nat) : Int) - upto f s j else 0 := fun i t hi ht => by
    rw [gotR_snoc, h.got i t hi ht]
    dsimp only
    by_cases a : t < s ∨ (t = s ∧ i < j)
    · rw [if_pos a, if_neg (by omega)]; simp [a]
    · rw [if_neg a]
      by_cases b : t = s ∧ i = j
      · obtain ⟨rfl, rfl⟩ := b
        rw [if_pos ⟨rfl, rfl⟩, if_pos ⟨rfl, rfl⟩, if_neg a, if_pos ⟨rfl, rfl⟩]; omega
      · rw [if_neg b, if_neg (by omega), if_neg a, if_neg b]; rfl
  by_cases hfin : u + p = upto f s (j + 1)
  · refine Or.inr ⟨hfin, ?_⟩
    have base : Lay G N f s j (u + p) (L ++ [⟨s, j, u / G.ln s, u % G.ln s, p⟩]) ∨ True := Or.inr trivial
    refine ⟨ok', bf', far', fun i t hi ht => ?_, by omega, ?_⟩
    · rw [got' i t hi ht]
      by_cases a : t < s ∨ (t = s ∧ i < j)
      · rw [if_pos a, if_pos (by omega)]
      · rw [if_neg a]
        by_cases b : t = s ∧ i = j
        · obtain ⟨rfl, rfl⟩ := b
          rw [if_pos ⟨rfl, rfl⟩, if_pos (by omega), hfin]
          simp only [upto]; omega
        · rw [if_neg b, if_neg (by omega)]
          split
          · omega
          · rfl
    · have := h.few
      have h2 : u / G.ln s ≤ (u + p) / G.ln s := Nat.div_le_div_right (by omega)
      simp; omega
  · refine Or.inl ⟨ok', bf', far', got', by omega, ?_⟩
    have := h.few
    have hp2 : p = G.ln s - u % G.ln s := by omega
    have h2 : (u + p) / G.ln s = u / G.ln s + 1 := by
      have : u + p = (u / G.ln s + 1) * G.ln s := by rw [Nat.add_mul, Nat.one_mul]; omega
      rw [this, Nat.mul_div_cancel _ (by omega)]
    rw [h2]; simp; omega

theorem pairwise_map {α β : Type} {R : β → β → Prop} {f : α → β} {l : List α} (h : l.Pairwise fun a b => R (f a) (f b)) : (l.map f).Pairwise R := List.pairwise_map.2 h

/-- The task's jobs may be worked on in a span. -/
def covG (G : Grid) (l : List Jb) (j s : Nat) : Prop := (jbA l j).1 ≤ G.at_ s ∧ G.at_ s + G.ln s ≤ (jbA l j).2.1

theorem lsum_map {α β : Type} (f : β → Int) (g : α → β) : ∀ l : List α, lsum f (l.map g) = lsum (fun x => f (g x)) l
  | [] => rfl
  | x :: r => by simp only [List.map_cons, lsum]; rw [lsum_map f g r]

/-- All pieces are a schedule. -/
theorem Lay.sched {G : Grid} {f : Nat → Nat → Nat} {n : Nat} {l : List Jb} {L : List Rc} (h : Lay G l.length f G.K 0 0 L) (hK : G.K ≤ 64) (hcov : ∀ j s, j < l.length → s < G.K → 1 ≤ f j s → covG G l j s)
    (hle : ∀ j s, j < l.length → s < G.K → f j s ≤ G.ln s) (hcol : ∀ s, s < G.K → upto f s l.length ≤ n * G.ln s) (hrow : ∀ j, j < l.length → smN (fun s => (f j s : Int)) G.K = (jbA l j).2.2) : SchedP n l (L.map (slR G)) := by
  refine ⟨?_, ?_, ?_, ?_⟩
  · have := h.few
    simp at this ⊢; omega
  · intro x hx
    obtain ⟨r, hr, rfl⟩ := List.mem_map.1 hx
    obtain ⟨a1, a2, a3, a4, a5, a6⟩ := h.ok r hr
    have hf : 1 ≤ f r.j r.s := by simp only [upto] at a6; omega
    obtain ⟨c1, c2⟩ := hcov r.j r.s a2 a1 hf
    have hq : r.q < n := by
      have h1 := upto_mono (f := f) (s := r.s) (show r.j + 1 ≤ l.length by omega)
      have h2 := hcol r.s a1
      have h3 : r.q * G.ln r.s < n * G.ln r.s := by unfold begR at a6; omega
      exact Nat.lt_of_mul_lt_mul_right h3
    unfold slR okS
    dsimp only
    rw [Int.toNat_natCast]
    omega
  · refine pairwise_map (h.bf.imp_of_mem fun {r t} hr ht hb => ?_)
    obtain ⟨a1, a2, a3, a4, a5, a6⟩ := h.ok r hr
    obtain ⟨b1, b2, b3, b4, b5, b6⟩ := h.ok t ht
    unfold slR apS
    dsimp only
    intro hsame
    rcases hb with hb | ⟨hb, hbe⟩
    · have := G.up r.s t.s hb b1
      exact Or.inl (by omega)
    · rw [← hb] at b4 b5 b6 ⊢
      have hl := G.pos r.s a1
      have hl2 := hle r.j r.s a2 a1
      unfold begR at *
      rw [← hb] at hbe b5 b6
      rcases hsame with e | e
      · have ej : r.j = t.j := by omega
        rw [← ej] at b5 b6
        simp only [upto] at b6 a6
        rcases Nat.lt_trichotomy r.q t.q with c | c | c
        · right
          have : (r.q + 1) * G.ln r.s ≤ t.q * G.ln r.s := Nat.mul_le_mul_right _ c
          rw [Nat.add_mul] at this
          omega
        · rw [c] at hbe; left; omega
        · have : (t.q + 1) * G.ln r.s ≤ r.q * G.ln r.s := Nat.mul_le_mul_right _ c
          rw [Nat.add_mul] at this
          omega
      · have eq : r.q = t.q := by omega
        rw [eq] at hbe; left; omega
  · intro j hj
    rw [← hrow j hj]
    unfold doneS
    rw [lsum_map]
    have h1 : lsum (fun x => if (slR G x).1 = (j : Int) then lenS (slR G x) else 0) L = lsum (fun r => smN (fun s => if r.j = j ∧ r.s = s then (r.p : Int) else 0) G.K) L := by
      refine lsum_congr L fun r hr => ?_
      obtain ⟨a1, -⟩ := h.ok r hr
      rw [smN_one (f := fun s => if r.j = j ∧ r.s = s then (r.p : Int) else 0) G.K r.s a1 (fun t _ ht => by rw [if_neg (by omega)])]
      unfold slR lenS
      dsimp only
      by_cases e : r.j = j
      · rw [if_pos (by omega), if_pos ⟨e, rfl⟩]; omega
      · rw [if_neg (by omega), if_neg (by omega)]
    rw [h1, lsum_smN]
    refine smN_congr G.K fun s hs => ?_
    have := h.got j s hj hs
    unfold gotR at this
    rw [this, if_pos (Or.inl hs)]

end Go.Proofs.Ytngcgienhdifaaa
