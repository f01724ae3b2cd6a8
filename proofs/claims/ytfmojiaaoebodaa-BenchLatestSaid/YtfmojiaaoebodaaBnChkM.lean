/- Layer 4: slots that are sorted by their owner, checked one by one. Plain mathematics.
Layer 4: the tasks of the law's probe. Plain mathematics. -/
import Derived.Test.YtfmojiaaoebodaaBnM
namespace Go.Proofs.Ytfmojiaaoebodaa

/-- Slots by owner, and by their beginning. -/
def ordS (ow : Sl → Int) (x y : Sl) : Prop := ow x < ow y ∨ (ow x = ow y ∧ x.2.2.1 ≤ y.2.2.1)
def apO (ow : Sl → Int) (x y : Sl) : Prop := ow x = ow y → x.2.2.2 ≤ y.2.2.1 ∨ y.2.2.2 ≤ x.2.2.1
def nbO (ow : Sl → Int) (x y : Sl) : Prop := ow x = ow y → x.2.2.2 ≤ y.2.2.1
def slA (sl : List Sl) (k : Nat) : Sl := sl.getD k (0, 0, 0, 0)

theorem nb_far {ow : Sl → Int} {sl : List Sl} (ho : ∀ i j, i < j → j < sl.length → ordS ow (slA sl i) (slA sl j)) (h : ∀ k, k + 1 < sl.length → nbO ow (slA sl k) (slA sl (k + 1))) : ∀ (d i : Nat), i + d + 1 < sl.length → nbO ow (slA sl i) (slA sl (i + d + 1))
  | 0, i, hi => h i hi
  | d + 1, i, hi => fun e => by
    have h1 := nb_far ho h d i (by omega)
    have h2 := h (i + d + 1) (by omega)
    have o1 := ho i (i + d + 1) (by omega) (by omega)
    have o2 := ho (i + d + 1) (i + d + 1 + 1) (by omega) (by omega)
    unfold nbO at h1 h2
    unfold ordS at o1 o2
    rw [show i + (d + 1) + 1 = i + d + 1 + 1 by omega] at e ⊢
    have e1 : ow (slA sl i) = ow (slA sl (i + d + 1)) := by omega
    have := h1 e1
    omega

theorem slA_get (sl : List Sl) (i : Nat) (h : i < sl.length) : slA sl i = sl[i] := by
  unfold slA; rw [List.getD_eq_getElem?_getD, List.getElem?_eq_getElem h]; rfl

theorem apart_iff {ow : Sl → Int} {s sl : List Sl} (hp : sl.Perm s) (hs : sl.Pairwise (ordS ow)) (hl : ∀ x ∈ s, x.2.2.1 < x.2.2.2) :
    (∀ k, k + 1 < sl.length → nbO ow (slA sl k) (slA sl (k + 1))) ↔ s.Pairwise (apO ow) := by
  have ho : ∀ i j, i < j → j < sl.length → ordS ow (slA sl i) (slA sl j) := fun i j hij hj => by
    rw [slA_get sl i (by omega), slA_get sl j hj]
    exact List.pairwise_iff_getElem.1 hs i j (by omega) hj hij
  have hsym : ∀ {x y : Sl}, apO ow x y → apO ow y x := fun {x y} h e => (h e.symm).symm
  constructor
  · intro h
    refine hp.pairwise ?_ (fun {x y} => hsym)
    refine List.pairwise_iff_getElem.2 fun i j hi hj hij => ?_
    have := nb_far ho h (j - i - 1) i (by omega)
    rw [show i + (j - i - 1) + 1 = j by omega, slA_get sl i hi, slA_get sl j hj] at this
    exact fun e => Or.inl (this e)
  · intro h k hk e
    have h2 := hp.symm.pairwise h (fun {x y} => hsym)
    have h3 := List.pairwise_iff_getElem.1 h2 k (k + 1) (by omega) hk (by omega)
    have o := ho k (k + 1) (by omega) hk
    rw [slA_get sl k (by omega), slA_get sl (k + 1) hk] at e o ⊢
    have l2 := hl _ (hp.mem_iff.1 (List.getElem_mem hk))
    unfold ordS at o
    rcases h3 e with h4 | h4
    · exact h4
    · omega

theorem pairwise_and' {α : Type} {R S : α → α → Prop} : ∀ {l : List α}, (l.Pairwise R ∧ l.Pairwise S) ↔ l.Pairwise fun a b => R a b ∧ S a b
  | [] => by simp
  | a :: l => by
    simp only [List.pairwise_cons, ← pairwise_and' (l := l)]
    constructor
    · rintro ⟨⟨h1, h2⟩, h3, h4⟩; exact ⟨fun b hb => ⟨h1 b hb, h3 b hb⟩, h2, h4⟩
    · rintro ⟨h1, h2, h3⟩; exact ⟨⟨fun b hb => (h1 b hb).1, h2⟩, fun b hb => (h1 b hb).2, h3⟩

/-- A schedule is what passes the checks one by one. -/
theorem sched_iff {n : Int} {l : List Jb} {s : List Sl} : SchedP n l s ↔ s.length ≤ 4096 ∧ (∀ x ∈ s, okS n l x) ∧ (∀ j : Nat, j < l.length → doneS s j = (jbA l j).2.2) ∧ s.Pairwise (apO fun x => x.2.1) ∧ s.Pairwise (apO fun x => x.1) := by
  have hiff : s.Pairwise apS ↔ s.Pairwise (apO fun x => x.2.1) ∧ s.Pairwise (apO fun x => x.1) := by
    rw [pairwise_and']
    constructor
    · intro h
      exact h.imp fun {a b} h => ⟨fun e => h (Or.inr e), fun e => h (Or.inl e)⟩
    · intro h
      exact h.imp fun {a b} ⟨h1, h2⟩ e => e.elim (fun e => h2 e) (fun e => h1 e)
  constructor
  · intro h; exact ⟨h.few, h.ok, h.done, hiff.1 h.apart⟩
  · rintro ⟨h1, h2, h3, h4⟩; exact ⟨h1, h2, hiff.2 h4, h3⟩

theorem doneS_snoc (s : List Sl) (x : Sl) (j : Int) : doneS (s ++ [x]) j = doneS s j + if x.1 = j then lenS x else 0 := by
  unfold doneS; rw [lsum_app]; simp [lsum]
theorem take_snoc {α : Type} (l : List α) (d : α) (k : Nat) (h : k < l.length) : l.take (k + 1) = l.take k ++ [l.getD k d] := by
  rw [List.take_add_one, List.getD_eq_getElem?_getD, List.getElem?_eq_getElem h]; rfl
theorem mem_take_at {α : Type} {P : α → Prop} (l : List α) (d : α) (k : Nat) (h : k < l.length) (h0 : ∀ x ∈ l.take k, P x) (h1 : P (l.getD k d)) : ∀ x ∈ l.take (k + 1), P x := fun x hx => by
  rw [take_snoc l d k h] at hx
  rcases List.mem_append.1 hx with h | h
  · exact h0 x h
  · obtain rfl := List.mem_singleton.1 h; exact h1
/-- What is done of jobs by good slots stays small. -/
theorem doneS_small {n : Int} {l : List Jb} (hl : ∀ j ∈ l, 0 ≤ j.1 ∧ j.1 < j.2.1 ∧ j.2.1 ≤ 1048576) {s : List Sl} (h : ∀ x ∈ s, okS n l x) (j : Int) : 0 ≤ doneS s j ∧ doneS s j ≤ 1048576 * s.length := by
  induction s with
  | nil => simp [doneS, lsum]
  | cons x r ih =>
    have h1 := ih (fun y hy => h y (List.mem_cons_of_mem _ hy))
    obtain ⟨a1, -, a3, a4, a5⟩ := h x List.mem_cons_self
    have hm : jbA l x.1.toNat ∈ l := by
      unfold jbA
      rw [List.getD_eq_getElem?_getD, List.getElem?_eq_getElem (by omega)]
      exact List.getElem_mem _
    have b := hl _ hm
    have e : doneS (x :: r) j = (if x.1 = j then lenS x else 0) + doneS r j := rfl
    rw [e, List.length_cons]
    unfold lenS
    split <;> omega

/-! ### Refusals -/
theorem roomS_snoc (n : Int) (S : List (Int × Int)) (p : Int × Int) : roomS n (S ++ [p]) = roomS n S + n * (p.2 - p.1) := by
  unfold roomS; rw [lsum_app]; simp [lsum]
/-- Pieces one behind the other, from 0 on. -/
def chainP (a b : Nat → Int) (N : Nat) : Prop := ∀ k, k < N → (if k = 0 then 0 else b (k - 1)) ≤ a k ∧ a k < b k
theorem chain_far {a b : Nat → Int} {N : Nat} (h : chainP a b N) : ∀ d i : Nat, i + d + 1 < N → b i ≤ a (i + d + 1)
  | 0, i, hi => by have := (h (i + 1) hi).1; simpa using this
  | d + 1, i, hi => by
    have h1 := chain_far h d i (by omega)
    have h2 := (h (i + d + 1) (by omega)).2
    have h3 := (h (i + (d + 1) + 1) hi).1
    simp only [Nat.add_one_ne_zero, if_false, Nat.add_sub_cancel] at h3
    rw [show i + (d + 1) = i + d + 1 by omega] at h3 ⊢
    omega
theorem chain_low {a b : Nat → Int} {N : Nat} (h : chainP a b N) : ∀ k, k < N → (k : Int) ≤ a k
  | 0, hk => by have := (h 0 hk).1; simpa using this
  | k + 1, hk => by
    have h1 := chain_low h k (by omega)
    have h2 := (h k (by omega)).2
    have h3 := (h (k + 1) hk).1
    simp only [Nat.add_one_ne_zero, if_false, Nat.add_sub_cancel] at h3
    omega
theorem chain_iff {α : Type} (a b : α → Int) (d : α) (S : List α) : chainP (fun k => a (S.getD k d)) (fun k => b (S.getD k d)) S.length ↔ (∀ p ∈ S, 0 ≤ a p ∧ a p < b p) ∧ S.Pairwise fun p q => b p ≤ a q := by
  have hg : ∀ i (h : i < S.length), S.getD i d = S[i] := fun i h => by rw [List.getD_eq_getElem?_getD, List.getElem?_eq_getElem h]; rfl
  constructor
  · intro h
    refine ⟨fun p hp => ?_, ?_⟩
    · obtain ⟨i, hi, rfl⟩ := List.mem_iff_getElem.1 hp
      have h1 := chain_low h i hi
      have h2 := (h i hi).2
      dsimp only at h1 h2
      rw [hg i hi] at h1 h2
      omega
    · refine List.pairwise_iff_getElem.2 fun i j hi hj hij => ?_
      have := chain_far h (j - i - 1) i (by omega)
      rw [show i + (j - i - 1) + 1 = j by omega, hg i hi, hg j hj] at this
      exact this
  · rintro ⟨h1, h2⟩ k hk
    have h3 := h1 _ (List.getElem_mem hk)
    dsimp only
    rw [hg k hk]
    refine ⟨?_, h3.2⟩
    split
    · exact h3.1
    · rw [hg (k - 1) (by omega)]
      exact List.pairwise_iff_getElem.1 h2 (k - 1) k (by omega) hk (by omega)
/-- The end of the span before. -/
def endS (S : List (Int × Int)) (k : Nat) : Int := if k = 0 then 0 else (S.getD (k - 1) (0, 0)).2
def okSp (S : List (Int × Int)) (k : Nat) : Prop := endS S k ≤ (S.getD k (0, 0)).1 ∧ (S.getD k (0, 0)).1 < (S.getD k (0, 0)).2 ∧ (S.getD k (0, 0)).2 ≤ 1048576
theorem spans_iff (S : List (Int × Int)) : spansP S ↔ ∀ k, k < S.length → okSp S k := by
  have hc := chain_iff (fun p : Int × Int => p.1) (fun p => p.2) (0, 0) S
  constructor
  · rintro ⟨h1, h2⟩ k hk
    have := hc.2 ⟨fun p hp => ⟨(h1 p hp).1, (h1 p hp).2.1⟩, h2⟩ k hk
    refine ⟨this.1, this.2, ?_⟩
    rw [List.getD_eq_getElem?_getD, List.getElem?_eq_getElem hk]
    exact (h1 _ (List.getElem_mem hk)).2.2
  · intro h
    have h3 := hc.1 (fun k hk => ⟨(h k hk).1, (h k hk).2.1⟩)
    refine ⟨fun p hp => ⟨(h3.1 p hp).1, (h3.1 p hp).2, ?_⟩, h3.2⟩
    obtain ⟨i, hi, rfl⟩ := List.mem_iff_getElem.1 hp
    have := (h i hi).2.2
    rw [List.getD_eq_getElem?_getD, List.getElem?_eq_getElem hi] at this
    exact this
/-- The least that may come next. -/
def nxtJ (J : List Int) (k : Nat) : Int := if k = 0 then 0 else J.getD (k - 1) 0 + 1
def okPs (n : Nat) (J : List Int) (k : Nat) : Prop := nxtJ J k ≤ J.getD k 0 ∧ J.getD k 0 < n
theorem asc_iff (n : Nat) (J : List Int) : ((∀ j ∈ J, 0 ≤ j ∧ j < n) ∧ J.Pairwise (· < ·)) ↔ ∀ k, k < J.length → okPs n J k := by
  have hc := chain_iff (fun j : Int => j) (fun j => j + 1) 0 J
  constructor
  · rintro ⟨h1, h2⟩ k hk
    have := hc.2 ⟨fun p hp => ⟨(h1 p hp).1, by omega⟩, h2.imp fun {a b} h => by omega⟩ k hk
    refine ⟨this.1, ?_⟩
    rw [List.getD_eq_getElem?_getD, List.getElem?_eq_getElem hk]
    exact (h1 _ (List.getElem_mem hk)).2
  · intro h
    have h3 := hc.1 (fun k hk => ⟨(h k hk).1, by dsimp only; omega⟩)
    refine ⟨fun p hp => ⟨(h3.1 p hp).1, ?_⟩, h3.2.imp fun {a b} h => by omega⟩
    obtain ⟨i, hi, rfl⟩ := List.mem_iff_getElem.1 hp
    have := (h i hi).2
    rw [List.getD_eq_getElem?_getD, List.getElem?_eq_getElem hi] at this
    exact this
theorem asc_few {n : Nat} {J : List Int} (h : ∀ k, k < J.length → okPs n J k) : J.length ≤ n := by
  rcases Nat.eq_zero_or_pos J.length with e | e
  · omega
  · have h1 := chain_low (a := fun k => J.getD k 0) (b := fun k => J.getD k 0 + 1) (N := J.length) (fun k hk => ⟨(h k hk).1, by dsimp only; omega⟩) (J.length - 1) (by omega)
    have h2 := (h (J.length - 1) (by omega)).2
    omega

/-- A refusal is what passes the checks one by one. -/
theorem refuse_iff {n : Int} {l : List Jb} {J : List Int} {S : List (Int × Int)} : RefuseP n l J S ↔ (∀ k, k < J.length → okPs l.length J k) ∧ (S.length ≤ 4096 ∧ ∀ k, k < S.length → okSp S k) ∧ 0 < lsum (fun j => (jbA l j.toNat).2.2 - besS S (jbA l j.toNat)) J - roomS n S := by
  have hs : lsum (fun j => (jbA l j.toNat).2.2 - besS S (jbA l j.toNat)) J + lsum (fun j => besS S (jbA l j.toNat)) J = lsum (fun j => (jbA l j.toNat).2.2) J := by
    rw [← lsum_add]
    exact lsum_congr _ fun j _ => by omega
  constructor
  · intro h
    exact ⟨(asc_iff _ _).1 ⟨h.jobs, h.asc⟩, ⟨h.few, (spans_iff S).1 h.spans⟩, by have := h.more; omega⟩
  · rintro ⟨h1, ⟨h2, h3⟩, h4⟩
    obtain ⟨a, b⟩ := (asc_iff _ _).2 h1
    exact ⟨h2, (spans_iff S).2 h3, a, b, by omega⟩

theorem ovr_bd {a b c d : Int} (h1 : 0 ≤ a) (h2 : b ≤ 1048576) (_h3 : c < d) : 0 ≤ ovr a b c d ∧ ovr a b c d ≤ 1048576 := by unfold ovr; omega
theorem lsum_snoc {α : Type} (f : α → Int) (S : List α) (p : α) : lsum f (S ++ [p]) = lsum f S + f p := by rw [lsum_app]; simp [lsum]
theorem lsum_bd {α : Type} {f : α → Int} {lo hi : Int} : ∀ S : List α, (∀ p ∈ S, lo ≤ f p ∧ f p ≤ hi) → lo * S.length ≤ lsum f S ∧ lsum f S ≤ hi * S.length
  | [], _ => by simp [lsum]
  | x :: r, h => by
    have h1 := lsum_bd r (fun p hp => h p (List.mem_cons_of_mem _ hp))
    have h2 := h x List.mem_cons_self
    simp only [lsum, List.length_cons]
    rw [show ((r.length + 1 : Nat) : Int) = r.length + 1 by omega, Int.mul_add, Int.mul_add]
    omega

/-! ### Names for what the checks say -/
def AscOk (n : Nat) (J : List Int) : Prop := ∀ k, k < J.length → okPs n J k
def SpansOk (S : List (Int × Int)) : Prop := S.length ≤ 4096 ∧ ∀ k, k < S.length → okSp S k
def ApartOk (ow : Sl → Int) (s : List Sl) : Prop := s.Pairwise (apO ow)
theorem yes_of {p : Prop} (h : p) : true = true ↔ p := ⟨fun _ => h, fun _ => rfl⟩
theorem no_of {p : Prop} (h : ¬ p) : false = true ↔ p := ⟨fun e => (by cases e), fun e => absurd e h⟩

end Go.Proofs.Ytfmojiaaoebodaa

namespace Go.Proofs.Ytfmojiaaoebodaa

def awJ : List Jb := [(0, 3, 2), (0, 3, 2), (0, 3, 2)]
def awJ2 : List Jb := [(0, 3, 2), (0, 3, 2)]
def awS : List Sl := [(0, 0, 0, 2), (1, 0, 2, 3), (1, 1, 0, 1), (2, 1, 1, 3)]
theorem aw_two : SchedP 2 awJ awS where
  few := by decide
  ok := by intro x hx; simp [awS] at hx; rcases hx with rfl | rfl | rfl | rfl <;> simp [okS, jbA, awJ]
  apart := by simp [awS, apS]
  done := by
    intro j hj
    have : j = 0 ∨ j = 1 ∨ j = 2 := by simp [awJ] at hj; omega
    rcases this with rfl | rfl | rfl <;> decide
theorem aw_one : RefuseP 1 awJ [0, 1, 2] [(0, 3)] where
  few := by decide
  spans := ⟨by intro p hp; simp at hp; subst hp; decide, by simp⟩
  jobs := by intro j hj; simp at hj; rcases hj with rfl | rfl | rfl <;> decide
  asc := by simp
  more := by decide
theorem aw_jobs : ∀ j ∈ awJ, 0 ≤ j.1 ∧ j.1 < j.2.1 ∧ j.2.1 ≤ 1048576 := by intro j hj; simp [awJ] at hj; subst hj; decide
theorem aw_not_one (s : List Sl) : ¬ SchedP 1 awJ s := fun h => dual (n := 1) aw_jobs h aw_one
def awD (d : Int) : List Jb := [(0 + d, 3, 2), (0 + d, 3, 2)]
theorem aw_d0 : SchedP 2 (awD 0) [(0, 0, 0, 2), (1, 1, 0, 2)] where
  few := by decide
  ok := by intro x hx; simp at hx; rcases hx with rfl | rfl <;> simp [okS, jbA, awD]
  apart := by simp [apS]
  done := by
    intro j hj
    have : j = 0 ∨ j = 1 := by simp [awD] at hj; omega
    rcases this with rfl | rfl <;> decide
theorem aw_d1 : SchedP 2 (awD 1) [(0, 0, 1, 3), (1, 1, 1, 3)] where
  few := by decide
  ok := by intro x hx; simp at hx; rcases hx with rfl | rfl <;> simp [okS, jbA, awD]
  apart := by simp [apS]
  done := by
    intro j hj
    have : j = 0 ∨ j = 1 := by simp [awD] at hj; omega
    rcases this with rfl | rfl <;> decide
theorem aw_two_late : RefuseP 2 (awD 2) [0] [] where
  few := by decide
  spans := ⟨by intro p hp; simp at hp, by simp⟩
  jobs := by intro j hj; simp at hj; subst hj; decide
  asc := by simp
  more := by decide
theorem aw_late {d : Int} {s : List Sl} (h : SchedP 2 (awD d) s) : d ≤ 1 := by
  rcases Int.lt_or_le 2 d with h2 | h2
  · -- no slot of the first job
    have hd := h.done 0 (by simp [awD])
    have : doneS s ((0 : Nat) : Int) = 0 := by
      unfold doneS
      rw [lsum_congr (g := fun _ => 0) s, lsum_zero]
      intro x hx
      split
      · rename_i e
        obtain ⟨-, -, a, b, c⟩ := h.ok x hx
        rw [show x.1.toNat = 0 by omega] at b c
        simp [jbA, awD] at b c
        omega
      · rfl
    rw [this] at hd
    simp [jbA, awD] at hd
  · rcases Int.lt_or_le d 2 with h3 | h3
    · omega
    · obtain rfl : d = 2 := by omega
      exact (dual (n := 2) (by intro j hj; simp [awD] at hj; subst hj; decide) h aw_two_late).elim

end Go.Proofs.Ytfmojiaaoebodaa
