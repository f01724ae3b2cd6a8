/- Hulls: what a chain is. Plain mathematics on the chains of the program.
Hulls: the corners of a set, and that they are their own corners. Plain mathematics.
Hulls: at each corner the ring turns left, and all points are left of each edge or on it. Plain mathematics. -/
import Derived.Test.YtpnkpejnahhajaaGreatBu45
namespace Go.Proofs.YtpnkpejnahhajaaGreat

/-- A way that leads up in the order of points. -/
def LP (x y : Int) : Prop := 0 < x ∨ (x = 0 ∧ 0 < y)
def LP0 (x y : Int) : Prop := 0 < x ∨ (x = 0 ∧ 0 ≤ y)
theorem LP.z {x y : Int} (h : LP x y) : LP0 x y := by unfold LP at h; unfold LP0; omega
theorem mul_zero_pos {a x : Int} (h : a * x = 0) (ha : 0 < a) : x = 0 := by
  rcases Int.mul_eq_zero.1 h with h | h
  · omega
  · exact h
theorem comb_nn {a b c ux uy vx vy wx wy : Int} (hx : c * vx = a * wx + b * ux) (hy : c * vy = a * wy + b * uy) (hv : LP vx vy) (hu : LP0 ux uy) (hw : LP0 wx wy) (ha : 0 ≤ a) (hb : 0 ≤ b) : 0 ≤ c := by
  rcases Int.lt_or_le c 0 with hc | hc
  · exfalso
    have x1 := Int.mul_nonneg ha (show 0 ≤ wx by unfold LP0 at hw; omega)
    have x2 := Int.mul_nonneg hb (show 0 ≤ ux by unfold LP0 at hu; omega)
    rcases hv with h | ⟨h, h'⟩
    · have := Int.mul_neg_of_neg_of_pos hc h; omega
    · have h1 := Int.mul_neg_of_neg_of_pos hc h'
      rw [h, Int.mul_zero] at hx
      have y1 : 0 ≤ a * wy := by
        rcases Int.lt_or_eq_of_le ha with k | k
        · have := mul_zero_pos (show a * wx = 0 by omega) k
          exact Int.mul_nonneg ha (by unfold LP0 at hw; omega)
        · rw [← k]; simp
      have y2 : 0 ≤ b * uy := by
        rcases Int.lt_or_eq_of_le hb with k | k
        · have := mul_zero_pos (show b * ux = 0 by omega) k
          exact Int.mul_nonneg hb (by unfold LP0 at hu; omega)
        · rw [← k]; simp
      omega
  · exact hc
theorem comb_pos {a b c ux uy vx vy wx wy : Int} (hx : c * vx = a * wx + b * ux) (hy : c * vy = a * wy + b * uy) (hv : LP vx vy) (hu : LP ux uy) (hw : LP0 wx wy) (ha : 0 ≤ a) (hb : 0 < b) : 0 < c := by
  have h0 := comb_nn hx hy hv hu.z hw ha (by omega)
  rcases Int.lt_or_eq_of_le h0 with h | h
  · exact h
  · exfalso
    rw [← h, Int.zero_mul] at hx hy
    have x1 := Int.mul_nonneg ha (show 0 ≤ wx by unfold LP0 at hw; omega)
    rcases hu with k | ⟨k, k'⟩
    · have := Int.mul_pos hb k; omega
    · have x2 := Int.mul_pos hb k'
      have y1 : 0 ≤ a * wy := by
        rcases Int.lt_or_eq_of_le ha with l | l
        · rw [k, Int.mul_zero] at hx
          have := mul_zero_pos (show a * wx = 0 by omega) l
          exact Int.mul_nonneg ha (by unfold LP0 at hw; omega)
        · rw [← l]; simp
      omega

def lt2 (a b : Int × Int) : Prop := a.1 < b.1 ∨ (a.1 = b.1 ∧ a.2 < b.2)
def cr (a b c : Int × Int) : Int := crs a.1 a.2 b.1 b.2 c.1 c.2
theorem lt2.lp {a b : Int × Int} (h : lt2 a b) : LP (b.1 - a.1) (b.2 - a.2) := by unfold lt2 at h; unfold LP; omega
theorem lt2.trans {a b c : Int × Int} (h : lt2 a b) (k : lt2 b c) : lt2 a c := by unfold lt2 at *; omega
theorem lt2.irr {a : Int × Int} (h : lt2 a a) : False := by unfold lt2 at h; omega
theorem lt2.tri (a b : Int × Int) : lt2 a b ∨ a = b ∨ lt2 b a := by
  obtain ⟨x, y⟩ := a
  obtain ⟨x', y'⟩ := b
  unfold lt2; dsimp only
  rcases Int.lt_trichotomy x x' with h | h | h
  · left; omega
  · subst h
    rcases Int.lt_trichotomy y y' with k | k | k
    · left; omega
    · subst k; right; left; rfl
    · right; right; omega
  · right; right; omega
theorem cr_tri (a b c : Int × Int) : tri a b c = 1 ↔ 0 < cr a b c := by unfold tri cr sgn; split <;> (try split) <;> omega
theorem cr_self (a b : Int × Int) : cr a b a = 0 := by unfold cr crs; grind
theorem cr_self2 (a b : Int × Int) : cr a b b = 0 := by unfold cr crs; grind
theorem cr_cyc (a b c : Int × Int) : cr b c a = cr a b c := by unfold cr crs; grind
theorem cr_swap (a b c : Int × Int) : cr a c b = -cr a b c := by unfold cr crs; grind

/-- Left turns add up. -/
theorem turn_on {a b c p : Int × Int} (h1 : lt2 a b) (h2 : lt2 b c) (h3 : lt2 c p) (k1 : 0 < cr a b c) (k2 : 0 < cr b c p) : 0 < cr a b p := by
  have e : 0 < (b.1 - a.1) * (p.2 - c.2) - (b.2 - a.2) * (p.1 - c.1) := by
    refine comb_pos (a := cr a b c) (b := cr b c p) (vx := c.1 - b.1) (vy := c.2 - b.2) (wx := p.1 - c.1) (wy := p.2 - c.2) (ux := b.1 - a.1) (uy := b.2 - a.2) ?_ ?_ h2.lp h1.lp h3.lp.z (by omega) k2
    · unfold cr crs; grind
    · unfold cr crs; grind
  have e2 : cr a b p = cr a b c + ((b.1 - a.1) * (p.2 - c.2) - (b.2 - a.2) * (p.1 - c.1)) := by unfold cr crs; grind
  omega
/-- Between two ways: left of the lower one. -/
theorem left_of {a b p q : Int × Int} (h1 : lt2 a b) (h2 : lt2 a p) (h3 : lt2 a q) (k1 : 0 ≤ cr a b q) (k2 : cr a b p ≤ 0) : 0 ≤ cr a p q := by
  refine comb_nn (a := -cr a b p) (b := cr a b q) (vx := b.1 - a.1) (vy := b.2 - a.2) (wx := q.1 - a.1) (wy := q.2 - a.2) (ux := p.1 - a.1) (uy := p.2 - a.2) ?_ ?_ h1.lp h2.lp.z h3.lp.z (by omega) k1
  · unfold cr crs; grind
  · unfold cr crs; grind
theorem left_back {z t p q : Int × Int} (h1 : lt2 z t) (h2 : lt2 t p) (h3 : lt2 q t) (k1 : 0 ≤ cr z t q) (k2 : 0 ≤ cr z t p) : 0 ≤ cr t p q := by
  refine comb_nn (a := cr z t p) (b := cr z t q) (vx := t.1 - z.1) (vy := t.2 - z.2) (wx := t.1 - q.1) (wy := t.2 - q.2) (ux := p.1 - t.1) (uy := p.2 - t.2) ?_ ?_ h1.lp h2.lp.z h3.lp.z k2 k1
  · unfold cr crs; grind
  · unfold cr crs; grind

/-- A stack, its top first: it rises, turns left at each point, and all points of Q are left of its ways, or on them. -/
def RC (Q : Int × Int → Prop) : List (Int × Int) → Prop
  | b :: a :: r => lt2 a b ∧ (∀ q, Q q → 0 ≤ cr a b q) ∧ (∀ z s, r = z :: s → 0 < cr z a b) ∧ RC Q (a :: r)
  | _ => True
theorem RC.more {Q : Int × Int → Prop} {p : Int × Int} : ∀ {r : List (Int × Int)} {b a : Int × Int}, RC Q (b :: a :: r) → lt2 b p → 0 < cr a b p → RC (fun q => Q q ∨ q = p) (b :: a :: r)
  | [], b, a, ⟨h1, h2, h3, _⟩, _, hc => ⟨h1, fun q hq => by rcases hq with hq | rfl; exact h2 q hq; omega, h3, trivial⟩
  | z :: s, b, a, ⟨h1, h2, h3, h4⟩, hl, hc => by
    have k : 0 < cr z a p := turn_on h4.1 h1 hl (h3 z s rfl) hc
    exact ⟨h1, fun q hq => by rcases hq with hq | rfl; exact h2 q hq; omega, h3, RC.more h4 (h1.trans hl) k⟩

/-- What the pops leave. -/
theorem pop_spec {Q : Int × Int → Prop} {p m : Int × Int} (hp : ∀ q, Q q → lt2 q p) (hm : ∀ q, Q q → q = m ∨ lt2 m q) : ∀ (r : List (Int × Int)) (t : Int × Int), RC Q (t :: r) → (t :: r).getLast? = some m → (∀ x ∈ t :: r, Q x) → (∀ q, Q q → lt2 t q → 0 ≤ cr t p q) →
    ∃ t' r', popR p (t :: r) = t' :: r' ∧ RC (fun q => Q q ∨ q = p) (p :: t' :: r') ∧ (t' :: r').getLast? = some m ∧ (∀ x ∈ t' :: r', Q x)
  | [], t, h, hl, hs, hg => by
    have hQt := hs t (List.mem_cons_self ..)
    have htm : t = m := by simpa using hl
    refine ⟨t, [], rfl, ⟨hp t hQt, fun q hq => ?_, fun z s h => (by cases h), trivial⟩, hl, hs⟩
    rcases hq with hq | rfl
    · rcases hm q hq with e | e
      · rw [e, ← htm, cr_self]; omega
      · exact hg q hq (by rw [htm]; exact e)
    · rw [cr_self2]; omega
  | a :: r, b, h, hl, hs, hg => by
    have hQb := hs b (List.mem_cons_self ..)
    have hQa := hs a (List.mem_cons_of_mem _ (List.mem_cons_self ..))
    obtain ⟨h1, h2, h3, h4⟩ := h
    by_cases ht : tri a b p = 1
    · have hc := (cr_tri a b p).1 ht
      refine ⟨b, a :: r, by unfold popR; rw [if_pos ht], ⟨hp b hQb, fun q hq => ?_, fun z s e => (by obtain ⟨rfl, rfl⟩ := List.cons.inj e; exact hc), RC.more ⟨h1, h2, h3, h4⟩ (hp b hQb) hc⟩, hl, hs⟩
      rcases hq with hq | rfl
      · rcases lt2.tri q b with e | e | e
        · exact left_back h1 (hp b hQb) e (h2 q hq) (by omega)
        · rw [e, cr_self]; omega
        · exact hg q hq e
      · rw [cr_self2]; omega
    · have hc : cr a b p ≤ 0 := by
        rcases Int.lt_or_le 0 (cr a b p) with k | k
        · exact absurd ((cr_tri a b p).2 k) ht
        · exact k
      obtain ⟨t', r', e, k⟩ := pop_spec hp hm r a h4 (by simpa using hl) (fun x hx => hs x (List.mem_cons_of_mem _ hx)) (fun q hq hlt => left_of h1 (hp a hQa) hlt (h2 q hq) hc)
      exact ⟨t', r', by unfold popR; rw [if_neg ht]; exact e, k⟩

/-- The stack behind the points of D, which rise. -/
theorem chain_spec {m : Int × Int} : ∀ (ps D st : List (Int × Int)), (∀ q ∈ D, q = m ∨ lt2 m q) → (∀ p ∈ ps, ∀ q ∈ D, lt2 q p) → ps.Pairwise lt2 →
    (∃ t r, st = t :: r ∧ RC (· ∈ D) (t :: r) ∧ (t :: r).getLast? = some m ∧ (∀ x ∈ t :: r, x ∈ D) ∧ (∀ q ∈ D, q = t ∨ lt2 q t)) →
    ∃ t r, chainR st ps = t :: r ∧ RC (fun q => q ∈ D ∨ q ∈ ps) (t :: r) ∧ (t :: r).getLast? = some m ∧ (∀ x ∈ t :: r, x ∈ D ∨ x ∈ ps) ∧ (∀ q, q ∈ D ∨ q ∈ ps → q = t ∨ lt2 q t)
  | [], D, st, _, _, _, ⟨t, r, e, h1, h2, h3, h4⟩ => by
    have e' : (fun q : Int × Int => q ∈ D ∨ q ∈ ([] : List (Int × Int))) = (· ∈ D) := by funext q; simp
    exact ⟨t, r, by rw [chainR, e], by rw [e']; exact h1, h2, fun x hx => Or.inl (h3 x hx), fun q hq => h4 q (by simpa using hq)⟩
  | p :: ps, D, st, hm, hp, hs, ⟨t, r, e, h1, h2, h3, h4⟩ => by
    obtain ⟨hs1, hs2⟩ := List.pairwise_cons.1 hs
    obtain ⟨t', r', e1, k1, k2, k3⟩ := pop_spec (Q := (· ∈ D)) (p := p) (m := m) (fun q hq => hp p (List.mem_cons_self ..) q hq) hm r t h1 h2 h3 (fun q hq hlt => by
      rcases h4 q hq with e | e
      · rw [e] at hlt; exact hlt.irr.elim
      · exact (hlt.trans e).irr.elim)
    have hmD : m ∈ D := k3 m (List.mem_of_getLast? k2)
    have e2 : (fun q : Int × Int => q ∈ D ∨ q = p) = (· ∈ p :: D) := by funext q; simp [or_comm]
    rw [e2] at k1
    obtain ⟨t2, r2, e3, l1, l2, l3, l4⟩ := chain_spec ps (p :: D) (p :: t' :: r') (fun q hq => by
        rcases List.mem_cons.1 hq with rfl | hq
        · exact Or.inr (hp q (List.mem_cons_self ..) m hmD)
        · exact hm q hq) (fun x hx q hq => by
        rcases List.mem_cons.1 hq with rfl | hq
        · exact hs1 x hx
        · exact hp x (List.mem_cons_of_mem _ hx) q hq) hs2
      ⟨p, t' :: r', rfl, k1, by simpa using k2, fun x hx => by
        rcases List.mem_cons.1 hx with rfl | hx
        · exact List.mem_cons_self ..
        · exact List.mem_cons_of_mem _ (k3 x hx), fun q hq => by
        rcases List.mem_cons.1 hq with rfl | hq
        · exact Or.inl rfl
        · exact Or.inr (hp p (List.mem_cons_self ..) q hq)⟩
    have e4 : (fun q : Int × Int => q ∈ p :: D ∨ q ∈ ps) = (fun q => q ∈ D ∨ q ∈ p :: ps) := by funext q; simp; grind
    refine ⟨t2, r2, by rw [chainR, e, e1]; exact e3, by rw [← e4]; exact l1, l2, fun x hx => ?_, fun q hq => l4 q ?_⟩
    · have := l3 x hx; simp at this ⊢; grind
    · simp at hq ⊢; grind

end Go.Proofs.YtpnkpejnahhajaaGreat

namespace Go.Proofs.YtpnkpejnahhajaaGreat
open Go.RowKit

/-- A chain that rises, from its first point on. -/
def FC (Q : Int × Int → Prop) : List (Int × Int) → Prop
  | a :: b :: r => lt2 a b ∧ (∀ q, Q q → 0 ≤ cr a b q) ∧ (∀ z s, r = z :: s → 0 < cr a b z) ∧ FC Q (b :: r)
  | _ => True
theorem FC.snoc {Q : Int × Int → Prop} {a b : Int × Int} (hl : lt2 a b) (hq : ∀ q, Q q → 0 ≤ cr a b q) : ∀ (X : List (Int × Int)), FC Q (X ++ [a]) → (∀ Y z, X = Y ++ [z] → 0 < cr z a b) → FC Q (X ++ [a, b])
  | [], _, _ => ⟨hl, hq, fun z s h => (by cases h), trivial⟩
  | [z], h, hz => by
    obtain ⟨h1, h2, h3, h4⟩ := h
    exact ⟨h1, h2, fun x s e => by obtain ⟨rfl, -⟩ := List.cons.inj e; exact hz [] z rfl, hl, hq, fun z s h => (by cases h), trivial⟩
  | z :: z' :: X, h, hz => by
    obtain ⟨h1, h2, h3, h4⟩ := h
    refine ⟨h1, h2, fun x s e => ?_, FC.snoc hl hq (z' :: X) h4 (fun Y w e => hz (z :: Y) w (by rw [e]; rfl))⟩
    cases X with
    | nil =>
      obtain ⟨rfl, -⟩ := List.cons.inj e
      exact h3 _ [] rfl
    | cons x' X =>
      obtain ⟨rfl, -⟩ := List.cons.inj e
      exact h3 _ (X ++ [a]) rfl
theorem FC_of_RC {Q : Int × Int → Prop} : ∀ (rs : List (Int × Int)), RC Q rs → FC Q rs.reverse
  | [], _ => trivial
  | [_], _ => trivial
  | b :: a :: r, ⟨h1, h2, h3, h4⟩ => by
    have ih := FC_of_RC (a :: r) h4
    rw [List.reverse_cons] at ih
    rw [List.reverse_cons, List.reverse_cons, List.append_assoc]
    refine FC.snoc h1 h2 _ ih (fun Y z e => ?_)
    have : r = z :: Y.reverse := by rw [← List.reverse_reverse r, e]; simp
    exact h3 z _ this
theorem FC.last {Q : Int × Int → Prop} {M : Int × Int} : ∀ (r : List (Int × Int)) (a b : Int × Int), FC Q (a :: b :: r) → (a :: b :: r).getLast? = some M → lt2 a M
  | [], a, b, h, e => by
    obtain rfl : b = M := by simpa using e
    exact h.1
  | c :: r, a, b, h, e => h.1.trans (FC.last r b c h.2.2.2 (by simpa using e))
/-- On one way from m, farther than b: the chain that turns left at b leaves it to the right. -/
theorem beyond {m b c b' : Int × Int} (h1 : lt2 m b) (h2 : lt2 b b') (h0 : cr m b b' = 0) (h3 : 0 < cr m b c) (h4 : 0 ≤ cr b c b') : False := by
  have k : 0 < -cr b c b' := by
    refine comb_pos (a := 0) (b := cr m b c) (vx := b.1 - m.1) (vy := b.2 - m.2) (wx := 0) (wy := 0) (ux := b'.1 - b.1) (uy := b'.2 - b.2) ?_ ?_ h1.lp h2.lp (Or.inr ⟨rfl, by omega⟩) (by omega) h3
    · unfold cr crs at *; clear h1 h2 h3 h4; grind
    · unfold cr crs at *; clear h1 h2 h3 h4; grind
  omega

/-- The chain of points that rise. -/
theorem lower_spec (m : Int × Int) (ps : List (Int × Int)) (hs : (m :: ps).Pairwise lt2) :
    ∃ L M, chainL (m :: ps) = m :: L ∧ FC (· ∈ m :: ps) (m :: L) ∧ (m :: L).getLast? = some M ∧ (∀ x ∈ m :: L, x ∈ m :: ps) ∧ (∀ q ∈ m :: ps, q = M ∨ lt2 q M) := by
  obtain ⟨hs1, hs2⟩ := List.pairwise_cons.1 hs
  obtain ⟨t, r, e, h1, h2, h3, h4⟩ := chain_spec (m := m) ps [m] [m] (fun q hq => Or.inl (by simpa using hq)) (fun p hp q hq => by
      obtain rfl : q = m := by simpa using hq
      exact hs1 p hp) hs2 ⟨m, [], rfl, trivial, rfl, fun x hx => hx, fun q hq => Or.inl (by simpa using hq)⟩
  have e0 : (fun q : Int × Int => q ∈ [m] ∨ q ∈ ps) = (· ∈ m :: ps) := by funext q; simp
  rw [e0] at h1
  have ec : chainL (m :: ps) = (t :: r).reverse := by
    unfold chainL
    rw [chainR, show popR m [] = [] from rfl, e]
  have hf := FC_of_RC _ h1
  have hh : (t :: r).reverse.head? = some m := by rw [List.head?_reverse]; exact h2
  rw [← ec] at hf hh
  obtain ⟨L, eL⟩ : ∃ L, chainL (m :: ps) = m :: L := by
    cases hc : chainL (m :: ps) with
    | nil => rw [hc] at hh; cases hh
    | cons a L => rw [hc] at hh; simp at hh; exact ⟨L, by rw [hh]⟩
  refine ⟨L, t, eL, by rw [← eL]; exact hf, ?_, fun x hx => ?_, fun q hq => h4 q (by simpa using hq)⟩
  · rw [← eL, ec, List.getLast?_reverse]; rfl
  · rw [← eL, ec] at hx
    have := h3 x (List.mem_reverse.1 hx)
    simpa using this

/-- The point opposite. -/
def ng (p : Int × Int) : Int × Int := (-p.1, -p.2)
theorem ng_ng (p : Int × Int) : ng (ng p) = p := by unfold ng; simp
theorem cr_ng (a b c : Int × Int) : cr (ng a) (ng b) (ng c) = cr a b c := by unfold cr crs ng; grind
theorem lt_ng {a b : Int × Int} : lt2 (ng a) (ng b) ↔ lt2 b a := by unfold lt2 ng; dsimp only; omega
theorem tri_ng (a b c : Int × Int) : tri (ng a) (ng b) (ng c) = tri a b c := by
  have h := cr_ng a b c
  unfold cr at h
  unfold tri; rw [h]
theorem popR_ng (p : Int × Int) : ∀ l, popR (ng p) (l.map ng) = (popR p l).map ng
  | [] => rfl
  | [_] => rfl
  | b :: a :: r => by
    have ih := popR_ng p (a :: r)
    simp only [List.map_cons] at ih ⊢
    unfold popR
    rw [tri_ng]
    split
    · rfl
    · exact ih
theorem chainR_ng : ∀ (ps st : List (Int × Int)), chainR (st.map ng) (ps.map ng) = (chainR st ps).map ng
  | [], st => rfl
  | p :: ps, st => by
    have ih := chainR_ng ps (p :: popR p st)
    simp only [List.map_cons] at ih ⊢
    rw [chainR, popR_ng, ih, chainR]
theorem chainL_ng (ps : List (Int × Int)) : chainL (ps.map ng) = (chainL ps).map ng := by
  unfold chainL
  rw [List.map_reverse, ← chainR_ng]; rfl
theorem map_ng_ng (l : List (Int × Int)) : (l.map ng).map ng = l := by
  rw [List.map_map]; exact (List.map_congr_left (fun x _ => ng_ng x)).trans (List.map_id l)
theorem rev_ng {s : List (Int × Int)} (hs : s.Pairwise lt2) : (s.reverse.map ng).Pairwise lt2 := by
  rw [List.pairwise_map]
  exact (List.pairwise_reverse.2 hs).imp (fun h => lt_ng.2 h)
theorem mem_ng {s : List (Int × Int)} {q : Int × Int} : q ∈ s.reverse.map ng ↔ ng q ∈ s := by
  rw [List.mem_map]
  constructor
  · rintro ⟨x, hx, rfl⟩; rw [ng_ng]; exact List.mem_reverse.1 hx
  · intro h; exact ⟨ng q, List.mem_reverse.2 h, ng_ng q⟩

/-- The points of a list, sorted, each once. -/
theorem ddT_spec (l : List (Int × Int)) (hs : l.Pairwise (fun x y => x = y ∨ lt2 x y)) : ∀ r, r ≤ l.length → (ddT l r).Pairwise lt2 ∧ (∀ x, x ∈ ddT l r ↔ x ∈ l.take r) ∧ (0 < r → (ddT l r).getLast? = some (l.getD (r - 1) (0, 0)))
  | 0, _ => by simp [ddT]
  | r + 1, hr => by
    obtain ⟨h1, h2, h3⟩ := ddT_spec l hs r (by omega)
    have htk : l.take (r + 1) = l.take r ++ [l.getD r (0, 0)] := by rw [List.take_add_one, getD_of (0, 0) (by omega)]; rfl
    unfold ddT
    split
    · rename_i he
      have h4 := h3 (by omega)
      refine ⟨h1, fun x => ?_, fun _ => ?_⟩
      · rw [htk, List.mem_append, ← h2]
        constructor
        · exact Or.inl
        · rintro (h | h)
          · exact h
          · obtain rfl : x = l.getD r (0, 0) := by simpa using h
            rw [he.2]; exact List.mem_of_getLast? h4
      · rw [Nat.add_sub_cancel, he.2]; exact h4
    · rename_i he
      refine ⟨?_, fun x => ?_, fun _ => ?_⟩
      · rw [List.pairwise_append]
        refine ⟨h1, List.pairwise_singleton _ _, fun x hx y hy => ?_⟩
        obtain rfl : y = l.getD r (0, 0) := by simpa using hy
        have hrl : r < l.length := by omega
        have hm := (h2 x).1 hx
        obtain ⟨i, hi, e⟩ := List.mem_take_iff_getElem.1 hm
        have hir : i < r := by omega
        have hle : ∀ i j, i < j → j < l.length → l.getD i (0, 0) = l.getD j (0, 0) ∨ lt2 (l.getD i (0, 0)) (l.getD j (0, 0)) := fun i j h k => by
          have := List.pairwise_iff_getElem.1 hs i j (by omega) k h
          rw [List.getD_eq_getElem?_getD, List.getD_eq_getElem?_getD, List.getElem?_eq_getElem (by omega), List.getElem?_eq_getElem k]
          exact this
        have ex : x = l.getD i (0, 0) := by rw [List.getD_eq_getElem?_getD, List.getElem?_eq_getElem (by omega)]; exact e.symm
        have hne : l.getD (r - 1) (0, 0) ≠ l.getD r (0, 0) := fun h => he ⟨by omega, h.symm⟩
        have hlast : lt2 (l.getD (r - 1) (0, 0)) (l.getD r (0, 0)) := (hle (r - 1) r (by omega) hrl).resolve_left hne
        rw [ex]
        rcases Nat.lt_or_ge i (r - 1) with k | k
        · rcases hle i (r - 1) k (by omega) with e | e
          · rw [e]; exact hlast
          · exact e.trans hlast
        · obtain rfl : i = r - 1 := by omega
          exact hlast
      · rw [htk, List.mem_append, List.mem_append, h2]
      · simp
theorem srtL_sorted (ps : List (Int × Int)) : (srtL ps).Pairwise (fun x y => x = y ∨ lt2 x y) := by
  have h := List.pairwise_mergeSort (le := fun x y => !(ltOf cfP y x)) (fun a b c h1 h2 => by
      rw [ltP] at *; simp only [Bool.not_eq_true', decide_eq_false_iff_not] at *; omega) (fun a b => by
      rw [ltP, ltP]; simp only [Bool.or_eq_true, Bool.not_eq_true', decide_eq_false_iff_not]; omega) ps
  refine h.imp (fun {x y} h => ?_)
  rw [ltP] at h
  simp only [Bool.not_eq_true', decide_eq_false_iff_not] at h
  rcases lt2.tri x y with k | k | k
  · exact Or.inr k
  · exact Or.inl k
  · unfold lt2 at k; omega
theorem sdL_rise (ps : List (Int × Int)) : (sdL ps).Pairwise lt2 := (ddT_spec (srtL ps) (srtL_sorted ps) _ (Nat.le_refl _)).1
theorem mem_sdL (ps : List (Int × Int)) (x : Int × Int) : x ∈ sdL ps ↔ x ∈ ps := by
  have h := (ddT_spec (srtL ps) (srtL_sorted ps) _ (Nat.le_refl _)).2.1 x
  rw [List.take_length] at h
  exact h.trans (List.mem_mergeSort ..)
theorem upper_spec {s : List (Int × Int)} {M : Int × Int} (hs : s.Pairwise lt2) (hM : s.getLast? = some M) :
    ∃ U m, chainL s.reverse = M :: U ∧ FC (fun q => ng q ∈ s) ((M :: U).map ng) ∧ (M :: U).getLast? = some m ∧ (∀ x ∈ M :: U, x ∈ s) ∧ (∀ q ∈ s, q = m ∨ lt2 m q) := by
  obtain ⟨t, ht⟩ : ∃ t, s.reverse = M :: t := by
    have h : s.reverse.head? = some M := by rw [List.head?_reverse]; exact hM
    cases hr : s.reverse with
    | nil => rw [hr] at h; cases h
    | cons a t => rw [hr] at h; simp at h; exact ⟨t, by rw [h]⟩
  have hp := rev_ng hs
  have hq : (fun q => q ∈ s.reverse.map ng) = (fun q => ng q ∈ s) := by funext q; exact propext mem_ng
  have hmap : s.reverse.map ng = ng M :: t.map ng := by rw [ht]; rfl
  have hc := chainL_ng s.reverse
  rw [hmap] at hp hq hc
  obtain ⟨L, N, e, h1, h2, h3, h4⟩ := lower_spec (ng M) (t.map ng) hp
  rw [e] at hc
  have hc2 : chainL s.reverse = M :: L.map ng := by
    have := congrArg (List.map ng) hc
    rw [map_ng_ng] at this
    rw [← this, List.map_cons, ng_ng]
  have hLm : (M :: L.map ng).map ng = ng M :: L := by rw [List.map_cons, map_ng_ng]
  refine ⟨L.map ng, ng N, hc2, ?_, ?_, fun x hx => ?_, fun q hq2 => ?_⟩
  · rw [hLm, ← hq]; exact h1
  · have : (M :: L.map ng) = (ng M :: L).map ng := by rw [List.map_cons, ng_ng]
    rw [this, List.getLast?_map, h2]; rfl
  · have hx2 : ng x ∈ ng M :: L := by rw [← hLm]; exact List.mem_map_of_mem hx
    have := h3 _ hx2
    have h5 : ng (ng x) ∈ s := (congrFun hq (ng x)).mp this
    rwa [ng_ng] at h5
  · have h5 : ng q ∈ ng M :: t.map ng := (congrFun hq (ng q)).mpr (by rw [ng_ng]; exact hq2)
    rcases h4 _ h5 with e | e
    · left; rw [← e, ng_ng]
    · right; rw [← ng_ng q]; exact lt_ng.2 e

/-- What the corners of a set are: a chain below from m to M, and one above from M to m. -/
structure Hul (s : List (Int × Int)) (m M : Int × Int) (L U : List (Int × Int)) : Prop where
  lt : lt2 m M
  fl : FC (· ∈ s) (m :: L)
  ll : (m :: L).getLast? = some M
  ml : ∀ x ∈ m :: L, x ∈ s
  fu : FC (fun q => ng q ∈ s) ((M :: U).map ng)
  lu : (M :: U).getLast? = some m
  mu : ∀ x ∈ M :: U, x ∈ s
  hi : ∀ q ∈ s, q = M ∨ lt2 q M
  lo : ∀ q ∈ s, q = m ∨ lt2 m q
theorem hul_of {s : List (Int × Int)} (hs : s.Pairwise lt2) (h2 : 2 ≤ s.length) :
    ∃ m M L U, Hul s m M L U ∧ chainL s = m :: L ∧ chainL s.reverse = M :: U := by
  match s, h2 with
  | m :: b :: ps, _ =>
    obtain ⟨L, M, e, h1, h2, h3, h4⟩ := lower_spec m (b :: ps) hs
    have hM : (m :: b :: ps).getLast? = some M := by
      obtain ⟨N, hN⟩ : ∃ N, (m :: b :: ps).getLast? = some N := ⟨_, List.getLast?_eq_some_getLast (by simp)⟩
      have hNm := List.mem_of_getLast? hN
      have hMm := h3 M (List.mem_of_getLast? h2)
      have hle : ∀ q ∈ m :: b :: ps, q = N ∨ lt2 q N := fun q hq => by
        obtain ⟨l, e⟩ := List.getLast?_eq_some_iff.1 hN
        rw [e] at hs hq
        rcases List.mem_append.1 hq with k | k
        · exact Or.inr ((List.pairwise_append.1 hs).2.2 q k N (by simp))
        · left; simpa using k
      rcases hle M hMm with e | e
      · rw [hN, e]
      · rcases h4 N hNm with k | k
        · rw [hN, k]
        · exact (e.trans k).irr.elim
    obtain ⟨U, m', e', k1, k2, k3, k4⟩ := upper_spec hs hM
    have hmin : ∀ q ∈ m :: b :: ps, q = m ∨ lt2 m q := fun q hq => by
      rcases List.mem_cons.1 hq with e | e
      · exact Or.inl e
      · exact Or.inr ((List.pairwise_cons.1 hs).1 q e)
    have hm' : m' = m := by
      rcases hmin m' (k3 m' (List.mem_of_getLast? k2)) with e | e
      · exact e
      · rcases k4 m (List.mem_cons_self ..) with k | k
        · exact k.symm
        · exact (e.trans k).irr.elim
    rw [hm'] at k2
    have hlt : lt2 m M := by
      have h5 : lt2 m b := (List.pairwise_cons.1 hs).1 b (List.mem_cons_self ..)
      rcases h4 b (by simp) with e | e
      · rw [← e]; exact h5
      · exact h5.trans e
    exact ⟨m, M, L, U, ⟨hlt, h1, h2, h3, k1, k2, k3, h4, hmin⟩, e, e'⟩

/-- The corners, from both chains. -/
def ring (m M : Int × Int) (L U : List (Int × Int)) : List (Int × Int) := (m :: L).dropLast ++ (M :: U).dropLast
theorem mem_drop {l : List (Int × Int)} {x z : Int × Int} (h : x ∈ l) (hz : l.getLast? = some z) (hn : x ≠ z) : x ∈ l.dropLast := by
  obtain ⟨k, rfl⟩ := List.getLast?_eq_some_iff.1 hz
  rw [List.dropLast_concat]
  rcases List.mem_append.1 h with h | h
  · exact h
  · exact absurd (by simpa using h) hn
theorem Hul.mem {s : List (Int × Int)} {m M : Int × Int} {L U : List (Int × Int)} (h : Hul s m M L U) (x : Int × Int) : x ∈ ring m M L U ↔ x ∈ m :: L ∨ x ∈ M :: U := by
  have hne : m ≠ M := fun e => by have := h.lt; rw [e] at this; exact this.irr
  have h1 : m ∈ (m :: L).dropLast := mem_drop (List.mem_cons_self ..) h.ll hne
  have h2 : M ∈ (M :: U).dropLast := mem_drop (List.mem_cons_self ..) h.lu (fun e => hne e.symm)
  unfold ring
  rw [List.mem_append]
  constructor
  · rintro (k | k)
    · exact Or.inl (List.dropLast_subset _ k)
    · exact Or.inr (List.dropLast_subset _ k)
  · rintro (k | k)
    · by_cases e : x = M
      · rw [e]; exact Or.inr h2
      · exact Or.inl (mem_drop k h.ll e)
    · by_cases e : x = m
      · rw [e]; exact Or.inl h1
      · exact Or.inr (mem_drop k h.lu e)
theorem corners_ring {ps : List (Int × Int)} (h2 : (sdL ps).length ≠ 1) {m M : Int × Int} {L U : List (Int × Int)} (e : chainL (sdL ps) = m :: L) (e' : chainL (sdL ps).reverse = M :: U) : cornersL ps = ring m M L U := by
  unfold cornersL ring; rw [if_neg h2, e, e']
end Go.Proofs.YtpnkpejnahhajaaGreat

namespace Go.Proofs.YtpnkpejnahhajaaGreat
open Go.RowKit

theorem getD_left {l l' : List (Int × Int)} {i : Nat} (h : i < l.length) : (l ++ l').getD i (0, 0) = l.getD i (0, 0) := by
  rw [List.getD_eq_getElem?_getD, List.getD_eq_getElem?_getD, List.getElem?_append_left h]
theorem getD_right {l l' : List (Int × Int)} {i : Nat} (h : l.length ≤ i) : (l ++ l').getD i (0, 0) = l'.getD (i - l.length) (0, 0) := by
  rw [List.getD_eq_getElem?_getD, List.getD_eq_getElem?_getD, List.getElem?_append_right h]
/-- All neighbours in a list. -/
def Prs (R : Int × Int → Int × Int → Prop) : List (Int × Int) → Prop
  | a :: b :: r => R a b ∧ Prs R (b :: r)
  | _ => True
def Trs (T : Int × Int → Int × Int → Int × Int → Prop) : List (Int × Int) → Prop
  | a :: b :: c :: r => T a b c ∧ Trs T (b :: c :: r)
  | _ => True
theorem Prs.append {R : Int × Int → Int × Int → Prop} {z : Int × Int} {Y : List (Int × Int)} (hY : Prs R (z :: Y)) : ∀ X, Prs R (X ++ [z]) → Prs R (X ++ z :: Y)
  | [], _ => hY
  | [_], h => ⟨h.1, hY⟩
  | _ :: b :: X, h => ⟨h.1, Prs.append hY (b :: X) h.2⟩
theorem Trs.append {T : Int × Int → Int × Int → Int × Int → Prop} {z : Int × Int} {Y : List (Int × Int)} (hY : Trs T (z :: Y)) : ∀ X, Trs T (X ++ [z]) → (∀ X' a b Y', X = X' ++ [a] → Y = b :: Y' → T a z b) → Trs T (X ++ z :: Y)
  | [], _, _ => hY
  | [a], _, hj => by
    cases Y with
    | nil => exact trivial
    | cons b Y' => exact ⟨hj [] a b Y' rfl rfl, hY⟩
  | [a, b], h, hj => ⟨h.1, Trs.append hY [b] trivial (fun X' x y Y' e e' => hj (a :: X') x y Y' (by rw [e]; rfl) e')⟩
  | a :: b :: c :: X, h, hj => ⟨h.1, Trs.append hY (b :: c :: X) h.2 (fun X' x y Y' e e' => hj (a :: X') x y Y' (by rw [e]; rfl) e')⟩
theorem Prs.at_ {R : Int × Int → Int × Int → Prop} : ∀ (C : List (Int × Int)) (i : Nat), Prs R C → i + 1 < C.length → R (C.getD i (0, 0)) (C.getD (i + 1) (0, 0))
  | a :: b :: r, 0, h, _ => h.1
  | a :: b :: r, i + 1, h, hi => by
    have := Prs.at_ (b :: r) i h.2 (by simpa using hi)
    simpa using this
  | [_], i, _, hi => by simp at hi
  | [], i, _, hi => by simp at hi
theorem Trs.at_ {T : Int × Int → Int × Int → Int × Int → Prop} : ∀ (C : List (Int × Int)) (i : Nat), Trs T C → i + 2 < C.length → T (C.getD i (0, 0)) (C.getD (i + 1) (0, 0)) (C.getD (i + 2) (0, 0))
  | a :: b :: c :: r, 0, h, _ => h.1
  | a :: b :: c :: r, i + 1, h, hi => by
    have := Trs.at_ (b :: c :: r) i h.2 (by simpa using hi)
    simpa using this
  | [_, _], i, _, hi => by simp at hi; omega
  | [_], i, _, hi => by simp at hi
  | [], i, _, hi => by simp at hi
theorem FC.prs {Q : Int × Int → Prop} : ∀ (L : List (Int × Int)), FC Q L → Prs (fun a b => lt2 a b ∧ ∀ q, Q q → 0 ≤ cr a b q) L
  | [], _ => trivial
  | [_], _ => trivial
  | _ :: b :: r, ⟨h1, h2, _, h4⟩ => ⟨⟨h1, h2⟩, FC.prs (b :: r) h4⟩
theorem FC.trs {Q : Int × Int → Prop} : ∀ (L : List (Int × Int)), FC Q L → Trs (fun a b c => 0 < cr a b c) L
  | [], _ => trivial
  | [_], _ => trivial
  | [_, _], _ => trivial
  | _ :: b :: c :: r, ⟨_, _, h3, h4⟩ => ⟨h3 c r rfl, FC.trs (b :: c :: r) h4⟩
theorem Prs.imp {R R' : Int × Int → Int × Int → Prop} (h : ∀ a b, R a b → R' a b) : ∀ L, Prs R L → Prs R' L
  | [], _ => trivial
  | [_], _ => trivial
  | a :: b :: r, k => ⟨h a b k.1, Prs.imp h (b :: r) k.2⟩
theorem Prs.ng {R : Int × Int → Int × Int → Prop} : ∀ L, Prs R (L.map ng) → Prs (fun a b => R (ng a) (ng b)) L
  | [], _ => trivial
  | [_], _ => trivial
  | _ :: b :: r, k => ⟨k.1, Prs.ng (b :: r) k.2⟩
theorem Trs.ng {T : Int × Int → Int × Int → Int × Int → Prop} : ∀ L, Trs T (L.map ng) → Trs (fun a b c => T (ng a) (ng b) (ng c)) L
  | [], _ => trivial
  | [_], _ => trivial
  | [_, _], _ => trivial
  | _ :: b :: c :: r, k => ⟨k.1, Trs.ng (b :: c :: r) k.2⟩
theorem Trs.imp {T T' : Int × Int → Int × Int → Int × Int → Prop} (h : ∀ a b c, T a b c → T' a b c) : ∀ L, Trs T L → Trs T' L
  | [], _ => trivial
  | [_], _ => trivial
  | [_, _], _ => trivial
  | a :: b :: c :: r, k => ⟨h a b c k.1, Trs.imp h (b :: c :: r) k.2⟩

section
variable {s : List (Int × Int)} {m M : Int × Int} {L U : List (Int × Int)}
theorem Hul.low (h : Hul s m M L U) : Prs (fun a b => lt2 a b ∧ ∀ q ∈ s, 0 ≤ cr a b q) (m :: L) := FC.prs _ h.fl
theorem Hul.upp (h : Hul s m M L U) : Prs (fun a b => lt2 b a ∧ ∀ q ∈ s, 0 ≤ cr a b q) (M :: U) :=
  Prs.imp (fun a b k => ⟨lt_ng.1 k.1, fun q hq => by have := k.2 (ng q) (by rw [ng_ng]; exact hq); rwa [cr_ng] at this⟩) _ (Prs.ng _ (FC.prs _ h.fu))
theorem Hul.lowT (h : Hul s m M L U) : Trs (fun a b c => 0 < cr a b c) (m :: L) := FC.trs _ h.fl
theorem Hul.uppT (h : Hul s m M L U) : Trs (fun a b c => 0 < cr a b c) (M :: U) :=
  Trs.imp (fun a b c k => by rwa [cr_ng] at k) _ (Trs.ng _ (FC.trs _ h.fu))

/-- All points on one line: no turn at all. -/
theorem flat_of {a b x y z : Int × Int} (hab : lt2 a b) (hx : cr a b x = 0) (hy : cr a b y = 0) (hz : cr a b z = 0) : cr x y z = 0 := by
  have e1 : cr x y z * (b.1 - a.1) = 0 := by unfold cr crs at *; grind
  have e2 : cr x y z * (b.2 - a.2) = 0 := by unfold cr crs at *; grind
  have h := hab.lp
  unfold LP at h
  rcases Int.mul_eq_zero.1 e1 with k | k
  · exact k
  · rcases Int.mul_eq_zero.1 e2 with k' | k'
    · exact k'
    · omega
/-- Two ways through t that lie on one line and bound all points: all points lie on it. -/
theorem line_all {a t b q : Int × Int} (ha : lt2 a t) (hb : lt2 b t) (h0 : cr a t b = 0) (h1 : 0 ≤ cr a t q) (h2 : 0 ≤ cr t b q) : cr a t q = 0 := by
  have k : 0 ≤ -cr a t q := by
    refine comb_nn (a := 0) (b := cr t b q) (vx := t.1 - b.1) (vy := t.2 - b.2) (wx := 0) (wy := 0) (ux := t.1 - a.1) (uy := t.2 - a.2) ?_ ?_ hb.lp ha.lp.z (Or.inr ⟨rfl, by omega⟩) (by omega) h2
    · unfold cr crs at *; clear ha hb h1 h2; grind
    · unfold cr crs at *; clear ha hb h1 h2; grind
  omega
theorem Hul.turns (h : Hul s m M L U) (hn : 2 < L.length + U.length) : ∃ x ∈ s, ∃ y ∈ s, ∃ z ∈ s, 0 < cr x y z := by
  have hL := h.ml
  have hU := h.mu
  have tL := h.lowT
  have tU := h.uppT
  match hl : L, hu : U with
  | b :: c :: r, _ => exact ⟨m, hL m (by simp), b, hL b (by simp), c, hL c (by simp), tL.1⟩
  | _, b :: c :: r => exact ⟨M, hU M (by simp), b, hU b (by simp), c, hU c (by simp), tU.1⟩
  | [], [] => simp at hn
  | [_], [] => simp at hn
  | [], [_] => simp at hn
  | [_], [_] => simp at hn
/-- The turn at the far end. -/
theorem Hul.atM (h : Hul s m M L U) (hn : 2 < L.length + U.length) {a b : Int × Int} (ha : lt2 a M ∧ ∀ q ∈ s, 0 ≤ cr a M q) (hb : lt2 b M ∧ ∀ q ∈ s, 0 ≤ cr M b q) (hbs : b ∈ s) : 0 < cr a M b := by
  rcases Int.lt_or_eq_of_le (ha.2 b hbs) with k | k
  · exact k
  · exfalso
    obtain ⟨x, hx, y, hy, z, hz, ht⟩ := h.turns hn
    have all : ∀ q ∈ s, cr a M q = 0 := fun q hq => line_all ha.1 hb.1 k.symm (ha.2 q hq) (hb.2 q hq)
    rw [flat_of ha.1 (all x hx) (all y hy) (all z hz)] at ht
    omega
/-- The turn at the near end. -/
theorem Hul.atm (h : Hul s m M L U) (hn : 2 < L.length + U.length) {a b : Int × Int} (ha : lt2 m a ∧ ∀ q ∈ s, 0 ≤ cr a m q) (hb : lt2 m b ∧ ∀ q ∈ s, 0 ≤ cr m b q) (hbs : b ∈ s) : 0 < cr a m b := by
  rcases Int.lt_or_eq_of_le (ha.2 b hbs) with k | k
  · exact k
  · exfalso
    obtain ⟨x, hx, y, hy, z, hz, ht⟩ := h.turns hn
    have all : ∀ q ∈ s, cr (ng a) (ng m) (ng q) = 0 := fun q hq => line_all (lt_ng.2 ha.1) (lt_ng.2 hb.1) (by rw [cr_ng]; exact k.symm) (by rw [cr_ng]; exact ha.2 q hq) (by rw [cr_ng]; exact hb.2 q hq)
    have := flat_of (lt_ng.2 ha.1) (all x hx) (all y hy) (all z hz)
    rw [cr_ng] at this
    omega

theorem Hul.split (h : Hul s m M L U) : ∃ X Y, ring m M L U = X ++ Y ∧ X ++ [M] = m :: L ∧ Y ++ [m] = M :: U ∧ X ≠ [] ∧ Y ≠ [] := by
  obtain ⟨X, hX⟩ := List.getLast?_eq_some_iff.1 h.ll
  obtain ⟨Y, hY⟩ := List.getLast?_eq_some_iff.1 h.lu
  have hne : m ≠ M := fun e => by have := h.lt; rw [e] at this; exact this.irr
  refine ⟨X, Y, by unfold ring; rw [hX, hY, List.dropLast_concat, List.dropLast_concat], hX.symm, hY.symm, fun e => ?_, fun e => ?_⟩
  · rw [e] at hX; simp at hX; exact hne hX.1
  · rw [e] at hY; simp at hY; exact hne hY.1.symm
/-- The ring, closed. -/
theorem Hul.closed (h : Hul s m M L U) : ∃ C, C = ring m M L U ++ [m] ∧ Prs (fun a b => ∀ q ∈ s, 0 ≤ cr a b q) C ∧ (2 < L.length + U.length → Trs (fun a b c => 0 < cr a b c) C) := by
  obtain ⟨X, Y, e, hX, hY, -, -⟩ := h.split
  have eC : ring m M L U ++ [m] = X ++ M :: U := by rw [e, List.append_assoc, hY]
  refine ⟨_, rfl, ?_, fun hn => ?_⟩
  · rw [eC]
    exact Prs.append (Prs.imp (fun a b k => k.2) _ h.upp) X (by rw [hX]; exact Prs.imp (fun a b k => k.2) _ h.low)
  · rw [eC]
    refine Trs.append h.uppT X (by rw [hX]; exact h.lowT) (fun X' a b Y' e1 e2 => ?_)
    have hlow := h.low
    have hupp := h.upp
    rw [← hX, e1] at hlow
    rw [e2] at hupp
    have h1 : lt2 a M ∧ ∀ q ∈ s, 0 ≤ cr a M q := by
      have : ∀ X' : List (Int × Int), Prs (fun a b => lt2 a b ∧ ∀ q ∈ s, 0 ≤ cr a b q) (X' ++ [a] ++ [M]) → lt2 a M ∧ ∀ q ∈ s, 0 ≤ cr a M q := by
        intro X'
        induction X' with
        | nil => intro k; exact k.1
        | cons x X' ih =>
          intro k
          cases X' with
          | nil => exact ih k.2
          | cons y X' => exact ih k.2
      exact this X' hlow
    exact h.atM hn h1 hupp.1 (h.mu b (by rw [e2]; simp))
theorem ring_len : (ring m M L U).length = L.length + U.length := by
  unfold ring; simp

theorem Hul.edge (h : Hul s m M L U) {i : Nat} (hi : i < (ring m M L U).length) : ∀ q ∈ s, 0 ≤ cr ((ring m M L U).getD i (0, 0)) ((ring m M L U).getD ((i + 1) % (ring m M L U).length) (0, 0)) q := by
  obtain ⟨C, hC, hP, -⟩ := h.closed
  obtain ⟨X, Y, e, hX, -, hXn, -⟩ := h.split
  have h0 : (ring m M L U).getD 0 (0, 0) = m := by
    cases X with
    | nil => exact absurd rfl hXn
    | cons x X => rw [e]; simp at hX; simp [hX.1]
  have hlen : C.length = (ring m M L U).length + 1 := by rw [hC]; simp
  have k := Prs.at_ C i hP (by omega)
  have e1 : C.getD i (0, 0) = (ring m M L U).getD i (0, 0) := by rw [hC, getD_left hi]
  have e2 : C.getD (i + 1) (0, 0) = (ring m M L U).getD ((i + 1) % (ring m M L U).length) (0, 0) := by
    rcases Nat.lt_or_ge (i + 1) (ring m M L U).length with k | k
    · rw [Nat.mod_eq_of_lt k, hC, getD_left k]
    · have : i + 1 = (ring m M L U).length := by omega
      rw [this, Nat.mod_self, h0, hC, getD_right (Nat.le_refl _)]; simp
  rw [e1, e2] at k
  exact k
theorem Hul.corner (h : Hul s m M L U) (hn : 2 < (ring m M L U).length) {i : Nat} (hi : i < (ring m M L U).length) :
    0 < cr ((ring m M L U).getD i (0, 0)) ((ring m M L U).getD ((i + 1) % (ring m M L U).length) (0, 0)) ((ring m M L U).getD ((i + 2) % (ring m M L U).length) (0, 0)) := by
  have hn2 : 2 < L.length + U.length := by rw [← ring_len]; exact hn
  obtain ⟨C, hC, hP, hT⟩ := h.closed
  obtain ⟨X, Y, e, hX, hY, hXn, hYn⟩ := h.split
  have h0 : (ring m M L U).getD 0 (0, 0) = m := by
    cases X with
    | nil => exact absurd rfl hXn
    | cons x X => rw [e]; simp at hX; simp [hX.1]
  have hlen : C.length = (ring m M L U).length + 1 := by rw [hC]; simp
  have at_ : ∀ j, j < (ring m M L U).length → C.getD j (0, 0) = (ring m M L U).getD j (0, 0) := fun j hj => by rw [hC, getD_left hj]
  have atn : C.getD (ring m M L U).length (0, 0) = m := by rw [hC, getD_right (Nat.le_refl _)]; simp
  rcases Nat.lt_or_ge (i + 2) C.length with k | k
  · have t := Trs.at_ C i (hT hn2) k
    rw [at_ i hi, at_ (i + 1) (by omega)] at t
    rw [Nat.mod_eq_of_lt (by omega)]
    rcases Nat.lt_or_ge (i + 2) (ring m M L U).length with k2 | k2
    · rw [at_ _ k2] at t
      rw [Nat.mod_eq_of_lt k2]; exact t
    · have e2 : i + 2 = (ring m M L U).length := by omega
      rw [e2, atn] at t
      rw [e2, Nat.mod_self, h0]; exact t
  · have e1 : i + 1 = (ring m M L U).length := by omega
    have e2 : (i + 2) % (ring m M L U).length = 1 := by
      rw [show i + 2 = 1 + (ring m M L U).length by omega, Nat.add_mod_right, Nat.mod_eq_of_lt (by omega)]
    rw [e1, Nat.mod_self, h0, e2]
    -- the last corner, m, the second corner
    obtain ⟨b, L', hL⟩ : ∃ b L', L = b :: L' := by
      cases hl : L with
      | nil =>
        rw [hl] at hX
        have := congrArg List.length hX
        simp at this; exact absurd this hXn
      | cons b L' => exact ⟨b, L', rfl⟩
    have hb : (ring m M L U).getD 1 (0, 0) = b := by
      match hx : X, hXn with
      | [x], _ =>
        rw [hL] at hX
        obtain ⟨y, Y', hy⟩ : ∃ y Y', Y = y :: Y' := by
          cases hy : Y with
          | nil => exact absurd hy hYn
          | cons y Y' => exact ⟨y, Y', rfl⟩
        rw [hy] at hY
        simp at hX hY
        rw [e, hy]; simp [hY.1, hX.2.1]
      | x :: x' :: X', _ =>
        rw [hL] at hX
        simp at hX
        rw [e]; simp [hX.2.1]
    have ha : ∀ q ∈ s, 0 ≤ cr ((ring m M L U).getD i (0, 0)) m q := by
      have := h.edge hi
      rw [e1, Nat.mod_self, h0] at this
      exact this
    have hlow := h.low
    rw [hL] at hlow
    have hbs : b ∈ s := h.ml b (by rw [hL]; simp)
    have hlt : lt2 m ((ring m M L U).getD i (0, 0)) := by
      have hmem : (ring m M L U).getD i (0, 0) ∈ Y := by
        rw [e] at hi e1 ⊢
        have hYl : 0 < Y.length := List.length_pos_iff.2 hYn
        rw [List.length_append] at hi e1
        rw [getD_right (by omega)]
        exact List.mem_of_getElem? (getD_of (0, 0) (by omega))
      have hU : (ring m M L U).getD i (0, 0) ∈ M :: U := by rw [← hY]; exact List.mem_append_left _ hmem
      rcases h.lo _ (h.mu _ hU) with k | k
      · exfalso
        -- m stands once in M :: U, at its end
        have hupp := h.upp
        rw [← hY] at hupp
        have : ∀ Z : List (Int × Int), Prs (fun a b => lt2 b a ∧ ∀ q ∈ s, 0 ≤ cr a b q) (Z ++ [m]) → ∀ x ∈ Z, lt2 m x := by
          intro Z
          induction Z with
          | nil => intro _ x hx; simp at hx
          | cons z Z ih =>
            intro k x hx
            cases Z with
            | nil =>
              obtain rfl : x = z := by simpa using hx
              exact k.1.1
            | cons z' Z' =>
              rcases List.mem_cons.1 hx with rfl | hx
              · exact (ih k.2 z' (by simp)).trans k.1.1
              · exact ih k.2 x hx
        have h5 := this Y hupp _ hmem
        rw [k] at h5
        exact h5.irr
      · exact k
    rw [hb]
    exact h.atm hn2 ⟨hlt, ha⟩ hlow.1 hbs
end

/-- What the law asks of the corners. -/
theorem corners_facts (qs : List (Int × Int)) (h1 : 1 ≤ qs.length) :
    (1 < (cornersL qs).length → ∀ i, i < (cornersL qs).length → ∀ q ∈ qs, 0 ≤ cr ((cornersL qs).getD i (0, 0)) ((cornersL qs).getD ((i + 1) % (cornersL qs).length) (0, 0)) q) ∧
    (2 < (cornersL qs).length → ∀ i, i < (cornersL qs).length → 0 < cr ((cornersL qs).getD i (0, 0)) ((cornersL qs).getD ((i + 1) % (cornersL qs).length) (0, 0)) ((cornersL qs).getD ((i + 2) % (cornersL qs).length) (0, 0))) := by
  have hpos := sdL_pos qs h1
  by_cases h : (sdL qs).length = 1
  · have hc : (cornersL qs).length = 1 := by unfold cornersL; rw [if_pos h]; exact h
    rw [hc]
    exact ⟨fun h => by omega, fun h => by omega⟩
  · obtain ⟨m, M, L, U, hH, e, e'⟩ := hul_of (sdL_rise qs) (by omega)
    rw [corners_ring h e e']
    exact ⟨fun _ i hi q hq => hH.edge hi q ((mem_sdL qs q).2 hq), fun hn i hi => hH.corner hn hi⟩

end Go.Proofs.YtpnkpejnahhajaaGreat
