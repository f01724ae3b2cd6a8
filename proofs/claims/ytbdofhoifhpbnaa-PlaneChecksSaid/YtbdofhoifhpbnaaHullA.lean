/- Hulls: what a chain is. Plain mathematics on the chains of the program. -/
import Derived.Test.YtbdofhoifhpbnaaCorner2
namespace Go.Proofs.Ytbdofhoifhpbnaa

/-- A way that leads up in the order of points. -/
def LP (x y : Int) : Prop := 0 < x ∨ (x = 0 ∧ 0 < y)
def LP0 (x y : Int) : Prop := 0 < x ∨ (x = 0 ∧ 0 ≤ y)
theorem LP.z {x y : Int} (h : LP x y) : LP0 x y := by unfold LP at h; unfold LP0; omega
theorem mul_zero_pos {a x : Int} (h : a * x = 0) (ha : 0 < a) : x = 0 := by
  rcases Int.mul_eq_zero.1 h with h | h
  · omega
  · exact h
theorem comb_nn {a b c ux uy vx vy wx wy : Int} (hx : c * vx = a * wx + b * ux) (hy : c * vy = a * wy + b * uy) (hv : LP vx vy) (hu : LP0 ux uy) (hw : LP0 wx wy) (ha : 0 ≤ a) (hb : 0 ≤ b) : 0 ≤ c := by
  rcases Int.lt_or_le c 0 with hc | hc
  · exfalso
    have x1 := Int.mul_nonneg ha (show 0 ≤ wx by unfold LP0 at hw; omega)
    have x2 := Int.mul_nonneg hb (show 0 ≤ ux by unfold LP0 at hu; omega)
    rcases hv with h | ⟨h, h'⟩
    · have := Int.mul_neg_of_neg_of_pos hc h; omega
    · have h1 := Int.mul_neg_of_neg_of_pos hc h'
      rw [h, Int.mul_zero] at hx
      have y1 : 0 ≤ a * wy := by
        rcases Int.lt_or_eq_of_le ha with k | k
        · have := mul_zero_pos (show a * wx = 0 by omega) k
          exact Int.mul_nonneg ha (by unfold LP0 at hw; omega)
        · rw [← k]; simp
      have y2 : 0 ≤ b * uy := by
        rcases Int.lt_or_eq_of_le hb with k | k
        · have := mul_zero_pos (show b * ux = 0 by omega) k
          exact Int.mul_nonneg hb (by unfold LP0 at hu; omega)
        · rw [← k]; simp
      omega
  · exact hc
theorem comb_pos {a b c ux uy vx vy wx wy : Int} (hx : c * vx = a * wx + b * ux) (hy : c * vy = a * wy + b * uy) (hv : LP vx vy) (hu : LP ux uy) (hw : LP0 wx wy) (ha : 0 ≤ a) (hb : 0 < b) : 0 < c := by
  have h0 := comb_nn hx hy hv hu.z hw ha (by omega)
  rcases Int.lt_or_eq_of_le h0 with h | h
  · exact h
  · exfalso
    rw [← h, Int.zero_mul] at hx hy
    have x1 := Int.mul_nonneg ha (show 0 ≤ wx by unfold LP0 at hw; omega)
    rcases hu with k | ⟨k, k'⟩
    · have := Int.mul_pos hb k; omega
    · have x2 := Int.mul_pos hb k'
      have y1 : 0 ≤ a * wy := by
        rcases Int.lt_or_eq_of_le ha with l | l
        · rw [k, Int.mul_zero] at hx
          have := mul_zero_pos (show a * wx = 0 by omega) l
          exact Int.mul_nonneg ha (by unfold LP0 at hw; omega)
        · rw [← l]; simp
      omega

def lt2 (a b : Int × Int) : Prop := a.1 < b.1 ∨ (a.1 = b.1 ∧ a.2 < b.2)
def cr (a b c : Int × Int) : Int := crs a.1 a.2 b.1 b.2 c.1 c.2
theorem lt2.lp {a b : Int × Int} (h : lt2 a b) : LP (b.1 - a.1) (b.2 - a.2) := by unfold lt2 at h; unfold LP; omega
theorem lt2.trans {a b c : Int × Int} (h : lt2 a b) (k : lt2 b c) : lt2 a c := by unfold lt2 at *; omega
theorem lt2.irr {a : Int × Int} (h : lt2 a a) : False := by unfold lt2 at h; omega
theorem lt2.tri (a b : Int × Int) : lt2 a b ∨ a = b ∨ lt2 b a := by
  obtain ⟨x, y⟩ := a
  obtain ⟨x', y'⟩ := b
  unfold lt2; dsimp only
  rcases Int.lt_trichotomy x x' with h | h | h
  · left; omega
  · subst h
    rcases Int.lt_trichotomy y y' with k | k | k
    · left; omega
    · subst k; right; left; rfl
    · right; right; omega
  · right; right; omega
theorem cr_tri (a b c : Int × Int) : tri a b c = 1 ↔ 0 < cr a b c := by unfold tri cr sgn; split <;> (try split) <;> omega
theorem cr_self (a b : Int × Int) : cr a b a = 0 := by unfold cr crs; grind
theorem cr_self2 (a b : Int × Int) : cr a b b = 0 := by unfold cr crs; grind
theorem cr_cyc (a b c : Int × Int) : cr b c a = cr a b c := by unfold cr crs; grind
theorem cr_swap (a b c : Int × Int) : cr a c b = -cr a b c := by unfold cr crs; grind

/-- Left turns add up. -/
theorem turn_on {a b c p : Int × Int} (h1 : lt2 a b) (h2 : lt2 b c) (h3 : lt2 c p) (k1 : 0 < cr a b c) (k2 : 0 < cr b c p) : 0 < cr a b p := by
  have e : 0 < (b.1 - a.1) * (p.2 - c.2) - (b.2 - a.2) * (p.1 - c.1) := by
    refine comb_pos (a := cr a b c) (b := cr b c p) (vx := c.1 - b.1) (vy := c.2 - b.2) (wx := p.1 - c.1) (wy := p.2 - c.2) (ux := b.1 - a.1) (uy := b.2 - a.2) ?_ ?_ h2.lp h1.lp h3.lp.z (by omega) k2
    · unfold cr crs; grind
    · unfold cr crs; grind
  have e2 : cr a b p = cr a b c + ((b.1 - a.1) * (p.2 - c.2) - (b.2 - a.2) * (p.1 - c.1)) := by unfold cr crs; grind
  omega
/-- Between two ways: left of the lower one. -/
theorem left_of {a b p q : Int × Int} (h1 : lt2 a b) (h2 : lt2 a p) (h3 : lt2 a q) (k1 : 0 ≤ cr a b q) (k2 : cr a b p ≤ 0) : 0 ≤ cr a p q := by
  refine comb_nn (a := -cr a b p) (b := cr a b q) (vx := b.1 - a.1) (vy := b.2 - a.2) (wx := q.1 - a.1) (wy := q.2 - a.2) (ux := p.1 - a.1) (uy := p.2 - a.2) ?_ ?_ h1.lp h2.lp.z h3.lp.z (by omega) k1
  · unfold cr crs; grind
  · unfold cr crs; grind
theorem left_back {z t p q : Int × Int} (h1 : lt2 z t) (h2 : lt2 t p) (h3 : lt2 q t) (k1 : 0 ≤ cr z t q) (k2 : 0 ≤ cr z t p) : 0 ≤ cr t p q := by
  refine comb_nn (a := cr z t p) (b := cr z t q) (vx := t.1 - z.1) (vy := t.2 - z.2) (wx := t.1 - q.1) (wy := t.2 - q.2) (ux := p.1 - t.1) (uy := p.2 - t.2) ?_ ?_ h1.lp h2.lp.z h3.lp.z k2 k1
  · unfold cr crs; grind
  · unfold cr crs; grind

/-- A stack, its top first: it rises, turns left at each point, and all points of Q are left of its ways, or on them. -/
def RC (Q : Int × Int → Prop) : List (Int × Int) → Prop
  | b :: a :: r => lt2 a b ∧ (∀ q, Q q → 0 ≤ cr a b q) ∧ (∀ z s, r = z :: s → 0 < cr z a b) ∧ RC Q (a :: r)
  | _ => True
theorem RC.more {Q : Int × Int → Prop} {p : Int × Int} : ∀ {r : List (Int × Int)} {b a : Int × Int}, RC Q (b :: a :: r) → lt2 b p → 0 < cr a b p → RC (fun q => Q q ∨ q = p) (b :: a :: r)
  | [], b, a, ⟨h1, h2, h3, _⟩, _, hc => ⟨h1, fun q hq => by rcases hq with hq | rfl; exact h2 q hq; omega, h3, trivial⟩
  | z :: s, b, a, ⟨h1, h2, h3, h4⟩, hl, hc => by
    have k : 0 < cr z a p := turn_on h4.1 h1 hl (h3 z s rfl) hc
    exact ⟨h1, fun q hq => by rcases hq with hq | rfl; exact h2 q hq; omega, h3, RC.more h4 (h1.trans hl) k⟩

/-- What the pops leave. -/
theorem pop_spec {Q : Int × Int → Prop} {p m : Int × Int} (hp : ∀ q, Q q → lt2 q p) (hm : ∀ q, Q q → q = m ∨ lt2 m q) : ∀ (r : List (Int × Int)) (t : Int × Int), RC Q (t :: r) → (t :: r).getLast? = some m → (∀ x ∈ t :: r, Q x) → (∀ q, Q q → lt2 t q → 0 ≤ cr t p q) →
    ∃ t' r', popR p (t :: r) = t' :: r' ∧ RC (fun q => Q q ∨ q = p) (p :: t' :: r') ∧ (t' :: r').getLast? = some m ∧ (∀ x ∈ t' :: r', Q x)
  | [], t, h, hl, hs, hg => by
    have hQt := hs t (List.mem_cons_self ..)
    have htm : t = m := by simpa using hl
    refine ⟨t, [], rfl, ⟨hp t hQt, fun q hq => ?_, fun z s h => (by cases h), trivial⟩, hl, hs⟩
    rcases hq with hq | rfl
    · rcases hm q hq with e | e
      · rw [e, ← htm, cr_self]; omega
      · exact hg q hq (by rw [htm]; exact e)
    · rw [cr_self2]; omega
  | a :: r, b, h, hl, hs, hg => by
    have hQb := hs b (List.mem_cons_self ..)
    have hQa := hs a (List.mem_cons_of_mem _ (List.mem_cons_self ..))
    obtain ⟨h1, h2, h3, h4⟩ := h
    by_cases ht : tri a b p = 1
    · have hc := (cr_tri a b p).1 ht
      refine ⟨b, a :: r, by unfold popR; rw [if_pos ht], ⟨hp b hQb, fun q hq => ?_, fun z s e => (by obtain ⟨rfl, rfl⟩ := List.cons.inj e; exact hc), RC.more ⟨h1, h2, h3, h4⟩ (hp b hQb) hc⟩, hl, hs⟩
      rcases hq with hq | rfl
      · rcases lt2.tri q b with e | e | e
        · exact left_back h1 (hp b hQb) e (h2 q hq) (by omega)
        · rw [e, cr_self]; omega
        · exact hg q hq e
      · rw [cr_self2]; omega
    · have hc : cr a b p ≤ 0 := by
        rcases Int.lt_or_le 0 (cr a b p) with k | k
        · exact absurd ((cr_tri a b p).2 k) ht
        · exact k
      obtain ⟨t', r', e, k⟩ := pop_spec hp hm r a h4 (by simpa using hl) (fun x hx => hs x (List.mem_cons_of_mem _ hx)) (fun q hq hlt => left_of h1 (hp a hQa) hlt (h2 q hq) hc)
      exact ⟨t', r', by unfold popR; rw [if_neg ht]; exact e, k⟩

/-- The stack behind the points of D, which rise. -/
theorem chain_spec {m : Int × Int} : ∀ (ps D st : List (Int × Int)), (∀ q ∈ D, q = m ∨ lt2 m q) → (∀ p ∈ ps, ∀ q ∈ D, lt2 q p) → ps.Pairwise lt2 →
    (∃ t r, st = t :: r ∧ RC (· ∈ D) (t :: r) ∧ (t :: r).getLast? = some m ∧ (∀ x ∈ t :: r, x ∈ D) ∧ (∀ q ∈ D, q = t ∨ lt2 q t)) →
    ∃ t r, chainR st ps = t :: r ∧ RC (fun q => q ∈ D ∨ q ∈ ps) (t :: r) ∧ (t :: r).getLast? = some m ∧ (∀ x ∈ t :: r, x ∈ D ∨ x ∈ ps) ∧ (∀ q, q ∈ D ∨ q ∈ ps → q = t ∨ lt2 q t)
  | [], D, st, _, _, _, ⟨t, r, e, h1, h2, h3, h4⟩ => by
    have e' : (fun q : Int × Int => q ∈ D ∨ q ∈ ([] : List (Int × Int))) = (· ∈ D) := by funext q; simp
    exact ⟨t, r, by rw [chainR, e], by rw [e']; exact h1, h2, fun x hx => Or.inl (h3 x hx), fun q hq => h4 q (by simpa using hq)⟩
  | p :: ps, D, st, hm, hp, hs, ⟨t, r, e, h1, h2, h3, h4⟩ => by
    obtain ⟨hs1, hs2⟩ := List.pairwise_cons.1 hs
    obtain ⟨t', r', e1, k1, k2, k3⟩ := pop_spec (Q := (· ∈ D)) (p := p) (m := m) (fun q hq => hp p (List.mem_cons_self ..) q hq) hm r t h1 h2 h3 (fun q hq hlt => by
      rcases h4 q hq with e | e
      · rw [e] at hlt; exact hlt.irr.elim
      · exact (hlt.trans e).irr.elim)
    have hmD : m ∈ D := k3 m (List.mem_of_getLast? k2)
    have e2 : (fun q : Int × Int => q ∈ D ∨ q = p) = (· ∈ p :: D) := by funext q; simp [or_comm]
    rw [e2] at k1
    obtain ⟨t2, r2, e3, l1, l2, l3, l4⟩ := chain_spec ps (p :: D) (p :: t' :: r') (fun q hq => by
        rcases List.mem_cons.1 hq with rfl | hq
        · exact Or.inr (hp q (List.mem_cons_self ..) m hmD)
        · exact hm q hq) (fun x hx q hq => by
        rcases List.mem_cons.1 hq with rfl | hq
        · exact hs1 x hx
        · exact hp x (List.mem_cons_of_mem _ hx) q hq) hs2
      ⟨p, t' :: r', rfl, k1, by simpa using k2, fun x hx => by
        rcases List.mem_cons.1 hx with rfl | hx
        · exact List.mem_cons_self ..
        · exact List.mem_cons_of_mem _ (k3 x hx), fun q hq => by
        rcases List.mem_cons.1 hq with rfl | hq
        · exact Or.inl rfl
        · exact Or.inr (hp p (List.mem_cons_self ..) q hq)⟩
    have e4 : (fun q : Int × Int => q ∈ p :: D ∨ q ∈ ps) = (fun q => q ∈ D ∨ q ∈ p :: ps) := by funext q; simp; grind
    refine ⟨t2, r2, by rw [chainR, e, e1]; exact e3, by rw [← e4]; exact l1, l2, fun x hx => ?_, fun q hq => l4 q ?_⟩
    · have := l3 x hx; simp at this ⊢; grind
    · simp at hq ⊢; grind

end Go.Proofs.Ytbdofhoifhpbnaa
