/- Triangulations, by their directed sides. Plain mathematics. -/
import Derived.Test.YtjkdjfagaakijaaArea
import Derived.Test.YtjkdjfagaakijaaMapG
namespace Go.Proofs.Ytjkdjfagaakijaa
open Go.RowKit

/-- The directed sides of triples. -/
def side3 (t : Int × Int × Int) : List (Int × Int) := [(t.1, t.2.1), (t.2.1, t.2.2), (t.2.2, t.1)]
def sidesL (ts : List (Int × Int × Int)) : List (Int × Int) := ts.flatMap side3
theorem sidesL_snoc (ts : List (Int × Int × Int)) (t : Int × Int × Int) : sidesL (ts ++ [t]) = sidesL ts ++ side3 t := by
  unfold sidesL
  rw [List.flatMap_append]
  simp
/-- The sides fit: each edge of the outline is there once, forward, and never backward; any other as often forward as backward. -/
def FitP (n : Nat) (f : Int → Int → Int) : Prop := ∀ a b : Nat, a < n → b < n → (b = (a + 1) % n → f a b = 1 ∧ f b a = 0) ∧ (b ≠ (a + 1) % n → a ≠ (b + 1) % n → f a b = f b a)
/-- A triple of positions that turns as the polygon does. -/
def TriP (ps : List (Int × Int)) (t : Int × Int × Int) : Prop :=
  (0 ≤ t.1 ∧ t.1 < ps.length) ∧ (0 ≤ t.2.1 ∧ t.2.1 < ps.length) ∧ (0 ≤ t.2.2 ∧ t.2.2 < ps.length) ∧
  sgn (crs (ps.getD t.1.toNat (0, 0)).1 (ps.getD t.1.toNat (0, 0)).2 (ps.getD t.2.1.toNat (0, 0)).1 (ps.getD t.2.1.toNat (0, 0)).2 (ps.getD t.2.2.toNat (0, 0)).1 (ps.getD t.2.2.toNat (0, 0)).2) = sgn (areaL ps)
def cntI (S : List (Int × Int)) (a b : Int) : Int := (S.count (a, b) : Int)
def CovP (ps : List (Int × Int)) (ts : List (Int × Int × Int)) : Prop := ts.length + 2 = ps.length ∧ (∀ t ∈ ts, TriP ps t) ∧ FitP ps.length (cntI (sidesL ts))

/-- A map that counts sides. -/
structure CInv (n : Nat) (l : List ((Int × Int) × Int)) (S : List (Int × Int)) : Prop where
  cnt : ∀ p, (mget l p).getD 0 = (S.count p : Int)
  rng : ∀ q ∈ l, (0 ≤ q.1.1 ∧ q.1.1 < n) ∧ (0 ≤ q.1.2 ∧ q.1.2 < n)
  pos : ∀ q ∈ l, 1 ≤ q.2
theorem CInv.nil (n : Nat) : CInv n [] [] := ⟨fun _ => rfl, (fun _ h => nomatch h), (fun _ h => nomatch h)⟩
theorem mput_mem {α β : Type} [DecidableEq α] {l : List (α × β)} {a : α} {x : β} {q : α × β} (h : q ∈ mput l a x) : q = (a, x) ∨ q ∈ l := by
  unfold mput at h
  split at h
  · obtain ⟨p, hp, rfl⟩ := List.mem_map.1 h
    split
    · exact Or.inl rfl
    · exact Or.inr hp
  · rcases List.mem_append.1 h with h | h
    · exact Or.inr h
    · exact Or.inl (List.mem_singleton.1 h)
theorem CInv.step {n : Nat} {l : List ((Int × Int) × Int)} {S : List (Int × Int)} (h : CInv n l S) {p : Int × Int} (h1 : 0 ≤ p.1 ∧ p.1 < n) (h2 : 0 ≤ p.2 ∧ p.2 < n) : CInv n (mput l p ((mget l p).getD 0 + 1)) (S ++ [p]) := by
  refine ⟨fun q => ?_, fun q hq => ?_, fun q hq => ?_⟩
  · rw [mget_put, List.count_append]
    by_cases e : q = p
    · subst e
      rw [if_pos rfl, Option.getD_some, h.cnt]
      simp
    · rw [if_neg e, h.cnt]
      have : List.count q [p] = 0 := by
        rw [List.count_eq_zero]
        simpa using e
      rw [this]
      simp
  · rcases mput_mem hq with rfl | hq
    · exact ⟨h1, h2⟩
    · exact h.rng q hq
  · rcases mput_mem hq with rfl | hq
    · have := h.cnt p
      dsimp only
      rw [this]
      omega
    · exact h.pos q hq
theorem CInv.bd {n : Nat} {l : List ((Int × Int) × Int)} {S : List (Int × Int)} (h : CInv n l S) (p : Int × Int) : 0 ≤ (mget l p).getD 0 ∧ (mget l p).getD 0 ≤ S.length := by
  rw [h.cnt]
  have := List.count_le_length (a := p) (l := S)
  omega
theorem CInv.val {n : Nat} {l : List ((Int × Int) × Int)} {S : List (Int × Int)} (h : CInv n l S) (hap : l.Pairwise (fun p q => p.1 ≠ q.1)) {q : (Int × Int) × Int} (hq : q ∈ l) : q.2 = (S.count q.1 : Int) := by
  rw [← h.cnt, mget_of hap hq]
  rfl

/-- What the program asks of its map is that the sides fit. -/
theorem sides_fit {n : Nat} (hn : 3 ≤ n) {l : List ((Int × Int) × Int)} {S : List (Int × Int)} (h : CInv n l S) (hap : l.Pairwise (fun p q => p.1 ≠ q.1)) :
    ((∀ i : Nat, i < n → cntI S i ((i + 1) % n : Nat) = 1 ∧ cntI S ((i + 1) % n : Nat) i = 0) ∧ (∀ q ∈ l, q.1.2 ≠ (q.1.1 + 1) % n → cntI S q.1.2 q.1.1 = q.2)) ↔ FitP n (cntI S) := by
  constructor
  · rintro ⟨h1, h2⟩ a b ha hb
    refine ⟨fun e => by subst e; exact h1 a ha, fun e1 e2 => ?_⟩
    have key : ∀ a b : Nat, a < n → b < n → b ≠ (a + 1) % n → 1 ≤ cntI S a b → cntI S a b = cntI S b a := by
      intro a b ha hb e1 hc
      have hm : ∃ x, mget l ((a : Int), (b : Int)) = some x := by
        rcases hx : mget l ((a : Int), (b : Int)) with _ | x
        · have := h.cnt ((a : Int), (b : Int))
          rw [hx] at this
          unfold cntI at hc
          simp only [Option.getD_none] at this
          omega
        · exact ⟨x, rfl⟩
      obtain ⟨x, hx⟩ := hm
      have hq := mget_some hx
      have h3 := h2 _ hq (by
        dsimp only
        intro e
        apply e1
        have : ((b : Nat) : Int) = (((a + 1) % n : Nat) : Int) := by rw [e]; push_cast; rfl
        omega)
      dsimp only at h3
      rw [h3]
      exact (h.val hap hq).symm
    by_cases hc : 1 ≤ cntI S a b
    · exact key a b ha hb e1 hc
    · by_cases hd : 1 ≤ cntI S b a
      · exact (key b a hb ha e2 hd).symm
      · have p1 : 0 ≤ cntI S a b := by unfold cntI; omega
        have p2 : 0 ≤ cntI S b a := by unfold cntI; omega
        omega
  · intro hf
    refine ⟨fun i hi => (hf i ((i + 1) % n) hi (Nat.mod_lt _ (by omega))).1 rfl, fun q hq e => ?_⟩
    obtain ⟨⟨a1, a2⟩, b1, b2⟩ := h.rng q hq
    have hv := h.val hap hq
    have hp := h.pos q hq
    obtain ⟨a, ha⟩ : ∃ a : Nat, q.1.1 = a := ⟨q.1.1.toNat, by omega⟩
    obtain ⟨b, hb⟩ : ∃ b : Nat, q.1.2 = b := ⟨q.1.2.toNat, by omega⟩
    have hq1 : q.1 = ((a : Int), (b : Int)) := Prod.ext ha hb
    rw [ha] at a2 e
    rw [hb] at b2 e
    rw [hq1] at hv
    rw [ha, hb]
    have e1 : b ≠ (a + 1) % n := fun e' => e (by rw [e']; push_cast; rfl)
    have hf1 := hf a b (by omega) (by omega)
    by_cases e2 : a = (b + 1) % n
    · have := ((hf b a (by omega) (by omega)).1 e2).2
      unfold cntI at this
      omega
    · rw [← hf1.2 e1 e2, hv]
      rfl

/-- The corners of a triple, by their place in it. -/
def tcs (t : Int × Int × Int) (i : Nat) : Int := if i = 0 then t.1 else if i = 1 then t.2.1 else t.2.2
theorem side3_take (t : Int × Int × Int) {j : Nat} (hj : j < 3) : (side3 t).take (j + 1) = (side3 t).take j ++ [(tcs t j, tcs t ((j + 1) % 3))] := by
  rcases (by omega : j = 0 ∨ j = 1 ∨ j = 2) with rfl | rfl | rfl <;> rfl
theorem side_bd {ts : List (Int × Int × Int)} {k n n' : Nat} (hn' : ts.length = n') (hl : n ≤ 512) (hk : k ≤ n') (hlen : n' + 2 = n) (j : Nat) {t : Int × Int × Int} : (sidesL (ts.take k) ++ (side3 t).take j).length ≤ 1536 := by
  rw [List.length_append, List.length_take]
  have h1 : (sidesL (ts.take k)).length = 3 * k := by
    unfold sidesL
    rw [List.length_flatMap]
    have : ∀ l : List (Int × Int × Int), (l.map fun a => (side3 a).length).sum = 3 * l.length := fun l => by
      induction l with
      | nil => rfl
      | cons a r ih => simp only [List.map_cons, List.sum_cons, ih, List.length_cons]; simp [side3]; omega
    rw [this, List.length_take]
    omega
  have h2 : (side3 t).length = 3 := rfl
  omega

end Go.Proofs.Ytjkdjfagaakijaa
