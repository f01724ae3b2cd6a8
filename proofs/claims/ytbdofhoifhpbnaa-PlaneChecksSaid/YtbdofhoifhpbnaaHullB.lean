/- Hulls: the corners of a set, and that they are their own corners. Plain mathematics. -/
import Derived.Test.YtbdofhoifhpbnaaHullA
namespace Go.Proofs.Ytbdofhoifhpbnaa
open Go.RowKit

/-- A chain that rises, from its first point on. -/
def FC (Q : Int × Int → Prop) : List (Int × Int) → Prop
  | a :: b :: r => lt2 a b ∧ (∀ q, Q q → 0 ≤ cr a b q) ∧ (∀ z s, r = z :: s → 0 < cr a b z) ∧ FC Q (b :: r)
  | _ => True
theorem FC.snoc {Q : Int × Int → Prop} {a b : Int × Int} (hl : lt2 a b) (hq : ∀ q, Q q → 0 ≤ cr a b q) : ∀ (X : List (Int × Int)), FC Q (X ++ [a]) → (∀ Y z, X = Y ++ [z] → 0 < cr z a b) → FC Q (X ++ [a, b])
  | [], _, _ => ⟨hl, hq, fun z s h => (by cases h), trivial⟩
  | [z], h, hz => by
    obtain ⟨h1, h2, h3, h4⟩ := h
    exact ⟨h1, h2, fun x s e => by obtain ⟨rfl, -⟩ := List.cons.inj e; exact hz [] z rfl, hl, hq, fun z s h => (by cases h), trivial⟩
  | z :: z' :: X, h, hz => by
    obtain ⟨h1, h2, h3, h4⟩ := h
    refine ⟨h1, h2, fun x s e => ?_, FC.snoc hl hq (z' :: X) h4 (fun Y w e => hz (z :: Y) w (by rw [e]; rfl))⟩
    cases X with
    | nil =>
      obtain ⟨rfl, -⟩ := List.cons.inj e
      exact h3 _ [] rfl
    | cons x' X =>
      obtain ⟨rfl, -⟩ := List.cons.inj e
      exact h3 _ (X ++ [a]) rfl
theorem FC_of_RC {Q : Int × Int → Prop} : ∀ (rs : List (Int × Int)), RC Q rs → FC Q rs.reverse
  | [], _ => trivial
  | [_], _ => trivial
  | b :: a :: r, ⟨h1, h2, h3, h4⟩ => by
    have ih := FC_of_RC (a :: r) h4
    rw [List.reverse_cons] at ih
    rw [List.reverse_cons, List.reverse_cons, List.append_assoc]
    refine FC.snoc h1 h2 _ ih (fun Y z e => ?_)
    have : r = z :: Y.reverse := by rw [← List.reverse_reverse r, e]; simp
    exact h3 z _ this
theorem FC.weaken {Q Q' : Int × Int → Prop} (h : ∀ q, Q' q → Q q) : ∀ (L : List (Int × Int)), FC Q L → FC Q' L
  | [], _ => trivial
  | [_], _ => trivial
  | _ :: b :: r, ⟨h1, h2, h3, h4⟩ => ⟨h1, fun q hq => h2 q (h q hq), h3, FC.weaken h (b :: r) h4⟩
theorem FC.last {Q : Int × Int → Prop} {M : Int × Int} : ∀ (r : List (Int × Int)) (a b : Int × Int), FC Q (a :: b :: r) → (a :: b :: r).getLast? = some M → lt2 a M
  | [], a, b, h, e => by
    obtain rfl : b = M := by simpa using e
    exact h.1
  | c :: r, a, b, h, e => h.1.trans (FC.last r b c h.2.2.2 (by simpa using e))
theorem FC.le_last {Q : Int × Int → Prop} {M : Int × Int} (r : List (Int × Int)) (a : Int × Int) (h : FC Q (a :: r)) (e : (a :: r).getLast? = some M) : a = M ∨ lt2 a M := by
  cases r with
  | nil => left; simpa using e
  | cons b r => exact Or.inr (FC.last r a b h e)

/-- On one way from m, farther than b: the chain that turns left at b leaves it to the right. -/
theorem beyond {m b c b' : Int × Int} (h1 : lt2 m b) (h2 : lt2 b b') (h0 : cr m b b' = 0) (h3 : 0 < cr m b c) (h4 : 0 ≤ cr b c b') : False := by
  have k : 0 < -cr b c b' := by
    refine comb_pos (a := 0) (b := cr m b c) (vx := b.1 - m.1) (vy := b.2 - m.2) (wx := 0) (wy := 0) (ux := b'.1 - b.1) (uy := b'.2 - b.2) ?_ ?_ h1.lp h2.lp (Or.inr ⟨rfl, by omega⟩) (by omega) h3
    · unfold cr crs at *; clear h1 h2 h3 h4; grind
    · unfold cr crs at *; clear h1 h2 h3 h4; grind
  omega

theorem FC_unique {Q : Int × Int → Prop} {M : Int × Int} : ∀ (L L' : List (Int × Int)) (m : Int × Int), FC Q (m :: L) → FC Q (m :: L') → (m :: L).getLast? = some M → (m :: L').getLast? = some M → (∀ x ∈ m :: L, Q x) → (∀ x ∈ m :: L', Q x) → L = L'
  | [], [], _, _, _, _, _, _, _ => rfl
  | [], b :: r, m, _, h', e, e', _, _ => by
    obtain rfl : m = M := by simpa using e
    exact (FC.last r m b h' e').irr.elim
  | b :: r, [], m, h, _, e, e', _, _ => by
    obtain rfl : m = M := by simpa using e'
    exact (FC.last r m b h e).irr.elim
  | b :: r, b' :: r', m, h, h', e, e', q, q' => by
    have hQb := q b (List.mem_cons_of_mem _ (List.mem_cons_self ..))
    have hQb' := q' b' (List.mem_cons_of_mem _ (List.mem_cons_self ..))
    obtain ⟨h1, h2, h3, h4⟩ := h
    obtain ⟨k1, k2, k3, k4⟩ := h'
    have z1 := h2 b' hQb'
    have z2 := k2 b hQb
    rw [cr_swap] at z2
    have z0 : cr m b b' = 0 := by omega
    have z0' : cr m b' b = 0 := by rw [cr_swap]; omega
    have el : (b :: r).getLast? = some M := by simpa using e
    have el' : (b' :: r').getLast? = some M := by simpa using e'
    have hb : b = b' := by
      rcases lt2.tri b b' with hlt | hlt | hlt
      · exfalso
        have hM : lt2 b M := by
          rcases FC.le_last r' b' k4 el' with e | e
          · rw [← e]; exact hlt
          · exact hlt.trans e
        cases r with
        | nil =>
          obtain rfl : b = M := by simpa using el
          exact hM.irr
        | cons c s => exact beyond h1 hlt z0 (h3 c s rfl) (h4.2.1 b' hQb')
      · exact hlt
      · exfalso
        have hM : lt2 b' M := by
          rcases FC.le_last r b h4 el with e | e
          · rw [← e]; exact hlt
          · exact hlt.trans e
        cases r' with
        | nil =>
          obtain rfl : b' = M := by simpa using el'
          exact hM.irr
        | cons c s => exact beyond k1 hlt z0' (k3 c s rfl) (k4.2.1 b hQb)
    subst hb
    rw [FC_unique r r' b h4 k4 el el' (fun x hx => q x (List.mem_cons_of_mem _ hx)) (fun x hx => q' x (List.mem_cons_of_mem _ hx))]

/-- The chain of points that rise. -/
theorem lower_spec (m : Int × Int) (ps : List (Int × Int)) (hs : (m :: ps).Pairwise lt2) :
    ∃ L M, chainL (m :: ps) = m :: L ∧ FC (· ∈ m :: ps) (m :: L) ∧ (m :: L).getLast? = some M ∧ (∀ x ∈ m :: L, x ∈ m :: ps) ∧ (∀ q ∈ m :: ps, q = M ∨ lt2 q M) := by
  obtain ⟨hs1, hs2⟩ := List.pairwise_cons.1 hs
  obtain ⟨t, r, e, h1, h2, h3, h4⟩ := chain_spec (m := m) ps [m] [m] (fun q hq => Or.inl (by simpa using hq)) (fun p hp q hq => by
      obtain rfl : q = m := by simpa using hq
      exact hs1 p hp) hs2 ⟨m, [], rfl, trivial, rfl, fun x hx => hx, fun q hq => Or.inl (by simpa using hq)⟩
  have e0 : (fun q : Int × Int => q ∈ [m] ∨ q ∈ ps) = (· ∈ m :: ps) := by funext q; simp
  rw [e0] at h1
  have ec : chainL (m :: ps) = (t :: r).reverse := by
    unfold chainL
    rw [chainR, show popR m [] = [] from rfl, e]
  have hf := FC_of_RC _ h1
  have hh : (t :: r).reverse.head? = some m := by rw [List.head?_reverse]; exact h2
  rw [← ec] at hf hh
  obtain ⟨L, eL⟩ : ∃ L, chainL (m :: ps) = m :: L := by
    cases hc : chainL (m :: ps) with
    | nil => rw [hc] at hh; cases hh
    | cons a L => rw [hc] at hh; simp at hh; exact ⟨L, by rw [hh]⟩
  refine ⟨L, t, eL, by rw [← eL]; exact hf, ?_, fun x hx => ?_, fun q hq => h4 q (by simpa using hq)⟩
  · rw [← eL, ec, List.getLast?_reverse]; rfl
  · rw [← eL, ec] at hx
    have := h3 x (List.mem_reverse.1 hx)
    simpa using this

/-- The point opposite. -/
def ng (p : Int × Int) : Int × Int := (-p.1, -p.2)
theorem ng_ng (p : Int × Int) : ng (ng p) = p := by unfold ng; simp
theorem cr_ng (a b c : Int × Int) : cr (ng a) (ng b) (ng c) = cr a b c := by unfold cr crs ng; grind
theorem lt_ng {a b : Int × Int} : lt2 (ng a) (ng b) ↔ lt2 b a := by unfold lt2 ng; dsimp only; omega
theorem tri_ng (a b c : Int × Int) : tri (ng a) (ng b) (ng c) = tri a b c := by
  have h := cr_ng a b c
  unfold cr at h
  unfold tri; rw [h]
theorem popR_ng (p : Int × Int) : ∀ l, popR (ng p) (l.map ng) = (popR p l).map ng
  | [] => rfl
  | [_] => rfl
  | b :: a :: r => by
    have ih := popR_ng p (a :: r)
    simp only [List.map_cons] at ih ⊢
    unfold popR
    rw [tri_ng]
    split
    · rfl
    · exact ih
theorem chainR_ng : ∀ (ps st : List (Int × Int)), chainR (st.map ng) (ps.map ng) = (chainR st ps).map ng
  | [], st => rfl
  | p :: ps, st => by
    have ih := chainR_ng ps (p :: popR p st)
    simp only [List.map_cons] at ih ⊢
    rw [chainR, popR_ng, ih, chainR]
theorem chainL_ng (ps : List (Int × Int)) : chainL (ps.map ng) = (chainL ps).map ng := by
  unfold chainL
  rw [List.map_reverse, ← chainR_ng]; rfl
theorem map_ng_ng (l : List (Int × Int)) : (l.map ng).map ng = l := by
  rw [List.map_map]; exact (List.map_congr_left (fun x _ => ng_ng x)).trans (List.map_id l)
theorem rev_ng {s : List (Int × Int)} (hs : s.Pairwise lt2) : (s.reverse.map ng).Pairwise lt2 := by
  rw [List.pairwise_map]
  exact (List.pairwise_reverse.2 hs).imp (fun h => lt_ng.2 h)
theorem mem_ng {s : List (Int × Int)} {q : Int × Int} : q ∈ s.reverse.map ng ↔ ng q ∈ s := by
  rw [List.mem_map]
  constructor
  · rintro ⟨x, hx, rfl⟩; rw [ng_ng]; exact List.mem_reverse.1 hx
  · intro h; exact ⟨ng q, List.mem_reverse.2 h, ng_ng q⟩

/-- Two lists that rise and have the same points are one. -/
theorem rise_ext : ∀ (l l' : List (Int × Int)), l.Pairwise lt2 → l'.Pairwise lt2 → (∀ x, x ∈ l ↔ x ∈ l') → l = l'
  | [], [], _, _, _ => rfl
  | [], a :: l', _, _, h => absurd ((h a).2 (List.mem_cons_self ..)) (by simp)
  | a :: l, [], _, _, h => absurd ((h a).1 (List.mem_cons_self ..)) (by simp)
  | a :: l, b :: l', h1, h2, h => by
    obtain ⟨p1, p2⟩ := List.pairwise_cons.1 h1
    obtain ⟨q1, q2⟩ := List.pairwise_cons.1 h2
    have hab : a = b := by
      rcases List.mem_cons.1 ((h a).1 (List.mem_cons_self ..)) with e | e
      · exact e
      · rcases List.mem_cons.1 ((h b).2 (List.mem_cons_self ..)) with k | k
        · exact k.symm
        · exact ((q1 a e).trans (p1 b k)).irr.elim
    subst hab
    rw [rise_ext l l' p2 q2 (fun x => ⟨fun hx => by
      rcases List.mem_cons.1 ((h x).1 (List.mem_cons_of_mem _ hx)) with e | e
      · rw [e] at hx; exact (p1 a hx).irr.elim
      · exact e, fun hx => by
      rcases List.mem_cons.1 ((h x).2 (List.mem_cons_of_mem _ hx)) with e | e
      · rw [e] at hx; exact (q1 a hx).irr.elim
      · exact e⟩)]

/-- The points of a list, sorted, each once. -/
theorem ddT_spec (l : List (Int × Int)) (hs : l.Pairwise (fun x y => x = y ∨ lt2 x y)) : ∀ r, r ≤ l.length → (ddT l r).Pairwise lt2 ∧ (∀ x, x ∈ ddT l r ↔ x ∈ l.take r) ∧ (0 < r → (ddT l r).getLast? = some (l.getD (r - 1) (0, 0)))
  | 0, _ => by simp [ddT]
  | r + 1, hr => by
    obtain ⟨h1, h2, h3⟩ := ddT_spec l hs r (by omega)
    have htk : l.take (r + 1) = l.take r ++ [l.getD r (0, 0)] := by rw [List.take_add_one, getD_of (0, 0) (by omega)]; rfl
    unfold ddT
    split
    · rename_i he
      have h4 := h3 (by omega)
      refine ⟨h1, fun x => ?_, fun _ => ?_⟩
      · rw [htk, List.mem_append, ← h2]
        constructor
        · exact Or.inl
        · rintro (h | h)
          · exact h
          · obtain rfl : x = l.getD r (0, 0) := by simpa using h
            rw [he.2]; exact List.mem_of_getLast? h4
      · rw [Nat.add_sub_cancel, he.2]; exact h4
    · rename_i he
      refine ⟨?_, fun x => ?_, fun _ => ?_⟩
      · rw [List.pairwise_append]
        refine ⟨h1, List.pairwise_singleton _ _, fun x hx y hy => ?_⟩
        obtain rfl : y = l.getD r (0, 0) := by simpa using hy
        have hrl : r < l.length := by omega
        have hm := (h2 x).1 hx
        obtain ⟨i, hi, e⟩ := List.mem_take_iff_getElem.1 hm
        have hir : i < r := by omega
        have hle : ∀ i j, i < j → j < l.length → l.getD i (0, 0) = l.getD j (0, 0) ∨ lt2 (l.getD i (0, 0)) (l.getD j (0, 0)) := fun i j h k => by
          have := List.pairwise_iff_getElem.1 hs i j (by omega) k h
          rw [List.getD_eq_getElem?_getD, List.getD_eq_getElem?_getD, List.getElem?_eq_getElem (by omega), List.getElem?_eq_getElem k]
          exact this
        have ex : x = l.getD i (0, 0) := by rw [List.getD_eq_getElem?_getD, List.getElem?_eq_getElem (by omega)]; exact e.symm
        have hne : l.getD (r - 1) (0, 0) ≠ l.getD r (0, 0) := fun h => he ⟨by omega, h.symm⟩
        have hlast : lt2 (l.getD (r - 1) (0, 0)) (l.getD r (0, 0)) := (hle (r - 1) r (by omega) hrl).resolve_left hne
        rw [ex]
        rcases Nat.lt_or_ge i (r - 1) with k | k
        · rcases hle i (r - 1) k (by omega) with e | e
          · rw [e]; exact hlast
          · exact e.trans hlast
        · obtain rfl : i = r - 1 := by omega
          exact hlast
      · rw [htk, List.mem_append, List.mem_append, h2]
      · simp
theorem srtL_sorted (ps : List (Int × Int)) : (srtL ps).Pairwise (fun x y => x = y ∨ lt2 x y) := by
  have h := List.pairwise_mergeSort (le := fun x y => !(ltOf cfP y x)) (fun a b c h1 h2 => by
      rw [ltP] at *; simp only [Bool.not_eq_true', decide_eq_false_iff_not] at *; omega) (fun a b => by
      rw [ltP, ltP]; simp only [Bool.or_eq_true, Bool.not_eq_true', decide_eq_false_iff_not]; omega) ps
  refine h.imp (fun {x y} h => ?_)
  rw [ltP] at h
  simp only [Bool.not_eq_true', decide_eq_false_iff_not] at h
  rcases lt2.tri x y with k | k | k
  · exact Or.inr k
  · exact Or.inl k
  · unfold lt2 at k; omega
theorem sdL_rise (ps : List (Int × Int)) : (sdL ps).Pairwise lt2 := (ddT_spec (srtL ps) (srtL_sorted ps) _ (Nat.le_refl _)).1
theorem mem_sdL (ps : List (Int × Int)) (x : Int × Int) : x ∈ sdL ps ↔ x ∈ ps := by
  have h := (ddT_spec (srtL ps) (srtL_sorted ps) _ (Nat.le_refl _)).2.1 x
  rw [List.take_length] at h
  exact h.trans (List.mem_mergeSort ..)
theorem sdL_ext {ps qs : List (Int × Int)} (h : ∀ x, x ∈ ps ↔ x ∈ qs) : sdL ps = sdL qs :=
  rise_ext _ _ (sdL_rise ps) (sdL_rise qs) (fun x => by rw [mem_sdL, mem_sdL, h])
theorem cornersL_ext {ps qs : List (Int × Int)} (h : ∀ x, x ∈ ps ↔ x ∈ qs) : cornersL ps = cornersL qs := by
  unfold cornersL; rw [sdL_ext h]

theorem upper_spec {s : List (Int × Int)} {M : Int × Int} (hs : s.Pairwise lt2) (hM : s.getLast? = some M) :
    ∃ U m, chainL s.reverse = M :: U ∧ FC (fun q => ng q ∈ s) ((M :: U).map ng) ∧ (M :: U).getLast? = some m ∧ (∀ x ∈ M :: U, x ∈ s) ∧ (∀ q ∈ s, q = m ∨ lt2 m q) := by
  obtain ⟨t, ht⟩ : ∃ t, s.reverse = M :: t := by
    have h : s.reverse.head? = some M := by rw [List.head?_reverse]; exact hM
    cases hr : s.reverse with
    | nil => rw [hr] at h; cases h
    | cons a t => rw [hr] at h; simp at h; exact ⟨t, by rw [h]⟩
  have hp := rev_ng hs
  have hq : (fun q => q ∈ s.reverse.map ng) = (fun q => ng q ∈ s) := by funext q; exact propext mem_ng
  have hmap : s.reverse.map ng = ng M :: t.map ng := by rw [ht]; rfl
  have hc := chainL_ng s.reverse
  rw [hmap] at hp hq hc
  obtain ⟨L, N, e, h1, h2, h3, h4⟩ := lower_spec (ng M) (t.map ng) hp
  rw [e] at hc
  have hc2 : chainL s.reverse = M :: L.map ng := by
    have := congrArg (List.map ng) hc
    rw [map_ng_ng] at this
    rw [← this, List.map_cons, ng_ng]
  have hLm : (M :: L.map ng).map ng = ng M :: L := by rw [List.map_cons, map_ng_ng]
  refine ⟨L.map ng, ng N, hc2, ?_, ?_, fun x hx => ?_, fun q hq2 => ?_⟩
  · rw [hLm, ← hq]; exact h1
  · have : (M :: L.map ng) = (ng M :: L).map ng := by rw [List.map_cons, ng_ng]
    rw [this, List.getLast?_map, h2]; rfl
  · have hx2 : ng x ∈ ng M :: L := by rw [← hLm]; exact List.mem_map_of_mem hx
    have := h3 _ hx2
    have h5 : ng (ng x) ∈ s := (congrFun hq (ng x)).mp this
    rwa [ng_ng] at h5
  · have h5 : ng q ∈ ng M :: t.map ng := (congrFun hq (ng q)).mpr (by rw [ng_ng]; exact hq2)
    rcases h4 _ h5 with e | e
    · left; rw [← e, ng_ng]
    · right; rw [← ng_ng q]; exact lt_ng.2 e

/-- What the corners of a set are: a chain below from m to M, and one above from M to m. -/
structure Hul (s : List (Int × Int)) (m M : Int × Int) (L U : List (Int × Int)) : Prop where
  lt : lt2 m M
  fl : FC (· ∈ s) (m :: L)
  ll : (m :: L).getLast? = some M
  ml : ∀ x ∈ m :: L, x ∈ s
  fu : FC (fun q => ng q ∈ s) ((M :: U).map ng)
  lu : (M :: U).getLast? = some m
  mu : ∀ x ∈ M :: U, x ∈ s
  hi : ∀ q ∈ s, q = M ∨ lt2 q M
  lo : ∀ q ∈ s, q = m ∨ lt2 m q
theorem hul_of {s : List (Int × Int)} (hs : s.Pairwise lt2) (h2 : 2 ≤ s.length) :
    ∃ m M L U, Hul s m M L U ∧ chainL s = m :: L ∧ chainL s.reverse = M :: U := by
  match s, h2 with
  | m :: b :: ps, _ =>
    obtain ⟨L, M, e, h1, h2, h3, h4⟩ := lower_spec m (b :: ps) hs
    have hM : (m :: b :: ps).getLast? = some M := by
      obtain ⟨N, hN⟩ : ∃ N, (m :: b :: ps).getLast? = some N := ⟨_, List.getLast?_eq_some_getLast (by simp)⟩
      have hNm := List.mem_of_getLast? hN
      have hMm := h3 M (List.mem_of_getLast? h2)
      have hle : ∀ q ∈ m :: b :: ps, q = N ∨ lt2 q N := fun q hq => by
        obtain ⟨l, e⟩ := List.getLast?_eq_some_iff.1 hN
        rw [e] at hs hq
        rcases List.mem_append.1 hq with k | k
        · exact Or.inr ((List.pairwise_append.1 hs).2.2 q k N (by simp))
        · left; simpa using k
      rcases hle M hMm with e | e
      · rw [hN, e]
      · rcases h4 N hNm with k | k
        · rw [hN, k]
        · exact (e.trans k).irr.elim
    obtain ⟨U, m', e', k1, k2, k3, k4⟩ := upper_spec hs hM
    have hmin : ∀ q ∈ m :: b :: ps, q = m ∨ lt2 m q := fun q hq => by
      rcases List.mem_cons.1 hq with e | e
      · exact Or.inl e
      · exact Or.inr ((List.pairwise_cons.1 hs).1 q e)
    have hm' : m' = m := by
      rcases hmin m' (k3 m' (List.mem_of_getLast? k2)) with e | e
      · exact e
      · rcases k4 m (List.mem_cons_self ..) with k | k
        · exact k.symm
        · exact (e.trans k).irr.elim
    rw [hm'] at k2
    have hlt : lt2 m M := by
      have h5 : lt2 m b := (List.pairwise_cons.1 hs).1 b (List.mem_cons_self ..)
      rcases h4 b (by simp) with e | e
      · rw [← e]; exact h5
      · exact h5.trans e
    exact ⟨m, M, L, U, ⟨hlt, h1, h2, h3, k1, k2, k3, h4, hmin⟩, e, e'⟩

/-- The corners, from both chains. -/
def ring (m M : Int × Int) (L U : List (Int × Int)) : List (Int × Int) := (m :: L).dropLast ++ (M :: U).dropLast
theorem mem_drop {l : List (Int × Int)} {x z : Int × Int} (h : x ∈ l) (hz : l.getLast? = some z) (hn : x ≠ z) : x ∈ l.dropLast := by
  obtain ⟨k, rfl⟩ := List.getLast?_eq_some_iff.1 hz
  rw [List.dropLast_concat]
  rcases List.mem_append.1 h with h | h
  · exact h
  · exact absurd (by simpa using h) hn
theorem Hul.mem {s : List (Int × Int)} {m M : Int × Int} {L U : List (Int × Int)} (h : Hul s m M L U) (x : Int × Int) : x ∈ ring m M L U ↔ x ∈ m :: L ∨ x ∈ M :: U := by
  have hne : m ≠ M := fun e => by have := h.lt; rw [e] at this; exact this.irr
  have h1 : m ∈ (m :: L).dropLast := mem_drop (List.mem_cons_self ..) h.ll hne
  have h2 : M ∈ (M :: U).dropLast := mem_drop (List.mem_cons_self ..) h.lu (fun e => hne e.symm)
  unfold ring
  rw [List.mem_append]
  constructor
  · rintro (k | k)
    · exact Or.inl (List.dropLast_subset _ k)
    · exact Or.inr (List.dropLast_subset _ k)
  · rintro (k | k)
    · by_cases e : x = M
      · rw [e]; exact Or.inr h2
      · exact Or.inl (mem_drop k h.ll e)
    · by_cases e : x = m
      · rw [e]; exact Or.inl h1
      · exact Or.inr (mem_drop k h.lu e)
theorem Hul.unique {s s' : List (Int × Int)} {m M m' M' : Int × Int} {L U L' U' : List (Int × Int)} (h : Hul s m M L U) (h' : Hul s' m' M' L' U') (hs : ∀ x, x ∈ s' → x ∈ s) (hr : ∀ x, x ∈ m :: L ∨ x ∈ M :: U → x ∈ s') :
    m = m' ∧ M = M' ∧ L = L' ∧ U = U' := by
  have em : m = m' := by
    rcases h'.lo m (hr m (Or.inl (List.mem_cons_self ..))) with e | e
    · exact e
    · rcases h.lo m' (hs m' (h'.ml m' (List.mem_cons_self ..))) with k | k
      · exact k.symm
      · exact (e.trans k).irr.elim
  have eM : M = M' := by
    rcases h'.hi M (hr M (Or.inr (List.mem_cons_self ..))) with e | e
    · exact e
    · rcases h.hi M' (hs M' (h'.mu M' (List.mem_cons_self ..))) with k | k
      · exact k.symm
      · exact (e.trans k).irr.elim
  subst em eM
  have eL : L = L' := FC_unique (Q := (· ∈ s')) (M := M) L L' m (FC.weaken hs _ h.fl) h'.fl h.ll h'.ll (fun x hx => hr x (Or.inl hx)) h'.ml
  have hmapl : ∀ (V : List (Int × Int)) (z : Int × Int), (M :: V).getLast? = some z → (ng M :: V.map ng).getLast? = some (ng z) := fun V z e => by
    have : ng M :: V.map ng = (M :: V).map ng := rfl
    rw [this, List.getLast?_map, e]; rfl
  have hmm : ∀ (V : List (Int × Int)), (∀ x ∈ M :: V, x ∈ s') → ∀ x ∈ ng M :: V.map ng, ng x ∈ s' := fun V hV x hx => by
    have : x ∈ (M :: V).map ng := hx
    obtain ⟨y, hy, rfl⟩ := List.mem_map.1 this
    rw [ng_ng]; exact hV y hy
  have eU : U.map ng = U'.map ng := FC_unique (Q := fun q => ng q ∈ s') (M := ng m) (U.map ng) (U'.map ng) (ng M) (FC.weaken (fun q => hs (ng q)) _ h.fu) h'.fu (hmapl U m h.lu) (hmapl U' m h'.lu) (hmm U (fun x hx => hr x (Or.inr hx))) (hmm U' h'.mu)
  refine ⟨rfl, rfl, eL, ?_⟩
  have := congrArg (List.map ng) eU
  rwa [map_ng_ng, map_ng_ng] at this

theorem corners_ring {ps : List (Int × Int)} (h2 : (sdL ps).length ≠ 1) {m M : Int × Int} {L U : List (Int × Int)} (e : chainL (sdL ps) = m :: L) (e' : chainL (sdL ps).reverse = M :: U) : cornersL ps = ring m M L U := by
  unfold cornersL ring; rw [if_neg h2, e, e']
/-- The corners of the corners are the corners. -/
theorem corners_idem (ps : List (Int × Int)) (h1 : 1 ≤ ps.length) : cornersL (cornersL ps) = cornersL ps := by
  have hpos := sdL_pos ps h1
  by_cases h : (sdL ps).length = 1
  · obtain ⟨m, hm⟩ := List.length_eq_one_iff.1 h
    have hc : cornersL ps = [m] := by unfold cornersL; rw [if_pos h, hm]
    rw [hc]
    have hs : sdL [m] = [m] := rise_ext _ _ (sdL_rise _) (List.pairwise_singleton _ _) (fun x => mem_sdL _ x)
    unfold cornersL; rw [hs]; rfl
  · obtain ⟨m, M, L, U, hH, e, e'⟩ := hul_of (sdL_rise ps) (by omega)
    have hc := corners_ring h e e'
    rw [hc]
    have hmem : ∀ x, x ∈ sdL (ring m M L U) ↔ x ∈ m :: L ∨ x ∈ M :: U := fun x => by rw [mem_sdL, hH.mem]
    have h2 : 2 ≤ (sdL (ring m M L U)).length := by
      have a := (hmem m).2 (Or.inl (List.mem_cons_self ..))
      have b := (hmem M).2 (Or.inr (List.mem_cons_self ..))
      have hne : m ≠ M := fun e => by have := hH.lt; rw [e] at this; exact this.irr
      match hl : sdL (ring m M L U), a, b with
      | [x], a, b => simp at a b; exact absurd (a.trans b.symm) hne
      | _ :: _ :: _, _, _ => simp
    obtain ⟨m', M', L', U', hH', k, k'⟩ := hul_of (sdL_rise (ring m M L U)) h2
    obtain ⟨rfl, rfl, rfl, rfl⟩ := hH.unique hH' (fun x hx => by
      rcases (hmem x).1 hx with h | h
      · exact hH.ml x h
      · exact hH.mu x h) (fun x hx => (hmem x).2 hx)
    exact corners_ring (by omega) k k'

end Go.Proofs.Ytbdofhoifhpbnaa
