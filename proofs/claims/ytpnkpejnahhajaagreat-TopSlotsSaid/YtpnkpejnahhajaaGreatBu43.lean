/- One chain of a hull. -/
import Derived.Test.YtpnkpejnahhajaaGreatBu42
import Derived.Test.YtpnkpejnahhajaaGreatBu27
namespace Go.Proofs.YtpnkpejnahhajaaGreat
open Go.RowKit
set_option linter.unusedSimpArgs false

def tri (a b c : Int × Int) : Int := sgn (crs a.1 a.2 b.1 b.2 c.1 c.2)
/-- The stack, its top first, behind the pops for p. -/
def popR (p : Int × Int) : List (Int × Int) → List (Int × Int)
  | b :: a :: r => if tri a b p = 1 then b :: a :: r else popR p (a :: r)
  | l => l
def chainR : List (Int × Int) → List (Int × Int) → List (Int × Int)
  | st, [] => st
  | st, p :: ps => chainR (p :: popR p st) ps
def chainL (ps : List (Int × Int)) : List (Int × Int) := (chainR [] ps).reverse
theorem popR_len (p : Int × Int) : ∀ l, (popR p l).length ≤ l.length
  | [] => by simp [popR]
  | [_] => by simp [popR]
  | b :: a :: r => by
    have := popR_len p (a :: r)
    unfold popR; split <;> simp at * <;> omega
theorem popR_mem (p : Int × Int) : ∀ l, ∀ x ∈ popR p l, x ∈ l
  | [], x, h => by simp [popR] at h
  | [_], x, h => by simpa [popR] using h
  | b :: a :: r, x, h => by
    unfold popR at h
    split at h
    · exact h
    · exact List.mem_cons_of_mem _ (popR_mem p (a :: r) x h)

/-- The cells for m points from o on are there, and may be written. -/
def Room (w : World) (g o m : Nat) : Prop := ∀ j, j < m * 2 → (w.cell? ⟨g, o + j, none⟩).isSome = true ∧ w.frozen? ⟨g, o + j, none⟩ = false
/-- In block g nothing has turned outside the cells for m points from o on. -/
def Out (g o m : Nat) (w w' : World) : Prop := Gb g w w' ∧ (∀ j, (j < o ∨ o + m * 2 ≤ j) → w'.cell? ⟨g, j, none⟩ = w.cell? ⟨g, j, none⟩) ∧ ∀ j, w'.frozen? ⟨g, j, none⟩ = w.frozen? ⟨g, j, none⟩
theorem Out.refl (g o m : Nat) (w : World) : Out g o m w w := ⟨Gb.refl _ _, fun _ _ => rfl, fun _ => rfl⟩
theorem Out.trans {g o m : Nat} {a b c : World} (h : Out g o m a b) (k : Out g o m b c) : Out g o m a c :=
  ⟨h.1.trans k.1, fun j hj => (k.2.1 j hj).trans (h.2.1 j hj), fun j => (k.2.2 j).trans (h.2.2 j)⟩
theorem Out.of {w w' : World} (h : Gr w w') (g o m : Nat) (hg : g < w.heap.size) : Out g o m w w' :=
  ⟨Gb.of h g, fun j _ => Below.cell (p := ⟨g, j, none⟩) h hg, fun j => Below.frozen (p := ⟨g, j, none⟩) h hg⟩
theorem Out.many {g o m : Nat} {a w : World} (h : Out g o m a w) (s : Nat) (vs : List Value) (h1 : o ≤ s) (h2 : s + vs.length ≤ o + m * 2) : Out g o m a (w.setCells g s vs) :=
  ⟨h.1.many s vs, fun j hj => (World.cell?_setCells_out g vs s w ⟨g, j, none⟩ (fun _ _ => by show j < s ∨ s + vs.length ≤ j; omega)).trans (h.2.1 j hj), fun j => (frozen_many g _ vs s w).trans (h.2.2 j)⟩
theorem Room.keep {w w' : World} {g o m : Nat} (h : Room w g o m) (hg : Gr w w') (hb : g < w.heap.size) : Room w' g o m := fun j hj => by
  obtain ⟨h1, h2⟩ := h j hj
  exact ⟨by rw [Below.cell (p := ⟨g, o + j, none⟩) hg hb]; exact h1, (Below.frozen (p := ⟨g, o + j, none⟩) hg hb).trans h2⟩
theorem Room.many {w : World} {g o m : Nat} (h : Room w g o m) (s : Nat) (vs : List Value) (h1 : o ≤ s) (h2 : s + vs.length ≤ o + m * 2) : Room (w.setCells g s vs) g o m := fun j hj => by
  refine ⟨?_, (frozen_many g _ vs s w).trans (h j hj).2⟩
  by_cases e : s ≤ o + j ∧ o + j < s + vs.length
  · have := World.cell?_setCells_in g vs s w (fun i hi => by
      have h' := (h (s + i - o) (by omega)).1
      rwa [show o + (s + i - o) = s + i by omega] at h') (o + j - s) (by omega)
    rw [show s + (o + j - s) = o + j by omega] at this
    rw [this]; rfl
  · rw [World.cell?_setCells_out g vs s w ⟨g, o + j, none⟩ (fun _ _ => by show o + j < s ∨ s + vs.length ≤ o + j; omega)]
    exact (h j hj).1
/-- One point more. -/
theorem Own.snoc {w : World} {g o m : Nat} {ps : List (Int × Int)} (h : Own w g o ps) (hr : Room w g o m) (hm : ps.length < m) (p : Int × Int) :
    Own (w.setCells g (o + ps.length * 2) [.int .i64 p.1, .int .i64 p.2]) g o (ps ++ [p]) := fun i hi => by
  have hi' : i < ps.length + 1 := by simpa using hi
  have hin := World.cell?_setCells_in g [Value.int .i64 p.1, .int .i64 p.2] (o + ps.length * 2) w (fun j hj => by
      have hj' : j < 2 := by simpa using hj
      have h' := (hr (ps.length * 2 + j) (by omega)).1
      rwa [show o + (ps.length * 2 + j) = o + ps.length * 2 + j by omega] at h')
  by_cases e : i = ps.length
  · subst e
    have h0 := hin 0 (by simp)
    have h1 := hin 1 (by simp)
    have e2 : (ps ++ [p]).getD ps.length (0, 0) = p := by rw [List.getD_eq_getElem?_getD, List.getElem?_append_right (Nat.le_refl _)]; simp
    rw [e2]
    have f0 := (hr (ps.length * 2) (by omega)).2
    have f1 := (hr (ps.length * 2 + 1) (by omega)).2
    exact ⟨⟨h0, h1⟩, (frozen_many g _ _ _ _).trans f0, (frozen_many g _ _ _ _).trans f1⟩
  · obtain ⟨⟨k1, k2⟩, k3, k4⟩ := h i (by omega)
    have e2 : (ps ++ [p]).getD i (0, 0) = ps.getD i (0, 0) := by rw [List.getD_eq_getElem?_getD, List.getElem?_append_left (by omega), ← List.getD_eq_getElem?_getD]
    rw [e2]
    refine ⟨⟨?_, ?_⟩, (frozen_many g _ _ _ _).trans k3, (frozen_many g _ _ _ _).trans k4⟩
    · rw [World.cell?_setCells_out g _ _ _ _ (fun _ _ => Or.inl (by show o + i * 2 < o + ps.length * 2; omega))]; exact k1
    · rw [World.cell?_setCells_out g _ _ _ _ (fun _ _ => Or.inl (by show o + i * 2 + 1 < o + ps.length * 2; omega))]; exact k2
theorem Own.front {w : World} {g o : Nat} {ps qs : List (Int × Int)} (h : Own w g o (ps ++ qs)) : Own w g o ps := fun i hi => by
  have := h i (by simp; omega)
  rwa [show (ps ++ qs).getD i (0, 0) = ps.getD i (0, 0) by rw [List.getD_eq_getElem?_getD, List.getElem?_append_left hi, ← List.getD_eq_getElem?_getD]] at this

def lenOf : Value → Nat | .slice _ n _ => n | _ => 0
def ChainPost (ps : List (Int × Int)) (g o m : Nat) (w : World) (e : Ending) (w' : World) : Prop :=
  e = .returned (.slice (some ⟨g, o, none⟩) (chainL ps).length m) ∧ Own w' g o (chainL ps) ∧ Out g o m w w'
def AllCo (l : List (Int × Int)) : Prop := ∀ p ∈ l, Co p.1 ∧ Co p.2

set_option maxRecDepth 100000 in
set_option maxHeartbeats 4000000 in
theorem chain_any (g o b off n c m : Nat) (ps : List (Int × Int)) (w : World) (hn : ps.length = n) (hl : n ≤ 512) (hm : n ≤ m) (hm2 : m ≤ 4096) (hp : Pts w (some ⟨b, off, none⟩) ps) (hv : Cos ps) (hR : Room w g o m) (hgs : g < w.heap.size) (hbg : b ≠ g) :
    Calls Tryz.prog 85 #[.slice (some ⟨g, o, none⟩) 0 m, .slice (some ⟨b, off, none⟩) n c] w (ChainPost ps g o m w) := by
  obtain ⟨i0, hi, hz0, hz1, hz2⟩ := info_parts Tryz.info23
  have HI := Lib.hid (And.intro hi (And.intro hz0 (And.intro hz1 hz2)))
  have HN := Lib.hid hn
  have HP := Lib.hid hp
  have HV := Lib.hid hv
  have HR := Lib.hid hR
  clear hn hp hv hi hz0 hz1 hz2 hR
  go_enter Tryz.func85, Tryz.ntmps85
  go_wp2_with fail
  go_loopw [0, 9] (fun sv i wr => ∃ (k : Nat) (rs : List (Int × Int)), k ≤ n ∧ i = .int .i64 k ∧ sv = .slice (some ⟨g, o, none⟩) rs.length m ∧ rs.length ≤ k ∧ Hid (chainR rs (ps.drop k) = chainR [] ps) ∧ Hid (AllCo rs) ∧ Hid (Own wr g o rs.reverse) ∧ Hid (Out g o m w wr ∧ Room wr g o m)) (fun _ i _ => n - (intOf i).toNat)
  case atStart => exact ⟨0, [], Nat.zero_le _, rfl, rfl, Nat.le_refl _, Lib.hid (by simp), Lib.hid (fun p h => by cases h), Lib.hid (fun i h => by simp at h), Lib.hid ⟨Out.refl _ _ _ _, HR.out⟩⟩
  case round =>
    obtain ⟨wo, rfl⟩ : ∃ wo : World, wo = wr := ⟨_, rfl⟩
    obtain ⟨k, rs, hk, rfl, rfl, hrk, hch, hco, hown, hout⟩ := hrel
    have hgo : g < wo.heap.size := Nat.lt_of_lt_of_le hgs hout.out.1.1.size
    by_cases hlt : k < n
    · obtain ⟨b', off', e', hx0, hy0⟩ := Pts_at HP.out (k := k) (by have := HN.out; omega)
      obtain ⟨rfl, rfl⟩ : b = b' ∧ off = off' := by simpa using e'
      have hbs : b < w.heap.size := World.block_lt_of_cell? w ⟨b, off + k * 2, none⟩ hx0
      have hx : wo.cell? ⟨b, off + k * 2, none⟩ = some (.int .i64 (ps.getD k (0, 0)).1) := (hout.out.1.1.cell hbs hbg).trans hx0
      have hy : wo.cell? ⟨b, off + k * 2 + 1, none⟩ = some (.int .i64 (ps.getD k (0, 0)).2) := (hout.out.1.1.cell hbs hbg).trans hy0
      clear hx0 hy0 e'
      obtain ⟨px, py⟩ := HV.out k
      have HCH : Hid (chainR (ps.getD k (0, 0) :: popR (ps.getD k (0, 0)) rs) (ps.drop (k + 1)) = chainR [] ps) := Lib.hid (by
        have h := hch.out
        rw [List.drop_eq_getElem_cons (by have := HN.out; omega)] at h
        rw [List.getD_eq_getElem?_getD, List.getElem?_eq_getElem (by have := HN.out; omega)]
        exact h)
      clear hch
      generalize ps.getD k (0, 0) = p at hx hy px py HCH
      obtain ⟨x, y⟩ := p
      dsimp only at hx hy px py
      go_wp2_with fail
      generalize hW : World.alloc wo _ = W
      have hgW : Gr wo W := by rw [← hW]; exact (Gr.refl _).alloc _
      have l0 : W.cell? ⟨wo.heap.size, 0, none⟩ = some (.int .i64 x) := by rw [← hW]; exact alloc_new rfl rfl
      have l1 : W.cell? ⟨wo.heap.size, 1, none⟩ = some (.int .i64 y) := by rw [← hW]; exact alloc_new rfl rfl
      clear hW hx hy
      have hown2 := Lib.hid (hown.out.keep hgW)
      clear hown
      go_loopw [0] (fun sv wr => ∃ (st : List (Int × Int)) (L : Nat), sv = .slice (some ⟨g, o, none⟩) L m ∧ Hid (st.length = L) ∧ L ≤ k ∧ Hid (popR (x, y) rs = popR (x, y) st) ∧ Hid (AllCo st) ∧ Hid (Own W g o st.reverse) ∧ Gr W wr) (fun sv _ => lenOf sv)
      case atStart => exact ⟨rs, _, rfl, Lib.hid rfl, hrk, Lib.hid rfl, hco, hown2, Gr.refl _⟩
      case round =>
        obtain ⟨st, L, rfl, HLL, hLk, hpop, hsc, hst, hgX⟩ := hrel
        replace l0 := hgX.keep l0
        replace l1 := hgX.keep l1
        by_cases h2 : 2 ≤ L
        · have hd : decide ((1 : Int) < (L : Int)) = true := decide_eq_true (by omega)
          obtain ⟨q2, q1, r, hst2⟩ : ∃ q2 q1 r, st = q2 :: q1 :: r := by
            have hll := HLL.out
            match st, hll with
            | [], hll => simp at hll; omega
            | [_], hll => simp at hll; omega
            | q2 :: q1 :: r, _ => exact ⟨q2, q1, r, rfl⟩
          have hlr : r.length + 2 = L := by have := HLL.out; rw [hst2] at this; simpa using this
          obtain ⟨⟨a0, a1⟩, -⟩ := hst.out (L - 2) (by rw [List.length_reverse]; have := HLL.out; omega)
          obtain ⟨⟨b0, b1⟩, -⟩ := hst.out (L - 1) (by rw [List.length_reverse]; have := HLL.out; omega)
          have g1 : st.reverse.getD (L - 2) (0, 0) = q1 := by
            rw [hst2, List.reverse_cons, List.reverse_cons, List.getD_eq_getElem?_getD, List.getElem?_append_left (by simp; omega), List.getElem?_append_right (by simp; omega)]
            simp [show L - 2 - r.length = 0 by omega]
          have g2 : st.reverse.getD (L - 1) (0, 0) = q2 := by
            rw [hst2, List.reverse_cons, List.reverse_cons, List.getD_eq_getElem?_getD, List.getElem?_append_right (by simp; omega)]
            simp [show L - 1 - (r.length + 1) = 0 by omega]
          rw [g1] at a0 a1
          rw [g2] at b0 b1
          replace a0 := hgX.keep a0
          replace a1 := hgX.keep a1
          replace b0 := hgX.keep b0
          replace b1 := hgX.keep b1
          obtain ⟨c1, c2⟩ := hsc.out q1 (by rw [hst2]; simp)
          obtain ⟨c3, c4⟩ := hsc.out q2 (by rw [hst2]; simp)
          have HST := Lib.hid hst2
          clear hst2 g1 g2 hlr
          obtain ⟨u, u'⟩ := q1
          obtain ⟨v, v'⟩ := q2
          dsimp only at a0 a1 b0 b1 c1 c2 c3 c4
          have i1 : IntKind.i64.wrap ((L : Int) - 2) = (L : Int) - 2 := IntWalk.i64_in _ (by omega)
          have i2 : IntKind.i64.wrap ((L : Int) - 1) = (L : Int) - 1 := IntWalk.i64_in _ (by omega)
          have i3 : ((L : Int) - 2).toNat = L - 2 := by omega
          have i4 : ((L : Int) - 1).toNat = L - 1 := by omega
          have i5 : (2 : Int) ≤ (L : Int) := by omega
          have i6 : (0 : Int) ≤ (L : Int) - 2 := by omega
          have i7 : (0 : Int) ≤ (L : Int) - 1 := by omega
          have i8 : (1 : Int) ≤ (L : Int) := by omega
          have i9 : (L : Int) - 2 < (L : Int) := by omega
          have i10 : (L : Int) - 1 < (L : Int) := by omega
          by_cases ht : tri (u, u') (v, v') (x, y) = 1
          · have HT := Lib.hid ht
            clear ht
            go_wp2_with fail
            refine wp_region_held_drew (S := (fun W' => Gr W W' ∧ W'.cell? ⟨wo.heap.size, 0, none⟩ = some (.int .i64 x) ∧ W'.cell? ⟨wo.heap.size, 1, none⟩ = some (.int .i64 y) ∧ W'.cell? ⟨g, o + (L - 2) * 2, none⟩ = some (.int .i64 u) ∧ W'.cell? ⟨g, o + (L - 2) * 2 + 1, none⟩ = some (.int .i64 u') ∧ W'.cell? ⟨g, o + (L - 1) * 2, none⟩ = some (.int .i64 v) ∧ W'.cell? ⟨g, o + (L - 1) * 2 + 1, none⟩ = some (.int .i64 v'))) ?_ ?_ (fun hHeld => ?_)
            · kernel_rfl
            · ((try dsimp only); ((try go_split_ands); (repeat' apply And.intro) <;> (repeat (first | assumption | (exact Gr.refl _) | (refine Gr.drew ?_) | (refine Gr.alloc ?_ _) | (refine alloc_old ?_) | (refine Gr.keep (by assumption) ?_) | (refine Gr.trans ?_ (by assumption))))))
            refine take_in (i := 0) (v := ?_) (d := (some 13)) rfl rfl ?_ ?_ ?_ ?_ ?_ ?_ ?_ ?_
            rotate_left
            · kernel_rfl
            · kernel_rfl
            · kernel_rfl
            · (intro _ _ _ hq; exact hq)
            · rfl
            · (intro _w hSw; (try dsimp only at hSw); go_simp; try with_reducible rfl)
            · assumption
            try simp only [Act.put, List.setIfInBounds_toArray, List.set_cons_zero, List.set_cons_succ]
            refine take_in (i := 1) (v := ?_) (d := (some 14)) rfl rfl ?_ ?_ ?_ ?_ ?_ ?_ ?_ ?_
            rotate_left
            · kernel_rfl
            · kernel_rfl
            · kernel_rfl
            · (intro _ _ _ hq; exact hq)
            · rfl
            · (intro _w hSw; (try dsimp only at hSw); go_simp; try with_reducible rfl)
            · assumption
            try simp only [Act.put, List.setIfInBounds_toArray, List.set_cons_zero, List.set_cons_succ]
            refine take_in (i := 2) (v := ?_) (d := (some 15)) rfl rfl ?_ ?_ ?_ ?_ ?_ ?_ ?_ ?_
            rotate_left
            · kernel_rfl
            · kernel_rfl
            · kernel_rfl
            · (intro _ _ _ hq; exact hq)
            · rfl
            · (intro _w hSw; (try dsimp only at hSw); go_simp; try with_reducible rfl)
            · assumption
            try simp only [Act.put, List.setIfInBounds_toArray, List.set_cons_zero, List.set_cons_succ]
            refine take_in (i := 3) (v := ?_) (d := (some 16)) rfl rfl ?_ ?_ ?_ ?_ ?_ ?_ ?_ ?_
            rotate_left
            · kernel_rfl
            · kernel_rfl
            · kernel_rfl
            · (intro _ _ _ hq; exact hq)
            · rfl
            · (intro _w hSw; (try dsimp only at hSw); go_simp; try with_reducible rfl)
            · assumption
            try simp only [Act.put, List.setIfInBounds_toArray, List.set_cons_zero, List.set_cons_succ]
            refine take_in (i := 4) (v := ?_) (d := (some 17)) rfl rfl ?_ ?_ ?_ ?_ ?_ ?_ ?_ ?_
            rotate_left
            · kernel_rfl
            · kernel_rfl
            · kernel_rfl
            · (intro _ _ _ hq; exact hq)
            · rfl
            · (intro _w hSw; (try dsimp only at hSw); go_simp; try with_reducible rfl)
            · assumption
            try simp only [Act.put, List.setIfInBounds_toArray, List.set_cons_zero, List.set_cons_succ]
            refine take_in (i := 5) (v := ?_) (d := (some 18)) rfl rfl ?_ ?_ ?_ ?_ ?_ ?_ ?_ ?_
            rotate_left
            · kernel_rfl
            · kernel_rfl
            · kernel_rfl
            · (intro _ _ _ hq; exact hq)
            · rfl
            · (intro _w hSw; (try dsimp only at hSw); go_simp; try with_reducible rfl)
            · assumption
            try simp only [Act.put, List.setIfInBounds_toArray, List.set_cons_zero, List.set_cons_succ]
            refine take_in (i := 6) (v := ?_) (d := (some 19)) rfl rfl ?_ ?_ ?_ ?_ ?_ ?_ ?_ ?_
            rotate_left
            · kernel_rfl
            · kernel_rfl
            · kernel_rfl
            · (intro _ _ _ hq; exact hq)
            · rfl
            · (intro _w hSw; (try dsimp only at hSw); go_simp; try with_reducible rfl)
            · assumption
            try simp only [Act.put, List.setIfInBounds_toArray, List.set_cons_zero, List.set_cons_succ]
            refine take_in (i := 7) (v := ?_) (d := (some 20)) rfl rfl ?_ ?_ ?_ ?_ ?_ ?_ ?_ ?_
            rotate_left
            · kernel_rfl
            · kernel_rfl
            · kernel_rfl
            · (intro _ _ _ hq; exact hq)
            · rfl
            · (intro _w hSw; (try dsimp only at hSw); go_simp; try with_reducible rfl)
            · assumption
            try simp only [Act.put, List.setIfInBounds_toArray, List.set_cons_zero, List.set_cons_succ]
            refine take_in (i := 8) (v := ?_) (d := (some 21)) rfl rfl ?_ ?_ ?_ ?_ ?_ ?_ ?_ ?_
            rotate_left
            · kernel_rfl
            · kernel_rfl
            · kernel_rfl
            · (intro _ _ _ hq; exact hq)
            · rfl
            · (intro _w hSw; (try dsimp only at hSw); go_simp; try with_reducible rfl)
            · assumption
            try simp only [Act.put, List.setIfInBounds_toArray, List.set_cons_zero, List.set_cons_succ]
            refine take_in (i := 9) (v := ?_) (d := (some 22)) rfl rfl ?_ ?_ ?_ ?_ ?_ ?_ ?_ ?_
            rotate_left
            · kernel_rfl
            · kernel_rfl
            · kernel_rfl
            · (intro _ _ _ hq; exact hq)
            · rfl
            · (intro _w hSw; (try dsimp only at hSw); go_simp; try with_reducible rfl)
            · assumption
            try simp only [Act.put, List.setIfInBounds_toArray, List.set_cons_zero, List.set_cons_succ]
            refine take_in (i := 10) (v := ?_) (d := (some 23)) rfl rfl ?_ ?_ ?_ ?_ ?_ ?_ ?_ ?_
            rotate_left
            · kernel_rfl
            · kernel_rfl
            · kernel_rfl
            · (intro _ _ _ hq; exact hq)
            · rfl
            · (intro _w hSw; (try dsimp only at hSw); go_simp; try with_reducible rfl)
            · assumption
            try simp only [Act.put, List.setIfInBounds_toArray, List.set_cons_zero, List.set_cons_succ]
            refine take_in (i := 11) (v := ?_) (d := (some 24)) rfl rfl ?_ ?_ ?_ ?_ ?_ ?_ ?_ ?_
            rotate_left
            · kernel_rfl
            · kernel_rfl
            · kernel_rfl
            · (intro _ _ _ hq; exact hq)
            · rfl
            · (intro _w hSw; (try dsimp only at hSw); go_simp; try with_reducible rfl)
            · assumption
            try simp only [Act.put, List.setIfInBounds_toArray, List.set_cons_zero, List.set_cons_succ]
            refine take_in (i := 12) (v := ?_) (d := (some 25)) rfl rfl ?_ ?_ ?_ ?_ ?_ ?_ ?_ ?_
            rotate_left
            · kernel_rfl
            · kernel_rfl
            · kernel_rfl
            · (intro _ _ _ hq; exact hq)
            · rfl
            · (intro _w hSw; (try dsimp only at hSw); go_simp; try with_reducible rfl)
            · assumption
            try simp only [Act.put, List.setIfInBounds_toArray, List.set_cons_zero, List.set_cons_succ]
            refine take_in (i := 13) (v := ?_) (d := (some 26)) rfl rfl ?_ ?_ ?_ ?_ ?_ ?_ ?_ ?_
            rotate_left
            · kernel_rfl
            · kernel_rfl
            · kernel_rfl
            · (intro _ _ _ hq; exact hq)
            · rfl
            · (intro _w hSw; (try dsimp only at hSw); go_simp; try with_reducible rfl)
            · assumption
            try simp only [Act.put, List.setIfInBounds_toArray, List.set_cons_zero, List.set_cons_succ]
            refine take_in (i := 14) (v := ?_) (d := (some 27)) rfl rfl ?_ ?_ ?_ ?_ ?_ ?_ ?_ ?_
            rotate_left
            · kernel_rfl
            · kernel_rfl
            · kernel_rfl
            · (intro _ _ _ hq; exact hq)
            · rfl
            · (intro _w hSw; (try dsimp only at hSw); go_simp; try with_reducible rfl)
            · assumption
            try simp only [Act.put, List.setIfInBounds_toArray, List.set_cons_zero, List.set_cons_succ]
            refine take_in (i := 15) (v := ?_) (d := (some 28)) rfl rfl ?_ ?_ ?_ ?_ ?_ ?_ ?_ ?_
            rotate_left
            · kernel_rfl
            · kernel_rfl
            · kernel_rfl
            · (intro _ _ _ hq; exact hq)
            · rfl
            · (intro _w hSw; (try dsimp only at hSw); go_simp; try with_reducible rfl)
            · assumption
            try simp only [Act.put, List.setIfInBounds_toArray, List.set_cons_zero, List.set_cons_succ]
            refine take_in (i := 16) (v := ?_) (d := (some 29)) rfl rfl ?_ ?_ ?_ ?_ ?_ ?_ ?_ ?_
            rotate_left
            · kernel_rfl
            · kernel_rfl
            · kernel_rfl
            · (intro _ _ _ hq; exact hq)
            · rfl
            · (intro _w hSw; (try dsimp only at hSw); go_simp; try with_reducible rfl)
            · assumption
            try simp only [Act.put, List.setIfInBounds_toArray, List.set_cons_zero, List.set_cons_succ]
            refine wpAnyH_ready (rs := [17]) ?_ ?_ ?_
            · kernel_rfl
            · simp
            refine (AllReadyH.cons rfl (fun K hK => ?_) AllReadyH.nil)
            go_simp
            first | (go_at_call 79; refine (turn_is _ _ _ _ _ _ _ 1 HT.out c1 c2 c3 c4 px py).mono ?_; rintro e w3 ⟨rfl, hb⟩)
            refine hK.out _ _ ?_ (fun hHeld => ?_)
            · ((try dsimp only); ((try go_split_ands); (repeat' apply And.intro) <;> (repeat (first | assumption | (exact Gr.refl _) | (refine Gr.drew ?_) | (refine Gr.alloc ?_ _) | (refine alloc_old ?_) | (refine Gr.keep (by assumption) ?_) | (refine Gr.trans ?_ (by assumption))))))
            clear hK K
            try simp only [Act.put, List.setIfInBounds_toArray, List.set_cons_zero, List.set_cons_succ]
            refine take_in (i := 18) (v := ?_) (d := (some 31)) rfl rfl ?_ ?_ ?_ ?_ ?_ ?_ ?_ ?_
            rotate_left
            · kernel_rfl
            · kernel_rfl
            · kernel_rfl
            · (intro _ _ _ hq; exact hq)
            · rfl
            · (intro _w hSw; (try dsimp only at hSw); go_simp; try with_reducible rfl)
            · assumption
            try simp only [Act.put, List.setIfInBounds_toArray, List.set_cons_zero, List.set_cons_succ]
            refine take_in (i := 19) (v := ?_) (d := (some 32)) rfl rfl ?_ ?_ ?_ ?_ ?_ ?_ ?_ ?_
            rotate_left
            · kernel_rfl
            · kernel_rfl
            · kernel_rfl
            · (intro _ _ _ hq; exact hq)
            · rfl
            · (intro _w hSw; (try dsimp only at hSw); go_simp; try with_reducible rfl)
            · assumption
            try simp only [Act.put, List.setIfInBounds_toArray, List.set_cons_zero, List.set_cons_succ]
            refine wpAnyH_done ?_ ?_ _
            · kernel_rfl
            rotate_left
            clear hgX l0 l1 a0 a1 b0 b1 i1 i2 i3 i4 i5 i6 i7 i8 i9 i10 hb
            obtain ⟨hgX, l0, l1, -⟩ := hHeld
            have HPOP : Hid (st = popR (x, y) rs) := Lib.hid (by rw [hpop.out, HST.out, popR, if_pos HT.out])
            have hLm : L + 1 ≤ m := by omega
            have hox : g < w3.heap.size := Nat.lt_of_lt_of_le hgo (hgW.trans hgX).size
            have hRX : Room w3 g o m := hout.out.2.keep (hgW.trans hgX) hgo
            have hOX : Own w3 g o st.reverse := (hst.out.keep hgX)
            have HRX := Lib.hid hRX
            have HOX := Lib.hid hOX
            clear hRX hOX
            obtain ⟨hi, hz0, hz1, hz2⟩ := HI.out
            go_wp2_with (at_builtin; refine wpList_append_arg _ rfl _ _ 70 rfl 108 i0 _ 2 16 Tryz.underlying70 hi hz0 hz1 hz2 rfl (by decide) g o L m (flat2 st.reverse) rfl ?a1 ?a2 ⟨w3.heap.size, 0, none⟩ 1 1 [.int .i64 x, .int .i64 y] rfl rfl ?a3 ?a4 ?a5 ?a6 ?a7 ?a8 ?a9)
            case a1 => rw [flat2_len, List.length_reverse, HLL.out]
            case a2 => exact fun j u hu => alloc_old (flat2_cells HOX.out.pts j u hu)
            case a3 =>
              intro j u hj
              rw [Addr.add_lit]
              exact alloc_new rfl (by rw [Nat.zero_add]; simpa using hj)
            case a4 =>
              intro u hu
              simp at hu
              rcases hu with rfl | rfl <;> rfl
            case a5 =>
              intro _ j hj
              have hj2 : j < 2 := by simpa using hj
              obtain ⟨h1, h2⟩ := HRX.out (L * 2 + j) (by omega)
              rw [show o + (L * 2 + j) = o + L * 2 + j by omega] at h1 h2
              refine ⟨?_, ?_⟩
              · rw [World.cell?_alloc_lt _ _ _ (by exact hox)]; exact h1
              · exact (Below.frozen (B := w3.heap.size) ((Below.refl _ _).alloc (Nat.le_refl _) _) (p := ⟨g, _, none⟩) hox).trans h2
            case a6 => unfold maxLen; omega
            case a7 => omega
            case a9 => intro h; omega
            clear hi hz0 hz1 hz2
            go_roundw
            case rel =>
              have hg2 : Gr wo (w3.alloc (.cells #[.int .i64 x, .int .i64 y] 108)) := (hgW.trans hgX).alloc _
              have hR2 := hout.out.2.keep hg2 hgo
              have hO2 : Own (w3.alloc (.cells #[.int .i64 x, .int .i64 y] 108)) g o st.reverse := HOX.out.keep ((Gr.refl _).alloc _)
              have hll : st.reverse.length = L := by rw [List.length_reverse]; exact HLL.out
              have hsn := hO2.snoc hR2 (by omega) (x, y)
              rw [hll] at hsn
              refine ⟨k + 1, (x, y) :: st, by omega, by go_num, by rw [List.length_cons, HLL.out], by rw [List.length_cons, HLL.out]; omega, Lib.hid (by rw [HPOP.out]; exact HCH.out), Lib.hid ?_, Lib.hid (by rw [List.reverse_cons]; exact hsn), Lib.hid ⟨?_, ?_⟩⟩
              · intro q hq
                rcases List.mem_cons.1 hq with rfl | h
                · exact ⟨px, py⟩
                · exact hsc.out q h
              · exact (hout.out.1.trans (Out.of hg2 g o m hgo)).many _ _ (by omega) (by simp; omega)
              · exact hR2.many _ _ (by omega) (by simp; omega)
            case measure => simp [intOf]; omega
          · obtain ⟨t, ht0⟩ : ∃ t, tri (u, u') (v, v') (x, y) = t := ⟨_, rfl⟩
            have ht1 : (t != 1) = true := by rw [← ht0]; simpa using ht
            have HT := Lib.hid ht0
            have HTN := Lib.hid ht
            clear ht ht0
            go_wp2_with fail
            refine wp_region_held_drew (S := (fun W' => Gr W W' ∧ W'.cell? ⟨wo.heap.size, 0, none⟩ = some (.int .i64 x) ∧ W'.cell? ⟨wo.heap.size, 1, none⟩ = some (.int .i64 y) ∧ W'.cell? ⟨g, o + (L - 2) * 2, none⟩ = some (.int .i64 u) ∧ W'.cell? ⟨g, o + (L - 2) * 2 + 1, none⟩ = some (.int .i64 u') ∧ W'.cell? ⟨g, o + (L - 1) * 2, none⟩ = some (.int .i64 v) ∧ W'.cell? ⟨g, o + (L - 1) * 2 + 1, none⟩ = some (.int .i64 v'))) ?_ ?_ (fun hHeld => ?_)
            · kernel_rfl
            · ((try dsimp only); ((try go_split_ands); (repeat' apply And.intro) <;> (repeat (first | assumption | (exact Gr.refl _) | (refine Gr.drew ?_) | (refine Gr.alloc ?_ _) | (refine alloc_old ?_) | (refine Gr.keep (by assumption) ?_) | (refine Gr.trans ?_ (by assumption))))))
            refine take_in (i := 0) (v := ?_) (d := (some 13)) rfl rfl ?_ ?_ ?_ ?_ ?_ ?_ ?_ ?_
            rotate_left
            · kernel_rfl
            · kernel_rfl
            · kernel_rfl
            · (intro _ _ _ hq; exact hq)
            · rfl
            · (intro _w hSw; (try dsimp only at hSw); go_simp; try with_reducible rfl)
            · assumption
            try simp only [Act.put, List.setIfInBounds_toArray, List.set_cons_zero, List.set_cons_succ]
            refine take_in (i := 1) (v := ?_) (d := (some 14)) rfl rfl ?_ ?_ ?_ ?_ ?_ ?_ ?_ ?_
            rotate_left
            · kernel_rfl
            · kernel_rfl
            · kernel_rfl
            · (intro _ _ _ hq; exact hq)
            · rfl
            · (intro _w hSw; (try dsimp only at hSw); go_simp; try with_reducible rfl)
            · assumption
            try simp only [Act.put, List.setIfInBounds_toArray, List.set_cons_zero, List.set_cons_succ]
            refine take_in (i := 2) (v := ?_) (d := (some 15)) rfl rfl ?_ ?_ ?_ ?_ ?_ ?_ ?_ ?_
            rotate_left
            · kernel_rfl
            · kernel_rfl
            · kernel_rfl
            · (intro _ _ _ hq; exact hq)
            · rfl
            · (intro _w hSw; (try dsimp only at hSw); go_simp; try with_reducible rfl)
            · assumption
            try simp only [Act.put, List.setIfInBounds_toArray, List.set_cons_zero, List.set_cons_succ]
            refine take_in (i := 3) (v := ?_) (d := (some 16)) rfl rfl ?_ ?_ ?_ ?_ ?_ ?_ ?_ ?_
            rotate_left
            · kernel_rfl
            · kernel_rfl
            · kernel_rfl
            · (intro _ _ _ hq; exact hq)
            · rfl
            · (intro _w hSw; (try dsimp only at hSw); go_simp; try with_reducible rfl)
            · assumption
            try simp only [Act.put, List.setIfInBounds_toArray, List.set_cons_zero, List.set_cons_succ]
            refine take_in (i := 4) (v := ?_) (d := (some 17)) rfl rfl ?_ ?_ ?_ ?_ ?_ ?_ ?_ ?_
            rotate_left
            · kernel_rfl
            · kernel_rfl
            · kernel_rfl
            · (intro _ _ _ hq; exact hq)
            · rfl
            · (intro _w hSw; (try dsimp only at hSw); go_simp; try with_reducible rfl)
            · assumption
            try simp only [Act.put, List.setIfInBounds_toArray, List.set_cons_zero, List.set_cons_succ]
            refine take_in (i := 5) (v := ?_) (d := (some 18)) rfl rfl ?_ ?_ ?_ ?_ ?_ ?_ ?_ ?_
            rotate_left
            · kernel_rfl
            · kernel_rfl
            · kernel_rfl
            · (intro _ _ _ hq; exact hq)
            · rfl
            · (intro _w hSw; (try dsimp only at hSw); go_simp; try with_reducible rfl)
            · assumption
            try simp only [Act.put, List.setIfInBounds_toArray, List.set_cons_zero, List.set_cons_succ]
            refine take_in (i := 6) (v := ?_) (d := (some 19)) rfl rfl ?_ ?_ ?_ ?_ ?_ ?_ ?_ ?_
            rotate_left
            · kernel_rfl
            · kernel_rfl
            · kernel_rfl
            · (intro _ _ _ hq; exact hq)
            · rfl
            · (intro _w hSw; (try dsimp only at hSw); go_simp; try with_reducible rfl)
            · assumption
            try simp only [Act.put, List.setIfInBounds_toArray, List.set_cons_zero, List.set_cons_succ]
            refine take_in (i := 7) (v := ?_) (d := (some 20)) rfl rfl ?_ ?_ ?_ ?_ ?_ ?_ ?_ ?_
            rotate_left
            · kernel_rfl
            · kernel_rfl
            · kernel_rfl
            · (intro _ _ _ hq; exact hq)
            · rfl
            · (intro _w hSw; (try dsimp only at hSw); go_simp; try with_reducible rfl)
            · assumption
            try simp only [Act.put, List.setIfInBounds_toArray, List.set_cons_zero, List.set_cons_succ]
            refine take_in (i := 8) (v := ?_) (d := (some 21)) rfl rfl ?_ ?_ ?_ ?_ ?_ ?_ ?_ ?_
            rotate_left
            · kernel_rfl
            · kernel_rfl
            · kernel_rfl
            · (intro _ _ _ hq; exact hq)
            · rfl
            · (intro _w hSw; (try dsimp only at hSw); go_simp; try with_reducible rfl)
            · assumption
            try simp only [Act.put, List.setIfInBounds_toArray, List.set_cons_zero, List.set_cons_succ]
            refine take_in (i := 9) (v := ?_) (d := (some 22)) rfl rfl ?_ ?_ ?_ ?_ ?_ ?_ ?_ ?_
            rotate_left
            · kernel_rfl
            · kernel_rfl
            · kernel_rfl
            · (intro _ _ _ hq; exact hq)
            · rfl
            · (intro _w hSw; (try dsimp only at hSw); go_simp; try with_reducible rfl)
            · assumption
            try simp only [Act.put, List.setIfInBounds_toArray, List.set_cons_zero, List.set_cons_succ]
            refine take_in (i := 10) (v := ?_) (d := (some 23)) rfl rfl ?_ ?_ ?_ ?_ ?_ ?_ ?_ ?_
            rotate_left
            · kernel_rfl
            · kernel_rfl
            · kernel_rfl
            · (intro _ _ _ hq; exact hq)
            · rfl
            · (intro _w hSw; (try dsimp only at hSw); go_simp; try with_reducible rfl)
            · assumption
            try simp only [Act.put, List.setIfInBounds_toArray, List.set_cons_zero, List.set_cons_succ]
            refine take_in (i := 11) (v := ?_) (d := (some 24)) rfl rfl ?_ ?_ ?_ ?_ ?_ ?_ ?_ ?_
            rotate_left
            · kernel_rfl
            · kernel_rfl
            · kernel_rfl
            · (intro _ _ _ hq; exact hq)
            · rfl
            · (intro _w hSw; (try dsimp only at hSw); go_simp; try with_reducible rfl)
            · assumption
            try simp only [Act.put, List.setIfInBounds_toArray, List.set_cons_zero, List.set_cons_succ]
            refine take_in (i := 12) (v := ?_) (d := (some 25)) rfl rfl ?_ ?_ ?_ ?_ ?_ ?_ ?_ ?_
            rotate_left
            · kernel_rfl
            · kernel_rfl
            · kernel_rfl
            · (intro _ _ _ hq; exact hq)
            · rfl
            · (intro _w hSw; (try dsimp only at hSw); go_simp; try with_reducible rfl)
            · assumption
            try simp only [Act.put, List.setIfInBounds_toArray, List.set_cons_zero, List.set_cons_succ]
            refine take_in (i := 13) (v := ?_) (d := (some 26)) rfl rfl ?_ ?_ ?_ ?_ ?_ ?_ ?_ ?_
            rotate_left
            · kernel_rfl
            · kernel_rfl
            · kernel_rfl
            · (intro _ _ _ hq; exact hq)
            · rfl
            · (intro _w hSw; (try dsimp only at hSw); go_simp; try with_reducible rfl)
            · assumption
            try simp only [Act.put, List.setIfInBounds_toArray, List.set_cons_zero, List.set_cons_succ]
            refine take_in (i := 14) (v := ?_) (d := (some 27)) rfl rfl ?_ ?_ ?_ ?_ ?_ ?_ ?_ ?_
            rotate_left
            · kernel_rfl
            · kernel_rfl
            · kernel_rfl
            · (intro _ _ _ hq; exact hq)
            · rfl
            · (intro _w hSw; (try dsimp only at hSw); go_simp; try with_reducible rfl)
            · assumption
            try simp only [Act.put, List.setIfInBounds_toArray, List.set_cons_zero, List.set_cons_succ]
            refine take_in (i := 15) (v := ?_) (d := (some 28)) rfl rfl ?_ ?_ ?_ ?_ ?_ ?_ ?_ ?_
            rotate_left
            · kernel_rfl
            · kernel_rfl
            · kernel_rfl
            · (intro _ _ _ hq; exact hq)
            · rfl
            · (intro _w hSw; (try dsimp only at hSw); go_simp; try with_reducible rfl)
            · assumption
            try simp only [Act.put, List.setIfInBounds_toArray, List.set_cons_zero, List.set_cons_succ]
            refine take_in (i := 16) (v := ?_) (d := (some 29)) rfl rfl ?_ ?_ ?_ ?_ ?_ ?_ ?_ ?_
            rotate_left
            · kernel_rfl
            · kernel_rfl
            · kernel_rfl
            · (intro _ _ _ hq; exact hq)
            · rfl
            · (intro _w hSw; (try dsimp only at hSw); go_simp; try with_reducible rfl)
            · assumption
            try simp only [Act.put, List.setIfInBounds_toArray, List.set_cons_zero, List.set_cons_succ]
            refine wpAnyH_ready (rs := [17]) ?_ ?_ ?_
            · kernel_rfl
            · simp
            refine (AllReadyH.cons rfl (fun K hK => ?_) AllReadyH.nil)
            go_simp
            first | (go_at_call 79; refine (turn_is _ _ _ _ _ _ _ t HT.out c1 c2 c3 c4 px py).mono ?_; rintro e w3 ⟨rfl, hb⟩)
            refine hK.out _ _ ?_ (fun hHeld => ?_)
            · ((try dsimp only); ((try go_split_ands); (repeat' apply And.intro) <;> (repeat (first | assumption | (exact Gr.refl _) | (refine Gr.drew ?_) | (refine Gr.alloc ?_ _) | (refine alloc_old ?_) | (refine Gr.keep (by assumption) ?_) | (refine Gr.trans ?_ (by assumption))))))
            clear hK K
            try simp only [Act.put, List.setIfInBounds_toArray, List.set_cons_zero, List.set_cons_succ]
            refine take_in (i := 18) (v := ?_) (d := (some 31)) rfl rfl ?_ ?_ ?_ ?_ ?_ ?_ ?_ ?_
            rotate_left
            · kernel_rfl
            · kernel_rfl
            · kernel_rfl
            · (intro _ _ _ hq; exact hq)
            · rfl
            · (intro _w hSw; (try dsimp only at hSw); go_simp; try with_reducible rfl)
            · assumption
            try simp only [Act.put, List.setIfInBounds_toArray, List.set_cons_zero, List.set_cons_succ]
            refine take_in (i := 19) (v := ?_) (d := (some 32)) rfl rfl ?_ ?_ ?_ ?_ ?_ ?_ ?_ ?_
            rotate_left
            · kernel_rfl
            · kernel_rfl
            · kernel_rfl
            · (intro _ _ _ hq; exact hq)
            · rfl
            · (intro _w hSw; (try dsimp only at hSw); go_simp; try with_reducible rfl)
            · assumption
            try simp only [Act.put, List.setIfInBounds_toArray, List.set_cons_zero, List.set_cons_succ]
            refine wpAnyH_done ?_ ?_ _
            · kernel_rfl
            rotate_left
            obtain ⟨hB, -⟩ := hHeld
            clear hgX l0 l1 a0 a1 b0 b1 i1 i3 hb
            go_wp2_with fail
            go_roundw
            case rel => exact ⟨(u, u') :: r, L - 1, rfl, Lib.hid (by have := HLL.out; rw [HST.out] at this; simp at this ⊢; omega), by omega, Lib.hid (by rw [hpop.out, HST.out, popR, if_neg HTN.out]), Lib.hid (fun q hq => hsc.out q (by rw [HST.out]; exact List.mem_cons_of_mem _ hq)), Lib.hid (by
              have h := hst.out
              rw [HST.out, List.reverse_cons] at h
              exact h.front), hB⟩
            case measure => simp [lenOf]; omega
        · have hd : decide ((1 : Int) < (L : Int)) = false := decide_eq_false (by omega)
          go_wp2_with fail
          refine wp_region_held_drew (S := (fun W' => Gr W W' ∧ W'.cell? ⟨wo.heap.size, 0, none⟩ = some (.int .i64 x) ∧ W'.cell? ⟨wo.heap.size, 1, none⟩ = some (.int .i64 y))) ?_ ?_ (fun hHeld => ?_)
          · kernel_rfl
          · ((try dsimp only); ((try go_split_ands); (repeat' apply And.intro) <;> (repeat (first | assumption | (exact Gr.refl _) | (refine Gr.drew ?_) | (refine Gr.alloc ?_ _) | (refine alloc_old ?_) | (refine Gr.keep (by assumption) ?_) | (refine Gr.trans ?_ (by assumption))))))
          refine take_in (i := 0) (v := ?_) (d := (some 13)) rfl rfl ?_ ?_ ?_ ?_ ?_ ?_ ?_ ?_
          rotate_left
          · kernel_rfl
          · kernel_rfl
          · kernel_rfl
          · (intro _ _ _ hq; exact hq)
          · rfl
          · (intro _w hSw; (try dsimp only at hSw); go_simp; try with_reducible rfl)
          · assumption
          try simp only [Act.put, List.setIfInBounds_toArray, List.set_cons_zero, List.set_cons_succ]
          refine take_in (i := 1) (v := ?_) (d := (some 14)) rfl rfl ?_ ?_ ?_ ?_ ?_ ?_ ?_ ?_
          rotate_left
          · kernel_rfl
          · kernel_rfl
          · kernel_rfl
          · (intro _ _ _ hq; exact hq)
          · rfl
          · (intro _w hSw; (try dsimp only at hSw); go_simp; try with_reducible rfl)
          · assumption
          try simp only [Act.put, List.setIfInBounds_toArray, List.set_cons_zero, List.set_cons_succ]
          refine take_in (i := 2) (v := ?_) (d := (some 15)) rfl rfl ?_ ?_ ?_ ?_ ?_ ?_ ?_ ?_
          rotate_left
          · kernel_rfl
          · kernel_rfl
          · kernel_rfl
          · (intro _ _ _ hq; exact hq)
          · rfl
          · (intro _w hSw; (try dsimp only at hSw); go_simp; try with_reducible rfl)
          · assumption
          try simp only [Act.put, List.setIfInBounds_toArray, List.set_cons_zero, List.set_cons_succ]
          refine take_in (i := 3) (v := ?_) (d := (some 16)) rfl rfl ?_ ?_ ?_ ?_ ?_ ?_ ?_ ?_
          rotate_left
          · kernel_rfl
          · kernel_rfl
          · kernel_rfl
          · (intro _ _ _ hq; exact hq)
          · rfl
          · (intro _w hSw; (try dsimp only at hSw); go_simp; try with_reducible rfl)
          · assumption
          try simp only [Act.put, List.setIfInBounds_toArray, List.set_cons_zero, List.set_cons_succ]
          refine take_un (i := 4) (d := (some 17)) rfl rfl ?_ ?_ ?_ ?_ ?_ ?_ ?_
          · kernel_rfl
          · kernel_rfl
          · kernel_rfl
          · (intro _ _ _ hq; exact hq)
          · rfl
          · assumption
          try simp only [Act.put, List.setIfInBounds_toArray, List.set_cons_zero, List.set_cons_succ]
          refine take_un (i := 5) (d := (some 18)) rfl rfl ?_ ?_ ?_ ?_ ?_ ?_ ?_
          · kernel_rfl
          · kernel_rfl
          · kernel_rfl
          · (intro _ _ _ hq; exact hq)
          · rfl
          · assumption
          try simp only [Act.put, List.setIfInBounds_toArray, List.set_cons_zero, List.set_cons_succ]
          refine take_un (i := 6) (d := (some 19)) rfl rfl ?_ ?_ ?_ ?_ ?_ ?_ ?_
          · kernel_rfl
          · kernel_rfl
          · kernel_rfl
          · (intro _ _ _ hq; exact hq)
          · rfl
          · assumption
          try simp only [Act.put, List.setIfInBounds_toArray, List.set_cons_zero, List.set_cons_succ]
          refine take_un (i := 7) (d := (some 20)) rfl rfl ?_ ?_ ?_ ?_ ?_ ?_ ?_
          · kernel_rfl
          · kernel_rfl
          · kernel_rfl
          · (intro _ _ _ hq; exact hq)
          · rfl
          · assumption
          try simp only [Act.put, List.setIfInBounds_toArray, List.set_cons_zero, List.set_cons_succ]
          refine take_un (i := 8) (d := (some 21)) rfl rfl ?_ ?_ ?_ ?_ ?_ ?_ ?_
          · kernel_rfl
          · kernel_rfl
          · kernel_rfl
          · (intro _ _ _ hq; exact hq)
          · rfl
          · assumption
          try simp only [Act.put, List.setIfInBounds_toArray, List.set_cons_zero, List.set_cons_succ]
          refine take_un (i := 9) (d := (some 22)) rfl rfl ?_ ?_ ?_ ?_ ?_ ?_ ?_
          · kernel_rfl
          · kernel_rfl
          · kernel_rfl
          · (intro _ _ _ hq; exact hq)
          · rfl
          · assumption
          try simp only [Act.put, List.setIfInBounds_toArray, List.set_cons_zero, List.set_cons_succ]
          refine take_un (i := 10) (d := (some 23)) rfl rfl ?_ ?_ ?_ ?_ ?_ ?_ ?_
          · kernel_rfl
          · kernel_rfl
          · kernel_rfl
          · (intro _ _ _ hq; exact hq)
          · rfl
          · assumption
          try simp only [Act.put, List.setIfInBounds_toArray, List.set_cons_zero, List.set_cons_succ]
          refine take_un (i := 11) (d := (some 24)) rfl rfl ?_ ?_ ?_ ?_ ?_ ?_ ?_
          · kernel_rfl
          · kernel_rfl
          · kernel_rfl
          · (intro _ _ _ hq; exact hq)
          · rfl
          · assumption
          try simp only [Act.put, List.setIfInBounds_toArray, List.set_cons_zero, List.set_cons_succ]
          refine take_un (i := 12) (d := (some 25)) rfl rfl ?_ ?_ ?_ ?_ ?_ ?_ ?_
          · kernel_rfl
          · kernel_rfl
          · kernel_rfl
          · (intro _ _ _ hq; exact hq)
          · rfl
          · assumption
          try simp only [Act.put, List.setIfInBounds_toArray, List.set_cons_zero, List.set_cons_succ]
          refine take_un (i := 13) (d := (some 26)) rfl rfl ?_ ?_ ?_ ?_ ?_ ?_ ?_
          · kernel_rfl
          · kernel_rfl
          · kernel_rfl
          · (intro _ _ _ hq; exact hq)
          · rfl
          · assumption
          try simp only [Act.put, List.setIfInBounds_toArray, List.set_cons_zero, List.set_cons_succ]
          refine take_un (i := 14) (d := (some 27)) rfl rfl ?_ ?_ ?_ ?_ ?_ ?_ ?_
          · kernel_rfl
          · kernel_rfl
          · kernel_rfl
          · (intro _ _ _ hq; exact hq)
          · rfl
          · assumption
          try simp only [Act.put, List.setIfInBounds_toArray, List.set_cons_zero, List.set_cons_succ]
          refine take_un (i := 15) (d := (some 28)) rfl rfl ?_ ?_ ?_ ?_ ?_ ?_ ?_
          · kernel_rfl
          · kernel_rfl
          · kernel_rfl
          · (intro _ _ _ hq; exact hq)
          · rfl
          · assumption
          try simp only [Act.put, List.setIfInBounds_toArray, List.set_cons_zero, List.set_cons_succ]
          refine take_un (i := 16) (d := (some 29)) rfl rfl ?_ ?_ ?_ ?_ ?_ ?_ ?_
          · kernel_rfl
          · kernel_rfl
          · kernel_rfl
          · (intro _ _ _ hq; exact hq)
          · rfl
          · assumption
          try simp only [Act.put, List.setIfInBounds_toArray, List.set_cons_zero, List.set_cons_succ]
          refine take_un (i := 17) (d := (some 30)) rfl rfl ?_ ?_ ?_ ?_ ?_ ?_ ?_
          · kernel_rfl
          · kernel_rfl
          · kernel_rfl
          · (intro _ _ _ hq; exact hq)
          · rfl
          · assumption
          try simp only [Act.put, List.setIfInBounds_toArray, List.set_cons_zero, List.set_cons_succ]
          refine take_un (i := 18) (d := (some 31)) rfl rfl ?_ ?_ ?_ ?_ ?_ ?_ ?_
          · kernel_rfl
          · kernel_rfl
          · kernel_rfl
          · (intro _ _ _ hq; exact hq)
          · rfl
          · assumption
          try simp only [Act.put, List.setIfInBounds_toArray, List.set_cons_zero, List.set_cons_succ]
          refine take_in (i := 19) (v := ?_) (d := (some 32)) rfl rfl ?_ ?_ ?_ ?_ ?_ ?_ ?_ ?_
          rotate_left
          · kernel_rfl
          · kernel_rfl
          · kernel_rfl
          · (intro _ _ _ hq; exact hq)
          · rfl
          · (intro _w hSw; (try dsimp only at hSw); go_simp; try with_reducible rfl)
          · assumption
          try simp only [Act.put, List.setIfInBounds_toArray, List.set_cons_zero, List.set_cons_succ]
          refine wpAnyH_done ?_ ?_ _
          · kernel_rfl
          rotate_left
          clear hgX l0 l1
          obtain ⟨hgX, l0, l1⟩ := hHeld
          have HPOP : Hid (st = popR (x, y) rs) := Lib.hid (by
            rw [hpop.out]
            have hll := HLL.out
            match st, hll with
            | [], _ => rfl
            | [_], _ => rfl
            | _ :: _ :: _, hll => simp at hll; omega)
          generalize hX : wr.drew = wz at hgX l0 l1 ⊢
          clear hX
          have hLm : L + 1 ≤ m := by omega
          have hox : g < wz.heap.size := Nat.lt_of_lt_of_le hgo (hgW.trans hgX).size
          have hRX : Room wz g o m := hout.out.2.keep (hgW.trans hgX) hgo
          have hOX : Own wz g o st.reverse := (hst.out.keep hgX)
          have HRX := Lib.hid hRX
          have HOX := Lib.hid hOX
          clear hRX hOX
          obtain ⟨hi, hz0, hz1, hz2⟩ := HI.out
          go_wp2_with (at_builtin; refine wpList_append_arg _ rfl _ _ 70 rfl 108 i0 _ 2 16 Tryz.underlying70 hi hz0 hz1 hz2 rfl (by decide) g o L m (flat2 st.reverse) rfl ?b1 ?b2 ⟨wz.heap.size, 0, none⟩ 1 1 [.int .i64 x, .int .i64 y] rfl rfl ?b3 ?b4 ?b5 ?b6 ?b7 ?b8 ?b9)
          case b1 => rw [flat2_len, List.length_reverse, HLL.out]
          case b2 => exact fun j u hu => alloc_old (flat2_cells HOX.out.pts j u hu)
          case b3 =>
            intro j u hj
            rw [Addr.add_lit]
            exact alloc_new rfl (by rw [Nat.zero_add]; simpa using hj)
          case b4 =>
            intro u hu
            simp at hu
            rcases hu with rfl | rfl <;> rfl
          case b5 =>
            intro _ j hj
            have hj2 : j < 2 := by simpa using hj
            obtain ⟨h1, h2⟩ := HRX.out (L * 2 + j) (by omega)
            rw [show o + (L * 2 + j) = o + L * 2 + j by omega] at h1 h2
            refine ⟨?_, ?_⟩
            · rw [World.cell?_alloc_lt _ _ _ (by exact hox)]; exact h1
            · exact (Below.frozen (B := wz.heap.size) ((Below.refl _ _).alloc (Nat.le_refl _) _) (p := ⟨g, _, none⟩) hox).trans h2
          case b6 => unfold maxLen; omega
          case b7 => omega
          case b9 => intro h; omega
          clear hi hz0 hz1 hz2
          go_roundw
          case rel =>
            have hg2 : Gr wo (wz.alloc (.cells #[.int .i64 x, .int .i64 y] 108)) := (hgW.trans hgX).alloc _
            have hR2 := hout.out.2.keep hg2 hgo
            have hO2 : Own (wz.alloc (.cells #[.int .i64 x, .int .i64 y] 108)) g o st.reverse := HOX.out.keep ((Gr.refl _).alloc _)
            have hll : st.reverse.length = L := by rw [List.length_reverse]; exact HLL.out
            have hsn := hO2.snoc hR2 (by omega) (x, y)
            rw [hll] at hsn
            refine ⟨k + 1, (x, y) :: st, by omega, by go_num, by rw [List.length_cons, HLL.out], by rw [List.length_cons, HLL.out]; omega, Lib.hid (by rw [HPOP.out]; exact HCH.out), Lib.hid ?_, Lib.hid (by rw [List.reverse_cons]; exact hsn), Lib.hid ⟨?_, ?_⟩⟩
            · intro q hq
              rcases List.mem_cons.1 hq with rfl | h
              · exact ⟨px, py⟩
              · exact hsc.out q h
            · exact (hout.out.1.trans (Out.of hg2 g o m hgo)).many _ _ (by omega) (by simp; omega)
            · exact hR2.many _ _ (by omega) (by simp; omega)
          case measure => simp [intOf]; omega
    · go_wp2_with fail
      go_ret
      obtain rfl : k = n := by omega
      have e : rs = chainR [] ps := by
        have h := hch.out
        rwa [List.drop_of_length_le (by have := HN.out; omega)] at h
      refine ⟨?_, ?_, hout.out.1⟩
      · unfold chainL; rw [← e, List.length_reverse]; rfl
      · unfold chainL; rw [← e]; exact hown.out

end Go.Proofs.YtpnkpejnahhajaaGreat
