/- The hull, as the reference wraps it. -/
import Derived.Test.YtjkdjfagaakijaaHullD
import Derived.Test.YtjkdjfagaakijaaRArea
import Derived.Test.YtjkdjfagaakijaaSet
import Derived.Deep.AppendLies
namespace Go.Proofs.Ytjkdjfagaakijaa
open Go.RowKit
set_option linter.unusedSimpArgs false

theorem ne_ways {x y x' y' : Int} (h : ¬ (x, y) = (x', y')) : (x == x') = false ∨ ((x == x') = true ∧ (y == y') = false) := by
  cases h1 : (x == x') with
  | false => exact Or.inl rfl
  | true =>
    refine Or.inr ⟨rfl, ?_⟩
    cases h2 : (y == y') with
    | false => rfl
    | true => simp at h1 h2; exact absurd (by rw [h1, h2]) h
/-- The least of the first points. -/
def mnI (l : List (Int × Int)) : Nat → Int × Int
  | 0 => l.getD 0 (0, 0)
  | k + 1 => if (l.getD k (0, 0)).1 < (mnI l k).1 ∨ ((l.getD k (0, 0)).1 = (mnI l k).1 ∧ (l.getD k (0, 0)).2 < (mnI l k).2) then l.getD k (0, 0) else mnI l k
theorem mnI_spec (l : List (Int × Int)) (h0 : 1 ≤ l.length) : ∀ k, k ≤ l.length → mnI l k ∈ l ∧ ∀ q ∈ l.take k, ¬ lt2 q (mnI l k)
  | 0, _ => ⟨List.mem_of_getElem? (getD_of (0, 0) (by omega)), fun q hq => by simp at hq⟩
  | k + 1, hk => by
    obtain ⟨h1, h2⟩ := mnI_spec l h0 k (by omega)
    have hp : l.getD k (0, 0) ∈ l := List.mem_of_getElem? (getD_of (0, 0) (by omega))
    have htk : l.take (k + 1) = l.take k ++ [l.getD k (0, 0)] := by rw [List.take_add_one, getD_of (0, 0) (by omega)]; rfl
    rw [htk]
    unfold mnI
    generalize l.getD k (0, 0) = p at hp
    split
    · rename_i h
      refine ⟨hp, fun q hq hlt => ?_⟩
      rcases List.mem_append.1 hq with k | k
      · exact h2 q k (hlt.trans h)
      · rw [show q = p by simpa using k] at hlt; exact hlt.irr
    · rename_i h
      refine ⟨h1, fun q hq hlt => ?_⟩
      rcases List.mem_append.1 hq with k | k
      · exact h2 q k hlt
      · rw [show q = p by simpa using k] at hlt; exact h hlt
theorem mn_first {l cs : List (Int × Int)} (h : Wrap l cs) : mnI l l.length = cs.getD 0 (0, 0) := by
  have hm := h.mem 0 h.pos
  have hl : 1 ≤ l.length := by cases l with
    | nil => simp at hm
    | cons a l => simp
  obtain ⟨h1, h2⟩ := mnI_spec l hl l.length (Nat.le_refl _)
  rw [List.take_length] at h2
  rcases h.least _ h1 with e | e
  · exact e
  · exact absurd e (h2 _ hm)
theorem selI_co {ps : List (Int × Int)} (hv : Cos ps) {a : Int × Int} (ha : Co a.1 ∧ Co a.2) : ∀ i, Co (selI a ps i).1 ∧ Co (selI a ps i).2
  | 0 => ha
  | i + 1 => by
    have ih := selI_co hv ha i
    show Co (sel a (selI a ps i) (ps.getD i (0, 0))).1 ∧ Co (sel a (selI a ps i) (ps.getD i (0, 0))).2
    unfold sel
    split
    · exact ih
    · split
      · exact hv i
      · exact ih
def RHullPost (cs : List (Int × Int)) (w : World) (e : Ending) (w' : World) : Prop :=
  ∃ g c, e = .returned (.slice (some ⟨g, 0, none⟩) cs.length c) ∧ Pts w' (some ⟨g, 0, none⟩) cs ∧ Gr w w'
theorem rhull_done {cs : List (Int × Int)} {r k g c B : Nat} {w w' : World} (hr : cs.length = r) (hk : k + 1 = r) (h : w'.ownsRow B 40 2 (.slice (some ⟨g, 0, none⟩) (k + 1) c) (k + 1) (flat2 (cs.take (k + 1)))) (hg : Gr w w') : RHullPost cs w (.returned (.slice (some ⟨g, 0, none⟩) (k + 1) c)) w' := by
  subst hk
  rw [List.take_of_length_le (by omega)] at h
  exact ⟨g, c, by rw [hr], (Own_of hr h).pts, hg⟩

set_option maxRecDepth 100000 in
set_option maxHeartbeats 16000000 in
theorem rHull_any (A : Option Addr) (n c : Nat) (ps : List (Int × Int)) (w : World) (hn : ps.length = n) (h1 : 1 ≤ n) (hl : n ≤ 512) (hp : Pts w A ps) (hv : Cos ps) :
    Calls Try.prog 29 #[.slice A n c] w (RHullPost (cornersL ps) w) := by
  have hlen := cornersL_len ps (by omega)
  have hw := wrap_of ps (by omega)
  rw [hn] at hlen
  have hcc := cornersL_co hv
  obtain ⟨cs, hcs⟩ : ∃ cs, cornersL ps = cs := ⟨_, rfl⟩
  rw [hcs] at hlen hw hcc ⊢
  obtain ⟨r, hr⟩ : ∃ r, cs.length = r := ⟨_, rfl⟩
  rw [hr] at hlen
  obtain ⟨i0, hi, hz0, hz1, hz2⟩ := info_parts Try.info23
  have HI23 := Lib.hid (And.intro hi (And.intro hz0 (And.intro hz1 hz2)))
  have HN := Lib.hid hn
  have HP := Lib.hid hp
  have HV := Lib.hid hv
  have HW := Lib.hid hw
  have HR := Lib.hid hr
  have HCC := Lib.hid hcc
  obtain ⟨b, off, rfl, p0, p1⟩ := Pts_at hp (k := 0) (by omega)
  have HM00 : Hid (mnI ps 0 = ps.getD 0 (0, 0)) := Lib.hid rfl
  generalize ps.getD 0 (0, 0) = p at p0 p1 HM00
  obtain ⟨x0, y0⟩ := p
  dsimp only at p0 p1
  simp only [Nat.zero_mul, Nat.add_zero] at p0 p1
  have hn0 : (0 : Int) < (n : Int) := by omega
  have hn0' : 0 < n := by omega
  clear hi hz0 hz1 hz2 hn hp hv hw hr hcc hcs
  go_enter Try.func29, Try.ntmps29
  go_wp2_with fail
  generalize hW : World.alloc w _ = W
  obtain ⟨hgW, r0, r1⟩ := box2h hW
  obtain ⟨F, hF⟩ : ∃ F, w.heap.size = F := ⟨_, rfl⟩
  have hFw : w.heap.size ≤ F := by omega
  have HFB0 : Hid (Blk W F 40 #[.int .i64 x0, .int .i64 y0]) := Lib.hid (by rw [← hF, ← hW]; exact heap_alloc_new w _)
  rw [hF] at r0 r1 ⊢
  clear hW p0 p1 r0 r1
  go_loopw [4] (fun iv wr => ∃ (k : Nat) (fx fy : Int), k ≤ n ∧ iv = .int .i64 k ∧ Hid (mnI ps k = (fx, fy)) ∧ Hid (Blk wr F 40 #[.int .i64 fx, .int .i64 fy]) ∧ Gr w wr) (fun iv _ => n - (intOf iv).toNat)
  case atStart => exact ⟨0, x0, y0, Nat.zero_le _, rfl, HM00, HFB0, hgW⟩
  case round =>
    obtain ⟨k, fx, fy, hk, rfl, hmn, hFB, hg⟩ := hrel
    have f0 : wr.cell? ⟨F, 0, none⟩ = some (.int .i64 fx) := by rw [hFB.out.cell]; rfl
    have f1 : wr.cell? ⟨F, 1, none⟩ = some (.int .i64 fy) := by rw [hFB.out.cell]; rfl
    by_cases hlt : k < n
    · obtain ⟨b', off', e', p0, p1⟩ := Pts_at (HP.out.keep hg) (k := k) (by have := HN.out; omega)
      obtain ⟨rfl, rfl⟩ : b = b' ∧ off = off' := by simpa using e'
      clear e'
      have HMS : Hid (mnI ps (k + 1) = if (ps.getD k (0, 0)).1 < fx ∨ ((ps.getD k (0, 0)).1 = fx ∧ (ps.getD k (0, 0)).2 < fy) then ps.getD k (0, 0) else (fx, fy)) := Lib.hid (by rw [mnI, hmn.out])
      generalize ps.getD k (0, 0) = p at p0 p1 HMS
      obtain ⟨x, y⟩ := p
      dsimp only at p0 p1 HMS
      have KS : Hid (∀ W', Gr wr W' → (Gr wr W' ∧ W'.cell? ⟨b, off + k * 2, none⟩ = some (.int .i64 x) ∧ W'.cell? ⟨b, off + k * 2 + 1, none⟩ = some (.int .i64 y) ∧ W'.cell? ⟨F, 0, none⟩ = some (.int .i64 fx) ∧ W'.cell? ⟨F, 1, none⟩ = some (.int .i64 fy))) := Lib.hid (fun W' h => ⟨h, h.keep p0, h.keep p1, h.keep f0, h.keep f1⟩)
      rcases Int.lt_trichotomy x fx with hx | hx | hx
      · have HM : Hid (mnI ps (k + 1) = (x, y)) := Lib.hid (by rw [HMS.out, if_pos (Or.inl hx)])
        have g1 : decide (x < fx) = true := by simpa using hx
        clear hx
        go_wp2_with fail
        refine wp_region_held_drew (S := (fun W' => Gr wr W' ∧ W'.cell? ⟨b, off + k * 2, none⟩ = some (.int .i64 x) ∧ W'.cell? ⟨b, off + k * 2 + 1, none⟩ = some (.int .i64 y) ∧ W'.cell? ⟨F, 0, none⟩ = some (.int .i64 fx) ∧ W'.cell? ⟨F, 1, none⟩ = some (.int .i64 fy))) ?_ ?_ (fun hHeld => ?_)
        · kernel_rfl
        · ((try dsimp only); (refine KS.out _ ?_; (repeat (first | exact Gr.refl _ | exact hHeld.1 | (refine Gr.drew ?_) | (refine Gr.alloc ?_ _) | (refine Gr.trans ?_ (by assumption))))))
        refine take_in (i := 0) (v := ?_) (d := (some 20)) rfl rfl ?_ ?_ ?_ ?_ ?_ ?_ ?_ ?_
        rotate_left
        · kernel_rfl
        · kernel_rfl
        · kernel_rfl
        · (intro _ _ _ hq; exact hq)
        · rfl
        · (intro _w hSw; (try dsimp only at hSw); go_simp; try with_reducible rfl)
        · assumption
        try simp only [Act.put, List.setIfInBounds_toArray, List.set_cons_zero, List.set_cons_succ]
        refine take_in (i := 1) (v := ?_) (d := (some 21)) rfl rfl ?_ ?_ ?_ ?_ ?_ ?_ ?_ ?_
        rotate_left
        · kernel_rfl
        · kernel_rfl
        · kernel_rfl
        · (intro _ _ _ hq; exact hq)
        · rfl
        · (intro _w hSw; (try dsimp only at hSw); go_simp; try with_reducible rfl)
        · assumption
        try simp only [Act.put, List.setIfInBounds_toArray, List.set_cons_zero, List.set_cons_succ]
        refine take_in (i := 2) (v := ?_) (d := (some 22)) rfl rfl ?_ ?_ ?_ ?_ ?_ ?_ ?_ ?_
        rotate_left
        · kernel_rfl
        · kernel_rfl
        · kernel_rfl
        · (intro _ _ _ hq; exact hq)
        · rfl
        · (intro _w hSw; (try dsimp only at hSw); go_simp; try with_reducible rfl)
        · assumption
        try simp only [Act.put, List.setIfInBounds_toArray, List.set_cons_zero, List.set_cons_succ]
        refine take_in (i := 3) (v := ?_) (d := (some 23)) rfl rfl ?_ ?_ ?_ ?_ ?_ ?_ ?_ ?_
        rotate_left
        · kernel_rfl
        · kernel_rfl
        · kernel_rfl
        · (intro _ _ _ hq; exact hq)
        · rfl
        · (intro _w hSw; (try dsimp only at hSw); go_simp; try with_reducible rfl)
        · assumption
        try simp only [Act.put, List.setIfInBounds_toArray, List.set_cons_zero, List.set_cons_succ]
        refine take_in (i := 4) (v := ?_) (d := (some 24)) rfl rfl ?_ ?_ ?_ ?_ ?_ ?_ ?_ ?_
        rotate_left
        · kernel_rfl
        · kernel_rfl
        · kernel_rfl
        · (intro _ _ _ hq; exact hq)
        · rfl
        · (intro _w hSw; (try dsimp only at hSw); go_simp; try with_reducible rfl)
        · assumption
        try simp only [Act.put, List.setIfInBounds_toArray, List.set_cons_zero, List.set_cons_succ]
        refine take_in (i := 5) (v := ?_) (d := (some 25)) rfl rfl ?_ ?_ ?_ ?_ ?_ ?_ ?_ ?_
        rotate_left
        · kernel_rfl
        · kernel_rfl
        · kernel_rfl
        · (intro _ _ _ hq; exact hq)
        · rfl
        · (intro _w hSw; (try dsimp only at hSw); go_simp; try with_reducible rfl)
        · assumption
        try simp only [Act.put, List.setIfInBounds_toArray, List.set_cons_zero, List.set_cons_succ]
        refine take_in (i := 6) (v := ?_) (d := (some 26)) rfl rfl ?_ ?_ ?_ ?_ ?_ ?_ ?_ ?_
        rotate_left
        · kernel_rfl
        · kernel_rfl
        · kernel_rfl
        · (intro _ _ _ hq; exact hq)
        · rfl
        · (intro _w hSw; (try dsimp only at hSw); go_simp; try with_reducible rfl)
        · assumption
        try simp only [Act.put, List.setIfInBounds_toArray, List.set_cons_zero, List.set_cons_succ]
        refine take_in (i := 7) (v := ?_) (d := (some 27)) rfl rfl ?_ ?_ ?_ ?_ ?_ ?_ ?_ ?_
        rotate_left
        · kernel_rfl
        · kernel_rfl
        · kernel_rfl
        · (intro _ _ _ hq; exact hq)
        · rfl
        · (intro _w hSw; (try dsimp only at hSw); go_simp; try with_reducible rfl)
        · assumption
        try simp only [Act.put, List.setIfInBounds_toArray, List.set_cons_zero, List.set_cons_succ]
        refine take_in (i := 8) (v := ?_) (d := (some 28)) rfl rfl ?_ ?_ ?_ ?_ ?_ ?_ ?_ ?_
        rotate_left
        · kernel_rfl
        · kernel_rfl
        · kernel_rfl
        · (intro _ _ _ hq; exact hq)
        · rfl
        · (intro _w hSw; (try dsimp only at hSw); go_simp; try with_reducible rfl)
        · assumption
        try simp only [Act.put, List.setIfInBounds_toArray, List.set_cons_zero, List.set_cons_succ]
        refine take_un (i := 9) (d := (some 29)) rfl rfl ?_ ?_ ?_ ?_ ?_ ?_ ?_
        · kernel_rfl
        · kernel_rfl
        · kernel_rfl
        · (intro _ _ _ hq; exact hq)
        · rfl
        · assumption
        try simp only [Act.put, List.setIfInBounds_toArray, List.set_cons_zero, List.set_cons_succ]
        refine take_un (i := 10) (d := (some 30)) rfl rfl ?_ ?_ ?_ ?_ ?_ ?_ ?_
        · kernel_rfl
        · kernel_rfl
        · kernel_rfl
        · (intro _ _ _ hq; exact hq)
        · rfl
        · assumption
        try simp only [Act.put, List.setIfInBounds_toArray, List.set_cons_zero, List.set_cons_succ]
        refine take_un (i := 11) (d := (some 31)) rfl rfl ?_ ?_ ?_ ?_ ?_ ?_ ?_
        · kernel_rfl
        · kernel_rfl
        · kernel_rfl
        · (intro _ _ _ hq; exact hq)
        · rfl
        · assumption
        try simp only [Act.put, List.setIfInBounds_toArray, List.set_cons_zero, List.set_cons_succ]
        refine take_un (i := 12) (d := (some 32)) rfl rfl ?_ ?_ ?_ ?_ ?_ ?_ ?_
        · kernel_rfl
        · kernel_rfl
        · kernel_rfl
        · (intro _ _ _ hq; exact hq)
        · rfl
        · assumption
        try simp only [Act.put, List.setIfInBounds_toArray, List.set_cons_zero, List.set_cons_succ]
        refine take_un (i := 13) (d := (some 33)) rfl rfl ?_ ?_ ?_ ?_ ?_ ?_ ?_
        · kernel_rfl
        · kernel_rfl
        · kernel_rfl
        · (intro _ _ _ hq; exact hq)
        · rfl
        · assumption
        try simp only [Act.put, List.setIfInBounds_toArray, List.set_cons_zero, List.set_cons_succ]
        refine take_un (i := 14) (d := (some 34)) rfl rfl ?_ ?_ ?_ ?_ ?_ ?_ ?_
        · kernel_rfl
        · kernel_rfl
        · kernel_rfl
        · (intro _ _ _ hq; exact hq)
        · rfl
        · assumption
        try simp only [Act.put, List.setIfInBounds_toArray, List.set_cons_zero, List.set_cons_succ]
        refine take_un (i := 15) (d := (some 35)) rfl rfl ?_ ?_ ?_ ?_ ?_ ?_ ?_
        · kernel_rfl
        · kernel_rfl
        · kernel_rfl
        · (intro _ _ _ hq; exact hq)
        · rfl
        · assumption
        try simp only [Act.put, List.setIfInBounds_toArray, List.set_cons_zero, List.set_cons_succ]
        refine take_un (i := 16) (d := (some 36)) rfl rfl ?_ ?_ ?_ ?_ ?_ ?_ ?_
        · kernel_rfl
        · kernel_rfl
        · kernel_rfl
        · (intro _ _ _ hq; exact hq)
        · rfl
        · assumption
        try simp only [Act.put, List.setIfInBounds_toArray, List.set_cons_zero, List.set_cons_succ]
        refine take_un (i := 17) (d := (some 37)) rfl rfl ?_ ?_ ?_ ?_ ?_ ?_ ?_
        · kernel_rfl
        · kernel_rfl
        · kernel_rfl
        · (intro _ _ _ hq; exact hq)
        · rfl
        · assumption
        try simp only [Act.put, List.setIfInBounds_toArray, List.set_cons_zero, List.set_cons_succ]
        refine take_un (i := 18) (d := (some 38)) rfl rfl ?_ ?_ ?_ ?_ ?_ ?_ ?_
        · kernel_rfl
        · kernel_rfl
        · kernel_rfl
        · (intro _ _ _ hq; exact hq)
        · rfl
        · assumption
        try simp only [Act.put, List.setIfInBounds_toArray, List.set_cons_zero, List.set_cons_succ]
        refine take_un (i := 19) (d := (some 39)) rfl rfl ?_ ?_ ?_ ?_ ?_ ?_ ?_
        · kernel_rfl
        · kernel_rfl
        · kernel_rfl
        · (intro _ _ _ hq; exact hq)
        · rfl
        · assumption
        try simp only [Act.put, List.setIfInBounds_toArray, List.set_cons_zero, List.set_cons_succ]
        refine take_un (i := 20) (d := (some 40)) rfl rfl ?_ ?_ ?_ ?_ ?_ ?_ ?_
        · kernel_rfl
        · kernel_rfl
        · kernel_rfl
        · (intro _ _ _ hq; exact hq)
        · rfl
        · assumption
        try simp only [Act.put, List.setIfInBounds_toArray, List.set_cons_zero, List.set_cons_succ]
        refine take_un (i := 21) (d := (some 41)) rfl rfl ?_ ?_ ?_ ?_ ?_ ?_ ?_
        · kernel_rfl
        · kernel_rfl
        · kernel_rfl
        · (intro _ _ _ hq; exact hq)
        · rfl
        · assumption
        try simp only [Act.put, List.setIfInBounds_toArray, List.set_cons_zero, List.set_cons_succ]
        refine take_un (i := 22) (d := (some 42)) rfl rfl ?_ ?_ ?_ ?_ ?_ ?_ ?_
        · kernel_rfl
        · kernel_rfl
        · kernel_rfl
        · (intro _ _ _ hq; exact hq)
        · rfl
        · assumption
        try simp only [Act.put, List.setIfInBounds_toArray, List.set_cons_zero, List.set_cons_succ]
        refine take_un (i := 23) (d := (some 43)) rfl rfl ?_ ?_ ?_ ?_ ?_ ?_ ?_
        · kernel_rfl
        · kernel_rfl
        · kernel_rfl
        · (intro _ _ _ hq; exact hq)
        · rfl
        · assumption
        try simp only [Act.put, List.setIfInBounds_toArray, List.set_cons_zero, List.set_cons_succ]
        refine take_un (i := 24) (d := (some 44)) rfl rfl ?_ ?_ ?_ ?_ ?_ ?_ ?_
        · kernel_rfl
        · kernel_rfl
        · kernel_rfl
        · (intro _ _ _ hq; exact hq)
        · rfl
        · assumption
        try simp only [Act.put, List.setIfInBounds_toArray, List.set_cons_zero, List.set_cons_succ]
        refine take_un (i := 25) (d := (some 45)) rfl rfl ?_ ?_ ?_ ?_ ?_ ?_ ?_
        · kernel_rfl
        · kernel_rfl
        · kernel_rfl
        · (intro _ _ _ hq; exact hq)
        · rfl
        · assumption
        try simp only [Act.put, List.setIfInBounds_toArray, List.set_cons_zero, List.set_cons_succ]
        refine take_un (i := 26) (d := (some 46)) rfl rfl ?_ ?_ ?_ ?_ ?_ ?_ ?_
        · kernel_rfl
        · kernel_rfl
        · kernel_rfl
        · (intro _ _ _ hq; exact hq)
        · rfl
        · assumption
        try simp only [Act.put, List.setIfInBounds_toArray, List.set_cons_zero, List.set_cons_succ]
        refine take_in (i := 27) (v := ?_) (d := (some 47)) rfl rfl ?_ ?_ ?_ ?_ ?_ ?_ ?_ ?_
        rotate_left
        · kernel_rfl
        · kernel_rfl
        · kernel_rfl
        · (intro _ _ _ hq; exact hq)
        · rfl
        · (intro _w hSw; (try dsimp only at hSw); go_simp; try with_reducible rfl)
        · assumption
        try simp only [Act.put, List.setIfInBounds_toArray, List.set_cons_zero, List.set_cons_succ]
        refine wpAnyH_done ?_ ?_ _
        · kernel_rfl
        rotate_left
        all_goals
          obtain ⟨hB, h0, h1, h2, h3⟩ := hHeld
          have z0 := (hFB.out.keep hB).free 0
          have z1 := (hFB.out.keep hB).free 1
          have z2 := hFB.out.free 0
          have z3 := hFB.out.free 1
          go_wp2_with fail
          go_roundw
          case rel => exact ⟨k + 1, x, y, by omega, by go_num, HM, Lib.hid (by
            have h := ((hFB.out.keep hB).put 0 (.int .i64 x)).put 1 (.int .i64 y)
            exact h), ((hg.trans hB).setCell (p := ⟨F, 0, none⟩) hFw _).setCell (p := ⟨F, 1, none⟩) hFw _⟩
          case measure => simp [intOf]; omega
      · rcases Int.lt_or_le y fy with hy | hy
        · have HM : Hid (mnI ps (k + 1) = (x, y)) := Lib.hid (by rw [HMS.out, if_pos (Or.inr ⟨hx, hy⟩)])
          have g1 : decide (x < fx) = false := by simp; omega
          have g2 : ((x : Int) == fx) = true := by simpa using hx
          have g3 : decide (y < fy) = true := by simpa using hy
          clear hx hy
          go_wp2_with fail
          refine wp_region_held_drew (S := (fun W' => Gr wr W' ∧ W'.cell? ⟨b, off + k * 2, none⟩ = some (.int .i64 x) ∧ W'.cell? ⟨b, off + k * 2 + 1, none⟩ = some (.int .i64 y) ∧ W'.cell? ⟨F, 0, none⟩ = some (.int .i64 fx) ∧ W'.cell? ⟨F, 1, none⟩ = some (.int .i64 fy))) ?_ ?_ (fun hHeld => ?_)
          · kernel_rfl
          · ((try dsimp only); (refine KS.out _ ?_; (repeat (first | exact Gr.refl _ | exact hHeld.1 | (refine Gr.drew ?_) | (refine Gr.alloc ?_ _) | (refine Gr.trans ?_ (by assumption))))))
          refine take_in (i := 0) (v := ?_) (d := (some 20)) rfl rfl ?_ ?_ ?_ ?_ ?_ ?_ ?_ ?_
          rotate_left
          · kernel_rfl
          · kernel_rfl
          · kernel_rfl
          · (intro _ _ _ hq; exact hq)
          · rfl
          · (intro _w hSw; (try dsimp only at hSw); go_simp; try with_reducible rfl)
          · assumption
          try simp only [Act.put, List.setIfInBounds_toArray, List.set_cons_zero, List.set_cons_succ]
          refine take_in (i := 1) (v := ?_) (d := (some 21)) rfl rfl ?_ ?_ ?_ ?_ ?_ ?_ ?_ ?_
          rotate_left
          · kernel_rfl
          · kernel_rfl
          · kernel_rfl
          · (intro _ _ _ hq; exact hq)
          · rfl
          · (intro _w hSw; (try dsimp only at hSw); go_simp; try with_reducible rfl)
          · assumption
          try simp only [Act.put, List.setIfInBounds_toArray, List.set_cons_zero, List.set_cons_succ]
          refine take_in (i := 2) (v := ?_) (d := (some 22)) rfl rfl ?_ ?_ ?_ ?_ ?_ ?_ ?_ ?_
          rotate_left
          · kernel_rfl
          · kernel_rfl
          · kernel_rfl
          · (intro _ _ _ hq; exact hq)
          · rfl
          · (intro _w hSw; (try dsimp only at hSw); go_simp; try with_reducible rfl)
          · assumption
          try simp only [Act.put, List.setIfInBounds_toArray, List.set_cons_zero, List.set_cons_succ]
          refine take_in (i := 3) (v := ?_) (d := (some 23)) rfl rfl ?_ ?_ ?_ ?_ ?_ ?_ ?_ ?_
          rotate_left
          · kernel_rfl
          · kernel_rfl
          · kernel_rfl
          · (intro _ _ _ hq; exact hq)
          · rfl
          · (intro _w hSw; (try dsimp only at hSw); go_simp; try with_reducible rfl)
          · assumption
          try simp only [Act.put, List.setIfInBounds_toArray, List.set_cons_zero, List.set_cons_succ]
          refine take_in (i := 4) (v := ?_) (d := (some 24)) rfl rfl ?_ ?_ ?_ ?_ ?_ ?_ ?_ ?_
          rotate_left
          · kernel_rfl
          · kernel_rfl
          · kernel_rfl
          · (intro _ _ _ hq; exact hq)
          · rfl
          · (intro _w hSw; (try dsimp only at hSw); go_simp; try with_reducible rfl)
          · assumption
          try simp only [Act.put, List.setIfInBounds_toArray, List.set_cons_zero, List.set_cons_succ]
          refine take_in (i := 5) (v := ?_) (d := (some 25)) rfl rfl ?_ ?_ ?_ ?_ ?_ ?_ ?_ ?_
          rotate_left
          · kernel_rfl
          · kernel_rfl
          · kernel_rfl
          · (intro _ _ _ hq; exact hq)
          · rfl
          · (intro _w hSw; (try dsimp only at hSw); go_simp; try with_reducible rfl)
          · assumption
          try simp only [Act.put, List.setIfInBounds_toArray, List.set_cons_zero, List.set_cons_succ]
          refine take_in (i := 6) (v := ?_) (d := (some 26)) rfl rfl ?_ ?_ ?_ ?_ ?_ ?_ ?_ ?_
          rotate_left
          · kernel_rfl
          · kernel_rfl
          · kernel_rfl
          · (intro _ _ _ hq; exact hq)
          · rfl
          · (intro _w hSw; (try dsimp only at hSw); go_simp; try with_reducible rfl)
          · assumption
          try simp only [Act.put, List.setIfInBounds_toArray, List.set_cons_zero, List.set_cons_succ]
          refine take_in (i := 7) (v := ?_) (d := (some 27)) rfl rfl ?_ ?_ ?_ ?_ ?_ ?_ ?_ ?_
          rotate_left
          · kernel_rfl
          · kernel_rfl
          · kernel_rfl
          · (intro _ _ _ hq; exact hq)
          · rfl
          · (intro _w hSw; (try dsimp only at hSw); go_simp; try with_reducible rfl)
          · assumption
          try simp only [Act.put, List.setIfInBounds_toArray, List.set_cons_zero, List.set_cons_succ]
          refine take_in (i := 8) (v := ?_) (d := (some 28)) rfl rfl ?_ ?_ ?_ ?_ ?_ ?_ ?_ ?_
          rotate_left
          · kernel_rfl
          · kernel_rfl
          · kernel_rfl
          · (intro _ _ _ hq; exact hq)
          · rfl
          · (intro _w hSw; (try dsimp only at hSw); go_simp; try with_reducible rfl)
          · assumption
          try simp only [Act.put, List.setIfInBounds_toArray, List.set_cons_zero, List.set_cons_succ]
          refine take_in (i := 9) (v := ?_) (d := (some 29)) rfl rfl ?_ ?_ ?_ ?_ ?_ ?_ ?_ ?_
          rotate_left
          · kernel_rfl
          · kernel_rfl
          · kernel_rfl
          · (intro _ _ _ hq; exact hq)
          · rfl
          · (intro _w hSw; (try dsimp only at hSw); go_simp; try with_reducible rfl)
          · assumption
          try simp only [Act.put, List.setIfInBounds_toArray, List.set_cons_zero, List.set_cons_succ]
          refine take_in (i := 10) (v := ?_) (d := (some 30)) rfl rfl ?_ ?_ ?_ ?_ ?_ ?_ ?_ ?_
          rotate_left
          · kernel_rfl
          · kernel_rfl
          · kernel_rfl
          · (intro _ _ _ hq; exact hq)
          · rfl
          · (intro _w hSw; (try dsimp only at hSw); go_simp; try with_reducible rfl)
          · assumption
          try simp only [Act.put, List.setIfInBounds_toArray, List.set_cons_zero, List.set_cons_succ]
          refine take_in (i := 11) (v := ?_) (d := (some 31)) rfl rfl ?_ ?_ ?_ ?_ ?_ ?_ ?_ ?_
          rotate_left
          · kernel_rfl
          · kernel_rfl
          · kernel_rfl
          · (intro _ _ _ hq; exact hq)
          · rfl
          · (intro _w hSw; (try dsimp only at hSw); go_simp; try with_reducible rfl)
          · assumption
          try simp only [Act.put, List.setIfInBounds_toArray, List.set_cons_zero, List.set_cons_succ]
          refine take_in (i := 12) (v := ?_) (d := (some 32)) rfl rfl ?_ ?_ ?_ ?_ ?_ ?_ ?_ ?_
          rotate_left
          · kernel_rfl
          · kernel_rfl
          · kernel_rfl
          · (intro _ _ _ hq; exact hq)
          · rfl
          · (intro _w hSw; (try dsimp only at hSw); go_simp; try with_reducible rfl)
          · assumption
          try simp only [Act.put, List.setIfInBounds_toArray, List.set_cons_zero, List.set_cons_succ]
          refine take_in (i := 13) (v := ?_) (d := (some 33)) rfl rfl ?_ ?_ ?_ ?_ ?_ ?_ ?_ ?_
          rotate_left
          · kernel_rfl
          · kernel_rfl
          · kernel_rfl
          · (intro _ _ _ hq; exact hq)
          · rfl
          · (intro _w hSw; (try dsimp only at hSw); go_simp; try with_reducible rfl)
          · assumption
          try simp only [Act.put, List.setIfInBounds_toArray, List.set_cons_zero, List.set_cons_succ]
          refine take_in (i := 14) (v := ?_) (d := (some 34)) rfl rfl ?_ ?_ ?_ ?_ ?_ ?_ ?_ ?_
          rotate_left
          · kernel_rfl
          · kernel_rfl
          · kernel_rfl
          · (intro _ _ _ hq; exact hq)
          · rfl
          · (intro _w hSw; (try dsimp only at hSw); go_simp; try with_reducible rfl)
          · assumption
          try simp only [Act.put, List.setIfInBounds_toArray, List.set_cons_zero, List.set_cons_succ]
          refine take_in (i := 15) (v := ?_) (d := (some 35)) rfl rfl ?_ ?_ ?_ ?_ ?_ ?_ ?_ ?_
          rotate_left
          · kernel_rfl
          · kernel_rfl
          · kernel_rfl
          · (intro _ _ _ hq; exact hq)
          · rfl
          · (intro _w hSw; (try dsimp only at hSw); go_simp; try with_reducible rfl)
          · assumption
          try simp only [Act.put, List.setIfInBounds_toArray, List.set_cons_zero, List.set_cons_succ]
          refine take_in (i := 16) (v := ?_) (d := (some 36)) rfl rfl ?_ ?_ ?_ ?_ ?_ ?_ ?_ ?_
          rotate_left
          · kernel_rfl
          · kernel_rfl
          · kernel_rfl
          · (intro _ _ _ hq; exact hq)
          · rfl
          · (intro _w hSw; (try dsimp only at hSw); go_simp; try with_reducible rfl)
          · assumption
          try simp only [Act.put, List.setIfInBounds_toArray, List.set_cons_zero, List.set_cons_succ]
          refine take_in (i := 17) (v := ?_) (d := (some 37)) rfl rfl ?_ ?_ ?_ ?_ ?_ ?_ ?_ ?_
          rotate_left
          · kernel_rfl
          · kernel_rfl
          · kernel_rfl
          · (intro _ _ _ hq; exact hq)
          · rfl
          · (intro _w hSw; (try dsimp only at hSw); go_simp; try with_reducible rfl)
          · assumption
          try simp only [Act.put, List.setIfInBounds_toArray, List.set_cons_zero, List.set_cons_succ]
          refine take_in (i := 18) (v := ?_) (d := (some 38)) rfl rfl ?_ ?_ ?_ ?_ ?_ ?_ ?_ ?_
          rotate_left
          · kernel_rfl
          · kernel_rfl
          · kernel_rfl
          · (intro _ _ _ hq; exact hq)
          · rfl
          · (intro _w hSw; (try dsimp only at hSw); go_simp; try with_reducible rfl)
          · assumption
          try simp only [Act.put, List.setIfInBounds_toArray, List.set_cons_zero, List.set_cons_succ]
          refine take_in (i := 19) (v := ?_) (d := (some 39)) rfl rfl ?_ ?_ ?_ ?_ ?_ ?_ ?_ ?_
          rotate_left
          · kernel_rfl
          · kernel_rfl
          · kernel_rfl
          · (intro _ _ _ hq; exact hq)
          · rfl
          · (intro _w hSw; (try dsimp only at hSw); go_simp; try with_reducible rfl)
          · assumption
          try simp only [Act.put, List.setIfInBounds_toArray, List.set_cons_zero, List.set_cons_succ]
          refine take_in (i := 20) (v := ?_) (d := (some 40)) rfl rfl ?_ ?_ ?_ ?_ ?_ ?_ ?_ ?_
          rotate_left
          · kernel_rfl
          · kernel_rfl
          · kernel_rfl
          · (intro _ _ _ hq; exact hq)
          · rfl
          · (intro _w hSw; (try dsimp only at hSw); go_simp; try with_reducible rfl)
          · assumption
          try simp only [Act.put, List.setIfInBounds_toArray, List.set_cons_zero, List.set_cons_succ]
          refine take_in (i := 21) (v := ?_) (d := (some 41)) rfl rfl ?_ ?_ ?_ ?_ ?_ ?_ ?_ ?_
          rotate_left
          · kernel_rfl
          · kernel_rfl
          · kernel_rfl
          · (intro _ _ _ hq; exact hq)
          · rfl
          · (intro _w hSw; (try dsimp only at hSw); go_simp; try with_reducible rfl)
          · assumption
          try simp only [Act.put, List.setIfInBounds_toArray, List.set_cons_zero, List.set_cons_succ]
          refine take_in (i := 22) (v := ?_) (d := (some 42)) rfl rfl ?_ ?_ ?_ ?_ ?_ ?_ ?_ ?_
          rotate_left
          · kernel_rfl
          · kernel_rfl
          · kernel_rfl
          · (intro _ _ _ hq; exact hq)
          · rfl
          · (intro _w hSw; (try dsimp only at hSw); go_simp; try with_reducible rfl)
          · assumption
          try simp only [Act.put, List.setIfInBounds_toArray, List.set_cons_zero, List.set_cons_succ]
          refine take_in (i := 23) (v := ?_) (d := (some 43)) rfl rfl ?_ ?_ ?_ ?_ ?_ ?_ ?_ ?_
          rotate_left
          · kernel_rfl
          · kernel_rfl
          · kernel_rfl
          · (intro _ _ _ hq; exact hq)
          · rfl
          · (intro _w hSw; (try dsimp only at hSw); go_simp; try with_reducible rfl)
          · assumption
          try simp only [Act.put, List.setIfInBounds_toArray, List.set_cons_zero, List.set_cons_succ]
          refine take_in (i := 24) (v := ?_) (d := (some 44)) rfl rfl ?_ ?_ ?_ ?_ ?_ ?_ ?_ ?_
          rotate_left
          · kernel_rfl
          · kernel_rfl
          · kernel_rfl
          · (intro _ _ _ hq; exact hq)
          · rfl
          · (intro _w hSw; (try dsimp only at hSw); go_simp; try with_reducible rfl)
          · assumption
          try simp only [Act.put, List.setIfInBounds_toArray, List.set_cons_zero, List.set_cons_succ]
          refine take_in (i := 25) (v := ?_) (d := (some 45)) rfl rfl ?_ ?_ ?_ ?_ ?_ ?_ ?_ ?_
          rotate_left
          · kernel_rfl
          · kernel_rfl
          · kernel_rfl
          · (intro _ _ _ hq; exact hq)
          · rfl
          · (intro _w hSw; (try dsimp only at hSw); go_simp; try with_reducible rfl)
          · assumption
          try simp only [Act.put, List.setIfInBounds_toArray, List.set_cons_zero, List.set_cons_succ]
          refine take_in (i := 26) (v := ?_) (d := (some 46)) rfl rfl ?_ ?_ ?_ ?_ ?_ ?_ ?_ ?_
          rotate_left
          · kernel_rfl
          · kernel_rfl
          · kernel_rfl
          · (intro _ _ _ hq; exact hq)
          · rfl
          · (intro _w hSw; (try dsimp only at hSw); go_simp; try with_reducible rfl)
          · assumption
          try simp only [Act.put, List.setIfInBounds_toArray, List.set_cons_zero, List.set_cons_succ]
          refine take_in (i := 27) (v := ?_) (d := (some 47)) rfl rfl ?_ ?_ ?_ ?_ ?_ ?_ ?_ ?_
          rotate_left
          · kernel_rfl
          · kernel_rfl
          · kernel_rfl
          · (intro _ _ _ hq; exact hq)
          · rfl
          · (intro _w hSw; (try dsimp only at hSw); go_simp; try with_reducible rfl)
          · assumption
          try simp only [Act.put, List.setIfInBounds_toArray, List.set_cons_zero, List.set_cons_succ]
          refine wpAnyH_done ?_ ?_ _
          · kernel_rfl
          rotate_left
          all_goals
            obtain ⟨hB, h0, h1, h2, h3⟩ := hHeld
            have z0 := (hFB.out.keep hB).free 0
            have z1 := (hFB.out.keep hB).free 1
            have z2 := hFB.out.free 0
            have z3 := hFB.out.free 1
            go_wp2_with fail
            go_roundw
            case rel => exact ⟨k + 1, x, y, by omega, by go_num, HM, Lib.hid (by
              have h := ((hFB.out.keep hB).put 0 (.int .i64 x)).put 1 (.int .i64 y)
              exact h), ((hg.trans hB).setCell (p := ⟨F, 0, none⟩) hFw _).setCell (p := ⟨F, 1, none⟩) hFw _⟩
            case measure => simp [intOf]; omega
        · have HM : Hid (mnI ps (k + 1) = (fx, fy)) := Lib.hid (by rw [HMS.out, if_neg (by omega)])
          have g1 : decide (x < fx) = false := by simp; omega
          have g2 : ((x : Int) == fx) = true := by simpa using hx
          have g3 : decide (y < fy) = false := by simp; omega
          clear hx hy
          go_wp2_with fail
          refine wp_region_held_drew (S := (fun W' => Gr wr W' ∧ W'.cell? ⟨b, off + k * 2, none⟩ = some (.int .i64 x) ∧ W'.cell? ⟨b, off + k * 2 + 1, none⟩ = some (.int .i64 y) ∧ W'.cell? ⟨F, 0, none⟩ = some (.int .i64 fx) ∧ W'.cell? ⟨F, 1, none⟩ = some (.int .i64 fy))) ?_ ?_ (fun hHeld => ?_)
          · kernel_rfl
          · ((try dsimp only); (refine KS.out _ ?_; (repeat (first | exact Gr.refl _ | exact hHeld.1 | (refine Gr.drew ?_) | (refine Gr.alloc ?_ _) | (refine Gr.trans ?_ (by assumption))))))
          refine take_in (i := 0) (v := ?_) (d := (some 20)) rfl rfl ?_ ?_ ?_ ?_ ?_ ?_ ?_ ?_
          rotate_left
          · kernel_rfl
          · kernel_rfl
          · kernel_rfl
          · (intro _ _ _ hq; exact hq)
          · rfl
          · (intro _w hSw; (try dsimp only at hSw); go_simp; try with_reducible rfl)
          · assumption
          try simp only [Act.put, List.setIfInBounds_toArray, List.set_cons_zero, List.set_cons_succ]
          refine take_in (i := 1) (v := ?_) (d := (some 21)) rfl rfl ?_ ?_ ?_ ?_ ?_ ?_ ?_ ?_
          rotate_left
          · kernel_rfl
          · kernel_rfl
          · kernel_rfl
          · (intro _ _ _ hq; exact hq)
          · rfl
          · (intro _w hSw; (try dsimp only at hSw); go_simp; try with_reducible rfl)
          · assumption
          try simp only [Act.put, List.setIfInBounds_toArray, List.set_cons_zero, List.set_cons_succ]
          refine take_in (i := 2) (v := ?_) (d := (some 22)) rfl rfl ?_ ?_ ?_ ?_ ?_ ?_ ?_ ?_
          rotate_left
          · kernel_rfl
          · kernel_rfl
          · kernel_rfl
          · (intro _ _ _ hq; exact hq)
          · rfl
          · (intro _w hSw; (try dsimp only at hSw); go_simp; try with_reducible rfl)
          · assumption
          try simp only [Act.put, List.setIfInBounds_toArray, List.set_cons_zero, List.set_cons_succ]
          refine take_in (i := 3) (v := ?_) (d := (some 23)) rfl rfl ?_ ?_ ?_ ?_ ?_ ?_ ?_ ?_
          rotate_left
          · kernel_rfl
          · kernel_rfl
          · kernel_rfl
          · (intro _ _ _ hq; exact hq)
          · rfl
          · (intro _w hSw; (try dsimp only at hSw); go_simp; try with_reducible rfl)
          · assumption
          try simp only [Act.put, List.setIfInBounds_toArray, List.set_cons_zero, List.set_cons_succ]
          refine take_in (i := 4) (v := ?_) (d := (some 24)) rfl rfl ?_ ?_ ?_ ?_ ?_ ?_ ?_ ?_
          rotate_left
          · kernel_rfl
          · kernel_rfl
          · kernel_rfl
          · (intro _ _ _ hq; exact hq)
          · rfl
          · (intro _w hSw; (try dsimp only at hSw); go_simp; try with_reducible rfl)
          · assumption
          try simp only [Act.put, List.setIfInBounds_toArray, List.set_cons_zero, List.set_cons_succ]
          refine take_in (i := 5) (v := ?_) (d := (some 25)) rfl rfl ?_ ?_ ?_ ?_ ?_ ?_ ?_ ?_
          rotate_left
          · kernel_rfl
          · kernel_rfl
          · kernel_rfl
          · (intro _ _ _ hq; exact hq)
          · rfl
          · (intro _w hSw; (try dsimp only at hSw); go_simp; try with_reducible rfl)
          · assumption
          try simp only [Act.put, List.setIfInBounds_toArray, List.set_cons_zero, List.set_cons_succ]
          refine take_in (i := 6) (v := ?_) (d := (some 26)) rfl rfl ?_ ?_ ?_ ?_ ?_ ?_ ?_ ?_
          rotate_left
          · kernel_rfl
          · kernel_rfl
          · kernel_rfl
          · (intro _ _ _ hq; exact hq)
          · rfl
          · (intro _w hSw; (try dsimp only at hSw); go_simp; try with_reducible rfl)
          · assumption
          try simp only [Act.put, List.setIfInBounds_toArray, List.set_cons_zero, List.set_cons_succ]
          refine take_in (i := 7) (v := ?_) (d := (some 27)) rfl rfl ?_ ?_ ?_ ?_ ?_ ?_ ?_ ?_
          rotate_left
          · kernel_rfl
          · kernel_rfl
          · kernel_rfl
          · (intro _ _ _ hq; exact hq)
          · rfl
          · (intro _w hSw; (try dsimp only at hSw); go_simp; try with_reducible rfl)
          · assumption
          try simp only [Act.put, List.setIfInBounds_toArray, List.set_cons_zero, List.set_cons_succ]
          refine take_in (i := 8) (v := ?_) (d := (some 28)) rfl rfl ?_ ?_ ?_ ?_ ?_ ?_ ?_ ?_
          rotate_left
          · kernel_rfl
          · kernel_rfl
          · kernel_rfl
          · (intro _ _ _ hq; exact hq)
          · rfl
          · (intro _w hSw; (try dsimp only at hSw); go_simp; try with_reducible rfl)
          · assumption
          try simp only [Act.put, List.setIfInBounds_toArray, List.set_cons_zero, List.set_cons_succ]
          refine take_in (i := 9) (v := ?_) (d := (some 29)) rfl rfl ?_ ?_ ?_ ?_ ?_ ?_ ?_ ?_
          rotate_left
          · kernel_rfl
          · kernel_rfl
          · kernel_rfl
          · (intro _ _ _ hq; exact hq)
          · rfl
          · (intro _w hSw; (try dsimp only at hSw); go_simp; try with_reducible rfl)
          · assumption
          try simp only [Act.put, List.setIfInBounds_toArray, List.set_cons_zero, List.set_cons_succ]
          refine take_in (i := 10) (v := ?_) (d := (some 30)) rfl rfl ?_ ?_ ?_ ?_ ?_ ?_ ?_ ?_
          rotate_left
          · kernel_rfl
          · kernel_rfl
          · kernel_rfl
          · (intro _ _ _ hq; exact hq)
          · rfl
          · (intro _w hSw; (try dsimp only at hSw); go_simp; try with_reducible rfl)
          · assumption
          try simp only [Act.put, List.setIfInBounds_toArray, List.set_cons_zero, List.set_cons_succ]
          refine take_in (i := 11) (v := ?_) (d := (some 31)) rfl rfl ?_ ?_ ?_ ?_ ?_ ?_ ?_ ?_
          rotate_left
          · kernel_rfl
          · kernel_rfl
          · kernel_rfl
          · (intro _ _ _ hq; exact hq)
          · rfl
          · (intro _w hSw; (try dsimp only at hSw); go_simp; try with_reducible rfl)
          · assumption
          try simp only [Act.put, List.setIfInBounds_toArray, List.set_cons_zero, List.set_cons_succ]
          refine take_in (i := 12) (v := ?_) (d := (some 32)) rfl rfl ?_ ?_ ?_ ?_ ?_ ?_ ?_ ?_
          rotate_left
          · kernel_rfl
          · kernel_rfl
          · kernel_rfl
          · (intro _ _ _ hq; exact hq)
          · rfl
          · (intro _w hSw; (try dsimp only at hSw); go_simp; try with_reducible rfl)
          · assumption
          try simp only [Act.put, List.setIfInBounds_toArray, List.set_cons_zero, List.set_cons_succ]
          refine take_in (i := 13) (v := ?_) (d := (some 33)) rfl rfl ?_ ?_ ?_ ?_ ?_ ?_ ?_ ?_
          rotate_left
          · kernel_rfl
          · kernel_rfl
          · kernel_rfl
          · (intro _ _ _ hq; exact hq)
          · rfl
          · (intro _w hSw; (try dsimp only at hSw); go_simp; try with_reducible rfl)
          · assumption
          try simp only [Act.put, List.setIfInBounds_toArray, List.set_cons_zero, List.set_cons_succ]
          refine take_in (i := 14) (v := ?_) (d := (some 34)) rfl rfl ?_ ?_ ?_ ?_ ?_ ?_ ?_ ?_
          rotate_left
          · kernel_rfl
          · kernel_rfl
          · kernel_rfl
          · (intro _ _ _ hq; exact hq)
          · rfl
          · (intro _w hSw; (try dsimp only at hSw); go_simp; try with_reducible rfl)
          · assumption
          try simp only [Act.put, List.setIfInBounds_toArray, List.set_cons_zero, List.set_cons_succ]
          refine take_in (i := 15) (v := ?_) (d := (some 35)) rfl rfl ?_ ?_ ?_ ?_ ?_ ?_ ?_ ?_
          rotate_left
          · kernel_rfl
          · kernel_rfl
          · kernel_rfl
          · (intro _ _ _ hq; exact hq)
          · rfl
          · (intro _w hSw; (try dsimp only at hSw); go_simp; try with_reducible rfl)
          · assumption
          try simp only [Act.put, List.setIfInBounds_toArray, List.set_cons_zero, List.set_cons_succ]
          refine take_in (i := 16) (v := ?_) (d := (some 36)) rfl rfl ?_ ?_ ?_ ?_ ?_ ?_ ?_ ?_
          rotate_left
          · kernel_rfl
          · kernel_rfl
          · kernel_rfl
          · (intro _ _ _ hq; exact hq)
          · rfl
          · (intro _w hSw; (try dsimp only at hSw); go_simp; try with_reducible rfl)
          · assumption
          try simp only [Act.put, List.setIfInBounds_toArray, List.set_cons_zero, List.set_cons_succ]
          refine take_in (i := 17) (v := ?_) (d := (some 37)) rfl rfl ?_ ?_ ?_ ?_ ?_ ?_ ?_ ?_
          rotate_left
          · kernel_rfl
          · kernel_rfl
          · kernel_rfl
          · (intro _ _ _ hq; exact hq)
          · rfl
          · (intro _w hSw; (try dsimp only at hSw); go_simp; try with_reducible rfl)
          · assumption
          try simp only [Act.put, List.setIfInBounds_toArray, List.set_cons_zero, List.set_cons_succ]
          refine take_in (i := 18) (v := ?_) (d := (some 38)) rfl rfl ?_ ?_ ?_ ?_ ?_ ?_ ?_ ?_
          rotate_left
          · kernel_rfl
          · kernel_rfl
          · kernel_rfl
          · (intro _ _ _ hq; exact hq)
          · rfl
          · (intro _w hSw; (try dsimp only at hSw); go_simp; try with_reducible rfl)
          · assumption
          try simp only [Act.put, List.setIfInBounds_toArray, List.set_cons_zero, List.set_cons_succ]
          refine take_in (i := 19) (v := ?_) (d := (some 39)) rfl rfl ?_ ?_ ?_ ?_ ?_ ?_ ?_ ?_
          rotate_left
          · kernel_rfl
          · kernel_rfl
          · kernel_rfl
          · (intro _ _ _ hq; exact hq)
          · rfl
          · (intro _w hSw; (try dsimp only at hSw); go_simp; try with_reducible rfl)
          · assumption
          try simp only [Act.put, List.setIfInBounds_toArray, List.set_cons_zero, List.set_cons_succ]
          refine take_in (i := 20) (v := ?_) (d := (some 40)) rfl rfl ?_ ?_ ?_ ?_ ?_ ?_ ?_ ?_
          rotate_left
          · kernel_rfl
          · kernel_rfl
          · kernel_rfl
          · (intro _ _ _ hq; exact hq)
          · rfl
          · (intro _w hSw; (try dsimp only at hSw); go_simp; try with_reducible rfl)
          · assumption
          try simp only [Act.put, List.setIfInBounds_toArray, List.set_cons_zero, List.set_cons_succ]
          refine take_in (i := 21) (v := ?_) (d := (some 41)) rfl rfl ?_ ?_ ?_ ?_ ?_ ?_ ?_ ?_
          rotate_left
          · kernel_rfl
          · kernel_rfl
          · kernel_rfl
          · (intro _ _ _ hq; exact hq)
          · rfl
          · (intro _w hSw; (try dsimp only at hSw); go_simp; try with_reducible rfl)
          · assumption
          try simp only [Act.put, List.setIfInBounds_toArray, List.set_cons_zero, List.set_cons_succ]
          refine take_in (i := 22) (v := ?_) (d := (some 42)) rfl rfl ?_ ?_ ?_ ?_ ?_ ?_ ?_ ?_
          rotate_left
          · kernel_rfl
          · kernel_rfl
          · kernel_rfl
          · (intro _ _ _ hq; exact hq)
          · rfl
          · (intro _w hSw; (try dsimp only at hSw); go_simp; try with_reducible rfl)
          · assumption
          try simp only [Act.put, List.setIfInBounds_toArray, List.set_cons_zero, List.set_cons_succ]
          refine take_in (i := 23) (v := ?_) (d := (some 43)) rfl rfl ?_ ?_ ?_ ?_ ?_ ?_ ?_ ?_
          rotate_left
          · kernel_rfl
          · kernel_rfl
          · kernel_rfl
          · (intro _ _ _ hq; exact hq)
          · rfl
          · (intro _w hSw; (try dsimp only at hSw); go_simp; try with_reducible rfl)
          · assumption
          try simp only [Act.put, List.setIfInBounds_toArray, List.set_cons_zero, List.set_cons_succ]
          refine take_in (i := 24) (v := ?_) (d := (some 44)) rfl rfl ?_ ?_ ?_ ?_ ?_ ?_ ?_ ?_
          rotate_left
          · kernel_rfl
          · kernel_rfl
          · kernel_rfl
          · (intro _ _ _ hq; exact hq)
          · rfl
          · (intro _w hSw; (try dsimp only at hSw); go_simp; try with_reducible rfl)
          · assumption
          try simp only [Act.put, List.setIfInBounds_toArray, List.set_cons_zero, List.set_cons_succ]
          refine take_in (i := 25) (v := ?_) (d := (some 45)) rfl rfl ?_ ?_ ?_ ?_ ?_ ?_ ?_ ?_
          rotate_left
          · kernel_rfl
          · kernel_rfl
          · kernel_rfl
          · (intro _ _ _ hq; exact hq)
          · rfl
          · (intro _w hSw; (try dsimp only at hSw); go_simp; try with_reducible rfl)
          · assumption
          try simp only [Act.put, List.setIfInBounds_toArray, List.set_cons_zero, List.set_cons_succ]
          refine take_in (i := 26) (v := ?_) (d := (some 46)) rfl rfl ?_ ?_ ?_ ?_ ?_ ?_ ?_ ?_
          rotate_left
          · kernel_rfl
          · kernel_rfl
          · kernel_rfl
          · (intro _ _ _ hq; exact hq)
          · rfl
          · (intro _w hSw; (try dsimp only at hSw); go_simp; try with_reducible rfl)
          · assumption
          try simp only [Act.put, List.setIfInBounds_toArray, List.set_cons_zero, List.set_cons_succ]
          refine take_in (i := 27) (v := ?_) (d := (some 47)) rfl rfl ?_ ?_ ?_ ?_ ?_ ?_ ?_ ?_
          rotate_left
          · kernel_rfl
          · kernel_rfl
          · kernel_rfl
          · (intro _ _ _ hq; exact hq)
          · rfl
          · (intro _w hSw; (try dsimp only at hSw); go_simp; try with_reducible rfl)
          · assumption
          try simp only [Act.put, List.setIfInBounds_toArray, List.set_cons_zero, List.set_cons_succ]
          refine wpAnyH_done ?_ ?_ _
          · kernel_rfl
          rotate_left
          all_goals
            obtain ⟨hB, h0, h1, h2, h3⟩ := hHeld
            have z0 := (hFB.out.keep hB).free 0
            have z1 := (hFB.out.keep hB).free 1
            have z2 := hFB.out.free 0
            have z3 := hFB.out.free 1
            go_wp2_with fail
            go_roundw
            case rel => exact ⟨k + 1, fx, fy, by omega, by go_num, HM, Lib.hid (hFB.out.keep hB), hg.trans hB⟩
            case measure => simp [intOf]; omega
      · have HM : Hid (mnI ps (k + 1) = (fx, fy)) := Lib.hid (by rw [HMS.out, if_neg (by omega)])
        have g1 : decide (x < fx) = false := by simp; omega
        have g2 : ((x : Int) == fx) = false := by simp; omega
        clear hx
        go_wp2_with fail
        refine wp_region_held_drew (S := (fun W' => Gr wr W' ∧ W'.cell? ⟨b, off + k * 2, none⟩ = some (.int .i64 x) ∧ W'.cell? ⟨b, off + k * 2 + 1, none⟩ = some (.int .i64 y) ∧ W'.cell? ⟨F, 0, none⟩ = some (.int .i64 fx) ∧ W'.cell? ⟨F, 1, none⟩ = some (.int .i64 fy))) ?_ ?_ (fun hHeld => ?_)
        · kernel_rfl
        · ((try dsimp only); (refine KS.out _ ?_; (repeat (first | exact Gr.refl _ | exact hHeld.1 | (refine Gr.drew ?_) | (refine Gr.alloc ?_ _) | (refine Gr.trans ?_ (by assumption))))))
        refine take_in (i := 0) (v := ?_) (d := (some 20)) rfl rfl ?_ ?_ ?_ ?_ ?_ ?_ ?_ ?_
        rotate_left
        · kernel_rfl
        · kernel_rfl
        · kernel_rfl
        · (intro _ _ _ hq; exact hq)
        · rfl
        · (intro _w hSw; (try dsimp only at hSw); go_simp; try with_reducible rfl)
        · assumption
        try simp only [Act.put, List.setIfInBounds_toArray, List.set_cons_zero, List.set_cons_succ]
        refine take_in (i := 1) (v := ?_) (d := (some 21)) rfl rfl ?_ ?_ ?_ ?_ ?_ ?_ ?_ ?_
        rotate_left
        · kernel_rfl
        · kernel_rfl
        · kernel_rfl
        · (intro _ _ _ hq; exact hq)
        · rfl
        · (intro _w hSw; (try dsimp only at hSw); go_simp; try with_reducible rfl)
        · assumption
        try simp only [Act.put, List.setIfInBounds_toArray, List.set_cons_zero, List.set_cons_succ]
        refine take_in (i := 2) (v := ?_) (d := (some 22)) rfl rfl ?_ ?_ ?_ ?_ ?_ ?_ ?_ ?_
        rotate_left
        · kernel_rfl
        · kernel_rfl
        · kernel_rfl
        · (intro _ _ _ hq; exact hq)
        · rfl
        · (intro _w hSw; (try dsimp only at hSw); go_simp; try with_reducible rfl)
        · assumption
        try simp only [Act.put, List.setIfInBounds_toArray, List.set_cons_zero, List.set_cons_succ]
        refine take_in (i := 3) (v := ?_) (d := (some 23)) rfl rfl ?_ ?_ ?_ ?_ ?_ ?_ ?_ ?_
        rotate_left
        · kernel_rfl
        · kernel_rfl
        · kernel_rfl
        · (intro _ _ _ hq; exact hq)
        · rfl
        · (intro _w hSw; (try dsimp only at hSw); go_simp; try with_reducible rfl)
        · assumption
        try simp only [Act.put, List.setIfInBounds_toArray, List.set_cons_zero, List.set_cons_succ]
        refine take_in (i := 4) (v := ?_) (d := (some 24)) rfl rfl ?_ ?_ ?_ ?_ ?_ ?_ ?_ ?_
        rotate_left
        · kernel_rfl
        · kernel_rfl
        · kernel_rfl
        · (intro _ _ _ hq; exact hq)
        · rfl
        · (intro _w hSw; (try dsimp only at hSw); go_simp; try with_reducible rfl)
        · assumption
        try simp only [Act.put, List.setIfInBounds_toArray, List.set_cons_zero, List.set_cons_succ]
        refine take_in (i := 5) (v := ?_) (d := (some 25)) rfl rfl ?_ ?_ ?_ ?_ ?_ ?_ ?_ ?_
        rotate_left
        · kernel_rfl
        · kernel_rfl
        · kernel_rfl
        · (intro _ _ _ hq; exact hq)
        · rfl
        · (intro _w hSw; (try dsimp only at hSw); go_simp; try with_reducible rfl)
        · assumption
        try simp only [Act.put, List.setIfInBounds_toArray, List.set_cons_zero, List.set_cons_succ]
        refine take_in (i := 6) (v := ?_) (d := (some 26)) rfl rfl ?_ ?_ ?_ ?_ ?_ ?_ ?_ ?_
        rotate_left
        · kernel_rfl
        · kernel_rfl
        · kernel_rfl
        · (intro _ _ _ hq; exact hq)
        · rfl
        · (intro _w hSw; (try dsimp only at hSw); go_simp; try with_reducible rfl)
        · assumption
        try simp only [Act.put, List.setIfInBounds_toArray, List.set_cons_zero, List.set_cons_succ]
        refine take_in (i := 7) (v := ?_) (d := (some 27)) rfl rfl ?_ ?_ ?_ ?_ ?_ ?_ ?_ ?_
        rotate_left
        · kernel_rfl
        · kernel_rfl
        · kernel_rfl
        · (intro _ _ _ hq; exact hq)
        · rfl
        · (intro _w hSw; (try dsimp only at hSw); go_simp; try with_reducible rfl)
        · assumption
        try simp only [Act.put, List.setIfInBounds_toArray, List.set_cons_zero, List.set_cons_succ]
        refine take_in (i := 8) (v := ?_) (d := (some 28)) rfl rfl ?_ ?_ ?_ ?_ ?_ ?_ ?_ ?_
        rotate_left
        · kernel_rfl
        · kernel_rfl
        · kernel_rfl
        · (intro _ _ _ hq; exact hq)
        · rfl
        · (intro _w hSw; (try dsimp only at hSw); go_simp; try with_reducible rfl)
        · assumption
        try simp only [Act.put, List.setIfInBounds_toArray, List.set_cons_zero, List.set_cons_succ]
        refine take_in (i := 9) (v := ?_) (d := (some 29)) rfl rfl ?_ ?_ ?_ ?_ ?_ ?_ ?_ ?_
        rotate_left
        · kernel_rfl
        · kernel_rfl
        · kernel_rfl
        · (intro _ _ _ hq; exact hq)
        · rfl
        · (intro _w hSw; (try dsimp only at hSw); go_simp; try with_reducible rfl)
        · assumption
        try simp only [Act.put, List.setIfInBounds_toArray, List.set_cons_zero, List.set_cons_succ]
        refine take_in (i := 10) (v := ?_) (d := (some 30)) rfl rfl ?_ ?_ ?_ ?_ ?_ ?_ ?_ ?_
        rotate_left
        · kernel_rfl
        · kernel_rfl
        · kernel_rfl
        · (intro _ _ _ hq; exact hq)
        · rfl
        · (intro _w hSw; (try dsimp only at hSw); go_simp; try with_reducible rfl)
        · assumption
        try simp only [Act.put, List.setIfInBounds_toArray, List.set_cons_zero, List.set_cons_succ]
        refine take_in (i := 11) (v := ?_) (d := (some 31)) rfl rfl ?_ ?_ ?_ ?_ ?_ ?_ ?_ ?_
        rotate_left
        · kernel_rfl
        · kernel_rfl
        · kernel_rfl
        · (intro _ _ _ hq; exact hq)
        · rfl
        · (intro _w hSw; (try dsimp only at hSw); go_simp; try with_reducible rfl)
        · assumption
        try simp only [Act.put, List.setIfInBounds_toArray, List.set_cons_zero, List.set_cons_succ]
        refine take_in (i := 12) (v := ?_) (d := (some 32)) rfl rfl ?_ ?_ ?_ ?_ ?_ ?_ ?_ ?_
        rotate_left
        · kernel_rfl
        · kernel_rfl
        · kernel_rfl
        · (intro _ _ _ hq; exact hq)
        · rfl
        · (intro _w hSw; (try dsimp only at hSw); go_simp; try with_reducible rfl)
        · assumption
        try simp only [Act.put, List.setIfInBounds_toArray, List.set_cons_zero, List.set_cons_succ]
        refine take_in (i := 13) (v := ?_) (d := (some 33)) rfl rfl ?_ ?_ ?_ ?_ ?_ ?_ ?_ ?_
        rotate_left
        · kernel_rfl
        · kernel_rfl
        · kernel_rfl
        · (intro _ _ _ hq; exact hq)
        · rfl
        · (intro _w hSw; (try dsimp only at hSw); go_simp; try with_reducible rfl)
        · assumption
        try simp only [Act.put, List.setIfInBounds_toArray, List.set_cons_zero, List.set_cons_succ]
        refine take_in (i := 14) (v := ?_) (d := (some 34)) rfl rfl ?_ ?_ ?_ ?_ ?_ ?_ ?_ ?_
        rotate_left
        · kernel_rfl
        · kernel_rfl
        · kernel_rfl
        · (intro _ _ _ hq; exact hq)
        · rfl
        · (intro _w hSw; (try dsimp only at hSw); go_simp; try with_reducible rfl)
        · assumption
        try simp only [Act.put, List.setIfInBounds_toArray, List.set_cons_zero, List.set_cons_succ]
        refine take_in (i := 15) (v := ?_) (d := (some 35)) rfl rfl ?_ ?_ ?_ ?_ ?_ ?_ ?_ ?_
        rotate_left
        · kernel_rfl
        · kernel_rfl
        · kernel_rfl
        · (intro _ _ _ hq; exact hq)
        · rfl
        · (intro _w hSw; (try dsimp only at hSw); go_simp; try with_reducible rfl)
        · assumption
        try simp only [Act.put, List.setIfInBounds_toArray, List.set_cons_zero, List.set_cons_succ]
        refine take_in (i := 16) (v := ?_) (d := (some 36)) rfl rfl ?_ ?_ ?_ ?_ ?_ ?_ ?_ ?_
        rotate_left
        · kernel_rfl
        · kernel_rfl
        · kernel_rfl
        · (intro _ _ _ hq; exact hq)
        · rfl
        · (intro _w hSw; (try dsimp only at hSw); go_simp; try with_reducible rfl)
        · assumption
        try simp only [Act.put, List.setIfInBounds_toArray, List.set_cons_zero, List.set_cons_succ]
        refine take_in (i := 17) (v := ?_) (d := (some 37)) rfl rfl ?_ ?_ ?_ ?_ ?_ ?_ ?_ ?_
        rotate_left
        · kernel_rfl
        · kernel_rfl
        · kernel_rfl
        · (intro _ _ _ hq; exact hq)
        · rfl
        · (intro _w hSw; (try dsimp only at hSw); go_simp; try with_reducible rfl)
        · assumption
        try simp only [Act.put, List.setIfInBounds_toArray, List.set_cons_zero, List.set_cons_succ]
        refine take_un (i := 18) (d := (some 38)) rfl rfl ?_ ?_ ?_ ?_ ?_ ?_ ?_
        · kernel_rfl
        · kernel_rfl
        · kernel_rfl
        · (intro _ _ _ hq; exact hq)
        · rfl
        · assumption
        try simp only [Act.put, List.setIfInBounds_toArray, List.set_cons_zero, List.set_cons_succ]
        refine take_un (i := 19) (d := (some 39)) rfl rfl ?_ ?_ ?_ ?_ ?_ ?_ ?_
        · kernel_rfl
        · kernel_rfl
        · kernel_rfl
        · (intro _ _ _ hq; exact hq)
        · rfl
        · assumption
        try simp only [Act.put, List.setIfInBounds_toArray, List.set_cons_zero, List.set_cons_succ]
        refine take_un (i := 20) (d := (some 40)) rfl rfl ?_ ?_ ?_ ?_ ?_ ?_ ?_
        · kernel_rfl
        · kernel_rfl
        · kernel_rfl
        · (intro _ _ _ hq; exact hq)
        · rfl
        · assumption
        try simp only [Act.put, List.setIfInBounds_toArray, List.set_cons_zero, List.set_cons_succ]
        refine take_un (i := 21) (d := (some 41)) rfl rfl ?_ ?_ ?_ ?_ ?_ ?_ ?_
        · kernel_rfl
        · kernel_rfl
        · kernel_rfl
        · (intro _ _ _ hq; exact hq)
        · rfl
        · assumption
        try simp only [Act.put, List.setIfInBounds_toArray, List.set_cons_zero, List.set_cons_succ]
        refine take_un (i := 22) (d := (some 42)) rfl rfl ?_ ?_ ?_ ?_ ?_ ?_ ?_
        · kernel_rfl
        · kernel_rfl
        · kernel_rfl
        · (intro _ _ _ hq; exact hq)
        · rfl
        · assumption
        try simp only [Act.put, List.setIfInBounds_toArray, List.set_cons_zero, List.set_cons_succ]
        refine take_un (i := 23) (d := (some 43)) rfl rfl ?_ ?_ ?_ ?_ ?_ ?_ ?_
        · kernel_rfl
        · kernel_rfl
        · kernel_rfl
        · (intro _ _ _ hq; exact hq)
        · rfl
        · assumption
        try simp only [Act.put, List.setIfInBounds_toArray, List.set_cons_zero, List.set_cons_succ]
        refine take_un (i := 24) (d := (some 44)) rfl rfl ?_ ?_ ?_ ?_ ?_ ?_ ?_
        · kernel_rfl
        · kernel_rfl
        · kernel_rfl
        · (intro _ _ _ hq; exact hq)
        · rfl
        · assumption
        try simp only [Act.put, List.setIfInBounds_toArray, List.set_cons_zero, List.set_cons_succ]
        refine take_un (i := 25) (d := (some 45)) rfl rfl ?_ ?_ ?_ ?_ ?_ ?_ ?_
        · kernel_rfl
        · kernel_rfl
        · kernel_rfl
        · (intro _ _ _ hq; exact hq)
        · rfl
        · assumption
        try simp only [Act.put, List.setIfInBounds_toArray, List.set_cons_zero, List.set_cons_succ]
        refine take_in (i := 26) (v := ?_) (d := (some 46)) rfl rfl ?_ ?_ ?_ ?_ ?_ ?_ ?_ ?_
        rotate_left
        · kernel_rfl
        · kernel_rfl
        · kernel_rfl
        · (intro _ _ _ hq; exact hq)
        · rfl
        · (intro _w hSw; (try dsimp only at hSw); go_simp; try with_reducible rfl)
        · assumption
        try simp only [Act.put, List.setIfInBounds_toArray, List.set_cons_zero, List.set_cons_succ]
        refine take_in (i := 27) (v := ?_) (d := (some 47)) rfl rfl ?_ ?_ ?_ ?_ ?_ ?_ ?_ ?_
        rotate_left
        · kernel_rfl
        · kernel_rfl
        · kernel_rfl
        · (intro _ _ _ hq; exact hq)
        · rfl
        · (intro _w hSw; (try dsimp only at hSw); go_simp; try with_reducible rfl)
        · assumption
        try simp only [Act.put, List.setIfInBounds_toArray, List.set_cons_zero, List.set_cons_succ]
        refine wpAnyH_done ?_ ?_ _
        · kernel_rfl
        rotate_left
        all_goals
          obtain ⟨hB, h0, h1, h2, h3⟩ := hHeld
          have z0 := (hFB.out.keep hB).free 0
          have z1 := (hFB.out.keep hB).free 1
          have z2 := hFB.out.free 0
          have z3 := hFB.out.free 1
          go_wp2_with fail
          go_roundw
          case rel => exact ⟨k + 1, fx, fy, by omega, by go_num, HM, Lib.hid (hFB.out.keep hB), hg.trans hB⟩
          case measure => simp [intOf]; omega
    · have HMM : Hid ((fx, fy) = cs.getD 0 (0, 0)) := Lib.hid (by
        have h : k = n := by omega
        rw [← hmn.out, h, ← HN.out]
        exact mn_first HW.out)
      have HGW := Lib.hid hg
      obtain ⟨hi0, hz0, hz1, hz2⟩ := HI23.out
      go_wp2_with (at_builtin; refine wpList_append_lies _ rfl _ _ 22 rfl (F + 1) 40 i0 _ 2 16 Try.underlying22 hi0 hz0 hz1 hz2 rfl (by decide) _ _ _ rfl (World.ownsRow_nil _ _ _ _) ⟨wr.heap.size, 0, none⟩ 1 1 [.int .i64 fx, .int .i64 fy] rfl rfl ?a1 ?a2 ?a0 ?a3 ?a4 ?a5 (wr.heap.size + 1) ?a6 ?_)
      case a1 =>
        intro t u ht
        rw [Addr.add_lit]
        exact alloc_new rfl (by rw [Nat.zero_add]; simpa using ht)
      case a2 =>
        intro u hu
        simp at hu
        rcases hu with rfl | rfl <;> rfl
      case a0 => omega
      case a3 => unfold maxLen; omega
      case a4 => omega
      case a5 => have := hFB.out.lt; simp; omega
      case a6 => simp
      intro gz cz w8 hown0 hgrow0 hlies0 hgz
      have bF : Blk w8 F 40 #[.int .i64 fx, .int .i64 fy] := (hFB.out.keep ((Gr.refl _).alloc _)).grown hgrow0 (by simp [Value.ownBlock])
      have c0 : w8.cell? ⟨F, 0, none⟩ = some (.int .i64 fx) := by rw [bF.cell]; rfl
      have c1 : w8.cell? ⟨F, 1, none⟩ = some (.int .i64 fy) := by rw [bF.cell]; rfl
      have hg8 : Gr w w8 := Below.grown (hg.alloc _) hgrow0 (by have := hg.size; simp; omega) (fun t ht => by simp [Value.ownBlock] at ht)
      have HO0 : Hid (w8.ownsRow (F + 1) 40 2 (.slice (some ⟨gz, 0, none⟩) 1 cz) 1 (flat2 (cs.take 1))) := Lib.hid (by
        have e : cs.take 1 = [(fx, fy)] := by
          rw [List.take_add_one, getD_of (0, 0) (by rw [HR.out]; omega), ← HMM.out]; rfl
        rw [e]
        simpa [flat2, enc2] using hown0)
      have HBF0 := Lib.hid bF
      have HG80 := Lib.hid hg8
      have hF8 : F < w8.heap.size := bF.lt
      have HM0 : Hid (cs.getD 0 (0, 0) = (fx, fy)) := Lib.hid HMM.out.symm
      clear hown0 hgrow0 hlies0 hi0 hz0 hz1 hz2 bF hg8 f0 f1 hk hmn hFB hg
      go_wp2_with fail
      go_loopw [5, 6] (fun v a w2 => ∃ (k gv cv AT : Nat) (ax ay : Int), k < r ∧ v = .slice (some ⟨gv, 0, none⟩) (k + 1) cv ∧ a = .pointer (some ⟨AT, 0, none⟩) ∧ Hid (cs.getD k (0, 0) = (ax, ay)) ∧ Hid (w2.ownsRow (F + 1) 40 2 (.slice (some ⟨gv, 0, none⟩) (k + 1) cv) (k + 1) (flat2 (cs.take (k + 1)))) ∧ Hid (Blk w2 AT 40 #[.int .i64 ax, .int .i64 ay]) ∧ Hid (Blk w2 F 40 #[.int .i64 fx, .int .i64 fy]) ∧ gv < AT ∧ F < AT ∧ Gr w w2) (fun v _ _ => r - lenOf v)
      case atStart => exact ⟨0, gz, cz, w8.heap.size, fx, fy, by omega, rfl, rfl, HM0, Lib.hid (HO0.out.alloc _), Lib.hid (heap_alloc_new w8 _), Lib.hid (HBF0.out.keep ((Gr.refl _).alloc _)), hgz, hF8, HG80.out.alloc _⟩
      case round =>
        obtain ⟨wo, rfl⟩ : ∃ wo : World, wo = wr := ⟨_, rfl⟩
        obtain ⟨k, gv, cv, AT, ax, ay, hk, rfl, rfl, HAK, hown, hAT, hFB, hgv, hFA, hgw⟩ := hrel
        have ca : Co ax ∧ Co ay := by
          have h := HCC.out k
          rw [HAK.out] at h; exact h
        have hATw : w.heap.size ≤ AT := by omega
        have a0 : wo.cell? ⟨AT, 0, none⟩ = some (.int .i64 ax) := by rw [hAT.out.cell]; rfl
        have a1 : wo.cell? ⟨AT, 1, none⟩ = some (.int .i64 ay) := by rw [hAT.out.cell]; rfl
        have hAl := hAT.out.lt
        have hgl : gv < wo.heap.size := by omega
        go_wp2_with fail
        generalize hW : World.alloc wo _ = W
        have hg0 : Gr wo W := by rw [← hW]; exact (Gr.refl _).alloc _
        obtain ⟨TO, hTOe⟩ : ∃ TO, wo.heap.size = TO := ⟨_, rfl⟩
        have HTO0 : Hid (Blk W TO 40 #[.int .i64 ax, .int .i64 ay]) := Lib.hid (by rw [← hTOe, ← hW]; exact heap_alloc_new wo _)
        rw [hTOe]
        clear hW a0 a1
        go_wp2_with fail
        go_loopw [8] (fun iv w3 => ∃ (i : Nat) (tx ty : Int), i ≤ n ∧ iv = .int .i64 i ∧ Hid (selI (ax, ay) ps i = (tx, ty)) ∧ Hid (Blk w3 TO 40 #[.int .i64 tx, .int .i64 ty]) ∧ Gr wo w3) (fun iv _ => n - (intOf iv).toNat)
        case atStart => exact ⟨0, ax, ay, Nat.zero_le _, rfl, Lib.hid rfl, HTO0, hg0⟩
        case round =>
          obtain ⟨w3, rfl⟩ : ∃ w3 : World, w3 = wr := ⟨_, rfl⟩
          obtain ⟨i, tx, ty, hi, rfl, hsel, hTO, hgi⟩ := hrel
          have ha0 : w3.cell? ⟨AT, 0, none⟩ = some (.int .i64 ax) := by rw [(hAT.out.keep hgi).cell]; rfl
          have ha1 : w3.cell? ⟨AT, 1, none⟩ = some (.int .i64 ay) := by rw [(hAT.out.keep hgi).cell]; rfl
          have ht0 : w3.cell? ⟨TO, 0, none⟩ = some (.int .i64 tx) := by rw [hTO.out.cell]; rfl
          have ht1 : w3.cell? ⟨TO, 1, none⟩ = some (.int .i64 ty) := by rw [hTO.out.cell]; rfl
          by_cases hli : i < n
          · obtain ⟨b', off', e', p0, p1⟩ := Pts_at (HP.out.keep (hgw.trans hgi)) (k := i) (by have := HN.out; omega)
            obtain ⟨rfl, rfl⟩ : b = b' ∧ off = off' := by simpa using e'
            clear e'
            have cp := HV.out i
            have HSS : Hid (selI (ax, ay) ps (i + 1) = sel (ax, ay) (tx, ty) (ps.getD i (0, 0))) := Lib.hid (by rw [selI, hsel.out])
            have ct : Co tx ∧ Co ty := by
              have h := selI_co HV.out (a := (ax, ay)) ca i
              rw [hsel.out] at h; exact h
            generalize ps.getD i (0, 0) = p at p0 p1 cp HSS
            obtain ⟨x, y⟩ := p
            dsimp only at p0 p1 cp
            by_cases he : (x, y) = (ax, ay)
            · have HSL : Hid (selI (ax, ay) ps (i + 1) = (tx, ty)) := Lib.hid (by rw [HSS.out]; unfold sel; rw [if_pos he])
              have e1 : (x == ax) = true := by simpa using congrArg Prod.fst he
              have e2 : (y == ay) = true := by simpa using congrArg Prod.snd he
              clear he
              have d0 : ∀ o, (w3.alloc o).cell? ⟨AT, 0, none⟩ = some (.int .i64 ax) := fun o => alloc_old ha0
              have d1 : ∀ o, (w3.alloc o).cell? ⟨AT, 1, none⟩ = some (.int .i64 ay) := fun o => alloc_old ha1
              go_wp2_with fail
              go_roundw
              case rel => exact ⟨i + 1, tx, ty, by omega, by go_num, HSL, Lib.hid (hTO.out.keep ((Gr.refl _).alloc _)), hgi.alloc _⟩
              case measure => simp [intOf]; omega
            · have e3 := ne_ways he
              have HNE := Lib.hid he
              clear he
              have d0 : ∀ o, (w3.alloc o).cell? ⟨AT, 0, none⟩ = some (.int .i64 ax) := fun o => alloc_old ha0
              have d1 : ∀ o, (w3.alloc o).cell? ⟨AT, 1, none⟩ = some (.int .i64 ay) := fun o => alloc_old ha1
              have d2 : ∀ o, (w3.alloc o).cell? ⟨TO, 0, none⟩ = some (.int .i64 tx) := fun o => alloc_old ht0
              have d3 : ∀ o, (w3.alloc o).cell? ⟨TO, 1, none⟩ = some (.int .i64 ty) := fun o => alloc_old ht1
              rcases e3 with e1 | ⟨e1, e2⟩
              all_goals
                go_wp2_with fail
                clear d0 d1 d2 d3
                generalize hW : World.alloc w3 _ = W4
                obtain ⟨hWg, r0, r1⟩ := box2h hW
                clear hW p0 p1
                obtain ⟨s, hs⟩ : ∃ s, sgn (crs ax ay tx ty x y) = s := ⟨_, rfl⟩
                have hsx : (cr (ax, ay) (tx, ty) (x, y) < 0 ↔ s < 0) ∧ (cr (ax, ay) (tx, ty) (x, y) = 0 ↔ s = 0) := by
                  rw [← hs]; unfold cr sgn; dsimp only; constructor <;> (split <;> (try split) <;> omega)
                have HSX := Lib.hid hsx
                refine (rTurn_is _ _ _ _ _ _ _ s hs ca.1 ca.2 ct.1 ct.2 cp.1 cp.2).mono ?_
                rintro e w6 ⟨rfl, hb5⟩
                clear hs hsx
                obtain ⟨PB, hPB⟩ : ∃ PB, w3.heap.size = PB := ⟨_, rfl⟩
                rw [hPB] at r0 r1 ⊢
                replace r0 := hb5.keep r0
                replace r1 := hb5.keep r1
                have a0 := hb5.keep (hWg.keep ha0)
                have a1 := hb5.keep (hWg.keep ha1)
                have t0 := hb5.keep (hWg.keep ht0)
                have t1 := hb5.keep (hWg.keep ht1)
                clear e1 hPB
                try clear e2
                have KS : Hid (∀ W', Gr w6 W' → (Gr w6 W' ∧ W'.cell? ⟨AT, 0, none⟩ = some (.int .i64 ax) ∧ W'.cell? ⟨AT, 1, none⟩ = some (.int .i64 ay) ∧ W'.cell? ⟨TO, 0, none⟩ = some (.int .i64 tx) ∧ W'.cell? ⟨TO, 1, none⟩ = some (.int .i64 ty) ∧ W'.cell? ⟨PB, 0, none⟩ = some (.int .i64 x) ∧ W'.cell? ⟨PB, 1, none⟩ = some (.int .i64 y))) := Lib.hid (fun W' h => ⟨h, h.keep a0, h.keep a1, h.keep t0, h.keep t1, h.keep r0, h.keep r1⟩)
                have HQ1 := Lib.hid (fun W => rSquare_any ax ay x y W ca.1 ca.2 cp.1 cp.2)
                have HQ2 := Lib.hid (fun W => rSquare_any ax ay tx ty W ca.1 ca.2 ct.1 ct.2)
                have HSQ : Hid (sqP (ax, ay) (x, y) = sqd ax ay x y ∧ sqP (ax, ay) (tx, ty) = sqd ax ay tx ty) := Lib.hid ⟨rfl, rfl⟩
                generalize sqd ax ay x y = q1 at HQ1 HSQ
                generalize sqd ax ay tx ty = q2 at HQ2 HSQ
                have hTOw : wo.heap.size ≤ TO := by omega
                by_cases ht : (tx, ty) = (ax, ay)
                · have HSL : Hid (selI (ax, ay) ps (i + 1) = (x, y)) := Lib.hid (by rw [HSS.out]; unfold sel; rw [if_neg HNE.out, if_pos (Or.inl ht)])
                  have f1 : (tx == ax) = true := by simpa using congrArg Prod.fst ht
                  have f2 : (ty == ay) = true := by simpa using congrArg Prod.snd ht
                  clear ht
                  go_wp2_with fail
                  refine wp_region_held_drew (S := (fun W' => Gr w6 W' ∧ W'.cell? ⟨AT, 0, none⟩ = some (.int .i64 ax) ∧ W'.cell? ⟨AT, 1, none⟩ = some (.int .i64 ay) ∧ W'.cell? ⟨TO, 0, none⟩ = some (.int .i64 tx) ∧ W'.cell? ⟨TO, 1, none⟩ = some (.int .i64 ty) ∧ W'.cell? ⟨PB, 0, none⟩ = some (.int .i64 x) ∧ W'.cell? ⟨PB, 1, none⟩ = some (.int .i64 y))) ?_ ?_ (fun hHeld => ?_)
                  · kernel_rfl
                  · ((try dsimp only); (refine KS.out _ ?_; (repeat (first | exact Gr.refl _ | exact hHeld.1 | (refine Gr.drew ?_) | (refine Gr.alloc ?_ _) | (refine Gr.trans ?_ (by assumption))))))
                  refine take_in (i := 0) (v := ?_) (d := (some 75)) rfl rfl ?_ ?_ ?_ ?_ ?_ ?_ ?_ ?_
                  rotate_left
                  · kernel_rfl
                  · kernel_rfl
                  · kernel_rfl
                  · (intro _ _ _ hq; exact hq)
                  · rfl
                  · (intro _w hSw; (try dsimp only at hSw); go_simp; try with_reducible rfl)
                  · assumption
                  try simp only [Act.put, List.setIfInBounds_toArray, List.set_cons_zero, List.set_cons_succ]
                  refine take_in (i := 1) (v := ?_) (d := (some 76)) rfl rfl ?_ ?_ ?_ ?_ ?_ ?_ ?_ ?_
                  rotate_left
                  · kernel_rfl
                  · kernel_rfl
                  · kernel_rfl
                  · (intro _ _ _ hq; exact hq)
                  · rfl
                  · (intro _w hSw; (try dsimp only at hSw); go_simp; try with_reducible rfl)
                  · assumption
                  try simp only [Act.put, List.setIfInBounds_toArray, List.set_cons_zero, List.set_cons_succ]
                  refine take_in (i := 2) (v := ?_) (d := (some 77)) rfl rfl ?_ ?_ ?_ ?_ ?_ ?_ ?_ ?_
                  rotate_left
                  · kernel_rfl
                  · kernel_rfl
                  · kernel_rfl
                  · (intro _ _ _ hq; exact hq)
                  · rfl
                  · (intro _w hSw; (try dsimp only at hSw); go_simp; try with_reducible rfl)
                  · assumption
                  try simp only [Act.put, List.setIfInBounds_toArray, List.set_cons_zero, List.set_cons_succ]
                  refine take_in (i := 3) (v := ?_) (d := (some 78)) rfl rfl ?_ ?_ ?_ ?_ ?_ ?_ ?_ ?_
                  rotate_left
                  · kernel_rfl
                  · kernel_rfl
                  · kernel_rfl
                  · (intro _ _ _ hq; exact hq)
                  · rfl
                  · (intro _w hSw; (try dsimp only at hSw); go_simp; try with_reducible rfl)
                  · assumption
                  try simp only [Act.put, List.setIfInBounds_toArray, List.set_cons_zero, List.set_cons_succ]
                  refine take_un (i := 4) (d := (some 79)) rfl rfl ?_ ?_ ?_ ?_ ?_ ?_ ?_
                  · kernel_rfl
                  · kernel_rfl
                  · kernel_rfl
                  · (intro _ _ _ hq; exact hq)
                  · rfl
                  · assumption
                  try simp only [Act.put, List.setIfInBounds_toArray, List.set_cons_zero, List.set_cons_succ]
                  refine take_un (i := 5) (d := (some 80)) rfl rfl ?_ ?_ ?_ ?_ ?_ ?_ ?_
                  · kernel_rfl
                  · kernel_rfl
                  · kernel_rfl
                  · (intro _ _ _ hq; exact hq)
                  · rfl
                  · assumption
                  try simp only [Act.put, List.setIfInBounds_toArray, List.set_cons_zero, List.set_cons_succ]
                  refine take_in (i := 6) (v := ?_) (d := (some 81)) rfl rfl ?_ ?_ ?_ ?_ ?_ ?_ ?_ ?_
                  rotate_left
                  · kernel_rfl
                  · kernel_rfl
                  · kernel_rfl
                  · (intro _ _ _ hq; exact hq)
                  · rfl
                  · (intro _w hSw; (try dsimp only at hSw); go_simp; try with_reducible rfl)
                  · assumption
                  try simp only [Act.put, List.setIfInBounds_toArray, List.set_cons_zero, List.set_cons_succ]
                  refine take_in (i := 7) (v := ?_) (d := (some 82)) rfl rfl ?_ ?_ ?_ ?_ ?_ ?_ ?_ ?_
                  rotate_left
                  · kernel_rfl
                  · kernel_rfl
                  · kernel_rfl
                  · (intro _ _ _ hq; exact hq)
                  · rfl
                  · (intro _w hSw; (try dsimp only at hSw); go_simp; try with_reducible rfl)
                  · assumption
                  try simp only [Act.put, List.setIfInBounds_toArray, List.set_cons_zero, List.set_cons_succ]
                  refine take_un (i := 8) (d := (some 83)) rfl rfl ?_ ?_ ?_ ?_ ?_ ?_ ?_
                  · kernel_rfl
                  · kernel_rfl
                  · kernel_rfl
                  · (intro _ _ _ hq; exact hq)
                  · rfl
                  · assumption
                  try simp only [Act.put, List.setIfInBounds_toArray, List.set_cons_zero, List.set_cons_succ]
                  refine take_un (i := 9) (d := (some 84)) rfl rfl ?_ ?_ ?_ ?_ ?_ ?_ ?_
                  · kernel_rfl
                  · kernel_rfl
                  · kernel_rfl
                  · (intro _ _ _ hq; exact hq)
                  · rfl
                  · assumption
                  try simp only [Act.put, List.setIfInBounds_toArray, List.set_cons_zero, List.set_cons_succ]
                  refine take_un (i := 10) (d := (some 85)) rfl rfl ?_ ?_ ?_ ?_ ?_ ?_ ?_
                  · kernel_rfl
                  · kernel_rfl
                  · kernel_rfl
                  · (intro _ _ _ hq; exact hq)
                  · rfl
                  · assumption
                  try simp only [Act.put, List.setIfInBounds_toArray, List.set_cons_zero, List.set_cons_succ]
                  refine take_un (i := 11) (d := (some 86)) rfl rfl ?_ ?_ ?_ ?_ ?_ ?_ ?_
                  · kernel_rfl
                  · kernel_rfl
                  · kernel_rfl
                  · (intro _ _ _ hq; exact hq)
                  · rfl
                  · assumption
                  try simp only [Act.put, List.setIfInBounds_toArray, List.set_cons_zero, List.set_cons_succ]
                  refine take_un (i := 12) (d := (some 87)) rfl rfl ?_ ?_ ?_ ?_ ?_ ?_ ?_
                  · kernel_rfl
                  · kernel_rfl
                  · kernel_rfl
                  · (intro _ _ _ hq; exact hq)
                  · rfl
                  · assumption
                  try simp only [Act.put, List.setIfInBounds_toArray, List.set_cons_zero, List.set_cons_succ]
                  refine take_un (i := 13) (d := (some 88)) rfl rfl ?_ ?_ ?_ ?_ ?_ ?_ ?_
                  · kernel_rfl
                  · kernel_rfl
                  · kernel_rfl
                  · (intro _ _ _ hq; exact hq)
                  · rfl
                  · assumption
                  try simp only [Act.put, List.setIfInBounds_toArray, List.set_cons_zero, List.set_cons_succ]
                  refine take_un (i := 14) (d := (some 89)) rfl rfl ?_ ?_ ?_ ?_ ?_ ?_ ?_
                  · kernel_rfl
                  · kernel_rfl
                  · kernel_rfl
                  · (intro _ _ _ hq; exact hq)
                  · rfl
                  · assumption
                  try simp only [Act.put, List.setIfInBounds_toArray, List.set_cons_zero, List.set_cons_succ]
                  refine take_un (i := 15) (d := (some 90)) rfl rfl ?_ ?_ ?_ ?_ ?_ ?_ ?_
                  · kernel_rfl
                  · kernel_rfl
                  · kernel_rfl
                  · (intro _ _ _ hq; exact hq)
                  · rfl
                  · assumption
                  try simp only [Act.put, List.setIfInBounds_toArray, List.set_cons_zero, List.set_cons_succ]
                  refine take_un (i := 16) (d := (some 91)) rfl rfl ?_ ?_ ?_ ?_ ?_ ?_ ?_
                  · kernel_rfl
                  · kernel_rfl
                  · kernel_rfl
                  · (intro _ _ _ hq; exact hq)
                  · rfl
                  · assumption
                  try simp only [Act.put, List.setIfInBounds_toArray, List.set_cons_zero, List.set_cons_succ]
                  refine take_un (i := 17) (d := (some 92)) rfl rfl ?_ ?_ ?_ ?_ ?_ ?_ ?_
                  · kernel_rfl
                  · kernel_rfl
                  · kernel_rfl
                  · (intro _ _ _ hq; exact hq)
                  · rfl
                  · assumption
                  try simp only [Act.put, List.setIfInBounds_toArray, List.set_cons_zero, List.set_cons_succ]
                  refine take_un (i := 18) (d := (some 93)) rfl rfl ?_ ?_ ?_ ?_ ?_ ?_ ?_
                  · kernel_rfl
                  · kernel_rfl
                  · kernel_rfl
                  · (intro _ _ _ hq; exact hq)
                  · rfl
                  · assumption
                  try simp only [Act.put, List.setIfInBounds_toArray, List.set_cons_zero, List.set_cons_succ]
                  refine take_in (i := 19) (v := ?_) (d := (some 94)) rfl rfl ?_ ?_ ?_ ?_ ?_ ?_ ?_ ?_
                  rotate_left
                  · kernel_rfl
                  · kernel_rfl
                  · kernel_rfl
                  · (intro _ _ _ hq; exact hq)
                  · rfl
                  · (intro _w hSw; (try dsimp only at hSw); go_simp; try with_reducible rfl)
                  · assumption
                  try simp only [Act.put, List.setIfInBounds_toArray, List.set_cons_zero, List.set_cons_succ]
                  refine wpAnyH_done ?_ ?_ _
                  · kernel_rfl
                  rotate_left
                  all_goals
                    obtain ⟨hB, h0, h1, h2, h3, h4, h5⟩ := hHeld
                    have z0 := ((hTO.out.keep hWg).keep (hb5.trans hB)).free 0
                    have z1 := ((hTO.out.keep hWg).keep (hb5.trans hB)).free 1
                    have z2 := ((hTO.out.keep hWg).keep hb5).free 0
                    have z3 := ((hTO.out.keep hWg).keep hb5).free 1
                    go_wp2_with fail
                    go_roundw
                    case rel => exact ⟨i + 1, x, y, by omega, by go_num, HSL, Lib.hid (by
                      have h := ((((hTO.out.keep hWg).keep hb5).keep hB).put 0 (.int .i64 x)).put 1 (.int .i64 y)
                      exact h), ((hgi.trans (hWg.trans (hb5.trans hB))).setCell (p := ⟨TO, 0, none⟩) hTOw _).setCell (p := ⟨TO, 1, none⟩) hTOw _⟩
                    case measure => simp [intOf]; omega
                · have f3 := ne_ways ht
                  have HNT := Lib.hid ht
                  clear ht
                  rcases Int.lt_trichotomy s 0 with hs | hs | hs
                  · have HSL : Hid (selI (ax, ay) ps (i + 1) = (x, y)) := Lib.hid (by rw [HSS.out]; unfold sel; rw [if_neg HNE.out, if_pos (Or.inr (Or.inl (HSX.out.1.2 hs)))])
                    have g1 : decide (s < 0) = true := by simpa using hs
                    clear hs
                    rcases f3 with f1 | ⟨f1, f2⟩
                    all_goals
                      go_wp2_with fail
                      refine wp_region_held_drew (S := (fun W' => Gr w6 W' ∧ W'.cell? ⟨AT, 0, none⟩ = some (.int .i64 ax) ∧ W'.cell? ⟨AT, 1, none⟩ = some (.int .i64 ay) ∧ W'.cell? ⟨TO, 0, none⟩ = some (.int .i64 tx) ∧ W'.cell? ⟨TO, 1, none⟩ = some (.int .i64 ty) ∧ W'.cell? ⟨PB, 0, none⟩ = some (.int .i64 x) ∧ W'.cell? ⟨PB, 1, none⟩ = some (.int .i64 y))) ?_ ?_ (fun hHeld => ?_)
                      · kernel_rfl
                      · ((try dsimp only); (refine KS.out _ ?_; (repeat (first | exact Gr.refl _ | exact hHeld.1 | (refine Gr.drew ?_) | (refine Gr.alloc ?_ _) | (refine Gr.trans ?_ (by assumption))))))
                      refine take_in (i := 0) (v := ?_) (d := (some 75)) rfl rfl ?_ ?_ ?_ ?_ ?_ ?_ ?_ ?_
                      rotate_left
                      · kernel_rfl
                      · kernel_rfl
                      · kernel_rfl
                      · (intro _ _ _ hq; exact hq)
                      · rfl
                      · (intro _w hSw; (try dsimp only at hSw); go_simp; try with_reducible rfl)
                      · assumption
                      try simp only [Act.put, List.setIfInBounds_toArray, List.set_cons_zero, List.set_cons_succ]
                      refine take_in (i := 1) (v := ?_) (d := (some 76)) rfl rfl ?_ ?_ ?_ ?_ ?_ ?_ ?_ ?_
                      rotate_left
                      · kernel_rfl
                      · kernel_rfl
                      · kernel_rfl
                      · (intro _ _ _ hq; exact hq)
                      · rfl
                      · (intro _w hSw; (try dsimp only at hSw); go_simp; try with_reducible rfl)
                      · assumption
                      try simp only [Act.put, List.setIfInBounds_toArray, List.set_cons_zero, List.set_cons_succ]
                      refine take_in (i := 2) (v := ?_) (d := (some 77)) rfl rfl ?_ ?_ ?_ ?_ ?_ ?_ ?_ ?_
                      rotate_left
                      · kernel_rfl
                      · kernel_rfl
                      · kernel_rfl
                      · (intro _ _ _ hq; exact hq)
                      · rfl
                      · (intro _w hSw; (try dsimp only at hSw); go_simp; try with_reducible rfl)
                      · assumption
                      try simp only [Act.put, List.setIfInBounds_toArray, List.set_cons_zero, List.set_cons_succ]
                      refine take_in (i := 3) (v := ?_) (d := (some 78)) rfl rfl ?_ ?_ ?_ ?_ ?_ ?_ ?_ ?_
                      rotate_left
                      · kernel_rfl
                      · kernel_rfl
                      · kernel_rfl
                      · (intro _ _ _ hq; exact hq)
                      · rfl
                      · (intro _w hSw; (try dsimp only at hSw); go_simp; try with_reducible rfl)
                      · assumption
                      try simp only [Act.put, List.setIfInBounds_toArray, List.set_cons_zero, List.set_cons_succ]
                      refine take_in (i := 4) (v := ?_) (d := (some 79)) rfl rfl ?_ ?_ ?_ ?_ ?_ ?_ ?_ ?_
                      rotate_left
                      · kernel_rfl
                      · kernel_rfl
                      · kernel_rfl
                      · (intro _ _ _ hq; exact hq)
                      · rfl
                      · (intro _w hSw; (try dsimp only at hSw); go_simp; try with_reducible rfl)
                      · assumption
                      try simp only [Act.put, List.setIfInBounds_toArray, List.set_cons_zero, List.set_cons_succ]
                      refine take_in (i := 5) (v := ?_) (d := (some 80)) rfl rfl ?_ ?_ ?_ ?_ ?_ ?_ ?_ ?_
                      rotate_left
                      · kernel_rfl
                      · kernel_rfl
                      · kernel_rfl
                      · (intro _ _ _ hq; exact hq)
                      · rfl
                      · (intro _w hSw; (try dsimp only at hSw); go_simp; try with_reducible rfl)
                      · assumption
                      try simp only [Act.put, List.setIfInBounds_toArray, List.set_cons_zero, List.set_cons_succ]
                      refine take_in (i := 6) (v := ?_) (d := (some 81)) rfl rfl ?_ ?_ ?_ ?_ ?_ ?_ ?_ ?_
                      rotate_left
                      · kernel_rfl
                      · kernel_rfl
                      · kernel_rfl
                      · (intro _ _ _ hq; exact hq)
                      · rfl
                      · (intro _w hSw; (try dsimp only at hSw); go_simp; try with_reducible rfl)
                      · assumption
                      try simp only [Act.put, List.setIfInBounds_toArray, List.set_cons_zero, List.set_cons_succ]
                      refine take_in (i := 7) (v := ?_) (d := (some 82)) rfl rfl ?_ ?_ ?_ ?_ ?_ ?_ ?_ ?_
                      rotate_left
                      · kernel_rfl
                      · kernel_rfl
                      · kernel_rfl
                      · (intro _ _ _ hq; exact hq)
                      · rfl
                      · (intro _w hSw; (try dsimp only at hSw); go_simp; try with_reducible rfl)
                      · assumption
                      try simp only [Act.put, List.setIfInBounds_toArray, List.set_cons_zero, List.set_cons_succ]
                      refine take_un (i := 8) (d := (some 83)) rfl rfl ?_ ?_ ?_ ?_ ?_ ?_ ?_
                      · kernel_rfl
                      · kernel_rfl
                      · kernel_rfl
                      · (intro _ _ _ hq; exact hq)
                      · rfl
                      · assumption
                      try simp only [Act.put, List.setIfInBounds_toArray, List.set_cons_zero, List.set_cons_succ]
                      refine take_un (i := 9) (d := (some 84)) rfl rfl ?_ ?_ ?_ ?_ ?_ ?_ ?_
                      · kernel_rfl
                      · kernel_rfl
                      · kernel_rfl
                      · (intro _ _ _ hq; exact hq)
                      · rfl
                      · assumption
                      try simp only [Act.put, List.setIfInBounds_toArray, List.set_cons_zero, List.set_cons_succ]
                      refine take_un (i := 10) (d := (some 85)) rfl rfl ?_ ?_ ?_ ?_ ?_ ?_ ?_
                      · kernel_rfl
                      · kernel_rfl
                      · kernel_rfl
                      · (intro _ _ _ hq; exact hq)
                      · rfl
                      · assumption
                      try simp only [Act.put, List.setIfInBounds_toArray, List.set_cons_zero, List.set_cons_succ]
                      refine take_un (i := 11) (d := (some 86)) rfl rfl ?_ ?_ ?_ ?_ ?_ ?_ ?_
                      · kernel_rfl
                      · kernel_rfl
                      · kernel_rfl
                      · (intro _ _ _ hq; exact hq)
                      · rfl
                      · assumption
                      try simp only [Act.put, List.setIfInBounds_toArray, List.set_cons_zero, List.set_cons_succ]
                      refine take_un (i := 12) (d := (some 87)) rfl rfl ?_ ?_ ?_ ?_ ?_ ?_ ?_
                      · kernel_rfl
                      · kernel_rfl
                      · kernel_rfl
                      · (intro _ _ _ hq; exact hq)
                      · rfl
                      · assumption
                      try simp only [Act.put, List.setIfInBounds_toArray, List.set_cons_zero, List.set_cons_succ]
                      refine take_un (i := 13) (d := (some 88)) rfl rfl ?_ ?_ ?_ ?_ ?_ ?_ ?_
                      · kernel_rfl
                      · kernel_rfl
                      · kernel_rfl
                      · (intro _ _ _ hq; exact hq)
                      · rfl
                      · assumption
                      try simp only [Act.put, List.setIfInBounds_toArray, List.set_cons_zero, List.set_cons_succ]
                      refine take_un (i := 14) (d := (some 89)) rfl rfl ?_ ?_ ?_ ?_ ?_ ?_ ?_
                      · kernel_rfl
                      · kernel_rfl
                      · kernel_rfl
                      · (intro _ _ _ hq; exact hq)
                      · rfl
                      · assumption
                      try simp only [Act.put, List.setIfInBounds_toArray, List.set_cons_zero, List.set_cons_succ]
                      refine take_un (i := 15) (d := (some 90)) rfl rfl ?_ ?_ ?_ ?_ ?_ ?_ ?_
                      · kernel_rfl
                      · kernel_rfl
                      · kernel_rfl
                      · (intro _ _ _ hq; exact hq)
                      · rfl
                      · assumption
                      try simp only [Act.put, List.setIfInBounds_toArray, List.set_cons_zero, List.set_cons_succ]
                      refine take_un (i := 16) (d := (some 91)) rfl rfl ?_ ?_ ?_ ?_ ?_ ?_ ?_
                      · kernel_rfl
                      · kernel_rfl
                      · kernel_rfl
                      · (intro _ _ _ hq; exact hq)
                      · rfl
                      · assumption
                      try simp only [Act.put, List.setIfInBounds_toArray, List.set_cons_zero, List.set_cons_succ]
                      refine take_un (i := 17) (d := (some 92)) rfl rfl ?_ ?_ ?_ ?_ ?_ ?_ ?_
                      · kernel_rfl
                      · kernel_rfl
                      · kernel_rfl
                      · (intro _ _ _ hq; exact hq)
                      · rfl
                      · assumption
                      try simp only [Act.put, List.setIfInBounds_toArray, List.set_cons_zero, List.set_cons_succ]
                      refine take_un (i := 18) (d := (some 93)) rfl rfl ?_ ?_ ?_ ?_ ?_ ?_ ?_
                      · kernel_rfl
                      · kernel_rfl
                      · kernel_rfl
                      · (intro _ _ _ hq; exact hq)
                      · rfl
                      · assumption
                      try simp only [Act.put, List.setIfInBounds_toArray, List.set_cons_zero, List.set_cons_succ]
                      refine take_in (i := 19) (v := ?_) (d := (some 94)) rfl rfl ?_ ?_ ?_ ?_ ?_ ?_ ?_ ?_
                      rotate_left
                      · kernel_rfl
                      · kernel_rfl
                      · kernel_rfl
                      · (intro _ _ _ hq; exact hq)
                      · rfl
                      · (intro _w hSw; (try dsimp only at hSw); go_simp; try with_reducible rfl)
                      · assumption
                      try simp only [Act.put, List.setIfInBounds_toArray, List.set_cons_zero, List.set_cons_succ]
                      refine wpAnyH_done ?_ ?_ _
                      · kernel_rfl
                      rotate_left
                      all_goals
                        obtain ⟨hB, h0, h1, h2, h3, h4, h5⟩ := hHeld
                        have z0 := ((hTO.out.keep hWg).keep (hb5.trans hB)).free 0
                        have z1 := ((hTO.out.keep hWg).keep (hb5.trans hB)).free 1
                        have z2 := ((hTO.out.keep hWg).keep hb5).free 0
                        have z3 := ((hTO.out.keep hWg).keep hb5).free 1
                        go_wp2_with fail
                        go_roundw
                        case rel => exact ⟨i + 1, x, y, by omega, by go_num, HSL, Lib.hid (by
                          have h := ((((hTO.out.keep hWg).keep hb5).keep hB).put 0 (.int .i64 x)).put 1 (.int .i64 y)
                          exact h), ((hgi.trans (hWg.trans (hb5.trans hB))).setCell (p := ⟨TO, 0, none⟩) hTOw _).setCell (p := ⟨TO, 1, none⟩) hTOw _⟩
                        case measure => simp [intOf]; omega
                  · subst hs
                    rcases f3 with f1 | ⟨f1, f2⟩
                    all_goals
                      by_cases hq : q2 < q1
                      · have HSL : Hid (selI (ax, ay) ps (i + 1) = (x, y)) := Lib.hid (by rw [HSS.out]; unfold sel; rw [if_neg HNE.out, if_pos (Or.inr (Or.inr ⟨HSX.out.2.2 rfl, by rw [HSQ.out.1, HSQ.out.2]; exact hq⟩))])
                        have g1 : decide (q2 < q1) = true := by simpa using hq
                        clear hq
                        go_wp2_with fail
                        refine wp_region_held_drew (S := (fun W' => Gr w6 W' ∧ W'.cell? ⟨AT, 0, none⟩ = some (.int .i64 ax) ∧ W'.cell? ⟨AT, 1, none⟩ = some (.int .i64 ay) ∧ W'.cell? ⟨TO, 0, none⟩ = some (.int .i64 tx) ∧ W'.cell? ⟨TO, 1, none⟩ = some (.int .i64 ty) ∧ W'.cell? ⟨PB, 0, none⟩ = some (.int .i64 x) ∧ W'.cell? ⟨PB, 1, none⟩ = some (.int .i64 y))) ?_ ?_ (fun hHeld => ?_)
                        · kernel_rfl
                        · ((try dsimp only); (refine KS.out _ ?_; (repeat (first | exact Gr.refl _ | exact hHeld.1 | (refine Gr.drew ?_) | (refine Gr.alloc ?_ _) | (refine Gr.trans ?_ (by assumption))))))
                        refine take_in (i := 0) (v := ?_) (d := (some 75)) rfl rfl ?_ ?_ ?_ ?_ ?_ ?_ ?_ ?_
                        rotate_left
                        · kernel_rfl
                        · kernel_rfl
                        · kernel_rfl
                        · (intro _ _ _ hq; exact hq)
                        · rfl
                        · (intro _w hSw; (try dsimp only at hSw); go_simp; try with_reducible rfl)
                        · assumption
                        try simp only [Act.put, List.setIfInBounds_toArray, List.set_cons_zero, List.set_cons_succ]
                        refine take_in (i := 1) (v := ?_) (d := (some 76)) rfl rfl ?_ ?_ ?_ ?_ ?_ ?_ ?_ ?_
                        rotate_left
                        · kernel_rfl
                        · kernel_rfl
                        · kernel_rfl
                        · (intro _ _ _ hq; exact hq)
                        · rfl
                        · (intro _w hSw; (try dsimp only at hSw); go_simp; try with_reducible rfl)
                        · assumption
                        try simp only [Act.put, List.setIfInBounds_toArray, List.set_cons_zero, List.set_cons_succ]
                        refine take_in (i := 2) (v := ?_) (d := (some 77)) rfl rfl ?_ ?_ ?_ ?_ ?_ ?_ ?_ ?_
                        rotate_left
                        · kernel_rfl
                        · kernel_rfl
                        · kernel_rfl
                        · (intro _ _ _ hq; exact hq)
                        · rfl
                        · (intro _w hSw; (try dsimp only at hSw); go_simp; try with_reducible rfl)
                        · assumption
                        try simp only [Act.put, List.setIfInBounds_toArray, List.set_cons_zero, List.set_cons_succ]
                        refine take_in (i := 3) (v := ?_) (d := (some 78)) rfl rfl ?_ ?_ ?_ ?_ ?_ ?_ ?_ ?_
                        rotate_left
                        · kernel_rfl
                        · kernel_rfl
                        · kernel_rfl
                        · (intro _ _ _ hq; exact hq)
                        · rfl
                        · (intro _w hSw; (try dsimp only at hSw); go_simp; try with_reducible rfl)
                        · assumption
                        try simp only [Act.put, List.setIfInBounds_toArray, List.set_cons_zero, List.set_cons_succ]
                        refine take_in (i := 4) (v := ?_) (d := (some 79)) rfl rfl ?_ ?_ ?_ ?_ ?_ ?_ ?_ ?_
                        rotate_left
                        · kernel_rfl
                        · kernel_rfl
                        · kernel_rfl
                        · (intro _ _ _ hq; exact hq)
                        · rfl
                        · (intro _w hSw; (try dsimp only at hSw); go_simp; try with_reducible rfl)
                        · assumption
                        try simp only [Act.put, List.setIfInBounds_toArray, List.set_cons_zero, List.set_cons_succ]
                        refine take_in (i := 5) (v := ?_) (d := (some 80)) rfl rfl ?_ ?_ ?_ ?_ ?_ ?_ ?_ ?_
                        rotate_left
                        · kernel_rfl
                        · kernel_rfl
                        · kernel_rfl
                        · (intro _ _ _ hq; exact hq)
                        · rfl
                        · (intro _w hSw; (try dsimp only at hSw); go_simp; try with_reducible rfl)
                        · assumption
                        try simp only [Act.put, List.setIfInBounds_toArray, List.set_cons_zero, List.set_cons_succ]
                        refine take_in (i := 6) (v := ?_) (d := (some 81)) rfl rfl ?_ ?_ ?_ ?_ ?_ ?_ ?_ ?_
                        rotate_left
                        · kernel_rfl
                        · kernel_rfl
                        · kernel_rfl
                        · (intro _ _ _ hq; exact hq)
                        · rfl
                        · (intro _w hSw; (try dsimp only at hSw); go_simp; try with_reducible rfl)
                        · assumption
                        try simp only [Act.put, List.setIfInBounds_toArray, List.set_cons_zero, List.set_cons_succ]
                        refine take_in (i := 7) (v := ?_) (d := (some 82)) rfl rfl ?_ ?_ ?_ ?_ ?_ ?_ ?_ ?_
                        rotate_left
                        · kernel_rfl
                        · kernel_rfl
                        · kernel_rfl
                        · (intro _ _ _ hq; exact hq)
                        · rfl
                        · (intro _w hSw; (try dsimp only at hSw); go_simp; try with_reducible rfl)
                        · assumption
                        try simp only [Act.put, List.setIfInBounds_toArray, List.set_cons_zero, List.set_cons_succ]
                        refine take_in (i := 8) (v := ?_) (d := (some 83)) rfl rfl ?_ ?_ ?_ ?_ ?_ ?_ ?_ ?_
                        rotate_left
                        · kernel_rfl
                        · kernel_rfl
                        · kernel_rfl
                        · (intro _ _ _ hq; exact hq)
                        · rfl
                        · (intro _w hSw; (try dsimp only at hSw); go_simp; try with_reducible rfl)
                        · assumption
                        try simp only [Act.put, List.setIfInBounds_toArray, List.set_cons_zero, List.set_cons_succ]
                        refine take_in (i := 9) (v := ?_) (d := (some 84)) rfl rfl ?_ ?_ ?_ ?_ ?_ ?_ ?_ ?_
                        rotate_left
                        · kernel_rfl
                        · kernel_rfl
                        · kernel_rfl
                        · (intro _ _ _ hq; exact hq)
                        · rfl
                        · (intro _w hSw; (try dsimp only at hSw); go_simp; try with_reducible rfl)
                        · assumption
                        try simp only [Act.put, List.setIfInBounds_toArray, List.set_cons_zero, List.set_cons_succ]
                        refine take_in (i := 10) (v := ?_) (d := (some 85)) rfl rfl ?_ ?_ ?_ ?_ ?_ ?_ ?_ ?_
                        rotate_left
                        · kernel_rfl
                        · kernel_rfl
                        · kernel_rfl
                        · (intro _ _ _ hq; exact hq)
                        · rfl
                        · (intro _w hSw; (try dsimp only at hSw); go_simp; try with_reducible rfl)
                        · assumption
                        try simp only [Act.put, List.setIfInBounds_toArray, List.set_cons_zero, List.set_cons_succ]
                        refine take_in (i := 11) (v := ?_) (d := (some 86)) rfl rfl ?_ ?_ ?_ ?_ ?_ ?_ ?_ ?_
                        rotate_left
                        · kernel_rfl
                        · kernel_rfl
                        · kernel_rfl
                        · (intro _ _ _ hq; exact hq)
                        · rfl
                        · (intro _w hSw; (try dsimp only at hSw); go_simp; try with_reducible rfl)
                        · assumption
                        try simp only [Act.put, List.setIfInBounds_toArray, List.set_cons_zero, List.set_cons_succ]
                        refine take_in (i := 12) (v := ?_) (d := (some 87)) rfl rfl ?_ ?_ ?_ ?_ ?_ ?_ ?_ ?_
                        rotate_left
                        · kernel_rfl
                        · kernel_rfl
                        · kernel_rfl
                        · (intro _ _ _ hq; exact hq)
                        · rfl
                        · (intro _w hSw; (try dsimp only at hSw); go_simp; try with_reducible rfl)
                        · assumption
                        try simp only [Act.put, List.setIfInBounds_toArray, List.set_cons_zero, List.set_cons_succ]
                        refine take_in (i := 14) (v := ?_) (d := (some 89)) rfl rfl ?_ ?_ ?_ ?_ ?_ ?_ ?_ ?_
                        rotate_left
                        · kernel_rfl
                        · kernel_rfl
                        · kernel_rfl
                        · (intro _ _ _ hq; exact hq)
                        · rfl
                        · (intro _w hSw; (try dsimp only at hSw); go_simp; try with_reducible rfl)
                        · assumption
                        try simp only [Act.put, List.setIfInBounds_toArray, List.set_cons_zero, List.set_cons_succ]
                        refine take_in (i := 15) (v := ?_) (d := (some 90)) rfl rfl ?_ ?_ ?_ ?_ ?_ ?_ ?_ ?_
                        rotate_left
                        · kernel_rfl
                        · kernel_rfl
                        · kernel_rfl
                        · (intro _ _ _ hq; exact hq)
                        · rfl
                        · (intro _w hSw; (try dsimp only at hSw); go_simp; try with_reducible rfl)
                        · assumption
                        try simp only [Act.put, List.setIfInBounds_toArray, List.set_cons_zero, List.set_cons_succ]
                        refine wpAnyH_ready (rs := [13]) ?_ ?_ ?_
                        · kernel_rfl
                        · simp
                        refine (AllReadyH.cons rfl (fun K hK => ?_) AllReadyH.nil)
                        go_simp
                        first | (go_at_call 58; (with_reducible refine (HQ1.out _).mono ?_); rintro e w7 ⟨rfl, hb⟩) | (go_at_call 58; (with_reducible refine (HQ2.out _).mono ?_); rintro e w7 ⟨rfl, hb⟩)
                        refine hK.out _ _ ?_ (fun hHeld => ?_)
                        · ((try dsimp only); (refine KS.out _ ?_; (repeat (first | exact Gr.refl _ | exact hHeld.1 | (refine Gr.drew ?_) | (refine Gr.alloc ?_ _) | (refine Gr.trans ?_ (by assumption))))))
                        clear hK K
                        try simp only [Act.put, List.setIfInBounds_toArray, List.set_cons_zero, List.set_cons_succ]
                        refine wpAnyH_ready (rs := [16]) ?_ ?_ ?_
                        · kernel_rfl
                        · simp
                        refine (AllReadyH.cons rfl (fun K hK => ?_) AllReadyH.nil)
                        go_simp
                        first | (go_at_call 58; (with_reducible refine (HQ1.out _).mono ?_); rintro e w7 ⟨rfl, hb⟩) | (go_at_call 58; (with_reducible refine (HQ2.out _).mono ?_); rintro e w7 ⟨rfl, hb⟩)
                        refine hK.out _ _ ?_ (fun hHeld => ?_)
                        · ((try dsimp only); (refine KS.out _ ?_; (repeat (first | exact Gr.refl _ | exact hHeld.1 | (refine Gr.drew ?_) | (refine Gr.alloc ?_ _) | (refine Gr.trans ?_ (by assumption))))))
                        clear hK K
                        try simp only [Act.put, List.setIfInBounds_toArray, List.set_cons_zero, List.set_cons_succ]
                        refine take_in (i := 17) (v := ?_) (d := (some 92)) rfl rfl ?_ ?_ ?_ ?_ ?_ ?_ ?_ ?_
                        rotate_left
                        · kernel_rfl
                        · kernel_rfl
                        · kernel_rfl
                        · (intro _ _ _ hq; exact hq)
                        · rfl
                        · (intro _w hSw; (try dsimp only at hSw); go_simp; try with_reducible rfl)
                        · assumption
                        try simp only [Act.put, List.setIfInBounds_toArray, List.set_cons_zero, List.set_cons_succ]
                        refine take_in (i := 18) (v := ?_) (d := (some 93)) rfl rfl ?_ ?_ ?_ ?_ ?_ ?_ ?_ ?_
                        rotate_left
                        · kernel_rfl
                        · kernel_rfl
                        · kernel_rfl
                        · (intro _ _ _ hq; exact hq)
                        · rfl
                        · (intro _w hSw; (try dsimp only at hSw); go_simp; try with_reducible rfl)
                        · assumption
                        try simp only [Act.put, List.setIfInBounds_toArray, List.set_cons_zero, List.set_cons_succ]
                        refine take_in (i := 19) (v := ?_) (d := (some 94)) rfl rfl ?_ ?_ ?_ ?_ ?_ ?_ ?_ ?_
                        rotate_left
                        · kernel_rfl
                        · kernel_rfl
                        · kernel_rfl
                        · (intro _ _ _ hq; exact hq)
                        · rfl
                        · (intro _w hSw; (try dsimp only at hSw); go_simp; try with_reducible rfl)
                        · assumption
                        try simp only [Act.put, List.setIfInBounds_toArray, List.set_cons_zero, List.set_cons_succ]
                        refine wpAnyH_done ?_ ?_ _
                        · kernel_rfl
                        rotate_left
                        all_goals
                          obtain ⟨hB, h0, h1, h2, h3, h4, h5⟩ := hHeld
                          have z0 := ((hTO.out.keep hWg).keep (hb5.trans hB)).free 0
                          have z1 := ((hTO.out.keep hWg).keep (hb5.trans hB)).free 1
                          have z2 := ((hTO.out.keep hWg).keep hb5).free 0
                          have z3 := ((hTO.out.keep hWg).keep hb5).free 1
                          go_wp2_with fail
                          go_roundw
                          case rel => exact ⟨i + 1, x, y, by omega, by go_num, HSL, Lib.hid (by
                            have h := ((((hTO.out.keep hWg).keep hb5).keep hB).put 0 (.int .i64 x)).put 1 (.int .i64 y)
                            exact h), ((hgi.trans (hWg.trans (hb5.trans hB))).setCell (p := ⟨TO, 0, none⟩) hTOw _).setCell (p := ⟨TO, 1, none⟩) hTOw _⟩
                          case measure => simp [intOf]; omega
                      · have HSL : Hid (selI (ax, ay) ps (i + 1) = (tx, ty)) := Lib.hid (by
                          rw [HSS.out]; unfold sel; rw [if_neg HNE.out, if_neg]
                          rintro (h | h | ⟨-, h⟩)
                          · exact HNT.out h
                          · have := HSX.out.1.1 h; omega
                          · rw [HSQ.out.1, HSQ.out.2] at h; exact hq h)
                        have g1 : decide (q2 < q1) = false := by simpa using hq
                        clear hq
                        go_wp2_with fail
                        refine wp_region_held_drew (S := (fun W' => Gr w6 W' ∧ W'.cell? ⟨AT, 0, none⟩ = some (.int .i64 ax) ∧ W'.cell? ⟨AT, 1, none⟩ = some (.int .i64 ay) ∧ W'.cell? ⟨TO, 0, none⟩ = some (.int .i64 tx) ∧ W'.cell? ⟨TO, 1, none⟩ = some (.int .i64 ty) ∧ W'.cell? ⟨PB, 0, none⟩ = some (.int .i64 x) ∧ W'.cell? ⟨PB, 1, none⟩ = some (.int .i64 y))) ?_ ?_ (fun hHeld => ?_)
                        · kernel_rfl
                        · ((try dsimp only); (refine KS.out _ ?_; (repeat (first | exact Gr.refl _ | exact hHeld.1 | (refine Gr.drew ?_) | (refine Gr.alloc ?_ _) | (refine Gr.trans ?_ (by assumption))))))
                        refine take_in (i := 0) (v := ?_) (d := (some 75)) rfl rfl ?_ ?_ ?_ ?_ ?_ ?_ ?_ ?_
                        rotate_left
                        · kernel_rfl
                        · kernel_rfl
                        · kernel_rfl
                        · (intro _ _ _ hq; exact hq)
                        · rfl
                        · (intro _w hSw; (try dsimp only at hSw); go_simp; try with_reducible rfl)
                        · assumption
                        try simp only [Act.put, List.setIfInBounds_toArray, List.set_cons_zero, List.set_cons_succ]
                        refine take_in (i := 1) (v := ?_) (d := (some 76)) rfl rfl ?_ ?_ ?_ ?_ ?_ ?_ ?_ ?_
                        rotate_left
                        · kernel_rfl
                        · kernel_rfl
                        · kernel_rfl
                        · (intro _ _ _ hq; exact hq)
                        · rfl
                        · (intro _w hSw; (try dsimp only at hSw); go_simp; try with_reducible rfl)
                        · assumption
                        try simp only [Act.put, List.setIfInBounds_toArray, List.set_cons_zero, List.set_cons_succ]
                        refine take_in (i := 2) (v := ?_) (d := (some 77)) rfl rfl ?_ ?_ ?_ ?_ ?_ ?_ ?_ ?_
                        rotate_left
                        · kernel_rfl
                        · kernel_rfl
                        · kernel_rfl
                        · (intro _ _ _ hq; exact hq)
                        · rfl
                        · (intro _w hSw; (try dsimp only at hSw); go_simp; try with_reducible rfl)
                        · assumption
                        try simp only [Act.put, List.setIfInBounds_toArray, List.set_cons_zero, List.set_cons_succ]
                        refine take_in (i := 3) (v := ?_) (d := (some 78)) rfl rfl ?_ ?_ ?_ ?_ ?_ ?_ ?_ ?_
                        rotate_left
                        · kernel_rfl
                        · kernel_rfl
                        · kernel_rfl
                        · (intro _ _ _ hq; exact hq)
                        · rfl
                        · (intro _w hSw; (try dsimp only at hSw); go_simp; try with_reducible rfl)
                        · assumption
                        try simp only [Act.put, List.setIfInBounds_toArray, List.set_cons_zero, List.set_cons_succ]
                        refine take_in (i := 4) (v := ?_) (d := (some 79)) rfl rfl ?_ ?_ ?_ ?_ ?_ ?_ ?_ ?_
                        rotate_left
                        · kernel_rfl
                        · kernel_rfl
                        · kernel_rfl
                        · (intro _ _ _ hq; exact hq)
                        · rfl
                        · (intro _w hSw; (try dsimp only at hSw); go_simp; try with_reducible rfl)
                        · assumption
                        try simp only [Act.put, List.setIfInBounds_toArray, List.set_cons_zero, List.set_cons_succ]
                        refine take_in (i := 5) (v := ?_) (d := (some 80)) rfl rfl ?_ ?_ ?_ ?_ ?_ ?_ ?_ ?_
                        rotate_left
                        · kernel_rfl
                        · kernel_rfl
                        · kernel_rfl
                        · (intro _ _ _ hq; exact hq)
                        · rfl
                        · (intro _w hSw; (try dsimp only at hSw); go_simp; try with_reducible rfl)
                        · assumption
                        try simp only [Act.put, List.setIfInBounds_toArray, List.set_cons_zero, List.set_cons_succ]
                        refine take_in (i := 6) (v := ?_) (d := (some 81)) rfl rfl ?_ ?_ ?_ ?_ ?_ ?_ ?_ ?_
                        rotate_left
                        · kernel_rfl
                        · kernel_rfl
                        · kernel_rfl
                        · (intro _ _ _ hq; exact hq)
                        · rfl
                        · (intro _w hSw; (try dsimp only at hSw); go_simp; try with_reducible rfl)
                        · assumption
                        try simp only [Act.put, List.setIfInBounds_toArray, List.set_cons_zero, List.set_cons_succ]
                        refine take_in (i := 7) (v := ?_) (d := (some 82)) rfl rfl ?_ ?_ ?_ ?_ ?_ ?_ ?_ ?_
                        rotate_left
                        · kernel_rfl
                        · kernel_rfl
                        · kernel_rfl
                        · (intro _ _ _ hq; exact hq)
                        · rfl
                        · (intro _w hSw; (try dsimp only at hSw); go_simp; try with_reducible rfl)
                        · assumption
                        try simp only [Act.put, List.setIfInBounds_toArray, List.set_cons_zero, List.set_cons_succ]
                        refine take_in (i := 8) (v := ?_) (d := (some 83)) rfl rfl ?_ ?_ ?_ ?_ ?_ ?_ ?_ ?_
                        rotate_left
                        · kernel_rfl
                        · kernel_rfl
                        · kernel_rfl
                        · (intro _ _ _ hq; exact hq)
                        · rfl
                        · (intro _w hSw; (try dsimp only at hSw); go_simp; try with_reducible rfl)
                        · assumption
                        try simp only [Act.put, List.setIfInBounds_toArray, List.set_cons_zero, List.set_cons_succ]
                        refine take_in (i := 9) (v := ?_) (d := (some 84)) rfl rfl ?_ ?_ ?_ ?_ ?_ ?_ ?_ ?_
                        rotate_left
                        · kernel_rfl
                        · kernel_rfl
                        · kernel_rfl
                        · (intro _ _ _ hq; exact hq)
                        · rfl
                        · (intro _w hSw; (try dsimp only at hSw); go_simp; try with_reducible rfl)
                        · assumption
                        try simp only [Act.put, List.setIfInBounds_toArray, List.set_cons_zero, List.set_cons_succ]
                        refine take_in (i := 10) (v := ?_) (d := (some 85)) rfl rfl ?_ ?_ ?_ ?_ ?_ ?_ ?_ ?_
                        rotate_left
                        · kernel_rfl
                        · kernel_rfl
                        · kernel_rfl
                        · (intro _ _ _ hq; exact hq)
                        · rfl
                        · (intro _w hSw; (try dsimp only at hSw); go_simp; try with_reducible rfl)
                        · assumption
                        try simp only [Act.put, List.setIfInBounds_toArray, List.set_cons_zero, List.set_cons_succ]
                        refine take_in (i := 11) (v := ?_) (d := (some 86)) rfl rfl ?_ ?_ ?_ ?_ ?_ ?_ ?_ ?_
                        rotate_left
                        · kernel_rfl
                        · kernel_rfl
                        · kernel_rfl
                        · (intro _ _ _ hq; exact hq)
                        · rfl
                        · (intro _w hSw; (try dsimp only at hSw); go_simp; try with_reducible rfl)
                        · assumption
                        try simp only [Act.put, List.setIfInBounds_toArray, List.set_cons_zero, List.set_cons_succ]
                        refine take_in (i := 12) (v := ?_) (d := (some 87)) rfl rfl ?_ ?_ ?_ ?_ ?_ ?_ ?_ ?_
                        rotate_left
                        · kernel_rfl
                        · kernel_rfl
                        · kernel_rfl
                        · (intro _ _ _ hq; exact hq)
                        · rfl
                        · (intro _w hSw; (try dsimp only at hSw); go_simp; try with_reducible rfl)
                        · assumption
                        try simp only [Act.put, List.setIfInBounds_toArray, List.set_cons_zero, List.set_cons_succ]
                        refine take_in (i := 14) (v := ?_) (d := (some 89)) rfl rfl ?_ ?_ ?_ ?_ ?_ ?_ ?_ ?_
                        rotate_left
                        · kernel_rfl
                        · kernel_rfl
                        · kernel_rfl
                        · (intro _ _ _ hq; exact hq)
                        · rfl
                        · (intro _w hSw; (try dsimp only at hSw); go_simp; try with_reducible rfl)
                        · assumption
                        try simp only [Act.put, List.setIfInBounds_toArray, List.set_cons_zero, List.set_cons_succ]
                        refine take_in (i := 15) (v := ?_) (d := (some 90)) rfl rfl ?_ ?_ ?_ ?_ ?_ ?_ ?_ ?_
                        rotate_left
                        · kernel_rfl
                        · kernel_rfl
                        · kernel_rfl
                        · (intro _ _ _ hq; exact hq)
                        · rfl
                        · (intro _w hSw; (try dsimp only at hSw); go_simp; try with_reducible rfl)
                        · assumption
                        try simp only [Act.put, List.setIfInBounds_toArray, List.set_cons_zero, List.set_cons_succ]
                        refine wpAnyH_ready (rs := [13]) ?_ ?_ ?_
                        · kernel_rfl
                        · simp
                        refine (AllReadyH.cons rfl (fun K hK => ?_) AllReadyH.nil)
                        go_simp
                        first | (go_at_call 58; (with_reducible refine (HQ1.out _).mono ?_); rintro e w7 ⟨rfl, hb⟩) | (go_at_call 58; (with_reducible refine (HQ2.out _).mono ?_); rintro e w7 ⟨rfl, hb⟩)
                        refine hK.out _ _ ?_ (fun hHeld => ?_)
                        · ((try dsimp only); (refine KS.out _ ?_; (repeat (first | exact Gr.refl _ | exact hHeld.1 | (refine Gr.drew ?_) | (refine Gr.alloc ?_ _) | (refine Gr.trans ?_ (by assumption))))))
                        clear hK K
                        try simp only [Act.put, List.setIfInBounds_toArray, List.set_cons_zero, List.set_cons_succ]
                        refine wpAnyH_ready (rs := [16]) ?_ ?_ ?_
                        · kernel_rfl
                        · simp
                        refine (AllReadyH.cons rfl (fun K hK => ?_) AllReadyH.nil)
                        go_simp
                        first | (go_at_call 58; (with_reducible refine (HQ1.out _).mono ?_); rintro e w7 ⟨rfl, hb⟩) | (go_at_call 58; (with_reducible refine (HQ2.out _).mono ?_); rintro e w7 ⟨rfl, hb⟩)
                        refine hK.out _ _ ?_ (fun hHeld => ?_)
                        · ((try dsimp only); (refine KS.out _ ?_; (repeat (first | exact Gr.refl _ | exact hHeld.1 | (refine Gr.drew ?_) | (refine Gr.alloc ?_ _) | (refine Gr.trans ?_ (by assumption))))))
                        clear hK K
                        try simp only [Act.put, List.setIfInBounds_toArray, List.set_cons_zero, List.set_cons_succ]
                        refine take_in (i := 17) (v := ?_) (d := (some 92)) rfl rfl ?_ ?_ ?_ ?_ ?_ ?_ ?_ ?_
                        rotate_left
                        · kernel_rfl
                        · kernel_rfl
                        · kernel_rfl
                        · (intro _ _ _ hq; exact hq)
                        · rfl
                        · (intro _w hSw; (try dsimp only at hSw); go_simp; try with_reducible rfl)
                        · assumption
                        try simp only [Act.put, List.setIfInBounds_toArray, List.set_cons_zero, List.set_cons_succ]
                        refine take_in (i := 18) (v := ?_) (d := (some 93)) rfl rfl ?_ ?_ ?_ ?_ ?_ ?_ ?_ ?_
                        rotate_left
                        · kernel_rfl
                        · kernel_rfl
                        · kernel_rfl
                        · (intro _ _ _ hq; exact hq)
                        · rfl
                        · (intro _w hSw; (try dsimp only at hSw); go_simp; try with_reducible rfl)
                        · assumption
                        try simp only [Act.put, List.setIfInBounds_toArray, List.set_cons_zero, List.set_cons_succ]
                        refine take_in (i := 19) (v := ?_) (d := (some 94)) rfl rfl ?_ ?_ ?_ ?_ ?_ ?_ ?_ ?_
                        rotate_left
                        · kernel_rfl
                        · kernel_rfl
                        · kernel_rfl
                        · (intro _ _ _ hq; exact hq)
                        · rfl
                        · (intro _w hSw; (try dsimp only at hSw); go_simp; try with_reducible rfl)
                        · assumption
                        try simp only [Act.put, List.setIfInBounds_toArray, List.set_cons_zero, List.set_cons_succ]
                        refine wpAnyH_done ?_ ?_ _
                        · kernel_rfl
                        rotate_left
                        all_goals
                          obtain ⟨hB, h0, h1, h2, h3, h4, h5⟩ := hHeld
                          have z0 := ((hTO.out.keep hWg).keep (hb5.trans hB)).free 0
                          have z1 := ((hTO.out.keep hWg).keep (hb5.trans hB)).free 1
                          have z2 := ((hTO.out.keep hWg).keep hb5).free 0
                          have z3 := ((hTO.out.keep hWg).keep hb5).free 1
                          go_wp2_with fail
                          go_roundw
                          case rel => exact ⟨i + 1, tx, ty, by omega, by go_num, HSL, Lib.hid (((hTO.out.keep hWg).keep hb5).keep hB), hgi.trans (hWg.trans (hb5.trans hB))⟩
                          case measure => simp [intOf]; omega
                  · have HSL : Hid (selI (ax, ay) ps (i + 1) = (tx, ty)) := Lib.hid (by
                      rw [HSS.out]; unfold sel; rw [if_neg HNE.out, if_neg]
                      rintro (h | h | ⟨h, -⟩)
                      · exact HNT.out h
                      · have := HSX.out.1.1 h; omega
                      · have := HSX.out.2.1 h; omega)
                    have g1 : decide (s < 0) = false := by simp; omega
                    have g2 : ((s : Int) == 0) = false := by simp; omega
                    clear hs
                    rcases f3 with f1 | ⟨f1, f2⟩
                    all_goals
                      go_wp2_with fail
                      refine wp_region_held_drew (S := (fun W' => Gr w6 W' ∧ W'.cell? ⟨AT, 0, none⟩ = some (.int .i64 ax) ∧ W'.cell? ⟨AT, 1, none⟩ = some (.int .i64 ay) ∧ W'.cell? ⟨TO, 0, none⟩ = some (.int .i64 tx) ∧ W'.cell? ⟨TO, 1, none⟩ = some (.int .i64 ty) ∧ W'.cell? ⟨PB, 0, none⟩ = some (.int .i64 x) ∧ W'.cell? ⟨PB, 1, none⟩ = some (.int .i64 y))) ?_ ?_ (fun hHeld => ?_)
                      · kernel_rfl
                      · ((try dsimp only); (refine KS.out _ ?_; (repeat (first | exact Gr.refl _ | exact hHeld.1 | (refine Gr.drew ?_) | (refine Gr.alloc ?_ _) | (refine Gr.trans ?_ (by assumption))))))
                      refine take_in (i := 0) (v := ?_) (d := (some 75)) rfl rfl ?_ ?_ ?_ ?_ ?_ ?_ ?_ ?_
                      rotate_left
                      · kernel_rfl
                      · kernel_rfl
                      · kernel_rfl
                      · (intro _ _ _ hq; exact hq)
                      · rfl
                      · (intro _w hSw; (try dsimp only at hSw); go_simp; try with_reducible rfl)
                      · assumption
                      try simp only [Act.put, List.setIfInBounds_toArray, List.set_cons_zero, List.set_cons_succ]
                      refine take_in (i := 1) (v := ?_) (d := (some 76)) rfl rfl ?_ ?_ ?_ ?_ ?_ ?_ ?_ ?_
                      rotate_left
                      · kernel_rfl
                      · kernel_rfl
                      · kernel_rfl
                      · (intro _ _ _ hq; exact hq)
                      · rfl
                      · (intro _w hSw; (try dsimp only at hSw); go_simp; try with_reducible rfl)
                      · assumption
                      try simp only [Act.put, List.setIfInBounds_toArray, List.set_cons_zero, List.set_cons_succ]
                      refine take_in (i := 2) (v := ?_) (d := (some 77)) rfl rfl ?_ ?_ ?_ ?_ ?_ ?_ ?_ ?_
                      rotate_left
                      · kernel_rfl
                      · kernel_rfl
                      · kernel_rfl
                      · (intro _ _ _ hq; exact hq)
                      · rfl
                      · (intro _w hSw; (try dsimp only at hSw); go_simp; try with_reducible rfl)
                      · assumption
                      try simp only [Act.put, List.setIfInBounds_toArray, List.set_cons_zero, List.set_cons_succ]
                      refine take_in (i := 3) (v := ?_) (d := (some 78)) rfl rfl ?_ ?_ ?_ ?_ ?_ ?_ ?_ ?_
                      rotate_left
                      · kernel_rfl
                      · kernel_rfl
                      · kernel_rfl
                      · (intro _ _ _ hq; exact hq)
                      · rfl
                      · (intro _w hSw; (try dsimp only at hSw); go_simp; try with_reducible rfl)
                      · assumption
                      try simp only [Act.put, List.setIfInBounds_toArray, List.set_cons_zero, List.set_cons_succ]
                      refine take_in (i := 4) (v := ?_) (d := (some 79)) rfl rfl ?_ ?_ ?_ ?_ ?_ ?_ ?_ ?_
                      rotate_left
                      · kernel_rfl
                      · kernel_rfl
                      · kernel_rfl
                      · (intro _ _ _ hq; exact hq)
                      · rfl
                      · (intro _w hSw; (try dsimp only at hSw); go_simp; try with_reducible rfl)
                      · assumption
                      try simp only [Act.put, List.setIfInBounds_toArray, List.set_cons_zero, List.set_cons_succ]
                      refine take_in (i := 5) (v := ?_) (d := (some 80)) rfl rfl ?_ ?_ ?_ ?_ ?_ ?_ ?_ ?_
                      rotate_left
                      · kernel_rfl
                      · kernel_rfl
                      · kernel_rfl
                      · (intro _ _ _ hq; exact hq)
                      · rfl
                      · (intro _w hSw; (try dsimp only at hSw); go_simp; try with_reducible rfl)
                      · assumption
                      try simp only [Act.put, List.setIfInBounds_toArray, List.set_cons_zero, List.set_cons_succ]
                      refine take_in (i := 6) (v := ?_) (d := (some 81)) rfl rfl ?_ ?_ ?_ ?_ ?_ ?_ ?_ ?_
                      rotate_left
                      · kernel_rfl
                      · kernel_rfl
                      · kernel_rfl
                      · (intro _ _ _ hq; exact hq)
                      · rfl
                      · (intro _w hSw; (try dsimp only at hSw); go_simp; try with_reducible rfl)
                      · assumption
                      try simp only [Act.put, List.setIfInBounds_toArray, List.set_cons_zero, List.set_cons_succ]
                      refine take_in (i := 7) (v := ?_) (d := (some 82)) rfl rfl ?_ ?_ ?_ ?_ ?_ ?_ ?_ ?_
                      rotate_left
                      · kernel_rfl
                      · kernel_rfl
                      · kernel_rfl
                      · (intro _ _ _ hq; exact hq)
                      · rfl
                      · (intro _w hSw; (try dsimp only at hSw); go_simp; try with_reducible rfl)
                      · assumption
                      try simp only [Act.put, List.setIfInBounds_toArray, List.set_cons_zero, List.set_cons_succ]
                      refine take_in (i := 8) (v := ?_) (d := (some 83)) rfl rfl ?_ ?_ ?_ ?_ ?_ ?_ ?_ ?_
                      rotate_left
                      · kernel_rfl
                      · kernel_rfl
                      · kernel_rfl
                      · (intro _ _ _ hq; exact hq)
                      · rfl
                      · (intro _w hSw; (try dsimp only at hSw); go_simp; try with_reducible rfl)
                      · assumption
                      try simp only [Act.put, List.setIfInBounds_toArray, List.set_cons_zero, List.set_cons_succ]
                      refine take_in (i := 9) (v := ?_) (d := (some 84)) rfl rfl ?_ ?_ ?_ ?_ ?_ ?_ ?_ ?_
                      rotate_left
                      · kernel_rfl
                      · kernel_rfl
                      · kernel_rfl
                      · (intro _ _ _ hq; exact hq)
                      · rfl
                      · (intro _w hSw; (try dsimp only at hSw); go_simp; try with_reducible rfl)
                      · assumption
                      try simp only [Act.put, List.setIfInBounds_toArray, List.set_cons_zero, List.set_cons_succ]
                      refine take_in (i := 10) (v := ?_) (d := (some 85)) rfl rfl ?_ ?_ ?_ ?_ ?_ ?_ ?_ ?_
                      rotate_left
                      · kernel_rfl
                      · kernel_rfl
                      · kernel_rfl
                      · (intro _ _ _ hq; exact hq)
                      · rfl
                      · (intro _w hSw; (try dsimp only at hSw); go_simp; try with_reducible rfl)
                      · assumption
                      try simp only [Act.put, List.setIfInBounds_toArray, List.set_cons_zero, List.set_cons_succ]
                      refine take_un (i := 11) (d := (some 86)) rfl rfl ?_ ?_ ?_ ?_ ?_ ?_ ?_
                      · kernel_rfl
                      · kernel_rfl
                      · kernel_rfl
                      · (intro _ _ _ hq; exact hq)
                      · rfl
                      · assumption
                      try simp only [Act.put, List.setIfInBounds_toArray, List.set_cons_zero, List.set_cons_succ]
                      refine take_un (i := 12) (d := (some 87)) rfl rfl ?_ ?_ ?_ ?_ ?_ ?_ ?_
                      · kernel_rfl
                      · kernel_rfl
                      · kernel_rfl
                      · (intro _ _ _ hq; exact hq)
                      · rfl
                      · assumption
                      try simp only [Act.put, List.setIfInBounds_toArray, List.set_cons_zero, List.set_cons_succ]
                      refine take_un (i := 13) (d := (some 88)) rfl rfl ?_ ?_ ?_ ?_ ?_ ?_ ?_
                      · kernel_rfl
                      · kernel_rfl
                      · kernel_rfl
                      · (intro _ _ _ hq; exact hq)
                      · rfl
                      · assumption
                      try simp only [Act.put, List.setIfInBounds_toArray, List.set_cons_zero, List.set_cons_succ]
                      refine take_un (i := 14) (d := (some 89)) rfl rfl ?_ ?_ ?_ ?_ ?_ ?_ ?_
                      · kernel_rfl
                      · kernel_rfl
                      · kernel_rfl
                      · (intro _ _ _ hq; exact hq)
                      · rfl
                      · assumption
                      try simp only [Act.put, List.setIfInBounds_toArray, List.set_cons_zero, List.set_cons_succ]
                      refine take_un (i := 15) (d := (some 90)) rfl rfl ?_ ?_ ?_ ?_ ?_ ?_ ?_
                      · kernel_rfl
                      · kernel_rfl
                      · kernel_rfl
                      · (intro _ _ _ hq; exact hq)
                      · rfl
                      · assumption
                      try simp only [Act.put, List.setIfInBounds_toArray, List.set_cons_zero, List.set_cons_succ]
                      refine take_un (i := 16) (d := (some 91)) rfl rfl ?_ ?_ ?_ ?_ ?_ ?_ ?_
                      · kernel_rfl
                      · kernel_rfl
                      · kernel_rfl
                      · (intro _ _ _ hq; exact hq)
                      · rfl
                      · assumption
                      try simp only [Act.put, List.setIfInBounds_toArray, List.set_cons_zero, List.set_cons_succ]
                      refine take_un (i := 17) (d := (some 92)) rfl rfl ?_ ?_ ?_ ?_ ?_ ?_ ?_
                      · kernel_rfl
                      · kernel_rfl
                      · kernel_rfl
                      · (intro _ _ _ hq; exact hq)
                      · rfl
                      · assumption
                      try simp only [Act.put, List.setIfInBounds_toArray, List.set_cons_zero, List.set_cons_succ]
                      refine take_in (i := 18) (v := ?_) (d := (some 93)) rfl rfl ?_ ?_ ?_ ?_ ?_ ?_ ?_ ?_
                      rotate_left
                      · kernel_rfl
                      · kernel_rfl
                      · kernel_rfl
                      · (intro _ _ _ hq; exact hq)
                      · rfl
                      · (intro _w hSw; (try dsimp only at hSw); go_simp; try with_reducible rfl)
                      · assumption
                      try simp only [Act.put, List.setIfInBounds_toArray, List.set_cons_zero, List.set_cons_succ]
                      refine take_in (i := 19) (v := ?_) (d := (some 94)) rfl rfl ?_ ?_ ?_ ?_ ?_ ?_ ?_ ?_
                      rotate_left
                      · kernel_rfl
                      · kernel_rfl
                      · kernel_rfl
                      · (intro _ _ _ hq; exact hq)
                      · rfl
                      · (intro _w hSw; (try dsimp only at hSw); go_simp; try with_reducible rfl)
                      · assumption
                      try simp only [Act.put, List.setIfInBounds_toArray, List.set_cons_zero, List.set_cons_succ]
                      refine wpAnyH_done ?_ ?_ _
                      · kernel_rfl
                      rotate_left
                      all_goals
                        obtain ⟨hB, h0, h1, h2, h3, h4, h5⟩ := hHeld
                        have z0 := ((hTO.out.keep hWg).keep (hb5.trans hB)).free 0
                        have z1 := ((hTO.out.keep hWg).keep (hb5.trans hB)).free 1
                        have z2 := ((hTO.out.keep hWg).keep hb5).free 0
                        have z3 := ((hTO.out.keep hWg).keep hb5).free 1
                        go_wp2_with fail
                        go_roundw
                        case rel => exact ⟨i + 1, tx, ty, by omega, by go_num, HSL, Lib.hid (((hTO.out.keep hWg).keep hb5).keep hB), hgi.trans (hWg.trans (hb5.trans hB))⟩
                        case measure => simp [intOf]; omega
          · have hin : i = n := by omega
            have HSE : Hid (selI (ax, ay) ps n = (tx, ty)) := by rw [← hin]; exact hsel
            have HTO1 := hTO
            have hf0 : w3.cell? ⟨F, 0, none⟩ = some (.int .i64 fx) := by rw [(hFB.out.keep hgi).cell]; rfl
            have hf1 : w3.cell? ⟨F, 1, none⟩ = some (.int .i64 fy) := by rw [(hFB.out.keep hgi).cell]; rfl
            have hown2 := Lib.hid (owns_gr hown.out hgi)
            clear hin
            by_cases hr1 : r = 1
            · have HEQ : Hid ((tx, ty) = (ax, ay) ∧ k = 0) := Lib.hid (by
                have hk0 : k = 0 := by omega
                have h1 := HW.out.one (by rw [HR.out]; exact hr1)
                rw [HN.out] at h1
                have h2 := HAK.out
                rw [hk0] at h2
                rw [h2] at h1
                exact ⟨by rw [← HSE.out]; exact h1, hk0⟩)
              have e1 : (tx == ax) = true := by simpa using congrArg Prod.fst HEQ.out.1
              have e2 : (ty == ay) = true := by simpa using congrArg Prod.snd HEQ.out.1
              have HRR := Lib.hid hr1
              clear hr1
              go_wp2_with fail
              go_ret
              exact rhull_done (by rw [HR.out]) (by have := HEQ.out.2; have := HRR.out; omega) hown2.out (hgw.trans hgi)
            · have hnx : (tx, ty) = cs.getD ((k + 1) % r) (0, 0) := by
                have h1 := HW.out.next (by rw [HR.out]; omega) k (by rw [HR.out]; exact hk)
                rw [HN.out, HR.out, HAK.out, HSE.out] at h1
                exact h1
              by_cases hkr : k + 1 = r
              · have HEQ : Hid ((tx, ty) = (fx, fy) ∧ ¬ (tx, ty) = (ax, ay)) := Lib.hid (by
                  rw [hkr, Nat.mod_self, HM0.out] at hnx
                  refine ⟨hnx, fun h => ?_⟩
                  have h1 := HW.out.last (by rw [HR.out]; omega)
                  rw [HR.out, HM0.out, show r - 1 = k by omega, HAK.out, ← hnx] at h1
                  exact h1 h)
                have e1 : (tx == fx) = true := by simpa using congrArg Prod.fst HEQ.out.1
                have e2 : (ty == fy) = true := by simpa using congrArg Prod.snd HEQ.out.1
                have e3 := ne_ways HEQ.out.2
                have HKR := Lib.hid hkr
                clear hkr hr1 hnx
                rcases e3 with f1 | ⟨f1, f2⟩
                all_goals
                  go_wp2_with fail
                  go_ret
                  exact rhull_done (by rw [HR.out]) HKR.out hown2.out (hgw.trans hgi)
              · have hk2 : k + 1 < r := by omega
                rw [Nat.mod_eq_of_lt hk2] at hnx
                obtain ⟨n1, n2⟩ := HW.out.step k (by rw [HR.out]; exact hk2)
                rw [← hnx, HAK.out] at n1
                rw [← hnx, HM0.out] at n2
                have e3 := ne_ways n1
                have e4 := ne_ways n2
                have HNX : Hid (cs.getD (k + 1) (0, 0) = (tx, ty)) := Lib.hid hnx.symm
                have HTK : Hid (flat2 (cs.take (k + 1 + 1)) = flat2 (cs.take (k + 1)) ++ [.int .i64 tx, .int .i64 ty]) := Lib.hid (by
                  rw [List.take_add_one, getD_of (0, 0) (by rw [HR.out]; exact hk2), ← hnx]
                  exact flat2_snoc _ _)
                have zt0 : w3.frozen? ⟨AT, 0, none⟩ = false := (hAT.out.keep hgi).free _
                have zt1 : w3.frozen? ⟨AT, 1, none⟩ = false := (hAT.out.keep hgi).free _
                have hsz := hgi.size
                clear hkr hr1 hnx n1 n2
                rcases e3 with f1 | ⟨f1, f2⟩ <;> rcases e4 with f3 | ⟨f3, f4⟩
                all_goals
                  obtain ⟨hi0, hz0, hz1, hz2⟩ := HI23.out
                  go_wp2_with (at_builtin; refine wpList_append_lies _ rfl _ _ 22 rfl (F + 1) 40 i0 _ 2 16 Try.underlying22 hi0 hz0 hz1 hz2 rfl (by decide) _ _ _ rfl (hown2.out.alloc _) ⟨w3.heap.size, 0, none⟩ 1 1 [.int .i64 tx, .int .i64 ty] rfl rfl ?a1 ?a2 ?a0 ?a3 ?a4 ?a5 (w3.heap.size + 1) ?a6 ?_)
                  case a1 =>
                    intro t u ht
                    rw [Addr.add_lit]
                    exact alloc_new rfl (by rw [Nat.zero_add]; simpa using ht)
                  case a2 =>
                    intro u hu
                    simp at hu
                    rcases hu with rfl | rfl <;> rfl
                  case a0 => omega
                  case a3 => unfold maxLen; omega
                  case a4 => omega
                  case a5 => simp; omega
                  case a6 => simp
                  intro g2 cap2 w8 hown3 hgrow hlies hg2
                  have hFg : F + 1 ≤ gv := (hown2.out.lt gv rfl).1
                  have hne : ∀ X, X ≠ gv → X < w3.heap.size → w8.heap[X]? = w3.heap[X]? := fun X h1 h2 => by
                    have h3 := hgrow.block X (by simp; omega) (by simp [Value.ownBlock]; omega)
                    rw [h3]; exact Below.heap_alloc w3 _ X h2
                  have bTO : Blk w8 TO 40 #[.int .i64 tx, .int .i64 ty] := (hne TO (by omega) HTO1.out.lt).trans HTO1.out
                  have bAT : Blk w8 AT 40 #[.int .i64 ax, .int .i64 ay] := (hne AT (by omega) (hAT.out.keep hgi).lt).trans (hAT.out.keep hgi)
                  have bF : Blk w8 F 40 #[.int .i64 fx, .int .i64 fy] := (hne F (by omega) (hFB.out.keep hgi).lt).trans (hFB.out.keep hgi)
                  have hg8 : Gr w w8 := Below.grown ((hgw.trans hgi).alloc _) hgrow (by have := (hgw.trans hgi).size; simp; omega) (fun t ht => by simp [Value.ownBlock] at ht; omega)
                  have c0 : w8.cell? ⟨TO, 0, none⟩ = some (.int .i64 tx) := by rw [bTO.cell]; rfl
                  have c1 : w8.cell? ⟨TO, 1, none⟩ = some (.int .i64 ty) := by rw [bTO.cell]; rfl
                  have c2 : w8.cell? ⟨AT, 0, none⟩ = some (.int .i64 ax) := by rw [bAT.cell]; rfl
                  have c3 : w8.cell? ⟨AT, 1, none⟩ = some (.int .i64 ay) := by rw [bAT.cell]; rfl
                  have y0 : w8.frozen? ⟨AT, 0, none⟩ = false := bAT.free _
                  have y1 : w8.frozen? ⟨AT, 1, none⟩ = false := bAT.free _
                  have HO3 := Lib.hid hown3
                  have HBF := Lib.hid bF
                  have HBA := Lib.hid bAT
                  have HG8 := Lib.hid hg8
                  have hga : g2 ≠ AT := by
                    have := (hAT.out.keep hgi).lt
                    rcases hlies with h | h
                    · simp [Value.ownBlock] at h; omega
                    · omega
                  have hgF : F < w8.heap.size := bF.lt
                  have hgA : AT < w8.heap.size := bAT.lt
                  have hnf : AT ≠ F := by omega
                  clear hown3 hgrow hlies hi0 hz0 hz1 hz2 hne bTO bAT bF hg8 zt0 zt1
                  go_wp2_with fail
                  go_roundw
                  case rel => exact ⟨k + 1, g2, cap2, w8.heap.size, tx, ty, hk2, rfl, by simp, HNX, Lib.hid (by
                    have h := HO3.out
                    rw [← HTK.out] at h
                    exact (World.ownsRow.kept h (((Gb.refl AT w8).put 0 (.int .i64 tx)).put 1 (.int .i64 ty)) (Or.inr (by simp [Value.ownBlock]; exact hga))).alloc _), Lib.hid (by
                    have h := heap_alloc_new ((w8.setCell ⟨AT, 0, none⟩ (.int .i64 tx)).setCell ⟨AT, 1, none⟩ (.int .i64 ty)) (.cells #[.int .i64 tx, .int .i64 ty] 40)
                    rw [show ((w8.setCell ⟨AT, 0, none⟩ (.int .i64 tx)).setCell ⟨AT, 1, none⟩ (.int .i64 ty)).heap.size = w8.heap.size by simp] at h
                    exact h), Lib.hid ((HBF.out.grown (((Gb.refl AT w8).put 0 (.int .i64 tx)).put 1 (.int .i64 ty)) (by simp; omega)).keep ((Gr.refl _).alloc _)), hg2, hgF, (((HG8.out.setCell (p := ⟨AT, 0, none⟩) hATw _).setCell (p := ⟨AT, 1, none⟩) hATw _).alloc _)⟩
                  case measure => simp [lenOf]; omega

end Go.Proofs.Ytjkdjfagaakijaa
