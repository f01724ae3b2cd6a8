/- The directions that are tried between two hulls.
How far a hull reaches in a direction. -/
import Derived.Test.YtpnkpejnahhajaaGreatBu45
import Derived.Test.YtpnkpejnahhajaaGreatBu38
import Derived.Deep.QuietTactic
import Derived.BigQuiet
namespace Go.Proofs.YtpnkpejnahhajaaGreat
open Go.RowKit
set_option linter.unusedSimpArgs false

def nrm (e : (Int × Int) × (Int × Int)) : Int × Int := (e.1.2 - e.2.2, e.2.1 - e.1.1)
def dirT (pp : Nat → List (Int × Int)) (d : Int × Int) : Nat → List (Int × Int)
  | 0 => [d]
  | k + 1 => dirT pp d k ++ (edgesL (pp k)).map nrm
def dirsL (pp : Nat → List (Int × Int)) : List (Int × Int) :=
  dirT pp (((pp 1).getD 0 (0, 0)).1 - ((pp 0).getD 0 (0, 0)).1, ((pp 1).getD 0 (0, 0)).2 - ((pp 0).getD 0 (0, 0)).2) 2
def DirsPost (pp : Nat → List (Int × Int)) (w : World) (e : Ending) (w' : World) : Prop :=
  ∃ g c, e = .returned (.slice (some ⟨g, 0, none⟩) (dirsL pp).length c) ∧ Pts w' (some ⟨g, 0, none⟩) (dirsL pp) ∧ Gr w w'
theorem edgesL_len (ps : List (Int × Int)) : (edgesL ps).length = ps.length := by simp [edgesL]
theorem edgesL_at {ps : List (Int × Int)} {j : Nat} (h : j < ps.length) : (edgesL ps)[j]? = some (ed ps j) := by
  unfold edgesL
  rw [List.getElem?_map, List.getElem?_range h]
  rfl
theorem dirT_len (pp : Nat → List (Int × Int)) (d : Int × Int) (h : ∀ k, k < 2 → (pp k).length ≤ 1024) : ∀ k, k ≤ 2 → (dirT pp d k).length ≤ 1 + k * 1024
  | 0, _ => by simp [dirT]
  | k + 1, hk => by
    have ih := dirT_len pp d h k (by omega)
    have := h k (by omega)
    simp [dirT, edgesL_len]; omega
theorem Tryz.info92 : (Tryz.prog.info? 168).map (fun i => (i.zero, i.size, i.bytes)) = some (some (.agg #[.int .i64 0, .int .i64 0]), 2, 16) := by kernel_rfl

theorem Eds_same {w w' : World} {g : Nat} {t : TypeId} {cs : Array Value} {ps : List (Int × Int)} (h : Eds w (some ⟨g, 0, none⟩) (edgesL ps)) (h1 : Blk w g t cs) (h2 : Blk w' g t cs) : Eds w' (some ⟨g, 0, none⟩) (edgesL ps) := fun i x hx => by
  obtain ⟨b, off, e, hc⟩ := h i x hx
  obtain ⟨rfl, rfl⟩ : g = b ∧ 0 = off := by simpa using e
  exact ⟨g, 0, rfl, fun j v hv => by rw [h2.cell, ← h1.cell]; exact hc j v hv⟩
theorem flat2_snoc (l : List (Int × Int)) (p : Int × Int) : flat2 (l ++ [p]) = flat2 l ++ [.int .i64 p.1, .int .i64 p.2] := by
  unfold flat2; rw [List.flatMap_append]; rfl

set_option maxRecDepth 100000 in
set_option maxHeartbeats 2000000 in
theorem dirs_any (bb nn cc : Nat → Nat) (pp : Nat → List (Int × Int)) (w : World) (h : ∀ k, k < 2 → (pp k).length = nn k ∧ (1 ≤ nn k ∧ nn k ≤ 1024) ∧ Pts w (some ⟨bb k, 0, none⟩) (pp k) ∧ Cos (pp k)) :
    Calls Tryz.prog 88 #[.slice (some ⟨bb 0, 0, none⟩) (nn 0) (cc 0), .slice (some ⟨bb 1, 0, none⟩) (nn 1) (cc 1)] w (DirsPost pp w) := by
  obtain ⟨i0, hi, hz0, hz1, hz2⟩ := info_parts Tryz.info92
  have HI := Lib.hid (And.intro hi (And.intro hz0 (And.intro hz1 hz2)))
  clear hi hz0 hz1 hz2
  obtain ⟨e1, ⟨l1, u1⟩, p1, v1⟩ := h 0 (by omega)
  obtain ⟨e2, ⟨l2, u2⟩, p2, v2⟩ := h 1 (by omega)
  obtain ⟨b', o', e', x0, x1⟩ := Pts_at p1 (k := 0) (by omega)
  obtain ⟨rfl, rfl⟩ : bb 0 = b' ∧ 0 = o' := by simpa using e'
  obtain ⟨b', o', e'', y0, y1⟩ := Pts_at p2 (k := 0) (by omega)
  obtain ⟨rfl, rfl⟩ : bb 1 = b' ∧ 0 = o' := by simpa using e''
  obtain ⟨a0, a1⟩ := v1 0
  obtain ⟨b0, b1⟩ := v2 0
  have HH := Lib.hid h
  have HDL : Hid (dirsL pp = dirT pp (((pp 1).getD 0 (0, 0)).1 - ((pp 0).getD 0 (0, 0)).1, ((pp 1).getD 0 (0, 0)).2 - ((pp 0).getD 0 (0, 0)).2) 2) := Lib.hid rfl
  clear h e1 e2 p1 p2 v1 v2 e' e''
  generalize (pp 0).getD 0 (0, 0) = p at x0 x1 a0 a1 HDL
  generalize (pp 1).getD 0 (0, 0) = q at y0 y1 b0 b1 HDL
  obtain ⟨x, y⟩ := p
  obtain ⟨x', y'⟩ := q
  dsimp only at x0 x1 y0 y1 a0 a1 b0 b1 HDL
  simp only [Nat.zero_add, Nat.zero_mul] at x0 x1 y0 y1
  unfold Co at a0 a1 b0 b1
  have w1 : IntKind.i64.wrap (x' - x) = x' - x := IntWalk.i64_in _ (by omega)
  have w2 : IntKind.i64.wrap (y' - y) = y' - y := IntWalk.i64_in _ (by omega)
  have n1 : 0 < nn 0 := by omega
  have n2 : 0 < nn 1 := by omega
  go_enter Tryz.func88, Tryz.ntmps88
  go_wp2_with fail
  refine wp_region_held_drew (S := (fun W' => Gr w W' ∧ W'.cell? ⟨bb 0, 0, none⟩ = some (.int .i64 x) ∧ W'.cell? ⟨bb 0, 1, none⟩ = some (.int .i64 y) ∧ W'.cell? ⟨bb 1, 0, none⟩ = some (.int .i64 x') ∧ W'.cell? ⟨bb 1, 1, none⟩ = some (.int .i64 y'))) ?_ ?_ (fun hHeld => ?_)
  · kernel_rfl
  · ((try dsimp only); ((try go_split_ands); (repeat' apply And.intro) <;> (repeat (first | assumption | (exact Gr.refl _) | (refine Gr.drew ?_) | (refine Gr.alloc ?_ _) | (refine alloc_old ?_) | (refine Gr.keep (by assumption) ?_) | (refine Gr.trans ?_ (by assumption))))))
  refine take_in (i := 0) (v := ?_) (d := (some 10)) rfl rfl ?_ ?_ ?_ ?_ ?_ ?_ ?_ ?_
  rotate_left
  · kernel_rfl
  · kernel_rfl
  · kernel_rfl
  · (intro _ _ _ hq; exact hq)
  · rfl
  · (intro _w hSw; (try dsimp only at hSw); go_simp; try with_reducible rfl)
  · assumption
  try simp only [Act.put, List.setIfInBounds_toArray, List.set_cons_zero, List.set_cons_succ]
  refine take_in (i := 1) (v := ?_) (d := (some 11)) rfl rfl ?_ ?_ ?_ ?_ ?_ ?_ ?_ ?_
  rotate_left
  · kernel_rfl
  · kernel_rfl
  · kernel_rfl
  · (intro _ _ _ hq; exact hq)
  · rfl
  · (intro _w hSw; (try dsimp only at hSw); go_simp; try with_reducible rfl)
  · assumption
  try simp only [Act.put, List.setIfInBounds_toArray, List.set_cons_zero, List.set_cons_succ]
  refine take_in (i := 2) (v := ?_) (d := (some 12)) rfl rfl ?_ ?_ ?_ ?_ ?_ ?_ ?_ ?_
  rotate_left
  · kernel_rfl
  · kernel_rfl
  · kernel_rfl
  · (intro _ _ _ hq; exact hq)
  · rfl
  · (intro _w hSw; (try dsimp only at hSw); go_simp; try with_reducible rfl)
  · assumption
  try simp only [Act.put, List.setIfInBounds_toArray, List.set_cons_zero, List.set_cons_succ]
  refine take_in (i := 3) (v := ?_) (d := (some 13)) rfl rfl ?_ ?_ ?_ ?_ ?_ ?_ ?_ ?_
  rotate_left
  · kernel_rfl
  · kernel_rfl
  · kernel_rfl
  · (intro _ _ _ hq; exact hq)
  · rfl
  · (intro _w hSw; (try dsimp only at hSw); go_simp; try with_reducible rfl)
  · assumption
  try simp only [Act.put, List.setIfInBounds_toArray, List.set_cons_zero, List.set_cons_succ]
  refine take_in (i := 4) (v := ?_) (d := (some 14)) rfl rfl ?_ ?_ ?_ ?_ ?_ ?_ ?_ ?_
  rotate_left
  · kernel_rfl
  · kernel_rfl
  · kernel_rfl
  · (intro _ _ _ hq; exact hq)
  · rfl
  · (intro _w hSw; (try dsimp only at hSw); go_simp; try with_reducible rfl)
  · assumption
  try simp only [Act.put, List.setIfInBounds_toArray, List.set_cons_zero, List.set_cons_succ]
  refine take_in (i := 5) (v := ?_) (d := (some 15)) rfl rfl ?_ ?_ ?_ ?_ ?_ ?_ ?_ ?_
  rotate_left
  · kernel_rfl
  · kernel_rfl
  · kernel_rfl
  · (intro _ _ _ hq; exact hq)
  · rfl
  · (intro _w hSw; (try dsimp only at hSw); go_simp; try with_reducible rfl)
  · assumption
  try simp only [Act.put, List.setIfInBounds_toArray, List.set_cons_zero, List.set_cons_succ]
  refine take_in (i := 6) (v := ?_) (d := (some 16)) rfl rfl ?_ ?_ ?_ ?_ ?_ ?_ ?_ ?_
  rotate_left
  · kernel_rfl
  · kernel_rfl
  · kernel_rfl
  · (intro _ _ _ hq; exact hq)
  · rfl
  · (intro _w hSw; (try dsimp only at hSw); go_simp; try with_reducible rfl)
  · assumption
  try simp only [Act.put, List.setIfInBounds_toArray, List.set_cons_zero, List.set_cons_succ]
  refine take_in (i := 7) (v := ?_) (d := (some 17)) rfl rfl ?_ ?_ ?_ ?_ ?_ ?_ ?_ ?_
  rotate_left
  · kernel_rfl
  · kernel_rfl
  · kernel_rfl
  · (intro _ _ _ hq; exact hq)
  · rfl
  · (intro _w hSw; (try dsimp only at hSw); go_simp; try with_reducible rfl)
  · assumption
  try simp only [Act.put, List.setIfInBounds_toArray, List.set_cons_zero, List.set_cons_succ]
  refine take_in (i := 8) (v := ?_) (d := (some 18)) rfl rfl ?_ ?_ ?_ ?_ ?_ ?_ ?_ ?_
  rotate_left
  · kernel_rfl
  · kernel_rfl
  · kernel_rfl
  · (intro _ _ _ hq; exact hq)
  · rfl
  · (intro _w hSw; (try dsimp only at hSw); go_simp; try with_reducible rfl)
  · assumption
  try simp only [Act.put, List.setIfInBounds_toArray, List.set_cons_zero, List.set_cons_succ]
  refine take_in (i := 9) (v := ?_) (d := (some 19)) rfl rfl ?_ ?_ ?_ ?_ ?_ ?_ ?_ ?_
  rotate_left
  · kernel_rfl
  · kernel_rfl
  · kernel_rfl
  · (intro _ _ _ hq; exact hq)
  · rfl
  · (intro _w hSw; (try dsimp only at hSw); go_simp; try with_reducible rfl)
  · assumption
  try simp only [Act.put, List.setIfInBounds_toArray, List.set_cons_zero, List.set_cons_succ]
  refine take_in (i := 10) (v := ?_) (d := (some 20)) rfl rfl ?_ ?_ ?_ ?_ ?_ ?_ ?_ ?_
  rotate_left
  · kernel_rfl
  · kernel_rfl
  · kernel_rfl
  · (intro _ _ _ hq; exact hq)
  · rfl
  · (intro _w hSw; (try dsimp only at hSw); go_simp; try with_reducible rfl)
  · assumption
  try simp only [Act.put, List.setIfInBounds_toArray, List.set_cons_zero, List.set_cons_succ]
  refine take_in (i := 11) (v := ?_) (d := (some 21)) rfl rfl ?_ ?_ ?_ ?_ ?_ ?_ ?_ ?_
  rotate_left
  · kernel_rfl
  · kernel_rfl
  · kernel_rfl
  · (intro _ _ _ hq; exact hq)
  · rfl
  · (intro _w hSw; (try dsimp only at hSw); go_simp; try with_reducible rfl)
  · assumption
  try simp only [Act.put, List.setIfInBounds_toArray, List.set_cons_zero, List.set_cons_succ]
  refine take_in (i := 12) (v := ?_) (d := (some 22)) rfl rfl ?_ ?_ ?_ ?_ ?_ ?_ ?_ ?_
  rotate_left
  · kernel_rfl
  · kernel_rfl
  · kernel_rfl
  · (intro _ _ _ hq; exact hq)
  · rfl
  · (intro _w hSw; (try dsimp only at hSw); go_simp; try with_reducible rfl)
  · assumption
  try simp only [Act.put, List.setIfInBounds_toArray, List.set_cons_zero, List.set_cons_succ]
  refine take_in (i := 13) (v := ?_) (d := (some 23)) rfl rfl ?_ ?_ ?_ ?_ ?_ ?_ ?_ ?_
  rotate_left
  · kernel_rfl
  · kernel_rfl
  · kernel_rfl
  · (intro _ _ _ hq; exact hq)
  · rfl
  · (intro _w hSw; (try dsimp only at hSw); go_simp; try with_reducible rfl)
  · assumption
  try simp only [Act.put, List.setIfInBounds_toArray, List.set_cons_zero, List.set_cons_succ]
  refine take_in (i := 14) (v := ?_) (d := (some 24)) rfl rfl ?_ ?_ ?_ ?_ ?_ ?_ ?_ ?_
  rotate_left
  · kernel_rfl
  · kernel_rfl
  · kernel_rfl
  · (intro _ _ _ hq; exact hq)
  · rfl
  · (intro _w hSw; (try dsimp only at hSw); go_simp; try with_reducible rfl)
  · assumption
  try simp only [Act.put, List.setIfInBounds_toArray, List.set_cons_zero, List.set_cons_succ]
  refine take_in (i := 15) (v := ?_) (d := (some 25)) rfl rfl ?_ ?_ ?_ ?_ ?_ ?_ ?_ ?_
  rotate_left
  · kernel_rfl
  · kernel_rfl
  · kernel_rfl
  · (intro _ _ _ hq; exact hq)
  · rfl
  · (intro _w hSw; (try dsimp only at hSw); go_simp; try with_reducible rfl)
  · assumption
  try simp only [Act.put, List.setIfInBounds_toArray, List.set_cons_zero, List.set_cons_succ]
  refine take_in (i := 16) (v := ?_) (d := (some 26)) rfl rfl ?_ ?_ ?_ ?_ ?_ ?_ ?_ ?_
  rotate_left
  · kernel_rfl
  · kernel_rfl
  · kernel_rfl
  · (intro _ _ _ hq; exact hq)
  · rfl
  · (intro _w hSw; (try dsimp only at hSw); go_simp; try with_reducible rfl)
  · assumption
  try simp only [Act.put, List.setIfInBounds_toArray, List.set_cons_zero, List.set_cons_succ]
  refine take_in (i := 17) (v := ?_) (d := (some 27)) rfl rfl ?_ ?_ ?_ ?_ ?_ ?_ ?_ ?_
  rotate_left
  · kernel_rfl
  · kernel_rfl
  · kernel_rfl
  · (intro _ _ _ hq; exact hq)
  · rfl
  · (intro _w hSw; (try dsimp only at hSw); go_simp; try with_reducible rfl)
  · assumption
  try simp only [Act.put, List.setIfInBounds_toArray, List.set_cons_zero, List.set_cons_succ]
  refine take_in (i := 18) (v := ?_) (d := (some 28)) rfl rfl ?_ ?_ ?_ ?_ ?_ ?_ ?_ ?_
  rotate_left
  · kernel_rfl
  · kernel_rfl
  · kernel_rfl
  · (intro _ _ _ hq; exact hq)
  · rfl
  · (intro _w hSw; (try dsimp only at hSw); go_simp; try with_reducible rfl)
  · assumption
  try simp only [Act.put, List.setIfInBounds_toArray, List.set_cons_zero, List.set_cons_succ]
  refine wpAnyH_ready (rs := [19]) ?_ ?_ ?_
  · kernel_rfl
  · simp
  refine (AllReadyH.cons rfl (fun K hK => ?_) AllReadyH.nil)
  go_simp
  refine hK.out _ _ ?_ (fun hHeld => ?_)
  · ((try dsimp only); ((try go_split_ands); (repeat' apply And.intro) <;> (repeat (first | assumption | (exact Gr.refl _) | (refine Gr.drew ?_) | (refine Gr.alloc ?_ _) | (refine alloc_old ?_) | (refine Gr.keep (by assumption) ?_) | (refine Gr.trans ?_ (by assumption))))))
  clear hK K
  try simp only [Act.put, List.setIfInBounds_toArray, List.set_cons_zero, List.set_cons_succ]
  refine take_in (i := 20) (v := ?_) (d := (some 5)) rfl rfl ?_ ?_ ?_ ?_ ?_ ?_ ?_ ?_
  rotate_left
  · kernel_rfl
  · kernel_rfl
  · kernel_rfl
  · (intro _ _ _ hq; exact hq)
  · rfl
  · (intro _w hSw; (try dsimp only at hSw); go_simp; try with_reducible rfl)
  · assumption
  try simp only [Act.put, List.setIfInBounds_toArray, List.set_cons_zero, List.set_cons_succ]
  refine wpAnyH_done ?_ ?_ _
  · kernel_rfl
  rotate_left
  go_wp2_with fail
  generalize hW : World.drew _ = W
  have hgW : Gr w W := by rw [← hW]; exact (((Gr.refl _).alloc _).alloc _).drew
  have hBh : Blk W (w.heap.size + 1) 70 #[.slice (some ⟨bb 0, 0, none⟩) (nn 0) (cc 0), .slice (some ⟨bb 1, 0, none⟩) (nn 1) (cc 1)] := by
    rw [← hW]
    have h : ∀ v : World, Blk (v.alloc (.cells #[.slice (some ⟨bb 0, 0, none⟩) (nn 0) (cc 0), .slice (some ⟨bb 1, 0, none⟩) (nn 1) (cc 1)] 70)) v.heap.size _ _ := fun v => heap_alloc_new v _
    have h2 := h (w.alloc (.cells #[.int .i64 (x' - x), .int .i64 (y' - y)] 168))
    have e : (w.alloc (.cells #[.int .i64 (x' - x), .int .i64 (y' - y)] 168)).heap.size = w.heap.size + 1 := by simp
    rw [e] at h2
    exact h2
  have hown0 : W.ownsRow w.heap.size 168 2 (.slice (some ⟨w.heap.size, 0, none⟩) 1 1) 1 (flat2 [(x' - x, y' - y)]) := by
    rw [← hW]
    exact (World.ownsRow_lit w #[.int .i64 (x' - x), .int .i64 (y' - y)] 1 (Nat.le_refl _) (by unfold maxLen; omega) rfl).alloc _
  have HC := Lib.hid hBh
  have HO := Lib.hid hown0
  obtain ⟨hb, hhb⟩ : ∃ h, w.heap.size + 1 = h := ⟨_, rfl⟩
  rw [hhb] at HC ⊢
  have HL : Hid (∀ k, k ≤ 2 → (dirT pp (x' - x, y' - y) k).length ≤ 1 + k * 1024) := Lib.hid (dirT_len pp _ (fun k hk => by have := HH.out k hk; omega))
  clear hW hHeld x0 x1 y0 y1 a0 a1 b0 b1 w1 w2 n1 n2 l1 l2 u1 u2 hBh hown0 hhb
  generalize hd : (x' - x, y' - y) = d at HDL HO HL
  clear hd
  go_loopw [5, 34] (fun v i wr => ∃ (k N : Nat), k ≤ 2 ∧ i = .int .i64 k ∧ Hid ((dirT pp d k).length = N) ∧ Hid (wr.ownsRow w.heap.size 168 2 v N (flat2 (dirT pp d k))) ∧ Gr w wr ∧ Hid (Blk wr hb 70 #[.slice (some ⟨bb 0, 0, none⟩) (nn 0) (cc 0), .slice (some ⟨bb 1, 0, none⟩) (nn 1) (cc 1)])) (fun _ i _ => 2 - (intOf i).toNat)
  case atStart => exact ⟨0, 1, by omega, rfl, Lib.hid rfl, HO, hgW, HC⟩
  case round =>
    obtain ⟨wo, rfl⟩ : ∃ wo : World, wo = wr := ⟨_, rfl⟩
    obtain ⟨k, N, hk, rfl, hN, hown, hg, hcell⟩ := hrel
    by_cases hlt : k < 2
    · have hck : wo.cell? ⟨hb, k, none⟩ = some (.slice (some ⟨bb k, 0, none⟩) (nn k) (cc k)) := by
        rw [hcell.out.cell]
        match k, hlt with
        | 0, _ => rfl
        | 1, _ => rfl
      obtain ⟨ek, ⟨lk, uk⟩, pk, vk⟩ := HH.out k hlt
      have HE := Lib.hid (edges_any2 (some ⟨bb k, 0, none⟩) (nn k) (cc k) (pp k) wo ek (by omega) (pk.keep hg))
      have HEK := Lib.hid ek
      have HVK := Lib.hid vk
      have hNl : N ≤ 1 + k * 1024 := by rw [← hN.out]; exact HL.out k hk
      have HKS : Hid (dirT pp d (k + 1) = dirT pp d k ++ (edgesL (pp k)).map nrm) := Lib.hid rfl
      obtain ⟨gv, cv, hvv⟩ : ∃ gv cv, u5 = .slice (some ⟨gv, 0, none⟩) N cv := by
        have hl : 1 ≤ N := by
          rw [← hN.out]
          match k with
          | 0 => simp [dirT]
          | k + 1 =>
            have : ∀ k, 1 ≤ (dirT pp d k).length := fun k => by
              induction k with
              | zero => simp [dirT]
              | succ k ih => simp [dirT]; omega
            exact this _
        rcases hown.out.2 with ⟨_, hz⟩ | ⟨gv, cv, _, hv, _⟩
        · omega
        · exact ⟨gv, cv, hv⟩
      clear ek pk vk
      go_wp2_with fail
      refine HE.out.mono ?_
      rintro e w1 ⟨g, ce, rfl, hE, hg1, hBg⟩
      rw [HEK.out]
      have HED := Lib.hid hE
      clear hE HE hck hvv
      go_wp2_with fail
      go_loopw [5, 41] (fun v i wr => ∃ j : Nat, j ≤ nn k ∧ i = .int .i64 j ∧ Hid (wr.ownsRow w.heap.size 168 2 v (N + j) (flat2 (dirT pp d k ++ ((edgesL (pp k)).map nrm).take j))) ∧ Hid (Blk wr g 112 ce ∧ Blk wr hb 70 #[.slice (some ⟨bb 0, 0, none⟩) (nn 0) (cc 0), .slice (some ⟨bb 1, 0, none⟩) (nn 1) (cc 1)]) ∧ Gr w wr) (fun _ i _ => nn k - (intOf i).toNat)
      case atStart => exact ⟨0, Nat.zero_le _, rfl, Lib.hid (by
        have h := owns_gr hown.out hg1
        simpa using h), Lib.hid ⟨hBg, hcell.out.keep hg1⟩, hg.trans hg1⟩
      case round =>
        obtain ⟨j, hj, rfl, hown2, hbk, hgw⟩ := hrel
        by_cases hltj : j < nn k
        · obtain ⟨m0, m1, m2, m3⟩ := Eds_at (Eds_same HED.out hBg hbk.out.1) (k := j) (by have := HEK.out; omega)
          obtain ⟨c1, c2, c3, c4⟩ := ed_co HVK.out j
          have HTK : Hid (((edgesL (pp k)).map nrm).take (j + 1) = ((edgesL (pp k)).map nrm).take j ++ [nrm (ed (pp k) j)]) := Lib.hid (by
            rw [List.take_add_one, List.getElem?_map]
            have : (edgesL (pp k))[j]? = some (ed (pp k) j) := edgesL_at (by rw [HEK.out]; exact hltj)
            rw [this]; rfl)
          generalize ed (pp k) j = q at m0 m1 m2 m3 c1 c2 c3 c4 HTK
          obtain ⟨⟨x, y⟩, x', y'⟩ := q
          dsimp only at m0 m1 m2 m3 c1 c2 c3 c4 HTK
          unfold Co at c1 c2 c3 c4
          obtain ⟨gv, cv, hvv⟩ : ∃ gv cv, u5 = .slice (some ⟨gv, 0, none⟩) (N + j) cv := by
            rcases hown2.out.2 with ⟨_, hz⟩ | ⟨gv, cv, _, hv, _⟩
            · have : 1 ≤ N := by
                rw [← hN.out]
                have h1 : ∀ k, 1 ≤ (dirT pp d k).length := fun k => by
                  induction k with
                  | zero => simp [dirT]
                  | succ k ih => simp [dirT]; omega
                exact h1 _
              omega
            · exact ⟨gv, cv, hv⟩
          subst hvv
          obtain ⟨hi, hz0, hz1, hz2⟩ := HI.out
          go_wp2_with (at_builtin; refine wpList_append_own _ rfl _ _ 165 rfl w.heap.size 168 i0 _ 2 16 Tryz.underlying165 hi hz0 hz1 hz2 rfl (by decide) _ _ _ rfl ((hown2.out.alloc _).alloc _) ⟨wr.heap.size + 1, 0, none⟩ 1 1 [.int .i64 (y - y'), .int .i64 (x' - x)] rfl rfl ?a1 ?a2 ?a3 ?a4 ?a5 ?_)
          case a1 =>
            intro t u ht
            rw [Addr.add_lit]
            exact alloc_new (by simp) (by rw [Nat.zero_add]; simpa using ht)
          case a2 =>
            intro u hu
            simp at hu
            rcases hu with rfl | rfl <;> rfl
          case a3 => unfold maxLen; omega
          case a4 => omega
          case a5 => have := hgw.size; simp; omega
          intro v' w2 hown' hgrow _
          have hga : Gr w ((wr.alloc _).alloc _) := (hgw.alloc (.cells #[.int .i64 x, .int .i64 y, .int .i64 x', .int .i64 y'] 112)).alloc (.cells #[.int .i64 (y - y'), .int .i64 (x' - x)] 168)
          have hgb : Gr w w2 := Below.grown hga hgrow hga.size (fun t ht => (hown2.out.lt t ht).1)
          have hbk2 : Hid (Blk w2 g 112 ce ∧ Blk w2 hb 70 #[.slice (some ⟨bb 0, 0, none⟩) (nn 0) (cc 0), .slice (some ⟨bb 1, 0, none⟩) (nn 1) (cc 1)]) := Lib.hid
            ⟨(hbk.out.1.keep (((Gr.refl _).alloc _).alloc _)).grown hgrow (hbk.out.1.apart hown2.out (by decide)), (hbk.out.2.keep (((Gr.refl _).alloc _).alloc _)).grown hgrow (hbk.out.2.apart hown2.out (by decide))⟩
          have HO2 := Lib.hid hown'
          clear hown' hgrow hi hz0 hz1 hz2 hga m0 m1 m2 m3
          go_wp2_with fail
          go_roundw
          case rel => exact ⟨j + 1, by omega, by go_num, Lib.hid (by
            have h := HO2.out
            rw [HTK.out, ← List.append_assoc, flat2_snoc]
            exact h), hbk2, hgb⟩
          case measure => simp [intOf]; omega
        · go_wp2_with fail
          go_roundw
          case rel =>
            have hlen : (((edgesL (pp k)).map nrm)).length = nn k := by rw [List.length_map, edgesL_len]; exact HEK.out
            refine ⟨k + 1, N + nn k, by omega, by go_num, Lib.hid (by rw [HKS.out, List.length_append, hN.out, hlen]), Lib.hid ?_, hgw, Lib.hid hbk.out.2⟩
            have h := hown2.out
            obtain rfl : j = nn k := by omega
            rw [List.take_of_length_le (by omega)] at h
            rw [HKS.out]
            exact h
          case measure => simp [intOf]; omega
    · go_wp2_with fail
      go_ret
      obtain rfl : k = 2 := by omega
      have h1 : ∀ k, 1 ≤ (dirT pp d k).length := fun k => by
        induction k with
        | zero => simp [dirT]
        | succ k ih => simp [dirT]; omega
      have h2 := h1 2
      rw [hN.out] at h2
      rcases hown.out.2 with ⟨_, hz⟩ | ⟨gv, cv, cur, hv, _⟩
      · omega
      · subst hv
        refine ⟨gv, cv, by rw [HDL.out, hN.out]; rfl, ?_, hg⟩
        rw [HDL.out]
        exact (Own_of hN.out hown.out).pts

end Go.Proofs.YtpnkpejnahhajaaGreat

namespace Go.Proofs.YtpnkpejnahhajaaGreat
open Go.RowKit
set_option linter.unusedSimpArgs false

def pr (v p : Int × Int) : Int := v.1 * p.1 + v.2 * p.2
def loT (v : Int × Int) (ps : List (Int × Int)) : Nat → Int
  | 0 => pr v (ps.getD 0 (0, 0))
  | k + 1 => min (loT v ps k) (pr v (ps.getD (k + 1) (0, 0)))
def hiT (v : Int × Int) (ps : List (Int × Int)) : Nat → Int
  | 0 => pr v (ps.getD 0 (0, 0))
  | k + 1 => max (hiT v ps k) (pr v (ps.getD (k + 1) (0, 0)))
def loL (v : Int × Int) (ps : List (Int × Int)) : Int := loT v ps (ps.length - 1)
def hiL (v : Int × Int) (ps : List (Int × Int)) : Int := hiT v ps (ps.length - 1)
def Vc (v : Int × Int) : Prop := (-1073741824 ≤ v.1 ∧ v.1 ≤ 1073741824) ∧ (-1073741824 ≤ v.2 ∧ v.2 ≤ 1073741824)
theorem pr_bd {v : Int × Int} {ps : List (Int × Int)} (h : Vc v) (hc : Cos ps) (k : Nat) : -8796093022208 ≤ pr v (ps.getD k (0, 0)) ∧ pr v (ps.getD k (0, 0)) ≤ 8796093022208 := by
  obtain ⟨c1, c2⟩ := hc k
  have b1 := mul_bd (A := 1073741824) (B := 4096) h.1 c1
  have b2 := mul_bd (A := 1073741824) (B := 4096) h.2 c2
  unfold pr; omega
theorem loT_bd {v : Int × Int} {ps : List (Int × Int)} (h : Vc v) (hc : Cos ps) : ∀ k, -8796093022208 ≤ loT v ps k ∧ loT v ps k ≤ 8796093022208
  | 0 => pr_bd h hc 0
  | k + 1 => by have := loT_bd h hc k; have := pr_bd h hc (k + 1); unfold loT; omega
theorem hiT_bd {v : Int × Int} {ps : List (Int × Int)} (h : Vc v) (hc : Cos ps) : ∀ k, -8796093022208 ≤ hiT v ps k ∧ hiT v ps k ≤ 8796093022208
  | 0 => pr_bd h hc 0
  | k + 1 => by have := hiT_bd h hc k; have := pr_bd h hc (k + 1); unfold hiT; omega

set_option maxRecDepth 100000 in
set_option maxHeartbeats 1000000 in
theorem reach_any (g n c : Nat) (ps : List (Int × Int)) (u v : Int) (w : World) (hn : ps.length = n) (h1 : 1 ≤ n) (hl : n ≤ 1048576) (hc : n ≤ c) (hp : Pts w (some ⟨g, 0, none⟩) ps) (hv : Cos ps) (hV : Vc (u, v)) :
    Calls Tryz.prog 89 #[.slice (some ⟨g, 0, none⟩) n c, .agg #[.int .i64 u, .int .i64 v]] w fun e w' => e = .returned (.tuple #[.int .i64 (loL (u, v) ps), .int .i64 (hiL (u, v) ps)]) ∧ Gr w w' := by
  have HN := Lib.hid hn
  have HV := Lib.hid hv
  have HVV := Lib.hid hV
  obtain ⟨b', o', e', x0, x1⟩ := Pts_at hp (k := 0) (by omega)
  obtain ⟨rfl, rfl⟩ : g = b' ∧ 0 = o' := by simpa using e'
  simp only [Nat.zero_add, Nat.zero_mul] at x0 x1
  have HP := Lib.hid hp
  have HL0 : Hid (loT (u, v) ps 0 = pr (u, v) (ps.getD 0 (0, 0))) := Lib.hid rfl
  have HH0 : Hid (hiT (u, v) ps 0 = pr (u, v) (ps.getD 0 (0, 0))) := Lib.hid rfl
  obtain ⟨a0, a1⟩ := hv 0
  have hpr : pr (u, v) (ps.getD 0 (0, 0)) = u * (ps.getD 0 (0, 0)).1 + v * (ps.getD 0 (0, 0)).2 := rfl
  rw [hpr] at HL0 HH0
  clear hpr
  obtain ⟨⟨u1, u2⟩, v1, v2⟩ := hV
  dsimp only at u1 u2 v1 v2
  generalize ps.getD 0 (0, 0) = p at x0 x1 a0 a1 HL0 HH0
  obtain ⟨x, y⟩ := p
  dsimp only at x0 x1 a0 a1 HL0 HH0
  unfold Co at a0 a1
  have b1 := mul_bd (A := 1073741824) (B := 4096) ⟨u1, u2⟩ a0
  have b2 := mul_bd (A := 1073741824) (B := 4096) ⟨v1, v2⟩ a1
  have w1 : IntKind.i64.wrap (u * x) = u * x := IntWalk.i64_in _ (by omega)
  have w2 : IntKind.i64.wrap (v * y) = v * y := IntWalk.i64_in _ (by omega)
  have w3 : IntKind.i64.wrap (u * x + v * y) = u * x + v * y := IntWalk.i64_in _ (by omega)
  have n1 : (0 : Int) < n := by omega
  have n2 : 0 < n := by omega
  clear hn hp hv e'
  go_enter Tryz.func89, Tryz.ntmps89
  go_wp2_with fail
  generalize hW : World.alloc w _ = W
  have hgW : Gr w W := by rw [← hW]; exact (Gr.refl _).alloc _
  have c0 : W.cell? ⟨w.heap.size, 0, none⟩ = some (.int .i64 u) := by rw [← hW]; exact alloc_new rfl rfl
  have c1 : W.cell? ⟨w.heap.size, 1, none⟩ = some (.int .i64 v) := by rw [← hW]; exact alloc_new rfl rfl
  replace x0 := hgW.keep x0
  replace x1 := hgW.keep x1
  clear hW
  go_quiet (fail)
  generalize hW : World.drewN W _ = W2
  have hg2 : Gr W W2 := by rw [← hW]; exact (Gr.refl _).drewN _
  replace c0 := hg2.keep c0
  replace c1 := hg2.keep c1
  replace hgW := hgW.trans hg2
  clear hW x0 x1 w1 w2 w3 hg2
  rw [← HL0.out]
  go_wp2_with fail
  · go_loopw [4, 5, 28] (fun lo hi i wr => ∃ k : Nat, k + 1 ≤ n ∧ i = .int .i64 k ∧ lo = .int .i64 (loT (u, v) ps k) ∧ hi = .int .i64 (hiT (u, v) ps k) ∧ Gr W2 wr) (fun _ _ i _ => n - (intOf i).toNat)
    case atStart => exact ⟨0, by omega, rfl, rfl, congrArg (Value.int .i64) (HL0.out.trans HH0.out.symm), Gr.refl _⟩
    case round =>
      obtain ⟨k, hk, rfl, rfl, rfl, hg⟩ := hrel
      · have hkn : k = n - 1 := by omega
        go_wp2_with fail
        go_ret2
        refine ⟨?_, hgW.trans hg⟩
        unfold loL hiL
        rw [HN.out, ← hkn]
        rfl
  · go_loopw [4, 5, 28] (fun lo hi i wr => ∃ k : Nat, k + 1 ≤ n ∧ i = .int .i64 k ∧ lo = .int .i64 (loT (u, v) ps k) ∧ hi = .int .i64 (hiT (u, v) ps k) ∧ Gr W2 wr) (fun _ _ i _ => n - (intOf i).toNat)
    case atStart => exact ⟨0, by omega, rfl, rfl, congrArg (Value.int .i64) (HL0.out.trans HH0.out.symm), Gr.refl _⟩
    case round =>
      obtain ⟨k, hk, rfl, rfl, rfl, hg⟩ := hrel
      by_cases hlt : k + 1 < n
      · obtain ⟨b', o', e', z0, z1⟩ := Pts_at (HP.out.keep (hgW.trans hg)) (k := k + 1) (by have := HN.out; omega)
        obtain ⟨rfl, rfl⟩ : g = b' ∧ 0 = o' := by simpa using e'
        clear e'
        rw [show 0 + (k + 1) * 2 = 2 + k * 2 by omega] at z0 z1
        have d0 : ∀ o, (wr.alloc o).cell? ⟨w.heap.size, 0, none⟩ = some (.int .i64 u) := fun o => alloc_old (hg.keep c0)
        have d1 : ∀ o, (wr.alloc o).cell? ⟨w.heap.size, 1, none⟩ = some (.int .i64 v) := fun o => alloc_old (hg.keep c1)
        have q1 := pr_bd HVV.out HV.out (k + 1)
        have q2 := loT_bd HVV.out HV.out k
        have q3 := hiT_bd HVV.out HV.out k
        have HS1 : Hid (loT (u, v) ps (k + 1) = min (loT (u, v) ps k) (u * (ps.getD (k + 1) (0, 0)).1 + v * (ps.getD (k + 1) (0, 0)).2)) := Lib.hid rfl
        have HS2 : Hid (hiT (u, v) ps (k + 1) = max (hiT (u, v) ps k) (u * (ps.getD (k + 1) (0, 0)).1 + v * (ps.getD (k + 1) (0, 0)).2)) := Lib.hid rfl
        have hpr : pr (u, v) (ps.getD (k + 1) (0, 0)) = u * (ps.getD (k + 1) (0, 0)).1 + v * (ps.getD (k + 1) (0, 0)).2 := rfl
        rw [hpr] at q1
        clear hpr
        obtain ⟨g0, g1⟩ := HV.out (k + 1)
        generalize loT (u, v) ps k = lo at q2 HS1 ⊢
        generalize hiT (u, v) ps k = hi at q3 HS2 ⊢
        generalize ps.getD (k + 1) (0, 0) = q at z0 z1 q1 g0 g1 HS1 HS2
        obtain ⟨x', y'⟩ := q
        dsimp only at z0 z1 q1 g0 g1 HS1 HS2
        unfold Co at g0 g1
        have f1 := mul_bd (A := 1073741824) (B := 4096) ⟨u1, u2⟩ g0
        have f2 := mul_bd (A := 1073741824) (B := 4096) ⟨v1, v2⟩ g1
        go_wp2_with fail
        go_roundw
        case rel => exact ⟨k + 1, by omega, by go_num, congrArg (Value.int .i64) HS1.out.symm, congrArg (Value.int .i64) HS2.out.symm, hg.alloc _⟩
        case measure => simp [intOf]; omega
      · have hkn : k = n - 1 := by omega
        go_wp2_with fail
        go_ret2
        refine ⟨?_, hgW.trans hg⟩
        unfold loL hiL
        rw [HN.out, ← hkn]
        rfl

end Go.Proofs.YtpnkpejnahhajaaGreat
