/- Layer 2: the table of best worths, and an offer to one of its entries. -/
import Derived.Test.YtcojionipffanabCState
import Derived.Test.YtcojionipffanabHeld
namespace Go.Proofs.Ytcojionipffanab
open Go.RowKit
set_option linter.unusedSimpArgs false

/-- The table at block g: the worth and the first step of each size. -/
def Tab (w : World) (g : Nat) (wt : Nat → Nat → Int) (ft : Nat → Nat → St) : Prop :=
  ∃ cs, Blk w g 111 cs ∧ cs.size = 7203 ∧ ∀ x y, x ≤ 48 → y ≤ 48 → cs[x * 49 + y]? = some (.int .i64 (wt x y)) ∧ cs[2401 + x * 98 + y * 2]? = some (.int .i64 (ft x y).1) ∧ cs[2401 + x * 98 + y * 2 + 1]? = some (.int .i64 (ft x y).2)
theorem Tab.keep {w w' : World} {g : Nat} {wt : Nat → Nat → Int} {ft : Nat → Nat → St} (h : Tab w g wt ft) (hg : Gr w w') : Tab w' g wt ft := by
  obtain ⟨cs, hb, h1, h2⟩ := h
  exact ⟨cs, hb.keep hg, h1, h2⟩
theorem Tab.worth {w : World} {g : Nat} {wt : Nat → Nat → Int} {ft : Nat → Nat → St} (h : Tab w g wt ft) {x y : Nat} (hx : x ≤ 48) (hy : y ≤ 48) : w.cell? ⟨g, x * 49 + y, none⟩ = some (.int .i64 (wt x y)) := by
  obtain ⟨cs, hb, -, h2⟩ := h
  rw [hb.cell]; exact (h2 x y hx hy).1
theorem Tab.first {w : World} {g : Nat} {wt : Nat → Nat → Int} {ft : Nat → Nat → St} (h : Tab w g wt ft) {x y : Nat} (hx : x ≤ 48) (hy : y ≤ 48) :
    w.cell? ⟨g, 2401 + x * 98 + y * 2, none⟩ = some (.int .i64 (ft x y).1) ∧ w.cell? ⟨g, 2401 + x * 98 + y * 2 + 1, none⟩ = some (.int .i64 (ft x y).2) := by
  obtain ⟨cs, hb, -, h2⟩ := h
  rw [hb.cell, hb.cell]; exact ⟨(h2 x y hx hy).2.1, (h2 x y hx hy).2.2⟩
theorem Tab.free {w : World} {g : Nat} {wt : Nat → Nat → Int} {ft : Nat → Nat → St} (h : Tab w g wt ft) (i : Nat) : w.frozen? ⟨g, i, none⟩ = false := by
  obtain ⟨cs, hb, -, -⟩ := h
  exact hb.free i
theorem Tab.other {w : World} {g : Nat} {wt : Nat → Nat → Int} {ft : Nat → Nat → St} (h : Tab w g wt ft) {g' : Nat} {t : TypeId} {cs : Array Value} (hb : Blk w g' t cs) (hne : t ≠ 111) : g' ≠ g := by
  obtain ⟨cs', hb', -, -⟩ := h
  exact hb.differ hb' hne
def upd {α : Type} (f : Nat → Nat → α) (x y : Nat) (v : α) : Nat → Nat → α := fun a b => if a = x ∧ b = y then v else f a b
theorem upd_same {α : Type} (f : Nat → Nat → α) (x y : Nat) (v : α) : upd f x y v x y = v := by unfold upd; rw [if_pos ⟨rfl, rfl⟩]
theorem upd_other {α : Type} (f : Nat → Nat → α) {x y a b : Nat} (v : α) (h : ¬(a = x ∧ b = y)) : upd f x y v a b = f a b := by unfold upd; rw [if_neg h]
theorem Tab.put {w : World} {g : Nat} {wt : Nat → Nat → Int} {ft : Nat → Nat → St} (h : Tab w g wt ft) {x y : Nat} (hx : x ≤ 48) (hy : y ≤ 48) (v : Int) (s : St) :
    Tab (((w.setCell ⟨g, x * 49 + y, none⟩ (.int .i64 v)).setCell ⟨g, 2401 + x * 98 + y * 2, none⟩ (.int .i64 s.1)).setCell ⟨g, 2401 + x * 98 + y * 2 + 1, none⟩ (.int .i64 s.2)) g (upd wt x y v) (upd ft x y s) := by
  obtain ⟨cs, hb, hs, h2⟩ := h
  refine ⟨_, ((hb.put _ _).put _ _).put _ _, by simp [hs], fun a b ha hb => ?_⟩
  obtain ⟨k1, k2, k3⟩ := h2 a b ha hb
  by_cases e : a = x ∧ b = y
  · obtain ⟨rfl, rfl⟩ := e
    rw [upd_same, upd_same]
    refine ⟨?_, ?_, ?_⟩
    · rw [Array.getElem?_setIfInBounds_ne (by omega), Array.getElem?_setIfInBounds_ne (by omega), Array.getElem?_setIfInBounds_self_of_lt (by omega)]
    · rw [Array.getElem?_setIfInBounds_ne (by omega), Array.getElem?_setIfInBounds_self_of_lt (by simp; omega)]
    · rw [Array.getElem?_setIfInBounds_self_of_lt (by simp; omega)]
  · rw [upd_other wt v e, upd_other ft s e]
    refine ⟨?_, ?_, ?_⟩
    · rw [Array.getElem?_setIfInBounds_ne (by omega), Array.getElem?_setIfInBounds_ne (by omega), Array.getElem?_setIfInBounds_ne (by omega)]; exact k1
    · rw [Array.getElem?_setIfInBounds_ne (by omega), Array.getElem?_setIfInBounds_ne (by omega), Array.getElem?_setIfInBounds_ne (by omega)]; exact k2
    · rw [Array.getElem?_setIfInBounds_ne (by omega), Array.getElem?_setIfInBounds_ne (by omega), Array.getElem?_setIfInBounds_ne (by omega)]; exact k3

theorem Blk.gb {w w' : World} {g g' : Nat} {t : TypeId} {cs : Array Value} (h : Blk w g' t cs) (hg : Gb g w w') (hne : g' ≠ g) : Blk w' g' t cs :=
  (hg.block g' h.lt (fun e => hne (by injection e))).trans h

def OfferPost (g : Nat) (wt : Nat → Nat → Int) (ft : Nat → Nat → St) (w : World) (e : Ending) (w' : World) : Prop :=
  e = .returned (.tuple #[]) ∧ Tab w' g wt ft ∧ Gb g w w'

set_option maxRecDepth 100000 in
set_option maxHeartbeats 1000000 in
theorem offer_no (g tb xb yb x y : Nat) (wt : Nat → Nat → Int) (ft : Nat → Nat → St) (kd arg worth : Int) (w : World) (hx : x ≤ 48) (hy : y ≤ 48) (hT : Tab w g wt ft)
    (h1 : Blk w tb 81 #[.pointer (some ⟨g, 0, none⟩)]) (h2 : Blk w xb 3 #[.int .i64 (x : Int)]) (h3 : Blk w yb 3 #[.int .i64 (y : Int)]) (hv : worth ≤ wt x y) :
    Calls Try.prog 78 #[.int .i64 kd, .int .i64 arg, .int .i64 worth, .pointer (some ⟨tb, 0, none⟩), .pointer (some ⟨xb, 0, none⟩), .pointer (some ⟨yb, 0, none⟩)] w (OfferPost g wt ft w) := by
  have c0 := hT.worth hx hy
  have c1 := cell_of_one h1
  have c2 := cell_of_one h2
  have c3 := cell_of_one h3
  have HT := Lib.hid hT
  have i1 : (0 : Int) ≤ (x : Int) := by omega
  have i2 : (x : Int) < 49 := by omega
  have i3 : (0 : Int) ≤ (y : Int) := by omega
  have i4 : (y : Int) < 49 := by omega
  generalize wt x y = v at c0 hv
  have hd : decide (v < worth) = false := decide_eq_false (by omega)
  clear hT h1 h2 h3
  go_enter Try.func78, Try.ntmps78
  go_wp2_with fail
  go_quiet (fail)
  go_wp2_with fail
  go_end0
  exact ⟨rfl, HT.out.keep ((Gr.refl _).drewN _), Gb.of ((Gr.refl _).drewN _) _⟩

set_option maxRecDepth 100000 in
set_option maxHeartbeats 1000000 in
theorem offer_yes (g tb xb yb x y : Nat) (wt : Nat → Nat → Int) (ft : Nat → Nat → St) (kd arg worth : Int) (w : World) (hx : x ≤ 48) (hy : y ≤ 48) (hT : Tab w g wt ft)
    (h1 : Blk w tb 81 #[.pointer (some ⟨g, 0, none⟩)]) (h2 : Blk w xb 3 #[.int .i64 (x : Int)]) (h3 : Blk w yb 3 #[.int .i64 (y : Int)]) (hv : wt x y < worth) :
    Calls Try.prog 78 #[.int .i64 kd, .int .i64 arg, .int .i64 worth, .pointer (some ⟨tb, 0, none⟩), .pointer (some ⟨xb, 0, none⟩), .pointer (some ⟨yb, 0, none⟩)] w (OfferPost g (upd wt x y worth) (upd ft x y (kd, arg)) w) := by
  have c0 := hT.worth hx hy
  have c1 := cell_of_one h1
  have c2 := cell_of_one h2
  have c3 := cell_of_one h3
  have HT := Lib.hid hT
  have n1 : tb ≠ g := hT.other h1 (by decide)
  have n2 : xb ≠ g := hT.other h2 (by decide)
  have n3 : yb ≠ g := hT.other h3 (by decide)
  have i1 : (0 : Int) ≤ (x : Int) := by omega
  have i2 : (x : Int) < 49 := by omega
  have i3 : (0 : Int) ≤ (y : Int) := by omega
  have i4 : (y : Int) < 49 := by omega
  generalize wt x y = v at c0 hv
  have hd : decide (v < worth) = true := decide_eq_true (by omega)
  clear hT h1 h2 h3
  go_enter Try.func78, Try.ntmps78
  go_wp2_with fail
  go_quiet (fail)
  go_wp2_with fail
  have hq := (Gr.refl w).drewN nq
  replace c1 := hq.keep c1
  replace c2 := hq.keep c2
  replace c3 := hq.keep c3
  replace HT := Lib.hid (HT.out.keep hq)
  have HQ := Lib.hid hq
  replace c0 := hq.keep c0
  have f0 := HT.out.free (x * 49 + y)
  generalize w.drewN nq = W at hq c0 c1 c2 c3 HT HQ f0 ⊢
  clear hq
  refine wp_region_held_drew (S := (fun W' => W'.cell? ⟨tb, 0, none⟩ = some (.pointer (some ⟨g, 0, none⟩)) ∧ W'.cell? ⟨xb, 0, none⟩ = some (.int .i64 (x : Int)) ∧ W'.cell? ⟨yb, 0, none⟩ = some (.int .i64 (y : Int)))) ?_ ?_ (fun hHeld => ?_)
  · kernel_rfl
  · ((try dsimp only); (first | exact ⟨c1, c2, c3⟩ | exact ⟨cell_other_drew c1 n1, cell_other_drew c2 n2, cell_other_drew c3 n3⟩))
  refine take_in (i := 0) (v := ?_) (d := (some 19)) rfl rfl ?_ ?_ ?_ ?_ ?_ ?_ ?_ ?_
  rotate_left
  · kernel_rfl
  · kernel_rfl
  · kernel_rfl
  · (intro _ _ _ hq; exact hq)
  · rfl
  · (intro _w hSw; (try dsimp only at hSw); go_simp; try with_reducible rfl)
  · assumption
  try simp only [Act.put, List.setIfInBounds_toArray, List.set_cons_zero, List.set_cons_succ]
  refine take_in (i := 1) (v := ?_) (d := (some 20)) rfl rfl ?_ ?_ ?_ ?_ ?_ ?_ ?_ ?_
  rotate_left
  · kernel_rfl
  · kernel_rfl
  · kernel_rfl
  · (intro _ _ _ hq; exact hq)
  · rfl
  · (intro _w hSw; (try dsimp only at hSw); go_simp; try with_reducible rfl)
  · assumption
  try simp only [Act.put, List.setIfInBounds_toArray, List.set_cons_zero, List.set_cons_succ]
  refine take_in (i := 2) (v := ?_) (d := (some 21)) rfl rfl ?_ ?_ ?_ ?_ ?_ ?_ ?_ ?_
  rotate_left
  · kernel_rfl
  · kernel_rfl
  · kernel_rfl
  · (intro _ _ _ hq; exact hq)
  · rfl
  · (intro _w hSw; (try dsimp only at hSw); go_simp; try with_reducible rfl)
  · assumption
  try simp only [Act.put, List.setIfInBounds_toArray, List.set_cons_zero, List.set_cons_succ]
  refine take_in (i := 3) (v := ?_) (d := (some 22)) rfl rfl ?_ ?_ ?_ ?_ ?_ ?_ ?_ ?_
  rotate_left
  · kernel_rfl
  · kernel_rfl
  · kernel_rfl
  · (intro _ _ _ hq; exact hq)
  · rfl
  · (intro _w hSw; (try dsimp only at hSw); go_simp; try with_reducible rfl)
  · assumption
  try simp only [Act.put, List.setIfInBounds_toArray, List.set_cons_zero, List.set_cons_succ]
  refine take_in (i := 4) (v := ?_) (d := (some 23)) rfl rfl ?_ ?_ ?_ ?_ ?_ ?_ ?_ ?_
  rotate_left
  · kernel_rfl
  · kernel_rfl
  · kernel_rfl
  · (intro _ _ _ hq; exact hq)
  · rfl
  · (intro _w hSw; (try dsimp only at hSw); go_simp; try with_reducible rfl)
  · assumption
  try simp only [Act.put, List.setIfInBounds_toArray, List.set_cons_zero, List.set_cons_succ]
  refine take_in (i := 5) (v := ?_) (d := (some 24)) rfl rfl ?_ ?_ ?_ ?_ ?_ ?_ ?_ ?_
  rotate_left
  · kernel_rfl
  · kernel_rfl
  · kernel_rfl
  · (intro _ _ _ hq; exact hq)
  · rfl
  · (intro _w hSw; (try dsimp only at hSw); go_simp; try with_reducible rfl)
  · assumption
  try simp only [Act.put, List.setIfInBounds_toArray, List.set_cons_zero, List.set_cons_succ]
  refine take_in (i := 6) (v := ?_) (d := (some 25)) rfl rfl ?_ ?_ ?_ ?_ ?_ ?_ ?_ ?_
  rotate_left
  · kernel_rfl
  · kernel_rfl
  · kernel_rfl
  · (intro _ _ _ hq; exact hq)
  · rfl
  · (intro _w hSw; (try dsimp only at hSw); go_simp; try with_reducible rfl)
  · assumption
  try simp only [Act.put, List.setIfInBounds_toArray, List.set_cons_zero, List.set_cons_succ]
  refine take_in (i := 7) (v := ?_) (d := (some 26)) rfl rfl ?_ ?_ ?_ ?_ ?_ ?_ ?_ ?_
  rotate_left
  · kernel_rfl
  · kernel_rfl
  · kernel_rfl
  · (intro _ _ _ hq; exact hq)
  · rfl
  · (intro _w hSw; (try dsimp only at hSw); go_simp; try with_reducible rfl)
  · assumption
  try simp only [Act.put, List.setIfInBounds_toArray, List.set_cons_zero, List.set_cons_succ]
  refine wpAnyH_ready (rs := [8]) ?_ ?_ ?_
  · kernel_rfl
  · simp
  refine (AllReadyH.cons rfl (fun K hK => ?_) AllReadyH.nil)
  go_simp
  refine hK.out _ _ ?_ (fun hHeld => ?_)
  · ((try dsimp only); (first | exact ⟨c1, c2, c3⟩ | exact ⟨cell_other_drew c1 n1, cell_other_drew c2 n2, cell_other_drew c3 n3⟩))
  clear hK K
  try simp only [Act.put, List.setIfInBounds_toArray, List.set_cons_zero, List.set_cons_succ]
  refine wpAnyH_done ?_ ?_ _
  · kernel_rfl
  rotate_left
  go_wp2_with fail
  obtain ⟨c1, c2, c3⟩ := hHeld
  obtain ⟨q4, q5⟩ := HT.out.first hx hy
  have hne : ∀ a b : Nat, a ≠ b → (⟨g, a, none⟩ : Addr) ≠ ⟨g, b, none⟩ := fun a b e h => e (by injection h)
  have c4 : (W.setCell ⟨g, x * 49 + y, none⟩ (.int .i64 worth)).drew.cell? ⟨g, 2401 + x * 98 + y * 2, none⟩ = some (.int .i64 (ft x y).1) := (World.cell?_setCell_other _ _ _ _ (hne _ _ (by omega))).trans q4
  have c5 : (W.setCell ⟨g, x * 49 + y, none⟩ (.int .i64 worth)).drew.cell? ⟨g, 2401 + x * 98 + y * 2 + 1, none⟩ = some (.int .i64 (ft x y).2) := (World.cell?_setCell_other _ _ _ _ (hne _ _ (by omega))).trans q5
  have f4 : (W.setCell ⟨g, x * 49 + y, none⟩ (.int .i64 worth)).drew.frozen? ⟨g, 2401 + x * 98 + y * 2, none⟩ = false := (frozen_put _ _ _ _).trans (HT.out.free _)
  have f5 : (W.setCell ⟨g, x * 49 + y, none⟩ (.int .i64 worth)).drew.frozen? ⟨g, 2401 + x * 98 + y * 2 + 1, none⟩ = false := (frozen_put _ _ _ _).trans (HT.out.free _)
  have HFIN : Hid (OfferPost g (upd wt x y worth) (upd ft x y (kd, arg)) w (.returned (.tuple #[])) ((((W.setCell ⟨g, x * 49 + y, none⟩ (.int .i64 worth)).drew.setCell ⟨g, 2401 + x * 98 + y * 2, none⟩ (.int .i64 kd)).setCell ⟨g, 2401 + x * 98 + y * 2 + 1, none⟩ (.int .i64 arg)).drew)) :=
    Lib.hid ⟨rfl, HT.out.put hx hy worth (kd, arg), ((((Gb.of HQ.out g).put _ _).drew.put _ _).put _ _).drew⟩
  generalize (ft x y).1 = u1 at c4
  generalize (ft x y).2 = u2 at c5
  clear q4 q5 hne c0 f0
  generalize (W.setCell ⟨g, x * 49 + y, none⟩ (.int .i64 worth)).drew = W1 at c1 c2 c3 c4 c5 f4 f5 HFIN ⊢
  refine wp_region_held_drew (S := (fun W' => W'.cell? ⟨tb, 0, none⟩ = some (.pointer (some ⟨g, 0, none⟩)) ∧ W'.cell? ⟨xb, 0, none⟩ = some (.int .i64 (x : Int)) ∧ W'.cell? ⟨yb, 0, none⟩ = some (.int .i64 (y : Int)))) ?_ ?_ (fun hHeld => ?_)
  · kernel_rfl
  · ((try dsimp only); (first | exact ⟨c1, c2, c3⟩ | exact ⟨cell_other_drew (cell_other c1 n1) n1, cell_other_drew (cell_other c2 n2) n2, cell_other_drew (cell_other c3 n3) n3⟩))
  refine take_in (i := 0) (v := ?_) (d := (some 27)) rfl rfl ?_ ?_ ?_ ?_ ?_ ?_ ?_ ?_
  rotate_left
  · kernel_rfl
  · kernel_rfl
  · kernel_rfl
  · (intro _ _ _ hq; exact hq)
  · rfl
  · (intro _w hSw; (try dsimp only at hSw); go_simp; try with_reducible rfl)
  · assumption
  try simp only [Act.put, List.setIfInBounds_toArray, List.set_cons_zero, List.set_cons_succ]
  refine take_in (i := 1) (v := ?_) (d := (some 28)) rfl rfl ?_ ?_ ?_ ?_ ?_ ?_ ?_ ?_
  rotate_left
  · kernel_rfl
  · kernel_rfl
  · kernel_rfl
  · (intro _ _ _ hq; exact hq)
  · rfl
  · (intro _w hSw; (try dsimp only at hSw); go_simp; try with_reducible rfl)
  · assumption
  try simp only [Act.put, List.setIfInBounds_toArray, List.set_cons_zero, List.set_cons_succ]
  refine take_in (i := 2) (v := ?_) (d := (some 29)) rfl rfl ?_ ?_ ?_ ?_ ?_ ?_ ?_ ?_
  rotate_left
  · kernel_rfl
  · kernel_rfl
  · kernel_rfl
  · (intro _ _ _ hq; exact hq)
  · rfl
  · (intro _w hSw; (try dsimp only at hSw); go_simp; try with_reducible rfl)
  · assumption
  try simp only [Act.put, List.setIfInBounds_toArray, List.set_cons_zero, List.set_cons_succ]
  refine take_in (i := 3) (v := ?_) (d := (some 30)) rfl rfl ?_ ?_ ?_ ?_ ?_ ?_ ?_ ?_
  rotate_left
  · kernel_rfl
  · kernel_rfl
  · kernel_rfl
  · (intro _ _ _ hq; exact hq)
  · rfl
  · (intro _w hSw; (try dsimp only at hSw); go_simp; try with_reducible rfl)
  · assumption
  try simp only [Act.put, List.setIfInBounds_toArray, List.set_cons_zero, List.set_cons_succ]
  refine take_in (i := 4) (v := ?_) (d := (some 31)) rfl rfl ?_ ?_ ?_ ?_ ?_ ?_ ?_ ?_
  rotate_left
  · kernel_rfl
  · kernel_rfl
  · kernel_rfl
  · (intro _ _ _ hq; exact hq)
  · rfl
  · (intro _w hSw; (try dsimp only at hSw); go_simp; try with_reducible rfl)
  · assumption
  try simp only [Act.put, List.setIfInBounds_toArray, List.set_cons_zero, List.set_cons_succ]
  refine take_in (i := 5) (v := ?_) (d := (some 32)) rfl rfl ?_ ?_ ?_ ?_ ?_ ?_ ?_ ?_
  rotate_left
  · kernel_rfl
  · kernel_rfl
  · kernel_rfl
  · (intro _ _ _ hq; exact hq)
  · rfl
  · (intro _w hSw; (try dsimp only at hSw); go_simp; try with_reducible rfl)
  · assumption
  try simp only [Act.put, List.setIfInBounds_toArray, List.set_cons_zero, List.set_cons_succ]
  refine take_in (i := 6) (v := ?_) (d := (some 33)) rfl rfl ?_ ?_ ?_ ?_ ?_ ?_ ?_ ?_
  rotate_left
  · kernel_rfl
  · kernel_rfl
  · kernel_rfl
  · (intro _ _ _ hq; exact hq)
  · rfl
  · (intro _w hSw; (try dsimp only at hSw); go_simp; try with_reducible rfl)
  · assumption
  try simp only [Act.put, List.setIfInBounds_toArray, List.set_cons_zero, List.set_cons_succ]
  refine take_in (i := 7) (v := ?_) (d := (some 34)) rfl rfl ?_ ?_ ?_ ?_ ?_ ?_ ?_ ?_
  rotate_left
  · kernel_rfl
  · kernel_rfl
  · kernel_rfl
  · (intro _ _ _ hq; exact hq)
  · rfl
  · (intro _w hSw; (try dsimp only at hSw); go_simp; try with_reducible rfl)
  · assumption
  try simp only [Act.put, List.setIfInBounds_toArray, List.set_cons_zero, List.set_cons_succ]
  refine take_in (i := 8) (v := ?_) (d := (some 35)) rfl rfl ?_ ?_ ?_ ?_ ?_ ?_ ?_ ?_
  rotate_left
  · kernel_rfl
  · kernel_rfl
  · kernel_rfl
  · (intro _ _ _ hq; exact hq)
  · rfl
  · (intro _w hSw; (try dsimp only at hSw); go_simp; try with_reducible rfl)
  · assumption
  try simp only [Act.put, List.setIfInBounds_toArray, List.set_cons_zero, List.set_cons_succ]
  refine take_in (i := 9) (v := ?_) (d := (some 36)) rfl rfl ?_ ?_ ?_ ?_ ?_ ?_ ?_ ?_
  rotate_left
  · kernel_rfl
  · kernel_rfl
  · kernel_rfl
  · (intro _ _ _ hq; exact hq)
  · rfl
  · (intro _w hSw; (try dsimp only at hSw); go_simp; try with_reducible rfl)
  · assumption
  try simp only [Act.put, List.setIfInBounds_toArray, List.set_cons_zero, List.set_cons_succ]
  refine wpAnyH_ready (rs := [10]) ?_ ?_ ?_
  · kernel_rfl
  · simp
  refine (AllReadyH.cons rfl (fun K hK => ?_) AllReadyH.nil)
  go_simp
  refine hK.out _ _ ?_ (fun hHeld => ?_)
  · ((try dsimp only); (first | exact ⟨c1, c2, c3⟩ | exact ⟨cell_other_drew (cell_other c1 n1) n1, cell_other_drew (cell_other c2 n2) n2, cell_other_drew (cell_other c3 n3) n3⟩))
  clear hK K
  try simp only [Act.put, List.setIfInBounds_toArray, List.set_cons_zero, List.set_cons_succ]
  refine wpAnyH_done ?_ ?_ _
  · kernel_rfl
  rotate_left
  go_wp2_with fail
  go_end0
  exact HFIN.out

end Go.Proofs.Ytcojionipffanab
