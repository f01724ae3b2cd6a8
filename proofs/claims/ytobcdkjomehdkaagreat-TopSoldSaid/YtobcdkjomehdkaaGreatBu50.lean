/- Layer 2: the table of best worths, and an offer to one of its entries. -/
import Derived.Test.YtobcdkjomehdkaaGreatBu24
import Derived.Test.YtobcdkjomehdkaaGreatBu2
import Derived.Test.YtobcdkjomehdkaaGreatBu49
namespace Go.Proofs.YtobcdkjomehdkaaGreat
open Go.RowKit
set_option linter.unusedSimpArgs false
set_option maxRecDepth 100000
set_option maxHeartbeats 80000000

def Tab (w : World) (g : Nat) (wt : Nat → Nat → Int) (ft : Nat → Nat → St) : Prop :=
 ∃ cs, Blk w g 132 cs ∧ cs.size = 7203 ∧ ∀ x y, x ≤ 48 → y ≤ 48 → cs[x * 49 + y]? = some (.int .i64 (wt x y)) ∧ cs[2401 + x * 98 + y * 2]? = some (.int .i64 (ft x y).1) ∧ cs[2401 + x * 98 + y * 2 + 1]? = some (.int .i64 (ft x y).2)
theorem Tab.keep {w w' : World} {g : Nat} {wt : Nat → Nat → Int} {ft : Nat → Nat → St} (h : Tab w g wt ft) (hg : Gr w w') : Tab w' g wt ft := by
 obtain ⟨cs, hb, h1, h2⟩ := h
 exact ⟨cs, hb.keep hg, h1, h2⟩
theorem Tab.worth {w : World} {g : Nat} {wt : Nat → Nat → Int} {ft : Nat → Nat → St} (h : Tab w g wt ft) {x y : Nat} (hx : x ≤ 48) (hy : y ≤ 48) : w.cell? ⟨g, x * 49 + y, none⟩ = some (.int .i64 (wt x y)) := by
 obtain ⟨cs, hb, -, h2⟩ := h
 rw [hb.cell]; exact (h2 x y hx hy).1
theorem Tab.first {w : World} {g : Nat} {wt : Nat → Nat → Int} {ft : Nat → Nat → St} (h : Tab w g wt ft) {x y : Nat} (hx : x ≤ 48) (hy : y ≤ 48) :
 w.cell? ⟨g, 2401 + x * 98 + y * 2, none⟩ = some (.int .i64 (ft x y).1) ∧ w.cell? ⟨g, 2401 + x * 98 + y * 2 + 1, none⟩ = some (.int .i64 (ft x y).2) := by
 obtain ⟨cs, hb, -, h2⟩ := h
 rw [hb.cell, hb.cell]; exact ⟨(h2 x y hx hy).2.1, (h2 x y hx hy).2.2⟩
theorem Tab.free {w : World} {g : Nat} {wt : Nat → Nat → Int} {ft : Nat → Nat → St} (h : Tab w g wt ft) (i : Nat) : w.frozen? ⟨g, i, none⟩ = false := by
 obtain ⟨cs, hb, -, -⟩ := h
 exact hb.free i
theorem Tab.other {w : World} {g : Nat} {wt : Nat → Nat → Int} {ft : Nat → Nat → St} (h : Tab w g wt ft) {g' : Nat} {t : TypeId} {cs : Array Value} (hb : Blk w g' t cs) (hne : t ≠ 132) : g' ≠ g := by
 obtain ⟨cs', hb', -, -⟩ := h
 exact hb.differ hb' hne
def updC {α : Type} (f : Nat → Nat → α) (x y : Nat) (v : α) : Nat → Nat → α := fun a b => if a = x ∧ b = y then v else f a b
theorem updC_same {α : Type} (f : Nat → Nat → α) (x y : Nat) (v : α) : updC f x y v x y = v := by unfold updC; rw [if_pos ⟨rfl, rfl⟩]
theorem upd_other {α : Type} (f : Nat → Nat → α) {x y a b : Nat} (v : α) (h : ¬(a = x ∧ b = y)) : updC f x y v a b = f a b := by unfold updC; rw [if_neg h]
theorem Tab.put {w : World} {g : Nat} {wt : Nat → Nat → Int} {ft : Nat → Nat → St} (h : Tab w g wt ft) {x y : Nat} (hx : x ≤ 48) (hy : y ≤ 48) (v : Int) (s : St) :
 Tab (((w.setCell ⟨g, x * 49 + y, none⟩ (.int .i64 v)).setCell ⟨g, 2401 + x * 98 + y * 2, none⟩ (.int .i64 s.1)).setCell ⟨g, 2401 + x * 98 + y * 2 + 1, none⟩ (.int .i64 s.2)) g (updC wt x y v) (updC ft x y s) := by
 obtain ⟨cs, hb, hs, h2⟩ := h
 refine ⟨_, ((hb.put _ _).put _ _).put _ _, by simp [hs], fun a b ha hb => ?_⟩
 obtain ⟨k1, k2, k3⟩ := h2 a b ha hb
 by_cases e : a = x ∧ b = y
 ·obtain ⟨rfl, rfl⟩ := e
  rw [updC_same, updC_same]
  refine ⟨?_, ?_, ?_⟩
  ·rw [Array.getElem?_setIfInBounds_ne (by omega), Array.getElem?_setIfInBounds_ne (by omega), Array.getElem?_setIfInBounds_self_of_lt (by omega)]
  ·rw [Array.getElem?_setIfInBounds_ne (by omega), Array.getElem?_setIfInBounds_self_of_lt (by simp; omega)]
  ·rw [Array.getElem?_setIfInBounds_self_of_lt (by simp; omega)]
 ·rw [upd_other wt v e, upd_other ft s e]
  refine ⟨?_, ?_, ?_⟩
  ·rw [Array.getElem?_setIfInBounds_ne (by omega), Array.getElem?_setIfInBounds_ne (by omega), Array.getElem?_setIfInBounds_ne (by omega)]; exact k1
  ·rw [Array.getElem?_setIfInBounds_ne (by omega), Array.getElem?_setIfInBounds_ne (by omega), Array.getElem?_setIfInBounds_ne (by omega)]; exact k2
  ·rw [Array.getElem?_setIfInBounds_ne (by omega), Array.getElem?_setIfInBounds_ne (by omega), Array.getElem?_setIfInBounds_ne (by omega)]; exact k3

theorem Blk.gbC {w w' : World} {g g' : Nat} {t : TypeId} {cs : Array Value} (h : Blk w g' t cs) (hg : Gb g w w') (hne : g' ≠ g) : Blk w' g' t cs :=
 (hg.block g' h.lt (fun e => hne (by injection e))).trans h

def OfferPost (g : Nat) (wt : Nat → Nat → Int) (ft : Nat → Nat → St) (w : World) (e : Ending) (w' : World) : Prop :=
 e = .returned (.tuple #[]) ∧ Tab w' g wt ft ∧ Gb g w w'

theorem offer_no (g tb xb yb x y : Nat) (wt : Nat → Nat → Int) (ft : Nat → Nat → St) (kd arg worth : Int) (w : World) (hx : x ≤ 48) (hy : y ≤ 48) (hT : Tab w g wt ft)
 (h1 : Blk w tb 90 #[.pointer (some ⟨g, 0, none⟩)]) (h2 : Blk w xb 3 #[.int .i64 (x : Int)]) (h3 : Blk w yb 3 #[.int .i64 (y : Int)]) (hv : worth ≤ wt x y) :
 Calls Tryz.prog 84 #[.int .i64 kd, .int .i64 arg, .int .i64 worth, .pointer (some ⟨tb, 0, none⟩), .pointer (some ⟨xb, 0, none⟩), .pointer (some ⟨yb, 0, none⟩)] w (OfferPost g wt ft w) := by
 have c0 := hT.worth hx hy
 have c1 := cell_of_one h1
 have c2 := cell_of_one h2
 have c3 := cell_of_one h3
 have HT := Lib.hid hT
 have i1 : (0 : Int) ≤ (x : Int) := by omega
 have i2 : (x : Int) < 49 := by omega
 have i3 : (0 : Int) ≤ (y : Int) := by omega
 have i4 : (y : Int) < 49 := by omega
 generalize wt x y = v at c0 hv
 have hd : decide (v < worth) = false := decide_eq_false (by omega)
 clear hT h1 h2 h3
 go_enter Tryz.func84, Tryz.ntmps84
 go_wp2_with fail
 go_quiet (fail)
 go_wp2_with fail
 go_end0
 exact ⟨rfl, HT.out.keep ((Gr.refl _).drewN _), Gb.of ((Gr.refl _).drewN _) _⟩

theorem offer_yes (g tb xb yb x y : Nat) (wt : Nat → Nat → Int) (ft : Nat → Nat → St) (kd arg worth : Int) (w : World) (hx : x ≤ 48) (hy : y ≤ 48) (hT : Tab w g wt ft)
 (h1 : Blk w tb 90 #[.pointer (some ⟨g, 0, none⟩)]) (h2 : Blk w xb 3 #[.int .i64 (x : Int)]) (h3 : Blk w yb 3 #[.int .i64 (y : Int)]) (hv : wt x y < worth) :
 Calls Tryz.prog 84 #[.int .i64 kd, .int .i64 arg, .int .i64 worth, .pointer (some ⟨tb, 0, none⟩), .pointer (some ⟨xb, 0, none⟩), .pointer (some ⟨yb, 0, none⟩)] w (OfferPost g (updC wt x y worth) (updC ft x y (kd, arg)) w) := by
 have c0 := hT.worth hx hy
 have c1 := cell_of_one h1
 have c2 := cell_of_one h2
 have c3 := cell_of_one h3
 have HT := Lib.hid hT
 have n1 : tb ≠ g := hT.other h1 (by decide)
 have n2 : xb ≠ g := hT.other h2 (by decide)
 have n3 : yb ≠ g := hT.other h3 (by decide)
 have i1 : (0 : Int) ≤ (x : Int) := by omega
 have i2 : (x : Int) < 49 := by omega
 have i3 : (0 : Int) ≤ (y : Int) := by omega
 have i4 : (y : Int) < 49 := by omega
 generalize wt x y = v at c0 hv
 have hd : decide (v < worth) = true := decide_eq_true (by omega)
 clear hT h1 h2 h3
 go_enter Tryz.func84, Tryz.ntmps84
 go_wp2_with fail
 go_quiet (fail)
 go_wp2_with fail
 have hq := (Gr.refl w).drewN nq
 replace c1 := hq.keep c1
 replace c2 := hq.keep c2
 replace c3 := hq.keep c3
 replace HT := Lib.hid (HT.out.keep hq)
 have HQ := Lib.hid hq
 replace c0 := hq.keep c0
 have f0 := HT.out.free (x * 49 + y)
 generalize w.drewN nq = W at hq c0 c1 c2 c3 HT HQ f0 ⊢
 clear hq
 refine wp_region_held_drew (S := (fun W' => W'.cell? ⟨tb, 0, none⟩ = some (.pointer (some ⟨g, 0, none⟩)) ∧ W'.cell? ⟨xb, 0, none⟩ = some (.int .i64 (x : Int)) ∧ W'.cell? ⟨yb, 0, none⟩ = some (.int .i64 (y : Int)))) ?_ ?_ (fun hHeld => ?_)
 ·kernel_rfl
 ·((try dsimp only); (first | exact ⟨c1, c2, c3⟩ | exact ⟨cell_other_drew c1 n1, cell_other_drew c2 n2, cell_other_drew c3 n3⟩))
 refine ti 0 (some 19) rfl rfl ?_; try simp only [Act.put, lA, lB, lC]
 refine ti 1 (some 20) rfl rfl ?_; try simp only [Act.put, lA, lB, lC]
 refine ti 2 (some 21) rfl rfl ?_; try simp only [Act.put, lA, lB, lC]
 refine ti 3 (some 22) rfl rfl ?_; try simp only [Act.put, lA, lB, lC]
 refine ti 4 (some 23) rfl rfl ?_; try simp only [Act.put, lA, lB, lC]
 refine ti 5 (some 24) rfl rfl ?_; try simp only [Act.put, lA, lB, lC]
 refine ti 6 (some 25) rfl rfl ?_; try simp only [Act.put, lA, lB, lC]
 refine ti 7 (some 26) rfl rfl ?_; try simp only [Act.put, lA, lB, lC]
 refine tr [8] (.cons rfl (fun K hK => ?_) .nil)
 go_simp
 refine hK.out _ _ ?_ (fun hHeld => ?_)
 ·((try dsimp only); (first | exact ⟨c1, c2, c3⟩ | exact ⟨cell_other_drew c1 n1, cell_other_drew c2 n2, cell_other_drew c3 n3⟩))
 clear hK K; try simp only [Act.put, lA, lB, lC]
 refine wpAnyH_done ?_ ?_ _
 ·kernel_rfl
 rotate_left
 go_wp2_with fail
 obtain ⟨c1, c2, c3⟩ := hHeld
 obtain ⟨q4, q5⟩ := HT.out.first hx hy
 have hne : ∀ a b : Nat, a ≠ b → (⟨g, a, none⟩ : Addr) ≠ ⟨g, b, none⟩ := fun a b e h => e (by injection h)
 have c4 : (W.setCell ⟨g, x * 49 + y, none⟩ (.int .i64 worth)).drew.cell? ⟨g, 2401 + x * 98 + y * 2, none⟩ = some (.int .i64 (ft x y).1) := (World.cell?_setCell_other _ _ _ _ (hne _ _ (by omega))).trans q4
 have c5 : (W.setCell ⟨g, x * 49 + y, none⟩ (.int .i64 worth)).drew.cell? ⟨g, 2401 + x * 98 + y * 2 + 1, none⟩ = some (.int .i64 (ft x y).2) := (World.cell?_setCell_other _ _ _ _ (hne _ _ (by omega))).trans q5
 have f4 : (W.setCell ⟨g, x * 49 + y, none⟩ (.int .i64 worth)).drew.frozen? ⟨g, 2401 + x * 98 + y * 2, none⟩ = false := (frozen_put _ _ _ _).trans (HT.out.free _)
 have f5 : (W.setCell ⟨g, x * 49 + y, none⟩ (.int .i64 worth)).drew.frozen? ⟨g, 2401 + x * 98 + y * 2 + 1, none⟩ = false := (frozen_put _ _ _ _).trans (HT.out.free _)
 have HFIN : Hid (OfferPost g (updC wt x y worth) (updC ft x y (kd, arg)) w (.returned (.tuple #[])) ((((W.setCell ⟨g, x * 49 + y, none⟩ (.int .i64 worth)).drew.setCell ⟨g, 2401 + x * 98 + y * 2, none⟩ (.int .i64 kd)).setCell ⟨g, 2401 + x * 98 + y * 2 + 1, none⟩ (.int .i64 arg)).drew)) :=
  Lib.hid ⟨rfl, HT.out.put hx hy worth (kd, arg), ((((Gb.of HQ.out g).put _ _).drew.put _ _).put _ _).drew⟩
 generalize (ft x y).1 = u1 at c4
 generalize (ft x y).2 = u2 at c5
 clear q4 q5 hne c0 f0
 generalize (W.setCell ⟨g, x * 49 + y, none⟩ (.int .i64 worth)).drew = W1 at c1 c2 c3 c4 c5 f4 f5 HFIN ⊢
 refine wp_region_held_drew (S := (fun W' => W'.cell? ⟨tb, 0, none⟩ = some (.pointer (some ⟨g, 0, none⟩)) ∧ W'.cell? ⟨xb, 0, none⟩ = some (.int .i64 (x : Int)) ∧ W'.cell? ⟨yb, 0, none⟩ = some (.int .i64 (y : Int)))) ?_ ?_ (fun hHeld => ?_)
 ·kernel_rfl
 ·((try dsimp only); (first | exact ⟨c1, c2, c3⟩ | exact ⟨cell_other_drew (cell_other c1 n1) n1, cell_other_drew (cell_other c2 n2) n2, cell_other_drew (cell_other c3 n3) n3⟩))
 refine ti 0 (some 27) rfl rfl ?_; try simp only [Act.put, lA, lB, lC]
 refine ti 1 (some 28) rfl rfl ?_; try simp only [Act.put, lA, lB, lC]
 refine ti 2 (some 29) rfl rfl ?_; try simp only [Act.put, lA, lB, lC]
 refine ti 3 (some 30) rfl rfl ?_; try simp only [Act.put, lA, lB, lC]
 refine ti 4 (some 31) rfl rfl ?_; try simp only [Act.put, lA, lB, lC]
 refine ti 5 (some 32) rfl rfl ?_; try simp only [Act.put, lA, lB, lC]
 refine ti 6 (some 33) rfl rfl ?_; try simp only [Act.put, lA, lB, lC]
 refine ti 7 (some 34) rfl rfl ?_; try simp only [Act.put, lA, lB, lC]
 refine ti 8 (some 35) rfl rfl ?_; try simp only [Act.put, lA, lB, lC]
 refine ti 9 (some 36) rfl rfl ?_; try simp only [Act.put, lA, lB, lC]
 refine tr [10] (.cons rfl (fun K hK => ?_) .nil)
 go_simp
 refine hK.out _ _ ?_ (fun hHeld => ?_)
 ·((try dsimp only); (first | exact ⟨c1, c2, c3⟩ | exact ⟨cell_other_drew (cell_other c1 n1) n1, cell_other_drew (cell_other c2 n2) n2, cell_other_drew (cell_other c3 n3) n3⟩))
 clear hK K; try simp only [Act.put, lA, lB, lC]
 refine wpAnyH_done ?_ ?_ _
 ·kernel_rfl
 rotate_left
 go_wp2_with fail
 go_end0
 exact HFIN.out

set_option maxRecDepth 100000
set_option maxHeartbeats 80000000

theorem upd_upd {α : Type} (f : Nat → Nat → α) (x y : Nat) (u v : α) : updC (updC f x y u) x y v = updC f x y v := by
 funext a b; unfold updC; split <;> simp_all
theorem updC_id {α : Type} {f : Nat → Nat → α} {x y : Nat} {v : α} (h : f x y = v) : updC f x y v = f := by
 funext a b; unfold updC; split
 ·rename_i e; rw [e.1, e.2, h]
 ·rfl

def ESt (bs : List Bl) (g x y : Nat) (wt : Nat → Nat → Int) (ft : Nat → Nat → St) (v : Int) (w : World) : Prop :=
 ∃ s, Tab w g (updC wt x y v) (updC ft x y s) ∧ goodS bs wt x y v s
theorem ESt.keep {bs : List Bl} {g x y : Nat} {wt : Nat → Nat → Int} {ft : Nat → Nat → St} {v : Int} {w w' : World} (h : ESt bs g x y wt ft v w) (hg : Gr w w') : ESt bs g x y wt ft v w' := by
 obtain ⟨s, h1, h2⟩ := h
 exact ⟨s, h1.keep hg, h2⟩
theorem ESt.other {bs : List Bl} {g x y : Nat} {wt : Nat → Nat → Int} {ft : Nat → Nat → St} {v : Int} {w : World} (h : ESt bs g x y wt ft v w) {g' : Nat} {t : TypeId} {cs : Array Value} (hb : Blk w g' t cs) (hne : t ≠ 132) : g' ≠ g := by
 obtain ⟨s, h1, -⟩ := h
 exact h1.other hb hne
theorem ESt.at {bs : List Bl} {g x y : Nat} {wt : Nat → Nat → Int} {ft : Nat → Nat → St} {v : Int} {w : World} (h : ESt bs g x y wt ft v w) {a b : Nat} (ha : a ≤ 48) (hb : b ≤ 48) (hne : ¬(a = x ∧ b = y)) : w.cell? ⟨g, a * 49 + b, none⟩ = some (.int .i64 (wt a b)) := by
 obtain ⟨s, h1, -⟩ := h
 rw [h1.worth ha hb, upd_other _ _ hne]

def OPost (bs : List Bl) (g x y : Nat) (wt : Nat → Nat → Int) (ft : Nat → Nat → St) (v : Int) (w : World) (e : Ending) (w' : World) : Prop :=
 e = .returned (.tuple #[]) ∧ ESt bs g x y wt ft v w' ∧ Gb g w w'

theorem offer_any (bs : List Bl) (g tb xb yb x y : Nat) (wt : Nat → Nat → Int) (ft : Nat → Nat → St) (kd arg worth v : Int) (w : World) (hx : x ≤ 48) (hy : y ≤ 48) (hT : ESt bs g x y wt ft v w)
 (h1 : Blk w tb 90 #[.pointer (some ⟨g, 0, none⟩)]) (h2 : Blk w xb 3 #[.int .i64 (x : Int)]) (h3 : Blk w yb 3 #[.int .i64 (y : Int)]) (hg : v < worth → goodS bs wt x y worth (kd, arg)) (M : Int) (hM : max v worth = M) :
 Calls Tryz.prog 84 #[.int .i64 kd, .int .i64 arg, .int .i64 worth, .pointer (some ⟨tb, 0, none⟩), .pointer (some ⟨xb, 0, none⟩), .pointer (some ⟨yb, 0, none⟩)] w (OPost bs g x y wt ft M w) := by
 subst hM
 obtain ⟨s, hTab, hgs⟩ := hT
 by_cases hv : v < worth
 ·refine (offer_yes g tb xb yb x y _ _ kd arg worth w hx hy hTab h1 h2 h3 (by rw [updC_same]; exact hv)).mono ?_
  rintro e w' ⟨rfl, ht, hb⟩
  rw [upd_upd, upd_upd] at ht
  rw [show max v worth = worth by omega]
  exact ⟨rfl, ⟨_, ht, hg hv⟩, hb⟩
 ·refine (offer_no g tb xb yb x y _ _ kd arg worth w hx hy hTab h1 h2 h3 (by rw [updC_same]; omega)).mono ?_
  rintro e w' ⟨rfl, ht, hb⟩
  rw [show max v worth = v by omega]
  exact ⟨rfl, ⟨_, ht, hgs⟩, hb⟩

def Bxs (g tb x y : Nat) (w : World) : Prop := Blk w tb 90 #[.pointer (some ⟨g, 0, none⟩)] ∧ Blk w (tb + 1) 3 #[.int .i64 (x : Int)] ∧ Blk w (tb + 1 + 1) 3 #[.int .i64 (y : Int)]
theorem Bxs.keep {g tb x y : Nat} {w w' : World} (h : Bxs g tb x y w) (hg : Gr w w') : Bxs g tb x y w' := ⟨h.1.keep hg, h.2.1.keep hg, h.2.2.keep hg⟩
theorem Bxs.gb {bs : List Bl} {g tb x y : Nat} {wt : Nat → Nat → Int} {ft : Nat → Nat → St} {v : Int} {w w' : World} (h : Bxs g tb x y w) (hE : ESt bs g x y wt ft v w) (hg : Gb g w w') : Bxs g tb x y w' :=
 ⟨h.1.gbC hg (hE.other h.1 (by decide)), h.2.1.gbC hg (hE.other h.2.1 (by decide)), h.2.2.gbC hg (hE.other h.2.2 (by decide))⟩
theorem Bxs.cells {g tb x y : Nat} {w : World} (h : Bxs g tb x y w) : w.cell? ⟨tb, 0, none⟩ = some (.pointer (some ⟨g, 0, none⟩)) ∧ w.cell? ⟨tb + 1, 0, none⟩ = some (.int .i64 (x : Int)) ∧ w.cell? ⟨tb + 1 + 1, 0, none⟩ = some (.int .i64 (y : Int)) :=
 ⟨cell_of_one h.1, cell_of_one h.2.1, cell_of_one h.2.2⟩
theorem Gb.rd {α : Type} {k : Nat} {enc : α → List Value} {w w' : World} {A : Option Addr} {xs : List α} {g : Nat} (h : Rd k enc w A xs) (hg : Gb g w w') (hne : xs ≠ [] → ∀ b off, A = some ⟨b, off, none⟩ → b ≠ g) : Rd k enc w' A xs := fun i x hx => by
 obtain ⟨b, off, e, hc⟩ := h i x hx
 refine ⟨b, off, e, fun j v hv => ?_⟩
 have h1 := hc j v hv
 rw [hg.cell (World.block_lt_of_cell? w _ h1) (hne (fun e0 => by rw [e0] at hx; simp at hx) b off e)]
 exact h1

theorem decide_any (g x0 y0 : Nat) (wt : Nat → Nat → Int) (ft : Nat → Nat → St) (BA : Option Addr) (bn bc : Nat) (bs : List Bl) (w : World) (hx1 : 1 ≤ x0) (hx : x0 ≤ 48) (hy1 : 1 ≤ y0) (hy : y0 ≤ 48) (hbn : bs.length = bn) (hbl : bn ≤ 16) (hbs : ∀ b ∈ bs, blB b = true)
 (hwt : ∀ a b, a ≤ 48 → b ≤ 48 → 0 ≤ wt a b ∧ wt a b ≤ 4294967296) (hB : Tris w BA bs) (hBg : bs ≠ [] → ∀ b off, BA = some ⟨b, off, none⟩ → b ≠ g) (hE : ESt bs g x0 y0 wt ft 0 w) :
 Calls Tryz.prog 63 #[.pointer (some ⟨g, 0, none⟩), .int .i64 (x0 : Int), .int .i64 (y0 : Int), .slice BA bn bc] w (OPost bs g x0 y0 wt ft (needT bs wt x0 y0) w) := by
 have HB := Lib.hid hB
 have HE := Lib.hid hE
 have HBN := Lib.hid hbn
 have HBS := Lib.hid hbs
 have HWT := Lib.hid hwt
 have HBG := Lib.hid hBg
 have hglt : g < w.heap.size := by obtain ⟨s, ⟨cs, hb, -⟩, -⟩ := hE; exact hb.lt
 obtain ⟨S, hS⟩ : ∃ S, w.heap.size = S := ⟨_, rfl⟩
 have hBx : Bxs g S x0 y0 (((w.alloc (.cells #[.pointer (some ⟨g, 0, none⟩)] 90)).alloc (.cells #[.int .i64 (x0 : Int)] 3)).alloc (.cells #[.int .i64 (y0 : Int)] 3)) := by
  subst hS
  exact ⟨Blk.alloc (Blk.alloc (Blk.new _ _ _ rfl) _) _, Blk.alloc (Blk.new _ _ _ (by simp)) _, Blk.new _ _ _ (by simp)⟩
 subst hS
 have HBX := Lib.hid hBx
 clear hB hE hbn hbs hwt hBg hBx
 go_enter Tryz.func63, Tryz.ntmps63
 go_wp2_with fail
 generalize hW0 : World.alloc (World.alloc (World.alloc w _) _) _ = W0 at HBX
 have hg0 : Gr w W0 := by rw [← hW0]; exact (((Gr.refl w).alloc _).alloc _).alloc _
 have HE0 := Lib.hid (HE.out.keep hg0)
 have HB0 := Lib.hid (HB.out.keep hg0)
 have hgW : g < W0.heap.size := Nat.lt_of_lt_of_le hglt hg0.size
 generalize w.heap.size = S at HBX ⊢
 have HG0 := Lib.hid hg0
 clear hg0 hglt hW0
 go_loopw [16] (fun i wr => ∃ k : Nat, k ≤ bn ∧ i = .int .i64 k ∧ Hid (ESt bs g x0 y0 wt ft (blT bs x0 y0 k) wr) ∧ Hid (Gb g W0 wr)) (fun i _ => bn - (intOf i).toNat)
 case atStart => exact ⟨0, Nat.zero_le _, rfl, HE0, Lib.hid (Gb.refl _ _)⟩
 case round =>
  obtain ⟨k, hk, rfl, hES, hgb⟩ := hrel
  have hBx := HBX.out.gb HE0.out hgb.out
  by_cases hlt : k < bn
  ·have hkl : k < bs.length := by have := HBN.out; omega
   obtain ⟨b, off, hBA, q0, q1, q2⟩ := Tris_at (Gb.rd HB0.out hgb.out HBG.out) hkl
   subst hBA
   rw [bl_getD] at q0 q1 q2
   obtain ⟨-, -, v1, v2⟩ := (blB_iff _).1 (HBS.out _ (bl_mem hkl))
   have s1 := blT_bd HBS.out x0 y0 k (by omega)
   have HGD : fitsB (bl bs k) x0 y0 = true → Hid (blT bs x0 y0 k < (bl bs k).2.2 → goodS bs wt x0 y0 (bl bs k).2.2 (1, (k : Int))) := fun h => Lib.hid (fun hl => Or.inr (Or.inl ⟨k, hkl, h, rfl, rfl, hl⟩))
   have HS : Hid (blT bs x0 y0 (k + 1) = if fitsB (bl bs k) x0 y0 = true then max (blT bs x0 y0 k) (bl bs k).2.2 else blT bs x0 y0 k) := Lib.hid rfl
   rcases hf : fitsB (bl bs k) x0 y0 with _ | _
   ·have HGX := fun h => HGD (hf.trans h)
    rw [hf] at HS
    first | rw [if_pos rfl] at HS | rw [if_neg (by simp)] at HS
    have HFF := Lib.hid (fun W' => fits_any (bl bs k) x0 y0 W' _ hf)
    generalize blT bs x0 y0 k = s at s1 HS hES HGD HGX ⊢
    generalize bl bs k = q at q0 q1 q2 v1 v2 HS HFF HGD HGX
    clear hf HGD
    obtain ⟨bx, by_, v⟩ := q
    dsimp only at q0 q1 q2 v1 v2 HS HFF HGX
    have hga : Gr wr (wr.alloc (.cells #[.int .i64 bx, .int .i64 by_, .int .i64 v] 59)) := (Gr.refl wr).alloc _
    obtain ⟨c1, c2, c3⟩ := (hBx.keep hga).cells
    have HBA := Lib.hid (hBx.keep hga)
    have HEA := Lib.hid (hES.out.keep hga)
    have d2 : (wr.alloc (.cells #[.int .i64 bx, .int .i64 by_, .int .i64 v] 59)).cell? ⟨wr.heap.size, 2, none⟩ = some (.int .i64 v) := alloc_new rfl rfl
    have HGA := Lib.hid (hgb.out.trans (Gb.of hga g))
    clear hga hBx
    go_wp2_with fail
    refine (HFF.out _).mono ?_
    rintro e w1 ⟨rfl, hb⟩
    have HE1 := Lib.hid (HEA.out.keep hb)
    have HG1 := Lib.hid (HGA.out.trans (Gb.of hb g))
    clear c1 c2 c3 d2 HGX
    go_wp2_with fail
    go_roundw
    case rel => exact ⟨k + 1, by omega, by go_num, by rw [HS.out]; exact HE1, HG1⟩
    case measure => simp [intOf]; omega
   ·have HGX := fun h => HGD (hf.trans h)
    rw [hf] at HS
    first | rw [if_pos rfl] at HS | rw [if_neg (by simp)] at HS
    have HFF := Lib.hid (fun W' => fits_any (bl bs k) x0 y0 W' _ hf)
    generalize blT bs x0 y0 k = s at s1 HS hES HGD HGX ⊢
    generalize bl bs k = q at q0 q1 q2 v1 v2 HS HFF HGD HGX
    clear hf HGD
    obtain ⟨bx, by_, v⟩ := q
    dsimp only at q0 q1 q2 v1 v2 HS HFF HGX
    have hga : Gr wr (wr.alloc (.cells #[.int .i64 bx, .int .i64 by_, .int .i64 v] 59)) := (Gr.refl wr).alloc _
    obtain ⟨c1, c2, c3⟩ := (hBx.keep hga).cells
    have HBA := Lib.hid (hBx.keep hga)
    have HEA := Lib.hid (hES.out.keep hga)
    have d2 : (wr.alloc (.cells #[.int .i64 bx, .int .i64 by_, .int .i64 v] 59)).cell? ⟨wr.heap.size, 2, none⟩ = some (.int .i64 v) := alloc_new rfl rfl
    have HGA := Lib.hid (hgb.out.trans (Gb.of hga g))
    clear hga hBx
    have HGS := HGX rfl
    clear HGX
    go_wp2_with fail
    refine (HFF.out _).mono ?_
    rintro e w1 ⟨rfl, hb⟩
    have HO := Lib.hid (offer_any bs g _ _ _ x0 y0 wt ft 1 k v s w1 hx hy (HEA.out.keep hb) (HBA.out.keep hb).1 (HBA.out.keep hb).2.1 (HBA.out.keep hb).2.2 HGS.out _ HS.out.symm)
    replace d2 := hb.keep d2
    have HG1 := Lib.hid (HGA.out.trans (Gb.of hb g))
    clear c1 c2 c3 hb
    go_wp2_with fail
    refine HO.out.mono ?_
    rintro e w2 ⟨rfl, hE2, hG2⟩
    have HE2 := Lib.hid hE2
    have HG2 := Lib.hid (HG1.out.trans hG2)
    clear hE2 hG2 d2
    go_wp2_with fail
    go_roundw
    case rel => exact ⟨k + 1, by omega, by go_num, HE2, HG2⟩
    case measure => simp [intOf]; omega
  ·obtain rfl : k = bn := by omega
   have HK : Hid (blT bs x0 y0 bs.length = blT bs x0 y0 k) := Lib.hid (by rw [HBN.out])
   have s1 := blT_bd HBS.out x0 y0 k (by have := HBN.out; omega)
   generalize blT bs x0 y0 k = s at s1 HK hES ⊢
   clear hlt hBx
   go_wp2_with fail
   go_loopw [11] (fun i wr => ∃ x : Nat, 1 ≤ x ∧ 2 * (x - 1) ≤ x0 ∧ i = .int .i64 x ∧ Hid (ESt bs g x0 y0 wt ft (max s (cutT (fun x => wt x y0) x0 x)) wr) ∧ Hid (Gb g W0 wr)) (fun i _ => x0 + 2 - (intOf i).toNat)
   case atStart => exact ⟨1, Nat.le_refl _, by omega, rfl, by (rw [show max s (cutT (fun x => wt x y0) x0 1) = s by simp [cutT]; omega]; exact hES), hgb⟩
   case round =>
    clear hES hgb
    obtain ⟨x, hxx1, hxx2, rfl, hES, hgb⟩ := hrel
    have hBx := HBX.out.gb HE0.out hgb.out
    obtain ⟨c1, c2, c3⟩ := hBx.cells
    have i1 : IntKind.i64.wrap ((x0 : Int) - (x : Int)) = (x0 : Int) - (x : Int) := IntWalk.i64_in _ (by omega)
    by_cases hlt : x ≤ x0 - x
    ·have hd : decide ((x : Int) ≤ (x0 : Int) - (x : Int)) = true := decide_eq_true (by omega)
     have v1 := hES.out.at (a := x) (b := y0) (by omega) hy (by omega)
     have v2 := hES.out.at (a := x0 - x) (b := y0) (by omega) hy (by omega)
     have n1 := HWT.out x y0 (by omega) hy
     have n2 := HWT.out (x0 - x) y0 (by omega) hy
     have HGS : Hid (max s (cutT (fun x => wt x y0) x0 x) < wt x y0 + wt (x0 - x) y0 → goodS bs wt x0 y0 (wt x y0 + wt (x0 - x) y0) (2, (x : Int))) := Lib.hid (fun hl => Or.inr (Or.inr (Or.inl ⟨x, hxx1, by omega, rfl, rfl, by rw [HK.out]; exact hl⟩)))
     have HC := Lib.hid (cutT_step (fun x => wt x y0) x0 x hxx1)
     generalize hp1 : wt x y0 = p1 at v1 n1 HC HGS
     generalize hp2 : wt (x0 - x) y0 = p2 at v2 n2 HC HGS
     have HP1 := Lib.hid hp1
     have HP2 := Lib.hid hp2
     clear hp1 hp2
     generalize cutT (fun x => wt x y0) x0 x = t at HC hES HGS
     have i2 : IntKind.i64.wrap (p1 + p2) = p1 + p2 := IntWalk.i64_in _ (by omega)
     have i3 : ((x0 : Int) - (x : Int)).toNat = x0 - x := by omega
     have i4 : (0 : Int) ≤ (x0 : Int) - (x : Int) := by omega
     have i5 : (x0 : Int) - (x : Int) < 49 := by omega
     have i6 : (x : Int) < 49 := by omega
     have i7 : (0 : Int) ≤ (x : Int) := by omega
     have i8 : (y0 : Int) < 49 := by omega
     have j8 : (x0 : Int) < 49 := by omega
     have i9 : x ≤ x0 := by omega
     have HO := Lib.hid (fun W' (h : Gr wr W') => offer_any bs g _ _ _ x0 y0 wt ft 2 x (p1 + p2) (max s t) W' hx hy (hES.out.keep h) (hBx.keep h).1 (hBx.keep h).2.1 (hBx.keep h).2.2 HGS.out _ rfl)
     have KS : Hid (∀ W', Gb g wr W' → ESt bs g x0 y0 wt ft (max (max s t) (p1 + p2)) W' → W'.cell? ⟨S, 0, none⟩ = some (.pointer (some ⟨g, 0, none⟩)) ∧ W'.cell? ⟨S + 1, 0, none⟩ = some (.int .i64 (x0 : Int)) ∧ W'.cell? ⟨S + 1 + 1, 0, none⟩ = some (.int .i64 (y0 : Int)) ∧ W'.cell? ⟨g, x * 49 + y0, none⟩ = some (.int .i64 p1) ∧ W'.cell? ⟨g, (x0 - x) * 49 + y0, none⟩ = some (.int .i64 p2)) := Lib.hid (fun W' h1 h2 => by
      obtain ⟨k1, k2, k3⟩ := (hBx.gb hES.out h1).cells
      have k4 := h2.at (a := x) (b := y0) (by omega) (by omega) (by omega)
      have k5 := h2.at (a := x0 - x) (b := y0) (by omega) (by omega) (by omega)
      rw [HP1.out] at k4
      rw [HP2.out] at k5
      exact ⟨k1, k2, k3, k4, k5⟩)
     have hdr := (Gr.refl wr).drew
     clear hBx
     go_wp2_with fail
     refine wp_region_held_drew (S := (fun W' => W'.cell? ⟨S, 0, none⟩ = some (.pointer (some ⟨g, 0, none⟩)) ∧ W'.cell? ⟨S + 1, 0, none⟩ = some (.int .i64 (x0 : Int)) ∧ W'.cell? ⟨S + 1 + 1, 0, none⟩ = some (.int .i64 (y0 : Int)) ∧ W'.cell? ⟨g, x * 49 + y0, none⟩ = some (.int .i64 p1) ∧ W'.cell? ⟨g, (x0 - x) * 49 + y0, none⟩ = some (.int .i64 p2))) ?_ ?_ (fun hHeld => ?_)
     ·kernel_rfl
     ·((try dsimp only); (first | exact ⟨hdr.keep c1, hdr.keep c2, hdr.keep c3, hdr.keep v1, hdr.keep v2⟩ | exact KS.out _ HG2.out HE2.out))
     refine ti 0 (some 38) rfl rfl ?_; try simp only [Act.put, lA, lB, lC]
     refine ti 1 (some 39) rfl rfl ?_; try simp only [Act.put, lA, lB, lC]
     refine ti 2 (some 40) rfl rfl ?_; try simp only [Act.put, lA, lB, lC]
     refine ti 3 (some 41) rfl rfl ?_; try simp only [Act.put, lA, lB, lC]
     refine ti 4 (some 42) rfl rfl ?_; try simp only [Act.put, lA, lB, lC]
     refine ti 5 (some 43) rfl rfl ?_; try simp only [Act.put, lA, lB, lC]
     refine ti 6 (some 44) rfl rfl ?_; try simp only [Act.put, lA, lB, lC]
     refine ti 7 (some 45) rfl rfl ?_; try simp only [Act.put, lA, lB, lC]
     refine ti 8 (some 46) rfl rfl ?_; try simp only [Act.put, lA, lB, lC]
     refine ti 9 (some 47) rfl rfl ?_; try simp only [Act.put, lA, lB, lC]
     refine ti 10 (some 48) rfl rfl ?_; try simp only [Act.put, lA, lB, lC]
     refine ti 11 (some 49) rfl rfl ?_; try simp only [Act.put, lA, lB, lC]
     refine ti 12 (some 50) rfl rfl ?_; try simp only [Act.put, lA, lB, lC]
     refine ti 13 (some 51) rfl rfl ?_; try simp only [Act.put, lA, lB, lC]
     refine ti 14 (some 52) rfl rfl ?_; try simp only [Act.put, lA, lB, lC]
     refine ti 15 (some 53) rfl rfl ?_; try simp only [Act.put, lA, lB, lC]
     refine ti 16 (some 54) rfl rfl ?_; try simp only [Act.put, lA, lB, lC]
     refine ti 17 (some 55) rfl rfl ?_; try simp only [Act.put, lA, lB, lC]
     refine ti 18 (some 56) rfl rfl ?_; try simp only [Act.put, lA, lB, lC]
     refine ti 19 (some 57) rfl rfl ?_; try simp only [Act.put, lA, lB, lC]
     refine ti 20 (some 58) rfl rfl ?_; try simp only [Act.put, lA, lB, lC]
     refine tr [21] (.cons rfl (fun K hK => ?_) .nil)
     go_simp
     first | (go_at_call 84; refine (HO.out _ hdr).mono ?_; rintro e w2 ⟨rfl, hE2, hG2⟩; have HE2 := Lib.hid hE2; have HG2 := Lib.hid ((Gb.of hdr g).trans hG2); clear hE2 hG2)
     refine hK.out _ _ ?_ (fun hHeld => ?_)
     ·((try dsimp only); (first | exact ⟨hdr.keep c1, hdr.keep c2, hdr.keep c3, hdr.keep v1, hdr.keep v2⟩ | exact KS.out _ HG2.out HE2.out))
     clear hK K; try simp only [Act.put, lA, lB, lC]
     refine wpAnyH_done ?_ ?_ _
     ·kernel_rfl
     rotate_left
     go_wp2_with fail
     go_roundw
     case rel => exact ⟨x + 1, by omega, by omega, by go_num, by (rw [HC.out, ← Int.max_assoc]; exact HE2), Lib.hid (hgb.out.trans HG2.out)⟩
     case measure => simp [intOf]; omega
    ·have hd : decide ((x : Int) ≤ (x0 : Int) - (x : Int)) = false := decide_eq_false (by omega)
     have HEQ : Hid (cutT (fun x => wt x y0) x0 x = cutT (fun x => wt x y0) x0 x0) := Lib.hid (cutT_end hxx1 hxx2 (by omega))
     rw [HEQ.out] at hES
     generalize hgt : cutT (fun x => wt x y0) x0 x0 = t at hES
     have HGT := Lib.hid hgt
     clear hgt hBx
     go_wp2_with fail
     go_loopw [12] (fun i wr => ∃ y : Nat, 1 ≤ y ∧ 2 * (y - 1) ≤ y0 ∧ i = .int .i64 y ∧ Hid (ESt bs g x0 y0 wt ft (max (max s t) (cutT (fun y => wt x0 y) y0 y)) wr) ∧ Hid (Gb g W0 wr)) (fun i _ => y0 + 2 - (intOf i).toNat)
     case atStart => exact ⟨1, Nat.le_refl _, by omega, rfl, by (rw [show max (max s t) (cutT (fun y => wt x0 y) y0 1) = max s t by simp [cutT]; omega]; exact hES), hgb⟩
     case round =>
      clear hES hgb c1 c2 c3 i1 hlt hd
      obtain ⟨y, hyy1, hyy2, rfl, hES, hgb⟩ := hrel
      have hBx := HBX.out.gb HE0.out hgb.out
      obtain ⟨c1, c2, c3⟩ := hBx.cells
      have i1 : IntKind.i64.wrap ((y0 : Int) - (y : Int)) = (y0 : Int) - (y : Int) := IntWalk.i64_in _ (by omega)
      by_cases hlt : y ≤ y0 - y
      ·have hd : decide ((y : Int) ≤ (y0 : Int) - (y : Int)) = true := decide_eq_true (by omega)
       have v1 := hES.out.at (a := x0) (b := y) hx (by omega) (by omega)
       have v2 := hES.out.at (a := x0) (b := y0 - y) hx (by omega) (by omega)
       have n1 := HWT.out x0 y hx (by omega)
       have n2 := HWT.out x0 (y0 - y) hx (by omega)
       have HGS : Hid (max (max s t) (cutT (fun y => wt x0 y) y0 y) < wt x0 y + wt x0 (y0 - y) → goodS bs wt x0 y0 (wt x0 y + wt x0 (y0 - y)) (3, (y : Int))) := Lib.hid (fun hl => Or.inr (Or.inr (Or.inr ⟨y, hyy1, by omega, rfl, rfl, by rw [HK.out, HGT.out]; exact hl⟩)))
       have HC := Lib.hid (cutT_step (fun y => wt x0 y) y0 y hyy1)
       generalize hp1 : wt x0 y = p1 at v1 n1 HC HGS
       generalize hp2 : wt x0 (y0 - y) = p2 at v2 n2 HC HGS
       have HP1 := Lib.hid hp1
       have HP2 := Lib.hid hp2
       clear hp1 hp2
       generalize cutT (fun y => wt x0 y) y0 y = u at HC hES HGS
       have i2 : IntKind.i64.wrap (p1 + p2) = p1 + p2 := IntWalk.i64_in _ (by omega)
       have i3 : ((y0 : Int) - (y : Int)).toNat = y0 - y := by omega
       have i4 : (0 : Int) ≤ (y0 : Int) - (y : Int) := by omega
       have i5 : (y0 : Int) - (y : Int) < 49 := by omega
       have i6 : (y : Int) < 49 := by omega
       have i7 : (0 : Int) ≤ (y : Int) := by omega
       have i8 : (y0 : Int) < 49 := by omega
       have j8 : (x0 : Int) < 49 := by omega
       have i9 : y ≤ y0 := by omega
       have HO := Lib.hid (fun W' (h : Gr wr W') => offer_any bs g _ _ _ x0 y0 wt ft 3 y (p1 + p2) (max (max s t) u) W' hx hy (hES.out.keep h) (hBx.keep h).1 (hBx.keep h).2.1 (hBx.keep h).2.2 HGS.out _ rfl)
       have KS : Hid (∀ W', Gb g wr W' → ESt bs g x0 y0 wt ft (max (max (max s t) u) (p1 + p2)) W' → W'.cell? ⟨S, 0, none⟩ = some (.pointer (some ⟨g, 0, none⟩)) ∧ W'.cell? ⟨S + 1, 0, none⟩ = some (.int .i64 (x0 : Int)) ∧ W'.cell? ⟨S + 1 + 1, 0, none⟩ = some (.int .i64 (y0 : Int)) ∧ W'.cell? ⟨g, x0 * 49 + y, none⟩ = some (.int .i64 p1) ∧ W'.cell? ⟨g, x0 * 49 + (y0 - y), none⟩ = some (.int .i64 p2)) := Lib.hid (fun W' h1 h2 => by
        obtain ⟨k1, k2, k3⟩ := (hBx.gb hES.out h1).cells
        have k4 := h2.at (a := x0) (b := y) (by omega) (by omega) (by omega)
        have k5 := h2.at (a := x0) (b := y0 - y) (by omega) (by omega) (by omega)
        rw [HP1.out] at k4
        rw [HP2.out] at k5
        exact ⟨k1, k2, k3, k4, k5⟩)
       have hdr := (Gr.refl wr).drew
       clear hBx
       go_wp2_with fail
       refine wp_region_held_drew (S := (fun W' => W'.cell? ⟨S, 0, none⟩ = some (.pointer (some ⟨g, 0, none⟩)) ∧ W'.cell? ⟨S + 1, 0, none⟩ = some (.int .i64 (x0 : Int)) ∧ W'.cell? ⟨S + 1 + 1, 0, none⟩ = some (.int .i64 (y0 : Int)) ∧ W'.cell? ⟨g, x0 * 49 + y, none⟩ = some (.int .i64 p1) ∧ W'.cell? ⟨g, x0 * 49 + (y0 - y), none⟩ = some (.int .i64 p2))) ?_ ?_ (fun hHeld => ?_)
       ·kernel_rfl
       ·((try dsimp only); (first | exact ⟨hdr.keep c1, hdr.keep c2, hdr.keep c3, hdr.keep v1, hdr.keep v2⟩ | exact KS.out _ HG2.out HE2.out))
       refine ti 0 (some 67) rfl rfl ?_; try simp only [Act.put, lA, lB, lC]
       refine ti 1 (some 68) rfl rfl ?_; try simp only [Act.put, lA, lB, lC]
       refine ti 2 (some 69) rfl rfl ?_; try simp only [Act.put, lA, lB, lC]
       refine ti 3 (some 70) rfl rfl ?_; try simp only [Act.put, lA, lB, lC]
       refine ti 4 (some 71) rfl rfl ?_; try simp only [Act.put, lA, lB, lC]
       refine ti 5 (some 72) rfl rfl ?_; try simp only [Act.put, lA, lB, lC]
       refine ti 6 (some 73) rfl rfl ?_; try simp only [Act.put, lA, lB, lC]
       refine ti 7 (some 74) rfl rfl ?_; try simp only [Act.put, lA, lB, lC]
       refine ti 8 (some 75) rfl rfl ?_; try simp only [Act.put, lA, lB, lC]
       refine ti 9 (some 76) rfl rfl ?_; try simp only [Act.put, lA, lB, lC]
       refine ti 10 (some 77) rfl rfl ?_; try simp only [Act.put, lA, lB, lC]
       refine ti 11 (some 78) rfl rfl ?_; try simp only [Act.put, lA, lB, lC]
       refine ti 12 (some 79) rfl rfl ?_; try simp only [Act.put, lA, lB, lC]
       refine ti 13 (some 80) rfl rfl ?_; try simp only [Act.put, lA, lB, lC]
       refine ti 14 (some 81) rfl rfl ?_; try simp only [Act.put, lA, lB, lC]
       refine ti 15 (some 82) rfl rfl ?_; try simp only [Act.put, lA, lB, lC]
       refine ti 16 (some 83) rfl rfl ?_; try simp only [Act.put, lA, lB, lC]
       refine ti 17 (some 84) rfl rfl ?_; try simp only [Act.put, lA, lB, lC]
       refine ti 18 (some 85) rfl rfl ?_; try simp only [Act.put, lA, lB, lC]
       refine ti 19 (some 86) rfl rfl ?_; try simp only [Act.put, lA, lB, lC]
       refine ti 20 (some 87) rfl rfl ?_; try simp only [Act.put, lA, lB, lC]
       refine tr [21] (.cons rfl (fun K hK => ?_) .nil)
       go_simp
       first | (go_at_call 84; refine (HO.out _ hdr).mono ?_; rintro e w2 ⟨rfl, hE2, hG2⟩; have HE2 := Lib.hid hE2; have HG2 := Lib.hid ((Gb.of hdr g).trans hG2); clear hE2 hG2)
       refine hK.out _ _ ?_ (fun hHeld => ?_)
       ·((try dsimp only); (first | exact ⟨hdr.keep c1, hdr.keep c2, hdr.keep c3, hdr.keep v1, hdr.keep v2⟩ | exact KS.out _ HG2.out HE2.out))
       clear hK K; try simp only [Act.put, lA, lB, lC]
       refine wpAnyH_done ?_ ?_ _
       ·kernel_rfl
       rotate_left
       go_wp2_with fail
       go_roundw
       case rel => exact ⟨y + 1, by omega, by omega, by go_num, by (rw [HC.out, ← Int.max_assoc]; exact HE2), Lib.hid (hgb.out.trans HG2.out)⟩
       case measure => simp [intOf]; omega
      ·have hd : decide ((y : Int) ≤ (y0 : Int) - (y : Int)) = false := decide_eq_false (by omega)
       have HEQ2 : Hid (cutT (fun y => wt x0 y) y0 y = cutT (fun y => wt x0 y) y0 y0) := Lib.hid (cutT_end hyy1 hyy2 (by omega))
       rw [HEQ2.out] at hES
       go_wp2_with fail
       go_end0
       have h := hES.out
       rw [← HGT.out, ← HK.out] at h
       exact ⟨rfl, h, (Gb.of HG0.out g).trans hgb.out⟩

set_option maxRecDepth 100000
set_option maxHeartbeats 80000000

set_option maxRecDepth 1000000 in
theorem zero_cells : Tryz.zeroCells132 = Array.replicate 7203 (.int .i64 0) := by kernel_rfl

def dn (H x y a b : Nat) : Bool := decide (1 ≤ a ∧ 1 ≤ b ∧ b ≤ H ∧ (a < x ∨ (a = x ∧ b < y)))
def wtD (bs : List Bl) (H x y : Nat) (a b : Nat) : Int := if dn H x y a b = true then mst bs a b else 0
def Fld (bs : List Bl) (H g x y : Nat) (w : World) : Prop :=
 ∃ ft, Tab w g (wtD bs H x y) ft ∧ ∀ a b, (dn H x y a b = true → goodS bs (mst bs) a b (mst bs a b) (ft a b)) ∧ (dn H x y a b = false → ft a b = (0, 0))
theorem dn_iff (H x y a b : Nat) : dn H x y a b = true ↔ 1 ≤ a ∧ 1 ≤ b ∧ b ≤ H ∧ (a < x ∨ (a = x ∧ b < y)) := by simp [dn]
theorem dn_next (H x a b : Nat) : dn H x (H + 1) a b = dn H (x + 1) 1 a b := by
 rw [Bool.eq_iff_iff, dn_iff, dn_iff]; omega
theorem Fld.next {bs : List Bl} {H g x : Nat} {w : World} (h : Fld bs H g x (H + 1) w) : Fld bs H g (x + 1) 1 w := by
 obtain ⟨ft, h1, h2⟩ := h
 refine ⟨ft, ?_, fun a b => by rw [← dn_next]; exact h2 a b⟩
 have : wtD bs H x (H + 1) = wtD bs H (x + 1) 1 := by funext a b; unfold wtD; rw [dn_next]
 rw [← this]; exact h1
theorem goodS_congr {bs : List Bl} {T T' : Nat → Nat → Int} {x y : Nat} {v : Int} {s : St} (h1 : ∀ a, 1 ≤ a → a < x → T a y = T' a y) (h2 : ∀ b, 1 ≤ b → b < y → T x b = T' x b) (h : goodS bs T x y v s) : goodS bs T' x y v s := by
 have c1 : ∀ k, k ≤ x → cutT (fun a => T a y) x k = cutT (fun a => T' a y) x k := cutT_congr (fun a p q => h1 a p q)
 have c2 : ∀ k, k ≤ y → cutT (fun b => T x b) y k = cutT (fun b => T' x b) y k := cutT_congr (fun b p q => h2 b p q)
 rcases h with h | h | ⟨a, a1, a2, hs, hv, hm⟩ | ⟨b, b1, b2, hs, hv, hm⟩
 ·exact Or.inl h
 ·exact Or.inr (Or.inl h)
 ·exact Or.inr (Or.inr (Or.inl ⟨a, a1, a2, hs, by rw [hv, h1 a a1 a2, h1 (x - a) (by omega) (by omega)], by rw [← c1 a (by omega)]; exact hm⟩))
 ·exact Or.inr (Or.inr (Or.inr ⟨b, b1, b2, hs, by rw [hv, h2 b b1 b2, h2 (y - b) (by omega) (by omega)], by rw [← c1 x (Nat.le_refl _), ← c2 b (by omega)]; exact hm⟩))
theorem wtD_in {bs : List Bl} {H x y a b : Nat} (h : 1 ≤ a ∧ 1 ≤ b ∧ b ≤ H ∧ (a < x ∨ (a = x ∧ b < y))) : wtD bs H x y a b = mst bs a b := by
 unfold wtD; rw [if_pos ((dn_iff _ _ _ _ _).2 h)]
theorem wtD_out {bs : List Bl} {H x y a b : Nat} (h : ¬(1 ≤ a ∧ 1 ≤ b ∧ b ≤ H ∧ (a < x ∨ (a = x ∧ b < y)))) : wtD bs H x y a b = 0 := by
 unfold wtD; rw [if_neg (fun e => h ((dn_iff _ _ _ _ _).1 e))]
theorem need_D {bs : List Bl} {H x y : Nat} (hx : 1 ≤ x) (hy : 1 ≤ y) (hyH : y ≤ H) : needT bs (wtD bs H x y) x y = mst bs x y := by
 rw [mst_eq bs hx hy]
 unfold needT
 rw [cutT_congr (f := fun a => wtD bs H x y a y) (g := fun a => mst bs a y) (fun a h1 h2 => wtD_in (by omega)) x (Nat.le_refl _),
  cutT_congr (f := fun b => wtD bs H x y x b) (g := fun b => mst bs x b) (fun b h1 h2 => wtD_in (by omega)) y (Nat.le_refl _)]
theorem Fld.step {bs : List Bl} {H g x y : Nat} {w : World} (hx : 1 ≤ x) (hy : 1 ≤ y) (hyH : y ≤ H) {ft : Nat → Nat → St} (hft : ∀ a b, (dn H x y a b = true → goodS bs (mst bs) a b (mst bs a b) (ft a b)) ∧ (dn H x y a b = false → ft a b = (0, 0)))
 (h : ESt bs g x y (wtD bs H x y) ft (needT bs (wtD bs H x y) x y) w) : Fld bs H g x (y + 1) w := by
 rw [need_D hx hy hyH] at h
 obtain ⟨s, h1, h2⟩ := h
 have e : updC (wtD bs H x y) x y (mst bs x y) = wtD bs H x (y + 1) := by
  funext a b
  by_cases hab : a = x ∧ b = y
  ·obtain ⟨rfl, rfl⟩ := hab
   rw [updC_same, wtD_in (by omega)]
  ·rw [upd_other _ _ hab]
   by_cases hd : 1 ≤ a ∧ 1 ≤ b ∧ b ≤ H ∧ (a < x ∨ (a = x ∧ b < y))
   ·rw [wtD_in hd, wtD_in (by omega)]
   ·rw [wtD_out hd, wtD_out (by omega)]
 rw [e] at h1
 refine ⟨_, h1, fun a b => ?_⟩
 by_cases hab : a = x ∧ b = y
 ·obtain ⟨rfl, rfl⟩ := hab
  rw [updC_same]
  refine ⟨fun _ => goodS_congr (fun c c1 c2 => wtD_in (by omega)) (fun c c1 c2 => wtD_in (by omega)) h2, fun hd => ?_⟩
  have : dn H a (b + 1) a b = true := (dn_iff _ _ _ _ _).2 (by omega)
  rw [this] at hd; cases hd
 ·rw [upd_other _ _ hab]
  have e2 : dn H x (y + 1) a b = dn H x y a b := by rw [Bool.eq_iff_iff, dn_iff, dn_iff]; omega
  rw [e2]; exact hft a b

def TFull (bs : List Bl) (W H g : Nat) (w : World) : Prop :=
 ∃ wt ft, Tab w g wt ft ∧ ∀ a b, a ≤ W → b ≤ H → wt a b = mst bs a b ∧ (1 ≤ a → 1 ≤ b → goodS bs (mst bs) a b (mst bs a b) (ft a b))
theorem TFull.keep {bs : List Bl} {W H g : Nat} {w w' : World} (h : TFull bs W H g w) (hg : Gr w w') : TFull bs W H g w' := by
 obtain ⟨wt, ft, h1, h2⟩ := h
 exact ⟨wt, ft, h1.keep hg, h2⟩
theorem Fld.full {bs : List Bl} {W H g : Nat} {w : World} (h : Fld bs H g (W + 1) 1 w) : TFull bs W H g w := by
 obtain ⟨ft, h1, h2⟩ := h
 refine ⟨_, ft, h1, fun a b ha hb => ⟨?_, fun h3 h4 => (h2 a b).1 ((dn_iff _ _ _ _ _).2 (by omega))⟩⟩
 by_cases e : 1 ≤ a ∧ 1 ≤ b
 ·exact wtD_in (by omega)
 ·rw [wtD_out (by omega), mst_zero bs (by omega)]

def FillPost (bs : List Bl) (W H : Nat) (w : World) (e : Ending) (w' : World) : Prop :=
 ∃ g, e = .returned (.pointer (some ⟨g, 0, none⟩)) ∧ w.heap.size ≤ g ∧ TFull bs W H g w' ∧ Gr w w'

theorem fill_any (W H : Nat) (BA : Option Addr) (bn bc : Nat) (bs : List Bl) (w : World) (hW : W ≤ 48) (hH : H ≤ 48) (hbn : bs.length = bn) (hbl : bn ≤ 16) (hbs : ∀ b ∈ bs, blB b = true) (hB : Tris w BA bs) :
 Calls Tryz.prog 36 #[.int .i64 (W : Int), .int .i64 (H : Int), .slice BA bn bc] w (FillPost bs W H w) := by
 have hBg : bs ≠ [] → ∀ b off, BA = some ⟨b, off, none⟩ → b < w.heap.size := fun hne b off e => by
  obtain ⟨x, r, rfl⟩ : ∃ x r, bs = x :: r := by cases bs with | nil => exact absurd rfl hne | cons x r => exact ⟨x, r, rfl⟩
  obtain ⟨b', off', e', h0, -⟩ := Tris_at hB (i := 0) (by simp)
  rw [e] at e'
  obtain ⟨rfl, rfl⟩ : b = b' ∧ off = off' := by simpa using e'
  exact World.block_lt_of_cell? w _ h0
 obtain ⟨S, hS⟩ : ∃ S, w.heap.size = S := ⟨_, rfl⟩
 have hblk : Blk (w.alloc (.cells Tryz.zeroCells132 132)) S 132 (Array.replicate 7203 (.int .i64 0)) := by rw [← zero_cells]; exact Blk.new _ _ _ hS
 have hg0 : Gr w (w.alloc (.cells Tryz.zeroCells132 132)) := (Gr.refl w).alloc _
 have hfld : Fld bs H S 1 1 (w.alloc (.cells Tryz.zeroCells132 132)) := by
  have hd : ∀ a b, dn H 1 1 a b = false := fun a b => by
   cases h : dn H 1 1 a b
   ·rfl
   ·rw [dn_iff] at h; omega
  have hz : ∀ i, i < 7203 → (Array.replicate 7203 (Value.int .i64 0))[i]? = some (.int .i64 0) := fun i hi => by rw [Array.getElem?_replicate, if_pos hi]
  refine ⟨fun _ _ => (0, 0), ⟨_, hblk, by simp, fun x y hx hy => ?_⟩, fun a b => ⟨fun h => absurd ((hd a b).symm.trans h) (by decide), fun _ => rfl⟩⟩
  have e : wtD bs H 1 1 x y = 0 := wtD_out (by omega)
  rw [e]
  exact ⟨hz _ (by omega), hz _ (by omega), hz _ (by omega)⟩
 have HFL := Lib.hid hfld
 have HDC := Lib.hid (fun g x0 y0 wt ft w' hx1 hx hy1 hy hwt hBg' (hg : Tris w' BA bs) hE => decide_any g x0 y0 wt ft BA bn bc bs w' hx1 hx hy1 hy hbn hbl hbs hwt hg hBg' hE)
 have HBG := Lib.hid hBg
 have HB := Lib.hid hB
 have HBS := Lib.hid hbs
 clear hB hbn hbs hBg hfld hblk
 subst hS
 go_enter Tryz.func36, Tryz.ntmps36
 go_wp2_with fail
 generalize hW0 : World.alloc w _ = W0 at HFL hg0
 have HG0 := Lib.hid hg0
 have hlt0 : w.heap.size < W0.heap.size := by rw [← hW0]; simp
 clear hg0 hW0
 go_loopw [8] (fun i wr => ∃ x : Nat, 1 ≤ x ∧ x ≤ W + 1 ∧ i = .int .i64 x ∧ Hid (Fld bs H w.heap.size x 1 wr) ∧ Hid (Gb w.heap.size W0 wr)) (fun i _ => W + 2 - (intOf i).toNat)
 case atStart => exact ⟨1, Nat.le_refl _, by omega, rfl, HFL, Lib.hid (Gb.refl _ _)⟩
 case round =>
  obtain ⟨x, hx1, hx2, rfl, hfl, hgb⟩ := hrel
  by_cases hlt : x ≤ W
  ·go_wp2_with fail
   go_loopw [9] (fun i wr => ∃ y : Nat, 1 ≤ y ∧ y ≤ H + 1 ∧ i = .int .i64 y ∧ Hid (Fld bs H w.heap.size x y wr) ∧ Hid (Gb w.heap.size W0 wr)) (fun i _ => H + 2 - (intOf i).toNat)
   case atStart => exact ⟨1, Nat.le_refl _, by omega, rfl, hfl, hgb⟩
   case round =>
    clear hfl hgb
    obtain ⟨y, hy1, hy2, rfl, hfl, hgb⟩ := hrel
    by_cases hlt2 : y ≤ H
    ·have HX : Hid (Calls Tryz.prog 63 #[.pointer (some ⟨w.heap.size, 0, none⟩), .int .i64 (x : Int), .int .i64 (y : Int), .slice BA bn bc] wr (fun e w' => e = .returned (.tuple #[]) ∧ Hid (Fld bs H w.heap.size x (y + 1) w') ∧ Hid (Gb w.heap.size W0 w'))) := by
      obtain ⟨ft, h1, h2⟩ := hfl.out
      have hd : dn H x y x y = false := by
       cases h : dn H x y x y
       ·rfl
       ·rw [dn_iff] at h; omega
      refine Lib.hid ((HDC.out w.heap.size x y (wtD bs H x y) ft wr hx1 (by omega) hy1 (by omega) (fun a b ha hb => ?_) (fun hne b off e => by have := HBG.out hne b off e; omega) (Gb.rd (HB.out.keep HG0.out) hgb.out (fun hne b off e => by have := HBG.out hne b off e; omega)) ⟨(0, 0), ?_, Or.inl ⟨rfl, rfl⟩⟩).mono ?_)
      ·unfold wtD
       split
       ·have := mst_bd HBS.out ha hb; omega
       ·omega
      ·rw [updC_id (wtD_out (by omega)), updC_id ((h2 x y).2 hd)]; exact h1
      ·rintro e w' ⟨rfl, hE, hG⟩
       exact ⟨rfl, Lib.hid (Fld.step hx1 hy1 hlt2 h2 hE), Lib.hid (hgb.out.trans hG)⟩
     go_wp2_with fail
     refine HX.out.mono ?_
     rintro e w2 ⟨rfl, hf2, hg2⟩
     clear HX
     go_wp2_with fail
     go_roundw
     case rel => exact ⟨y + 1, by omega, by omega, by go_num, hf2, hg2⟩
     case measure => simp [intOf]; omega
    ·obtain rfl : y = H + 1 := by omega
     have HN := Lib.hid hfl.out.next
     go_wp2_with fail
     go_roundw
     case rel => exact ⟨x + 1, by omega, by omega, by go_num, HN, hgb⟩
     case measure => simp [intOf]; omega
  ·obtain rfl : x = W + 1 := by omega
   have HF := Lib.hid hfl.out.full
   go_wp2_with fail
   go_ret
   exact ⟨_, rfl, Nat.le_refl _, HF.out, Gb.gr HG0.out hgb.out (Nat.le_refl _)⟩

end Go.Proofs.YtobcdkjomehdkaaGreat
