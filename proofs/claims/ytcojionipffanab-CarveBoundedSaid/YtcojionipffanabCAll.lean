/- Layer 2: tame tasks as the laws use them; a task in the making. -/
import Derived.Test.YtcojionipffanabCTask
namespace Go.Proofs.Ytcojionipffanab
open Go.RowKit
set_option linter.unusedSimpArgs false

theorem vint {a b : Int} (h : a = b) : Value.int .i64 a = .int .i64 b := by rw [h]
/-- What the laws know of a tame task. -/
theorem tame_task (M : Nat) (h1 : 1 ≤ M) (h2 : M ≤ 48) (W0 H0 : Int) (bs : List Bl) :
    ∃ W H : Nat, sideT M W0 = (W : Int) ∧ sideT M H0 = (H : Int) ∧ (1 ≤ W ∧ W ≤ M) ∧ (1 ≤ H ∧ H ≤ M) ∧ (tameL bs).length ≤ 16 ∧ (∀ b ∈ tameL bs, blB b = true) := by
  obtain ⟨a1, a2⟩ := sideT_in (M := M) (x := W0) (by omega) (by omega)
  obtain ⟨b1, b2⟩ := sideT_in (M := M) (x := H0) (by omega) (by omega)
  refine ⟨(sideT M W0).toNat, (sideT M H0).toNat, by omega, by omega, by omega, by omega, ?_, fun b hb => ?_⟩
  · unfold tameL; rw [List.length_map]; exact List.length_take_le ..
  · unfold tameL at hb
    obtain ⟨c, -, rfl⟩ := List.mem_map.1 hb
    exact fixB_ok c
theorem task_ok {W H : Nat} {bs : List Bl} (h1 : 1 ≤ W ∧ W ≤ 48) (h2 : 1 ≤ H ∧ H ≤ 48) (h3 : bs.length ≤ 16) (h4 : ∀ b ∈ bs, blB b = true) : taskB W H bs = true :=
  (taskB_iff _ _ _).2 ⟨by omega, by omega, h3, h4⟩

/-- A task in the making at S: its sides, its blanks so far. -/
structure Ot (w3 : World) (S : Nat) (x y : Int) (v : Value) (xs : List Bl) (w : World) : Prop where
  out : Blk w S 24 #[.int .i64 x, .int .i64 y, v]
  row : w.ownsRow w3.heap.size 49 3 v xs.length (flatE enc3 xs)
  gr : Gr w3 w
  le : w3.heap.size ≤ S
theorem Ot.keep {w3 w w' : World} {S : Nat} {x y : Int} {v : Value} {xs : List Bl} (h : Ot w3 S x y v xs w) (hg : Gr w w') : Ot w3 S x y v xs w' := ⟨h.out.keep hg, owns_gr h.row hg, h.gr.trans hg, h.le⟩
theorem Ot.start {w3 w : World} {S : Nat} {x y : Int} (h : Gr w3 w) (hS : w.heap.size = S) : Ot w3 S x y (.slice none 0 0) [] (w.alloc (.cells #[.int .i64 x, .int .i64 y, .slice none 0 0] 24)) :=
  ⟨Blk.new _ _ _ hS, World.ownsRow_nil _ _ _ _, h.alloc _, by have := h.size; omega⟩
theorem Ot.more {w3 w : World} {S : Nat} {x y : Int} {v : Value} {xs : List Bl} (h : Ot w3 S x y v xs w) {w4 : World} {v' : Value} {b : Bl} (hgrow : w.grownBy w4 v.ownBlock)
    (hown : w4.ownsRow w3.heap.size 49 3 v' (xs.length + 1) (flatE enc3 xs ++ enc3 b)) : Ot w3 S x y v' (xs ++ [b]) (w4.setCell ⟨S, 2, none⟩ v') := by
  have hs := h.out.grown hgrow (h.out.apart h.row (by decide))
  have hr : w4.ownsRow w3.heap.size 49 3 v' (xs ++ [b]).length (flatE enc3 (xs ++ [b])) := by rw [flatE_snoc, List.length_append]; exact hown
  exact ⟨hs.put 2 v', ownsRow_setCell_other hr (fun e => hs.apart hr (by decide) e.symm) _, Gr.setCell (Below.grown h.gr hgrow h.gr.size (fun t ht => (h.row.lt t ht).1)) h.le _, h.le⟩
theorem Ot.cells {w3 w : World} {S : Nat} {x y : Int} {v : Value} {xs : List Bl} (h : Ot w3 S x y v xs w) :
    (w.cell? ⟨S, 0, none⟩ = some (.int .i64 x) ∧ w.cell? ⟨S, 1, none⟩ = some (.int .i64 y) ∧ w.cell? ⟨S, 2, none⟩ = some v) ∧ w.frozen? ⟨S, 0, none⟩ = false ∧ w.frozen? ⟨S, 1, none⟩ = false ∧ w.frozen? ⟨S, 2, none⟩ = false :=
  ⟨⟨h.out.cell 0, h.out.cell 1, h.out.cell 2⟩, h.out.free 0, h.out.free 1, h.out.free 2⟩

end Go.Proofs.Ytcojionipffanab
