/- Rows of points of the call's own; the library's Compact on them. -/
import Derived.Test.YtfihmjobnffjfaaEdges
import Derived.Lib.SliceRun
namespace Go.Proofs.Ytfihmjobnffjfaa
open Go.RowKit
set_option linter.unusedSimpArgs false

/-- The points ps lie at g, off, and may be written. -/
def Own (w : World) (g off : Nat) (ps : List (Int × Int)) : Prop := ∀ i, i < ps.length →
  (w.cell? ⟨g, off + i * 2, none⟩ = some (.int .i64 (ps.getD i (0, 0)).1) ∧ w.cell? ⟨g, off + i * 2 + 1, none⟩ = some (.int .i64 (ps.getD i (0, 0)).2)) ∧ (w.frozen? ⟨g, off + i * 2, none⟩ = false ∧ w.frozen? ⟨g, off + i * 2 + 1, none⟩ = false)
/-- Only block g has turned among those that were there. -/
def Gb (g : Nat) (w w' : World) : Prop := w.grownBy w' (some g)
theorem Gb.refl (g : Nat) (w : World) : Gb g w w := ⟨rfl, rfl, rfl, Nat.le_refl _, fun _ _ _ => rfl⟩
theorem Gb.size {g : Nat} {w w' : World} (h : Gb g w w') : w.heap.size ≤ w'.heap.size := World.grownBy.size h
theorem Gb.trans {g : Nat} {a b c : World} (h : Gb g a b) (k : Gb g b c) : Gb g a c :=
  ⟨k.os.trans h.os, k.tape.trans h.tape, k.output.trans h.output, Nat.le_trans h.size k.size, fun i hi hn => (k.block i (Nat.lt_of_lt_of_le hi h.size) hn).trans (h.block i hi hn)⟩
theorem Gb.of {w w' : World} (h : Gr w w') (g : Nat) : Gb g w w' := ⟨h.os, h.tape, h.output, h.size, fun i hi _ => h.block i hi⟩
theorem Gb.drew {g : Nat} {a w : World} (h : Gb g a w) : Gb g a w.drew := ⟨h.os, h.tape, h.output, h.size, h.block⟩
theorem Gb.put {g : Nat} {a w : World} (h : Gb g a w) (o : Nat) (u : Value) : Gb g a (w.setCell ⟨g, o, none⟩ u) :=
  ⟨h.os, h.tape, h.output, by simpa [World.setCell] using h.size, fun i hi hn => (Below.heap_setCell w ⟨g, o, none⟩ u i (fun e => hn (by rw [e]))).trans (h.block i hi hn)⟩
/-- A call that turns only a block of its own is one that leaves what was there. -/
theorem Gb.gr {g : Nat} {w a b : World} (h : Gr w a) (k : Gb g a b) (hg : w.heap.size ≤ g) : Gr w b :=
  ⟨k.os.trans h.os, k.tape.trans h.tape, k.output.trans h.output, Nat.le_trans h.size k.size, fun i hi => (k.block i (Nat.lt_of_lt_of_le hi h.size) (fun e => by injection e; omega)).trans (h.block i hi)⟩
theorem Gb.cell {g : Nat} {w w' : World} (h : Gb g w w') {b o : Nat} (hb : b < w.heap.size) (hn : b ≠ g) : w'.cell? ⟨b, o, none⟩ = w.cell? ⟨b, o, none⟩ :=
  World.cell?_of_block (h.block b hb (fun e => hn (by injection e)))
theorem Own.keep {w w' : World} {g off : Nat} {ps : List (Int × Int)} (h : Own w g off ps) (hg : Gr w w') : Own w' g off ps := fun i hi => by
  obtain ⟨⟨h1, h2⟩, h3, h4⟩ := h i hi
  have hb : g < w.heap.size := World.block_lt_of_cell? w ⟨g, off + i * 2, none⟩ h1
  exact ⟨⟨hg.keep h1, hg.keep h2⟩, (Below.frozen (p := ⟨g, _, none⟩) hg hb).trans h3, (Below.frozen (p := ⟨g, _, none⟩) hg hb).trans h4⟩
theorem Own.pts {w : World} {g off : Nat} {ps : List (Int × Int)} (h : Own w g off ps) : Pts w (some ⟨g, off, none⟩) ps := fun i x hx => by
  have hi : i < ps.length := (List.getElem?_eq_some_iff.1 hx).1
  obtain ⟨⟨h1, h2⟩, -⟩ := h i hi
  have hd : ps.getD i (0, 0) = x := by rw [List.getD_eq_getElem?_getD, hx]; rfl
  rw [hd] at h1 h2
  refine ⟨g, off, rfl, fun j v hv => ?_⟩
  have hj : j < 2 := by have := (List.getElem?_eq_some_iff.1 hv).1; simpa [enc2] using this
  match j, hj with
  | 0, _ => simp [enc2] at hv; subst hv; exact h1
  | 1, _ => simp [enc2] at hv; subst hv; exact h2
theorem frozen_put (w : World) (p q : Addr) (u : Value) : (w.setCell p u).frozen? q = w.frozen? q := by simp
theorem frozen_many (b : Nat) (q : Addr) : ∀ (vs : List Value) (o : Nat) (w : World), (w.setCells b o vs).frozen? q = w.frozen? q
  | [], _, _ => rfl
  | v :: r, o, w => by rw [World.setCells, frozen_many b q r, frozen_put]
theorem Gb.many {g : Nat} {a : World} : ∀ {w : World}, Gb g a w → ∀ (o : Nat) (vs : List Value), Gb g a (w.setCells g o vs)
  | _, h, _, [] => h
  | _, h, o, v :: r => Gb.many (h.put o v) (o + 1) r
/-- One point stored. -/
theorem Own.put {w : World} {g off : Nat} {ps : List (Int × Int)} (h : Own w g off ps) (k : Nat) (hk : k < ps.length) (x y : Int) :
    Own ((w.setCell ⟨g, off + k * 2, none⟩ (.int .i64 x)).setCell ⟨g, off + k * 2 + 1, none⟩ (.int .i64 y)) g off (ps.set k (x, y)) := fun i hi => by
  have hi' : i < ps.length := by simpa using hi
  obtain ⟨⟨h1, h2⟩, h3, h4⟩ := h i hi'
  obtain ⟨⟨k1, k2⟩, -⟩ := h k hk
  refine ⟨?_, by rw [frozen_put, frozen_put]; exact h3, by rw [frozen_put, frozen_put]; exact h4⟩
  have hn : ∀ a b : Nat, a ≠ b → (⟨g, a, none⟩ : Addr) ≠ ⟨g, b, none⟩ := fun a b e h => e (by injection h)
  by_cases e : i = k
  · subst e
    rw [List.getD_eq_getElem?_getD, List.getElem?_set_self hi']
    refine ⟨?_, ?_⟩
    · rw [World.cell?_setCell_other _ _ _ _ (hn _ _ (by omega)), World.cell?_setCell_same _ _ _ (by rw [k1])]; rfl
    · rw [World.cell?_setCell_same _ _ _ (by rw [World.cell?_setCell_other _ _ _ _ (hn _ _ (by omega)), k2])]; rfl
  · rw [List.getD_eq_getElem?_getD, List.getElem?_set_ne (Ne.symm e), ← List.getD_eq_getElem?_getD]
    refine ⟨?_, ?_⟩
    · rw [World.cell?_setCell_other _ _ _ _ (hn _ _ (by omega)), World.cell?_setCell_other _ _ _ _ (hn _ _ (by omega)), h1]
    · rw [World.cell?_setCell_other _ _ _ _ (hn _ _ (by omega)), World.cell?_setCell_other _ _ _ _ (hn _ _ (by omega)), h2]

end Go.Proofs.Ytfihmjobnffjfaa
