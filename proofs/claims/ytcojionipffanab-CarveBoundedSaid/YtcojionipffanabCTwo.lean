/- Layer 2: two tasks in the making. -/
import Derived.Test.YtcojionipffanabCAll
namespace Go.Proofs.Ytcojionipffanab
open Go.RowKit
set_option linter.unusedSimpArgs false

structure Ot2 (w3 : World) (S T : Nat) (x y x' y' : Int) (v v' : Value) (xs xs' : List Bl) (w : World) : Prop where
  a : Ot w3 S x y v xs w
  b : Ot w3 T x' y' v' xs' w
  ne : S ≠ T
  apart : ∀ g, v.ownBlock = some g → v'.ownBlock ≠ some g
theorem Ot2.swap {w3 : World} {S T : Nat} {x y x' y' : Int} {v v' : Value} {xs xs' : List Bl} {w : World} (h : Ot2 w3 S T x y x' y' v v' xs xs' w) : Ot2 w3 T S x' y' x y v' v xs' xs w :=
  ⟨h.b, h.a, h.ne.symm, fun g hg hv => h.apart g hv hg⟩
theorem Ot2.keep {w3 : World} {S T : Nat} {x y x' y' : Int} {v v' : Value} {xs xs' : List Bl} {w w' : World} (h : Ot2 w3 S T x y x' y' v v' xs xs' w) (hg : Gr w w') : Ot2 w3 S T x y x' y' v v' xs xs' w' :=
  ⟨h.a.keep hg, h.b.keep hg, h.ne, h.apart⟩
theorem Ot2.start {w3 w : World} {S T : Nat} {x y x' y' : Int} (h : Gr w3 w) (hS : Blk w S 24 #[.int .i64 x, .int .i64 y, .slice none 0 0]) (hT : Blk w T 24 #[.int .i64 x', .int .i64 y', .slice none 0 0]) (h1 : w3.heap.size ≤ S) (h2 : w3.heap.size ≤ T) (hne : S ≠ T) :
    Ot2 w3 S T x y x' y' (.slice none 0 0) (.slice none 0 0) [] [] w :=
  ⟨⟨hS, World.ownsRow_nil _ _ _ _, h, h1⟩, ⟨hT, World.ownsRow_nil _ _ _ _, h, h2⟩, hne, fun g hg => by simp [Value.ownBlock] at hg⟩
/-- A blank more in the first of them. -/
theorem Ot2.more {w3 : World} {S T : Nat} {x y x' y' : Int} {v v' : Value} {xs xs' : List Bl} {w : World} (h : Ot2 w3 S T x y x' y' v v' xs xs' w) {w4 : World} {g n c : Nat} {b : Bl} (hgrow : w.grownBy w4 v.ownBlock) (hat : v.ownBlock = some g ∨ g = w.heap.size)
    (hn : n = xs.length + 1) (hown : w4.ownsRow w3.heap.size 49 3 (.slice (some ⟨g, 0, none⟩) n c) n (flatE enc3 xs ++ enc3 b)) :
    Ot2 w3 S T x y x' y' (.slice (some ⟨g, 0, none⟩) n c) v' (xs ++ [b]) xs' (w4.setCell ⟨S, 2, none⟩ (.slice (some ⟨g, 0, none⟩) n c)) := by
  subst hn
  have ha := h.a.more hgrow hown
  have hne : v'.ownBlock ≠ v.ownBlock ∨ v'.ownBlock = none := by
    cases hv : v.ownBlock with
    | none => cases hv' : v'.ownBlock with
      | none => exact Or.inr rfl
      | some t => exact Or.inl (by simp)
    | some t => exact Or.inl (h.apart t hv)
  have hrow := h.b.row.kept hgrow hne.symm
  have hblk := h.b.out.grown hgrow (h.b.out.apart h.a.row (by decide))
  refine ⟨ha, ⟨hblk.other (fun e => h.ne e.symm) _, ownsRow_setCell_other hrow (fun e => ?_) _, ha.gr, h.b.le⟩, h.ne, fun t ht ht' => ?_⟩
  · exact (h.a.out.grown hgrow (h.a.out.apart h.a.row (by decide))).apart hrow (by decide) e.symm
  · obtain rfl : g = t := by simpa [Value.ownBlock] using ht
    rcases hat with hat | hat
    · exact h.apart g hat ht'
    · have := (h.b.row.lt g ht').2
      omega
/-- A block that is newer than the row has not turned. -/
theorem Blk.past {w w4 w0 : World} {B base size n : Nat} {e t : TypeId} {v : Value} {xs : List Value} {cs : Array Value} (hb : Blk w B t cs) (hrow : w0.ownsRow base e size v n xs) (hlt : w0.heap.size ≤ B) (hg : w.grownBy w4 v.ownBlock) : Blk w4 B t cs :=
  hb.grown hg (fun e => by have := (hrow.lt B e.symm).2; omega)
/-- Two blocks made one behind the other. -/
theorem two_blk (w2 : World) (ca cb : Array Value) (t : TypeId) : Blk ((w2.alloc (.cells ca t)).alloc (.cells cb t)).drew w2.heap.size t ca ∧ Blk ((w2.alloc (.cells ca t)).alloc (.cells cb t)).drew (w2.heap.size + 1) t cb ∧ Gr w2 ((w2.alloc (.cells ca t)).alloc (.cells cb t)).drew :=
  ⟨((Blk.new w2 ca t rfl).alloc _).keep (Gr.refl _).drew, (Blk.new _ cb t (by simp)).keep (Gr.refl _).drew, (((Gr.refl w2).alloc _).alloc _).drew⟩

end Go.Proofs.Ytcojionipffanab
