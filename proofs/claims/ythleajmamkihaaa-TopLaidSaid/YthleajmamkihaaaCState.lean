/- Layer 2: the state of a reader of plans. -/
import Derived.Test.YthleajmamkihaaaCNum
namespace Go.Proofs.Ythleajmamkihaaa
open Go.RowKit
set_option linter.unusedSimpArgs false

theorem Blk.other {w : World} {g : Nat} {t : TypeId} {cs : Array Value} (h : Blk w g t cs) {p : Addr} (hne : g ≠ p.block) (u : Value) : Blk (w.setCell p u) g t cs :=
  (Below.heap_setCell w p u g hne).trans h
theorem Blk.differ {w : World} {g g' : Nat} {t t' : TypeId} {cs cs' : Array Value} (h : Blk w g t cs) (h' : Blk w g' t' cs') (hne : t ≠ t') : g ≠ g' := fun e => by
  subst e
  have := (show w.heap[g]? = some _ from h).symm.trans (show w.heap[g]? = some _ from h')
  injection this with this
  injection this with _ h2
  exact hne h2
theorem Blk.new (w : World) (cs : Array Value) (t : TypeId) {g : Nat} (h : w.heap.size = g) : Blk (w.alloc (.cells cs t)) g t cs := by
  subst h; exact heap_alloc_new w _
theorem Blk.alloc {w : World} {g : Nat} {t : TypeId} {cs : Array Value} (h : Blk w g t cs) (o : Obj) : Blk (w.alloc o) g t cs := h.keep ((Gr.refl _).alloc _)

/-- What the reader of a plan has: the place (a), the plan (p), the blanks (b), what was made (m), itself (f). -/
structure RSt (wb : World) (a p b m f : Nat) (pv bv fv : Value) (k : Nat) (ms : List Bl) (v : Value) (w : World) : Prop where
  at_ : Blk w a 3 #[.int .i64 (k : Int)]
  plan : Blk w p 40 #[pv]
  blanks : Blk w b 22 #[bv]
  made : Blk w m 22 #[v]
  self : Blk w f 77 #[fv]
  row : w.ownsRow wb.heap.size 39 3 v ms.length (flatE enc3 ms)
  old : Gr wb w
  la : wb.heap.size ≤ a
  lm : wb.heap.size ≤ m
  ne : b ≠ m

/-- One step is taken: a block with it, and the place. -/
theorem RSt.step {wb : World} {a p b m f : Nat} {pv bv fv : Value} {k : Nat} {ms : List Bl} {v : Value} {w : World} (h : RSt wb a p b m f pv bv fv k ms v w) (o : Obj) :
    RSt wb a p b m f pv bv fv (k + 1) ms v ((w.alloc o).setCell ⟨a, 0, none⟩ (.int .i64 ((k : Int) + 1))) := by
  have hx := (h.at_.alloc o).put 0 (.int .i64 ((k : Int) + 1))
  refine ⟨?_, ?_, ?_, ?_, ?_, ?_, ?_, h.la, h.lm, h.ne⟩
  · exact hx
  · exact (h.plan.alloc o).other (h.plan.differ h.at_ (by decide)) _
  · exact (h.blanks.alloc o).other (h.blanks.differ h.at_ (by decide)) _
  · exact (h.made.alloc o).other (h.made.differ h.at_ (by decide)) _
  · exact (h.self.alloc o).other (h.self.differ h.at_ (by decide)) _
  · have h1 : (w.alloc o).ownsRow wb.heap.size 39 3 v ms.length (flatE enc3 ms) := h.row.alloc _
    exact ownsRow_setCell_other h1 (fun e => (h.at_.alloc o).apart h1 (by decide) e.symm) _
  · exact (h.old.alloc o).setCell h.la _

theorem RSt.facts {wb : World} {a p b m f : Nat} {pv bv fv : Value} {k : Nat} {ms : List Bl} {v : Value} {w : World} (h : RSt wb a p b m f pv bv fv k ms v w) (x y : Value) (t : TypeId) :
    ((w.alloc (.cells #[x, y] t)).cell? ⟨a, 0, none⟩ = some (.int .i64 (k : Int)) ∧ (w.alloc (.cells #[x, y] t)).frozen? ⟨a, 0, none⟩ = false) ∧
    ((w.alloc (.cells #[x, y] t)).setCell ⟨a, 0, none⟩ (.int .i64 ((k : Int) + 1))).cell? ⟨w.heap.size, 0, none⟩ = some x ∧
    ((w.alloc (.cells #[x, y] t)).setCell ⟨a, 0, none⟩ (.int .i64 ((k : Int) + 1))).cell? ⟨w.heap.size, 1, none⟩ = some y := by
  have hne : (⟨a, 0, none⟩ : Addr).block ≠ w.heap.size := fun e => by have := h.at_.lt; dsimp only at e; omega
  have hn : ∀ i, (⟨a, 0, none⟩ : Addr) ≠ ⟨w.heap.size, i, none⟩ := fun i e => hne (congrArg Addr.block e)
  refine ⟨⟨(h.at_.alloc _).cell 0, (h.at_.alloc _).free 0⟩, ?_, ?_⟩
  · rw [World.cell?_setCell_other _ _ _ _ (hn 0)]; exact alloc_new rfl rfl
  · rw [World.cell?_setCell_other _ _ _ _ (hn 1)]; exact alloc_new rfl rfl

theorem RSt.keep {wb : World} {a p b m f : Nat} {pv bv fv : Value} {k : Nat} {ms : List Bl} {v : Value} {w w1 : World} (h : RSt wb a p b m f pv bv fv k ms v w) (hg : Gr w w1) : RSt wb a p b m f pv bv fv k ms v w1 :=
  ⟨h.at_.keep hg, h.plan.keep hg, h.blanks.keep hg, h.made.keep hg, h.self.keep hg, owns_gr h.row hg, h.old.trans hg, h.la, h.lm, h.ne⟩

/-- A blank more: what an append and the store of its result leave. -/
theorem RSt.more {wb : World} {a p b m f : Nat} {pv bv fv : Value} {k : Nat} {ms : List Bl} {v : Value} {w : World} (h : RSt wb a p b m f pv bv fv k ms v w) {w2 : World} {v' : Value} {x : Bl}
    (hown : w2.ownsRow wb.heap.size 39 3 v' (ms.length + 1) (flatE enc3 ms ++ enc3 x)) (hgrow : w.grownBy w2 v.ownBlock) :
    RSt wb a p b m f pv bv fv k (ms ++ [x]) v' (w2.setCell ⟨m, 0, none⟩ v') := by
  have hm := h.made.grown hgrow (h.made.apart h.row (by decide))
  have hr : w2.ownsRow wb.heap.size 39 3 v' (ms ++ [x]).length (flatE enc3 (ms ++ [x])) := by rw [flatE_snoc, List.length_append]; exact hown
  refine ⟨?_, ?_, ?_, ?_, ?_, ?_, ?_, h.la, h.lm, h.ne⟩
  · exact (h.at_.grown hgrow (h.at_.apart h.row (by decide))).other (h.at_.differ h.made (by decide)) _
  · exact (h.plan.grown hgrow (h.plan.apart h.row (by decide))).other (h.plan.differ h.made (by decide)) _
  · exact (h.blanks.grown hgrow (h.blanks.apart h.row (by decide))).other h.ne _
  · exact hm.put 0 v'
  · exact (h.self.grown hgrow (h.self.apart h.row (by decide))).other (h.self.differ h.made (by decide)) _
  · exact ownsRow_setCell_other hr (fun e => hm.apart hr (by decide) e.symm) _
  · exact Gr.setCell (Below.grown h.old hgrow h.old.size (fun t ht => (h.row.lt t ht).1)) h.lm _

/-- The steps that lie in blocks of their own have not turned. -/
def StK (w w' : World) : Prop := ∀ g cs, Blk w g 74 cs → Blk w' g 74 cs
theorem StK.refl (w : World) : StK w w := fun _ _ h => h
theorem StK.trans {a b c : World} (h : StK a b) (k : StK b c) : StK a c := fun g cs x => k g cs (h g cs x)
theorem StK.of {w w' : World} (h : Gr w w') : StK w w' := fun _ _ x => x.keep h
theorem RSt.stk {wb : World} {a p b m f : Nat} {pv bv fv : Value} {k : Nat} {ms : List Bl} {v : Value} {w : World} (h : RSt wb a p b m f pv bv fv k ms v w) (o : Obj) (u : Value) : StK w ((w.alloc o).setCell ⟨a, 0, none⟩ u) :=
  fun _ _ x => (x.alloc o).other (x.differ h.at_ (by decide)) _
theorem RSt.stk_more {wb : World} {a p b m f : Nat} {pv bv fv : Value} {k : Nat} {ms : List Bl} {v : Value} {w : World} (h : RSt wb a p b m f pv bv fv k ms v w) {w2 : World} (hgrow : w.grownBy w2 v.ownBlock) (u : Value) : StK w (w2.setCell ⟨m, 0, none⟩ u) :=
  fun _ _ x => (x.grown hgrow (x.apart h.row (by decide))).other (x.differ h.made (by decide)) _

end Go.Proofs.Ythleajmamkihaaa
