/- Worlds, rows, blocks: what every text of ours uses. Nothing of one package alone. -/
import Derived.Test.YtnoeiocbmhkmeaaGreatProg
import Derived.WalkKit
import Derived.WalkSpells
import Derived.WalkLawsBesides
import Derived.BigQuiet
import Derived.BigRegion
import Derived.ChangeAlike
import Derived.RegionTactic
import Derived.Deep.QuietTactic
import Derived.Deep.AppendLies
import Derived.Laws.AppendOwnNone
import Derived.Lib.Hide
import Derived.Lib.SliceRun
namespace Go.Proofs.YtnoeiocbmhkmeaaGreat
open Go.RowKit
set_option linter.unusedSimpArgs false
set_option maxRecDepth 100000
set_option maxHeartbeats 80000000

def Gr (w w' : World) : Prop := Below w.heap.size w w'
theorem Gr.refl (w : World) : Gr w w := Below.refl _ _
theorem Gr.size {w w' : World} (h : Gr w w') : w.heap.size ≤ w'.heap.size := Below.size h
theorem Gr.trans {a b c : World} (h : Gr a b) (k : Gr b c) : Gr a c := Below.trans (b := b) h (Below.mono k h.size)
theorem Gr.alloc {a w : World} (h : Gr a w) (o : Obj) : Gr a (w.alloc o) := Below.alloc (w := w) h h.size o
theorem Gr.drew {a w : World} (h : Gr a w) : Gr a w.drew := Below.drew (w := w) h
theorem Gr.drewN {a w : World} (h : Gr a w) (n : Nat) : Gr a (w.drewN n) := ⟨h.os, h.tape, h.output, h.size, h.block⟩
theorem Gr.setCell {a w : World} (h : Gr a w) {p : Addr} (hp : a.heap.size ≤ p.block) (u : Value) : Gr a (w.setCell p u) := Below.setCell (w := w) h hp u
theorem Gr.keep {W w1 : World} (hb : Gr W w1) {b o : Nat} {v : Value} (h : W.cell? ⟨b, o, none⟩ = some v) : w1.cell? ⟨b, o, none⟩ = some v :=
 (Below.cell (p := ⟨b, o, none⟩) hb (World.block_lt_of_cell? W _ h)).trans h
theorem ret_bool {a b : Bool} (h : a = b) : Ending.returned (.bool a) = .returned (.bool b) := by rw [h]
theorem ret_int {a b : Int} (h : a = b) : Ending.returned (.int .i64 a) = .returned (.int .i64 b) := by rw [h]
theorem alloc_new {w : World} {cs : Array Value} {t : TypeId} {b i : Nat} {v : Value} (hb : b = w.heap.size) (h : cs[i]? = some v) : (w.alloc (.cells cs t)).cell? ⟨b, i, none⟩ = some v := by
 subst hb
 rw [cell_of_row _ _ i cs t (0, 0) (heap_alloc_new w _)]
 exact h
theorem alloc_old {w : World} {o : Obj} {b i : Nat} {v : Value} (h : w.cell? ⟨b, i, none⟩ = some v) : (w.alloc o).cell? ⟨b, i, none⟩ = some v :=
 (World.cell?_alloc_lt w o _ (World.block_lt_of_cell? w _ h)).trans h
def Rd {α : Type} (k : Nat) (enc : α → List Value) (w : World) (A : Option Addr) (xs : List α) : Prop :=
 ∀ i x, xs[i]? = some x → ∃ b off, A = some ⟨b, off, none⟩ ∧ ∀ j v, (enc x)[j]? = some v → w.cell? ⟨b, off + i * k + j, none⟩ = some v
theorem Rd.keep {α : Type} {k : Nat} {enc : α → List Value} {w w' : World} {A : Option Addr} {xs : List α} (h : Rd k enc w A xs) (hg : Gr w w') : Rd k enc w' A xs := fun i x hx => by
 obtain ⟨b, off, e, hc⟩ := h i x hx
 exact ⟨b, off, e, fun j v hv => hg.keep (hc j v hv)⟩
def enc2 (p : Int × Int) : List Value := [.int .i64 p.1, .int .i64 p.2]
abbrev Pts := Rd 2 enc2
theorem getD_of {α : Type} {l : List α} {k : Nat} (d : α) (h : k < l.length) : l[k]? = some (l.getD k d) := by
 rw [List.getD_eq_getElem?_getD, List.getElem?_eq_getElem h]; rfl
theorem Pts_at {w : World} {A : Option Addr} {ps : List (Int × Int)} (h : Pts w A ps) {k : Nat} (hk : k < ps.length) :
 ∃ b off, A = some ⟨b, off, none⟩ ∧ w.cell? ⟨b, off + k * 2, none⟩ = some (.int .i64 (ps.getD k (0, 0)).1) ∧ w.cell? ⟨b, off + k * 2 + 1, none⟩ = some (.int .i64 (ps.getD k (0, 0)).2) := by
 obtain ⟨b, off, e, hc⟩ := h k _ (getD_of (0, 0) hk)
 exact ⟨b, off, e, hc 0 _ rfl, hc 1 _ rfl⟩
def Blk (w : World) (g : Nat) (t : TypeId) (cs : Array Value) : Prop := w.heap[g]? = some (.cells cs t (0, 0))
theorem Blk.cell {w : World} {g : Nat} {t : TypeId} {cs : Array Value} (h : Blk w g t cs) (i : Nat) : w.cell? ⟨g, i, none⟩ = cs[i]? := cell_of_row w g i cs t (0, 0) h
theorem Blk.free {w : World} {g : Nat} {t : TypeId} {cs : Array Value} (h : Blk w g t cs) (i : Nat) : w.frozen? ⟨g, i, none⟩ = false := by
 have h' : w.heap[g]? = some (.cells cs t (0, 0)) := h
 simp [World.frozen?, h']
theorem Blk.lt {w : World} {g : Nat} {t : TypeId} {cs : Array Value} (h : Blk w g t cs) : g < w.heap.size := (Array.getElem?_eq_some_iff.1 (show w.heap[g]? = some _ from h)).1
theorem Blk.keep {w w' : World} {g : Nat} {t : TypeId} {cs : Array Value} (h : Blk w g t cs) (hg : Gr w w') : Blk w' g t cs := (Below.block hg g h.lt).trans h
theorem Blk.put {w : World} {g : Nat} {t : TypeId} {cs : Array Value} (h : Blk w g t cs) (i : Nat) (u : Value) : Blk (w.setCell ⟨g, i, none⟩ u) g t (cs.setIfInBounds i u) := by
 have h' : w.heap[g]? = some (.cells cs t (0, 0)) := h
 show (w.setCell ⟨g, i, none⟩ u).heap[g]? = _
 simp [World.setCell, Array.getElem?_modify, h']
def Own (w : World) (g off : Nat) (ps : List (Int × Int)) : Prop := ∀ i, i < ps.length →
 (w.cell? ⟨g, off + i * 2, none⟩ = some (.int .i64 (ps.getD i (0, 0)).1) ∧ w.cell? ⟨g, off + i * 2 + 1, none⟩ = some (.int .i64 (ps.getD i (0, 0)).2)) ∧ (w.frozen? ⟨g, off + i * 2, none⟩ = false ∧ w.frozen? ⟨g, off + i * 2 + 1, none⟩ = false)
def Gb (g : Nat) (w w' : World) : Prop := w.grownBy w' (some g)
theorem Gb.refl (g : Nat) (w : World) : Gb g w w := ⟨rfl, rfl, rfl, Nat.le_refl _, fun _ _ _ => rfl⟩
theorem Gb.size {g : Nat} {w w' : World} (h : Gb g w w') : w.heap.size ≤ w'.heap.size := World.grownBy.size h
theorem Gb.trans {g : Nat} {a b c : World} (h : Gb g a b) (k : Gb g b c) : Gb g a c :=
 ⟨k.os.trans h.os, k.tape.trans h.tape, k.output.trans h.output, Nat.le_trans h.size k.size, fun i hi hn => (k.block i (Nat.lt_of_lt_of_le hi h.size) hn).trans (h.block i hi hn)⟩
theorem Gb.of {w w' : World} (h : Gr w w') (g : Nat) : Gb g w w' := ⟨h.os, h.tape, h.output, h.size, fun i hi _ => h.block i hi⟩
theorem Gb.drew {g : Nat} {a w : World} (h : Gb g a w) : Gb g a w.drew := ⟨h.os, h.tape, h.output, h.size, h.block⟩
theorem Gb.put {g : Nat} {a w : World} (h : Gb g a w) (o : Nat) (u : Value) : Gb g a (w.setCell ⟨g, o, none⟩ u) :=
 ⟨h.os, h.tape, h.output, by simpa [World.setCell] using h.size, fun i hi hn => (Below.heap_setCell w ⟨g, o, none⟩ u i (fun e => hn (by rw [e]))).trans (h.block i hi hn)⟩
theorem Gb.gr {g : Nat} {w a b : World} (h : Gr w a) (k : Gb g a b) (hg : w.heap.size ≤ g) : Gr w b :=
 ⟨k.os.trans h.os, k.tape.trans h.tape, k.output.trans h.output, Nat.le_trans h.size k.size, fun i hi => (k.block i (Nat.lt_of_lt_of_le hi h.size) (fun e => by injection e; omega)).trans (h.block i hi)⟩
def flat2 (ps : List (Int × Int)) : List Value := ps.flatMap enc2
theorem owns_gr {w w' : World} {base : Nat} {e : TypeId} {size n : Nat} {v : Value} {xs : List Value} (h : w.ownsRow base e size v n xs) (hg : Gr w w') : w'.ownsRow base e size v n xs :=
 h.kept (row := none) ⟨hg.os, hg.tape, hg.output, hg.size, fun k hk _ => hg.block k hk⟩ (by cases v.ownBlock <;> simp)
theorem Blk.grown {w w' : World} {g : Nat} {t : TypeId} {cs : Array Value} {row : Option Nat} (h : Blk w g t cs) (hg : w.grownBy w' row) (hne : some g ≠ row) : Blk w' g t cs := (hg.block g h.lt hne).trans h
theorem Blk.apart {w : World} {base : Nat} {e t : TypeId} {size n g : Nat} {v : Value} {xs : List Value} {cs : Array Value} (h : Blk w g t cs) (ho : w.ownsRow base e size v n xs) (hne : t ≠ e) : some g ≠ v.ownBlock := by
 rcases ho.2 with ⟨rfl, _⟩ | ⟨g', cap, cur, rfl, _, hh, _⟩
 ·simp [Value.ownBlock]
 ·intro he
  have hg : g = g' := by simpa [Value.ownBlock] using he
  subst hg
  have h' : w.heap[g]? = some (.cells cs t (0, 0)) := h
  rw [h'] at hh
  injection hh with hh
  injection hh with _ ht
  exact hne ht
/-! Rows of elements of any kind. -/
section
variable {α : Type} {enc : α → List Value} {k : Nat}
def flatE (enc : α → List Value) (xs : List α) : List Value := xs.flatMap enc
theorem flatE_app (a b : List α) : flatE enc (a ++ b) = flatE enc a ++ flatE enc b := List.flatMap_append
theorem flatE_snoc (a : List α) (x : α) : flatE enc (a ++ [x]) = flatE enc a ++ enc x := by rw [flatE_app]; simp [flatE]
theorem flatE_len (hk : ∀ x, (enc x).length = k) (xs : List α) : (flatE enc xs).length = xs.length * k := by
 induction xs with
 | nil => simp [flatE]
 | cons x r ih =>
   rw [show flatE enc (x :: r) = enc x ++ flatE enc r from rfl, List.length_append, ih, hk, List.length_cons, Nat.add_mul]
   omega
theorem flatE_get (hk : ∀ x, (enc x).length = k) : ∀ (xs : List α) (i : Nat) (x : α), xs[i]? = some x → ∀ j, j < k → (flatE enc xs)[i * k + j]? = (enc x)[j]?
 | [], i, x, h, _, _ => by simp at h
 | y :: r, 0, x, h, j, hj => by
   obtain rfl : y = x := by simpa using h
   rw [show flatE enc (y :: r) = enc y ++ flatE enc r from rfl, Nat.zero_mul, Nat.zero_add, List.getElem?_append_left (by rw [hk]; exact hj)]
 | y :: r, i + 1, x, h, j, hj => by
   have ih := flatE_get hk r i x (by simpa using h) j hj
   rw [show flatE enc (y :: r) = enc y ++ flatE enc r from rfl, List.getElem?_append_right (by rw [hk, Nat.add_mul]; omega), hk, ← ih]
   congr 1
   rw [Nat.add_mul]; omega
theorem flatE_inv (hk : ∀ x, (enc x).length = k) (h0 : 0 < k) {xs : List α} {j : Nat} {u : Value} (h : (flatE enc xs)[j]? = some u) : ∃ x, xs[j / k]? = some x ∧ (enc x)[j % k]? = some u := by
 have hj : j < xs.length * k := by rw [← flatE_len hk]; exact (List.getElem?_eq_some_iff.1 h).1
 have hi : j / k < xs.length := (Nat.div_lt_iff_lt_mul h0).2 hj
 have e := flatE_get hk xs (j / k) _ (List.getElem?_eq_getElem hi) (j % k) (Nat.mod_lt _ h0)
 rw [Nat.div_add_mod' j k] at e
 exact ⟨_, List.getElem?_eq_getElem hi, e.symm.trans h⟩
theorem flatE_cells (hk : ∀ x, (enc x).length = k) (h0 : 0 < k) {w : World} {b off : Nat} {xs : List α} (hp : Rd k enc w (some ⟨b, off, none⟩) xs) : ∀ j u, (flatE enc xs)[j]? = some u → w.cell? ⟨b, off + j, none⟩ = some u := fun j u hu => by
 obtain ⟨x, h1, h2⟩ := flatE_inv hk h0 hu
 obtain ⟨b', off', e, hc⟩ := hp _ x h1
 obtain ⟨rfl, rfl⟩ : b = b' ∧ off = off' := by simpa using e
 have := hc _ u h2
 rwa [Nat.add_assoc, Nat.div_add_mod' j k] at this
theorem Rd_news (hk : ∀ x, (enc x).length = k) (h0 : 0 < k) {w : World} {ad : Addr} {xs : List α} (hp : Rd k enc w (some ad) xs) : ∀ j u, (flatE enc xs)[j]? = some u → w.cell? (ad.add j) = some u := fun j u hu => by
 obtain ⟨x, h1, -⟩ := flatE_inv hk h0 hu
 obtain ⟨b, off, e, -⟩ := hp _ x h1
 obtain rfl := Option.some.inj e
 rw [Addr.add_lit]
 exact flatE_cells hk h0 hp j u hu
theorem Rd_of_cells (hk : ∀ x, (enc x).length = k) {w : World} {g off : Nat} {xs : List α} (h : ∀ j u, (flatE enc xs)[j]? = some u → w.cell? ⟨g, off + j, none⟩ = some u) : Rd k enc w (some ⟨g, off, none⟩) xs := fun i x hx => by
 refine ⟨g, off, rfl, fun j v hv => ?_⟩
 have hj : j < k := by rw [← hk x]; exact (List.getElem?_eq_some_iff.1 hv).1
 rw [Nat.add_assoc]
 exact h _ v ((flatE_get hk xs i x hx j hj).trans hv)
theorem Rd_of_owns (hk : ∀ x, (enc x).length = k) {w : World} {base : Nat} {t : TypeId} {g n c : Nat} {xs : List α} (hn : xs.length = n) (h : w.ownsRow base t k (.slice (some ⟨g, 0, none⟩) n c) n (flatE enc xs)) : Rd k enc w (some ⟨g, 0, none⟩) xs :=
 Rd_of_cells hk fun j u hu => by
  have hj : j < n * k := by rw [← hn, ← flatE_len hk]; exact (List.getElem?_eq_some_iff.1 hu).1
  rw [Nat.zero_add]
  exact (h.cellAt j hj).trans hu
theorem Rd_take {w : World} {A : Option Addr} {xs : List α} (h : Rd k enc w A xs) (m : Nat) : Rd k enc w A (xs.take m) := fun i x hx => by
 rw [List.getElem?_take] at hx
 split at hx
 ·exact h i x hx
 ·cases hx
theorem Rd_nil (w : World) (A : Option Addr) : Rd k enc w A ([] : List α) := fun i x hx => by simp at hx
theorem Rd_lit (hk : ∀ x, (enc x).length = k) {w : World} {t : TypeId} {g : Nat} {cs : Array Value} {xs : List α} (h : Blk w g t cs) (hc : cs.toList = flatE enc xs) : Rd k enc w (some ⟨g, 0, none⟩) xs :=
 Rd_of_cells hk fun j u hu => by
  rw [h.cell, Nat.zero_add, ← Array.getElem?_toList, hc]; exact hu
theorem oneCell_flat (h : ∀ x, ∀ u ∈ enc x, u.oneCell' = true) (xs : List α) : ∀ u ∈ flatE enc xs, u.oneCell' = true := fun u hu => by
 obtain ⟨x, _, hx⟩ := List.mem_flatMap.1 hu
 exact h x u hx
end
def enc1 (n : Int) : List Value := [.int .i64 n]
theorem enc1_len (x : Int) : (enc1 x).length = 1 := rfl
theorem enc2_len (x : Int × Int) : (enc2 x).length = 2 := rfl
def enc3 (x : Int × Int × Int) : List Value := [.int .i64 x.1, .int .i64 x.2.1, .int .i64 x.2.2]
abbrev Ints := Rd 1 enc1
abbrev Tris := Rd 3 enc3
theorem Ints_at {w : World} {A : Option Addr} {ns : List Int} (h : Ints w A ns) {i : Nat} (hi : i < ns.length) : ∃ b off, A = some ⟨b, off, none⟩ ∧ w.cell? ⟨b, off + i, none⟩ = some (.int .i64 (ns.getD i 0)) := by
 obtain ⟨b, off, e, hc⟩ := h i _ (getD_of 0 hi)
 have := hc 0 _ rfl
 rw [Nat.mul_one, Nat.add_zero] at this
 exact ⟨b, off, e, this⟩
theorem own_row {α : Type} {enc : α → List Value} {k : Nat} (hk : ∀ x, (enc x).length = k) {w1 : World} {base : Nat} {t : TypeId} {v : Value} {n : Nat} {xs : List α} (hn : xs.length = n) (h : w1.ownsRow base t k v n (flatE enc xs)) :
 ∃ A c, v = .slice A n c ∧ n ≤ c ∧ Rd k enc w1 A xs ∧ (A = none → c = 0) := by
 rcases h.2 with ⟨rfl, hz⟩ | ⟨g, cap, cur, rfl, _, _, hnc, _⟩
 ·have hq' : xs = [] := List.eq_nil_of_length_eq_zero (by rw [hn]; exact hz)
  subst hq'
  exact ⟨none, 0, by rw [hz], by omega, Rd_nil _ _, fun _ => rfl⟩
 ·exact ⟨some ⟨g, 0, none⟩, cap, rfl, hnc, Rd_of_owns hk hn h, fun h => by cases h⟩
theorem owns_shape {w : World} {base : Nat} {e : TypeId} {size n : Nat} {v : Value} {xs : List Value} (h : w.ownsRow base e size v n xs) (hn : 0 < n) : ∃ g c, v = .slice (some ⟨g, 0, none⟩) n c ∧ n ≤ c := by
 rcases h.2 with ⟨_, hz⟩ | ⟨g, cap, cur, hv, _, _, hnc, _⟩
 ·omega
 ·exact ⟨g, cap, hv, hnc⟩
theorem cell_other {W : World} {b o g i : Nat} {v u : Value} (h : W.cell? ⟨b, o, none⟩ = some v) (hne : b ≠ g) : (W.setCell ⟨g, i, none⟩ u).cell? ⟨b, o, none⟩ = some v := by
 rw [World.cell?_setCell_other _ _ _ _ (fun e => hne (congrArg Addr.block e).symm)]; exact h
theorem Blk.new (w : World) (cs : Array Value) (t : TypeId) {g : Nat} (h : w.heap.size = g) : Blk (w.alloc (.cells cs t)) g t cs := by
 subst h; exact heap_alloc_new w _
end Go.Proofs.YtnoeiocbmhkmeaaGreat
