/- Layer 5: a law's net, and its own list of stocks, in memory. -/
import Derived.Test.YtnoeiocbmhkmeaaPtTa
import Derived.Test.YtnoeiocbmhkmeaaPvJ
namespace Go.Proofs.Ytnoeiocbmhkmeaa
open Go.RowKit
set_option linter.unusedSimpArgs false

theorem NetR.turn2 {B : Nat} {w w' : World} {N : Nx} {S : List Nat} (h : NetR B w N) (hc : Ch S w w') (hn : ∀ g ∈ ownB N, g ∉ S) : NetR B w' N := by
  have h1 : ∀ g ∈ blks (netIt N), g ∉ S := fun g hg => hn g (List.mem_append_left _ hg)
  refine ⟨⟨fun it hm => ⟨(h.its.all it hm).1.ch hc (h1 _ (mem_blks hm)), (h.its.all it hm).2⟩, h.its.nod⟩, owns_ch h.sites hc (fun g hg => hn g ?_), owns_ch h.mail hc (fun g hg => hn g ?_), h.spot, h.away, Nat.le_trans h.le hc.size⟩
  · unfold ownB; exact List.mem_append_right _ (List.mem_append_left _ (by rw [hg]; simp))
  · unfold ownB; exact List.mem_append_right _ (List.mem_append_right _ (by rw [hg]; simp))
theorem flat1 : ∀ (l : List Int), flatE enc1 l = l.map (Value.int .i64)
  | [] => rfl
  | x :: r => by rw [List.map_cons, ← flat1 r]; rfl
theorem owns_set {w : World} {base : Nat} {e : TypeId} {g n cap : Nat} {l : List Int} (h : w.ownsRow base e 1 (.slice (some ⟨g, 0, none⟩) n cap) n (flatE enc1 l)) (j : Nat) (x : Int) :
    (w.setCell ⟨g, j, none⟩ (.int .i64 x)).ownsRow base e 1 (.slice (some ⟨g, 0, none⟩) n cap) n (flatE enc1 (l.set j x)) := by
  obtain ⟨h1, h2⟩ := h
  rcases h2 with ⟨h2, -⟩ | ⟨g', cap', cur, h2, h3, h4, h5, h6, h7, h8⟩
  · cases h2
  · injection h2 with h2 _ h9
    injection h2 with h2
    injection h2 with h2
    subst h2 h9
    refine ⟨by rw [flat1] at h1 ⊢; simpa using h1, Or.inr ⟨g, cap, cur.setIfInBounds j (.int .i64 x), rfl, h3, ?_, h5, h6, by simpa using h7, ?_⟩⟩
    · have hb : Blk w g e cur := h4
      exact hb.put j _
    · rw [flat1] at h8 ⊢
      rw [List.map_set, ← h8]
      simp only [Nat.mul_one, Array.toList_setIfInBounds]
      rw [List.take_set]
structure PaySt (w0 : World) (B g cap p k : Nat) (ow : List Int) (N : Nx) (W : World) : Prop where
  net : NetR B W N
  p5 : N.p = p
  row : W.ownsRow w0.heap.size 3 1 (.slice (some ⟨g, 0, none⟩) k cap) k (flatE enc1 ow)
  len : ow.length = k
  gr : Gr w0 W
  gB : g < B ∧ w0.heap.size ≤ g
section
variable {w0 W W' : World} {B g cap p k : Nat} {ow : List Int} {N N' : Nx}
theorem PaySt.keep (h : PaySt w0 B g cap p k ow N W) (hg : Gr W W') : PaySt w0 B g cap p k ow N W' := ⟨h.net.keep hg, h.p5, owns_gr h.row hg, h.len, h.gr.trans hg, h.gB⟩
theorem PaySt.to (h : PaySt w0 B g cap p k ow N W) (ht : NetTo B W N N' W') : PaySt w0 B g cap p k ow N' W' :=
  ⟨ht.net, ht.p.trans h.p5, owns_ch h.row ht.ch (fun x hx hm => by
    have h1 := (h.net.own x hm).1
    have h2 := h.gB.1
    have : x = g := by injection hx with hx; exact hx.symm
    omega), h.len, ht.ch.up h.gr (fun x hx => by have h1 := (h.net.own x hx).1; have h2 := h.gB; omega), h.gB⟩
theorem PaySt.put (h : PaySt w0 B g cap p k ow N W) (j : Nat) (x : Int) : PaySt w0 B g cap p k (ow.set j x) N (W.setCell ⟨g, j, none⟩ (.int .i64 x)) :=
  ⟨h.net.turn2 (Ch.refl.set (S := [g]) (p := ⟨g, j, none⟩) (by simp) _) (fun y hy => by
    have h1 := (h.net.own y hy).1
    have h2 := h.gB.1
    simp
    omega), h.p5, owns_set h.row j x, by simpa using h.len, h.gr.setCell (p := ⟨g, j, none⟩) h.gB.2 _, h.gB⟩
theorem PaySt.at (h : PaySt w0 B g cap p k ow N W) {j : Nat} (hj : j < k) : W.cell? ⟨g, j, none⟩ = some (.int .i64 (ow.getD j 0)) ∧ W.frozen? ⟨g, j, none⟩ = false := by
  have h1 : Rd 1 enc1 W (some ⟨g, 0, none⟩) ow := Rd_of_owns enc1p_len h.len h.row
  obtain ⟨b, off, e, hc⟩ := Ints_at h1 (i := j) (by rw [h.len]; exact hj)
  injection e with e
  injection e with e1 e2
  subst e1 e2
  refine ⟨by simpa using hc, ?_⟩
  rcases h.row.2 with ⟨h2, -⟩ | ⟨g', cap', cur, h2, -, h4, -⟩
  · cases h2
  · injection h2 with h2
    injection h2 with h2
    injection h2 with h2
    subst h2
    have hb : Blk W g 3 cur := h4
    exact hb.free j
theorem PaySt.capLe (h : PaySt w0 B g cap p k ow N W) : k ≤ cap := by
  rcases h.row.2 with ⟨h2, -⟩ | ⟨g', cap', cur, h2, -, h4, h5, -⟩
  · cases h2
  · injection h2 with _ _ h2
    omega
/-- What stays readable while only the net turns. -/
theorem stay_to {P : World → Prop} (h : ∀ X, Ch (ownB N) W X → P X) (ht : NetTo B W N N' W') : ∀ X, Ch (ownB N') W' X → P X := fun X hX => h X (ht.ch.trans hX ht.own)
theorem stay_gr {P : World → Prop} {S : List Nat} (h : ∀ X, Ch S W X → P X) (hg : Gr W W') : ∀ X, Ch S W' X → P X := fun X hX => h X ((Ch.of (S := S) hg).trans hX (fun _ hm => Or.inl hm))
end
/-- Can all sites bear the first changes? -/
def canB (ow : List Int) (ps : List Mv) : Bool := ps.all fun p => decide (0 ≤ ow.getD p.1.toNat 0 + p.2) && decide (ow.getD p.1.toNat 0 + p.2 ≤ 1099511627776)
theorem canB_iff {q : Nat} {ow : List Int} {ps : List Mv} (hP : OkP q ps) (hl : ow.length = q) : canB ow ps = true ↔ canP ow ps := by
  unfold canB canP
  rw [List.all_eq_true]
  refine ⟨fun h p hp o ho => ?_, fun h p hp => ?_⟩
  · have h1 := h p hp
    rw [List.getD_eq_getElem?_getD, ho] at h1
    simpa using h1
  · have h1 := hP.part p hp
    have h2 : ow[p.1.toNat]? = some (ow.getD p.1.toNat 0) := getD_of 0 (by omega)
    have h3 := h p hp _ h2
    simp
    rw [List.getD_eq_getElem?_getD] at h3
    exact h3
theorem canB_snoc (ow : List Int) (ps : List Mv) {j : Nat} {p : Mv} (h : ps[j]? = some p) : canB ow (ps.take (j + 1)) = (canB ow (ps.take j) && (decide (0 ≤ ow.getD p.1.toNat 0 + p.2) && decide (ow.getD p.1.toNat 0 + p.2 ≤ 1099511627776))) := by
  unfold canB
  rw [List.take_add_one, h, Option.toList_some, List.all_append]
  simp
theorem addP5_snoc : ∀ (ps : List Mv) (ow : List Int) (p : Mv), addP5 ow (ps ++ [p]) = (addP5 ow ps).set p.1.toNat ((addP5 ow ps).getD p.1.toNat 0 + p.2)
  | [], ow, p => rfl
  | x :: r, ow, p => by
    rw [List.cons_append]
    unfold addP5
    exact addP5_snoc r _ p

end Go.Proofs.Ytnoeiocbmhkmeaa
