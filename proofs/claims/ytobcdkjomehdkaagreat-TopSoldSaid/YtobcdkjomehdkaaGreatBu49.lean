/- TopLaid: the parts of a plan, as the law reads them. -/
import Derived.Test.YtobcdkjomehdkaaGreatBu48
import Derived.Test.YtobcdkjomehdkaaGreatBu2
import Derived.Test.YtobcdkjomehdkaaGreatBu0
import Derived.Deep.CutRange
import Derived.Laws.AppendOwnNone
import Derived.BigRegion
import Derived.RegionTactic
import Derived.Test.YtobcdkjomehdkaaGreatBu24
namespace Go.Proofs.YtobcdkjomehdkaaGreat
open Go.RowKit
set_option linter.unusedSimpArgs false
set_option maxRecDepth 100000
set_option maxHeartbeats 80000000

def enc5 (b : Bx) : List Value := [.int .i64 b.x, .int .i64 b.y, .int .i64 b.w, .int .i64 b.h, .int .i64 b.k]
theorem enc5_len (b : Bx) : (enc5 b).length = 5 := rfl
theorem enc5_one (b : Bx) : ∀ u ∈ enc5 b, u.oneCell' = true := by intro u hu; simp [enc5] at hu; rcases hu with rfl | rfl | rfl | rfl | rfl <;> rfl
theorem Bx_at {w : World} {A : Option Addr} {l : List Bx} (h : Rd 5 enc5 w A l) {k : Nat} {b : Bx} (hk : l[k]? = some b) : ∃ g o, A = some ⟨g, o, none⟩ ∧ w.cell? ⟨g, o + k * 5, none⟩ = some (.int .i64 (b).x) ∧ w.cell? ⟨g, o + k * 5 + 1, none⟩ = some (.int .i64 (b).y) ∧ w.cell? ⟨g, o + k * 5 + 2, none⟩ = some (.int .i64 (b).w) ∧ w.cell? ⟨g, o + k * 5 + 3, none⟩ = some (.int .i64 (b).h) ∧ w.cell? ⟨g, o + k * 5 + 4, none⟩ = some (.int .i64 (b).k) := by
 obtain ⟨g, o, e, hc⟩ := h k b hk
 exact ⟨g, o, e, hc 0 _ rfl, hc 1 _ rfl, hc 2 _ rfl, hc 3 _ rfl, hc 4 _ rfl⟩
def BxPost (l : List Bx) (at' : Int) (w : World) (e : Ending) (w' : World) : Prop :=
 ∃ g c, e = .returned (.tuple #[.slice (some ⟨g, 0, none⟩) l.length c, .int .i64 at']) ∧ l.length ≤ c ∧ w'.ownsRow w.heap.size 31 5 (.slice (some ⟨g, 0, none⟩) l.length c) l.length (flatE enc5 l) ∧ Gr w w'
theorem drop_head {plan : List St} {k : Nat} {s : St} {r : List St} (h : plan.drop k = s :: r) : k < plan.length ∧ plan.getD k (0, 0) = s ∧ plan.drop (k + 1) = r := by
 have hk : k < plan.length := by
  rcases Nat.lt_or_ge k plan.length with h' | h'
  ·exact h'
  ·rw [List.drop_of_length_le h'] at h; cases h
 rw [drop_at hk] at h
 injection h with h1 h2
 exact ⟨hk, h1, h2⟩

theorem box5b {w W : World} {t : TypeId} {a0 a1 a2 a3 a4 : Value} (hW : w.alloc (.cells #[a0, a1, a2, a3, a4] t) = W) : Gr w W ∧ Blk W w.heap.size t #[a0, a1, a2, a3, a4] := by
 subst hW; exact ⟨(Gr.refl _).alloc _, heap_alloc_new w _⟩
theorem box2b {w W : World} {t : TypeId} {a0 a1 : Value} (hW : w.alloc (.cells #[a0, a1] t) = W) : Gr w W ∧ Blk W w.heap.size t #[a0, a1] := by
 subst hW; exact ⟨(Gr.refl _).alloc _, heap_alloc_new w _⟩
theorem Blk5 {w : World} {g : Nat} {t : TypeId} {a0 a1 a2 a3 a4 : Value} (h : Blk w g t #[a0, a1, a2, a3, a4]) :
 (w.cell? ⟨g, 0, none⟩ = some a0 ∧ w.cell? ⟨g, 1, none⟩ = some a1 ∧ w.cell? ⟨g, 2, none⟩ = some a2 ∧ w.cell? ⟨g, 3, none⟩ = some a3 ∧ w.cell? ⟨g, 4, none⟩ = some a4) ∧ w.frozen? ⟨g, 0, none⟩ = false ∧ w.frozen? ⟨g, 1, none⟩ = false ∧ w.frozen? ⟨g, 2, none⟩ = false ∧ w.frozen? ⟨g, 3, none⟩ = false ∧ w.frozen? ⟨g, 4, none⟩ = false :=
 ⟨⟨h.cell _, h.cell _, h.cell _, h.cell _, h.cell _⟩, h.free _, h.free _, h.free _, h.free _, h.free _⟩
theorem Blk.put5 {w : World} {g : Nat} {t : TypeId} {a0 a1 a2 a3 a4 : Value} (h : Blk w g t #[a0, a1, a2, a3, a4]) (i : Nat) (u : Value) {cs : Array Value} (e : (#[a0, a1, a2, a3, a4] : Array Value).setIfInBounds i u = cs) : Blk (w.setCell ⟨g, i, none⟩ u) g t cs := by
 have := h.put i u
 rwa [e] at this
theorem owns_box (w : World) (b : Bx) {base : Nat} (hb : base ≤ w.heap.size) : (w.alloc (.cells #[.int .i64 b.x, .int .i64 b.y, .int .i64 b.w, .int .i64 b.h, .int .i64 b.k] 31)).ownsRow base 31 5 (.slice (some ⟨w.heap.size, 0, none⟩) 1 1) 1 (flatE enc5 [b]) :=
 ⟨rfl, .inr ⟨w.heap.size, 1, _, rfl, hb, heap_alloc_new w _, Nat.le_refl _, by unfold maxLen; omega, rfl, rfl⟩⟩

theorem Blk.beside {w : World} {g : Nat} {t : TypeId} {cs : Array Value} (h : Blk w g t cs) {p : Addr} (hne : g ≠ p.block) (u : Value) : Blk (w.setCell p u) g t cs := (Below.heap_setCell w p u g hne).trans h
theorem owns_baseT {w : World} {base base' : Nat} {e : TypeId} {size n : Nat} {v : Value} {xs : List Value} (h : w.ownsRow base e size v n xs) (hb : base' ≤ base) : w.ownsRow base' e size v n xs := by
 obtain ⟨h1, h2⟩ := h
 refine ⟨h1, ?_⟩
 rcases h2 with h | ⟨g, c, cur, hv, hg, r⟩
 ·exact .inl h
 ·exact .inr ⟨g, c, cur, hv, by omega, r⟩
theorem Tryz.infoBox : (Tryz.prog.info? 31).map (fun i => (i.zero, i.size, i.bytes)) = some (some (.agg #[.int .i64 0, .int .i64 0, .int .i64 0, .int .i64 0, .int .i64 0]), 5, 40) := by kernel_rfl
structure Tbx (w0 : World) (U S A B : Nat) (u s a b : Array Value) (w : World) : Prop where
 bu : Blk w U 31 u
 bs : Blk w S 97 s
 ba : Blk w A 31 a
 bb : Blk w B 31 b
 gr : Gr w0 w
 ne : U < S ∧ S < A ∧ S < B ∧ A ≠ B
 le : w0.heap.size ≤ U
theorem Tbx.keep {w0 w w' : World} {U S A B : Nat} {u s a b : Array Value} (h : Tbx w0 U S A B u s a b w) (hg : Gr w w') : Tbx w0 U S A B u s a b w' :=
 ⟨h.bu.keep hg, h.bs.keep hg, h.ba.keep hg, h.bb.keep hg, h.gr.trans hg, h.ne, h.le⟩
theorem Tbx.setA {w0 w : World} {U S A B : Nat} {u s a b : Array Value} (h : Tbx w0 U S A B u s a b w) (i : Nat) (v : Value) {a' : Array Value} (e : a.setIfInBounds i v = a') : Tbx w0 U S A B u s a' b (w.setCell ⟨A, i, none⟩ v) :=
 ⟨Blk.beside h.bu (by have := h.ne; show U ≠ A; omega) v, Blk.beside h.bs (by have := h.ne; show S ≠ A; omega) v, by have := h.ba.put i v; rwa [e] at this, Blk.beside h.bb (by have := h.ne; show B ≠ A; omega) v, Gr.setCell h.gr (p := ⟨A, i, none⟩) (by have := h.ne; have := h.le; show w0.heap.size ≤ A; omega) v, h.ne, h.le⟩
theorem Tbx.setB {w0 w : World} {U S A B : Nat} {u s a b : Array Value} (h : Tbx w0 U S A B u s a b w) (i : Nat) (v : Value) {b' : Array Value} (e : b.setIfInBounds i v = b') : Tbx w0 U S A B u s a b' (w.setCell ⟨B, i, none⟩ v) :=
 ⟨Blk.beside h.bu (by have := h.ne; show U ≠ B; omega) v, Blk.beside h.bs (by have := h.ne; show S ≠ B; omega) v, Blk.beside h.ba (by have := h.ne; show A ≠ B; omega) v, by have := h.bb.put i v; rwa [e] at this, Gr.setCell h.gr (p := ⟨B, i, none⟩) (by have := h.ne; have := h.le; show w0.heap.size ≤ B; omega) v, h.ne, h.le⟩
theorem two_boxes (w : World) (cs : Array Value) (t : TypeId) : Blk ((w.alloc (.cells cs t)).alloc (.cells cs t)).drew w.heap.size t cs ∧ Blk ((w.alloc (.cells cs t)).alloc (.cells cs t)).drew (w.heap.size + 1) t cs ∧ Gr w ((w.alloc (.cells cs t)).alloc (.cells cs t)).drew := by
 refine ⟨?_, ?_, (((Gr.refl w).alloc _).alloc _).drew⟩
 ·exact Blk.keep (w := w.alloc (.cells cs t)) (heap_alloc_new w _) (((Gr.refl _).alloc _).drew)
 ·have := heap_alloc_new (w.alloc (.cells cs t)) (.cells cs t)
  rw [show (w.alloc (.cells cs t)).heap.size = w.heap.size + 1 by simp] at this
  exact this

section
variable (bs : List Bl) (w0 : World) (BA PA : Option Addr) (bn bc n pc : Nat) (plan : List St)
def BxAll (x y w h : Nat) (P : List St) (l : List Bx) : Prop := x + w ≤ 48 → y + h ≤ 48 → ∀ (k0 : Int) (at_ : Nat) (rest : List St) (W : World), Gr w0 W → plan.drop at_ = P ++ rest →
 Calls Tryz.prog 18 #[.agg #[.int .i64 x, .int .i64 y, .int .i64 w, .int .i64 h, .int .i64 k0], .slice BA bn bc, .slice PA n pc, .int .i64 at_] W (BxPost l ((at_ + P.length : Nat) : Int) W)
theorem boxes_waste (hn : plan.length = n) (hl : n ≤ 65536) (hp : Pts w0 PA plan) (x y w h : Nat) : BxAll w0 BA PA bn bc n pc plan x y w h [(0, 0)] [⟨x, y, w, h, -1⟩] := by
 intro hx hy k0 at_ rest W hW hd
 obtain ⟨h1, h2, h3⟩ := drop_head hd
 obtain ⟨b, off, rfl, p0, p1⟩ := Pts_at (hp.keep hW) h1
 rw [h2] at p0 p1
 dsimp only at p0 p1
 have hlt : (at_ : Int) < (n : Int) := by omega
 have hatn : at_ < n := by omega
 clear hd h2 h3 hp h1
 go_enter Tryz.func18, Tryz.ntmps18
 go_upto_region 1 with fail
 generalize hW1 : World.alloc W _ = W1
 obtain ⟨hg1, hB1⟩ := box5b hW1
 obtain ⟨U, hU⟩ : ∃ U, W.heap.size = U := ⟨_, rfl⟩
 rw [hU] at hB1 ⊢
 have HB1 := Lib.hid hB1
 have HU := Lib.hid hU
 clear hW1 hB1 hU
 replace p0 := hg1.keep p0
 replace p1 := hg1.keep p1
 go_upto_region 4 with fail
 generalize hW2 : World.alloc W1 _ = W2
 obtain ⟨hg2, hB2⟩ := box2b hW2
 have hUS : U < W1.heap.size := HB1.out.lt
 generalize W1.heap.size = S at hB2 hUS ⊢
 have hgr2 := hg1.trans hg2
 have HB := Lib.hid (HB1.out.keep hg2)
 have HS := Lib.hid hB2
 clear hW2 hB2 HB1 p0 p1 hg1 hg2
 have s0 : W2.cell? ⟨S, 0, none⟩ = some (.int .i64 0) := HS.out.cell 0
 have s1 : W2.cell? ⟨S, 1, none⟩ = some (.int .i64 0) := HS.out.cell 1
 obtain ⟨⟨b0, b1, b2, b3, b4⟩, f0, f1, f2, f3, f4⟩ := Blk5 HB.out
 go_upto_region 7 with fail
 have HB3 := Lib.hid (Blk.put5 HB.out 4 (Value.int .i64 (-1)) rfl)
 have hgr3 := Gr.setCell hgr2 (p := ⟨U, 4, none⟩) (show W.heap.size ≤ U from Nat.le_of_eq HU.out) (Value.int .i64 (-1))
 clear s0 s1 b0 b1 b2 b3 b4 f0 f1 f2 f3 f4 hgr2 HB HS
 generalize W2.setCell _ _ = W3 at HB3 hgr3 ⊢
 obtain ⟨⟨b0, b1, b2, b3, b4⟩, -⟩ := Blk5 HB3.out
 go_wp2_with fail
 go_ret2
 exact ⟨W3.heap.size, 1, rfl, by simp, owns_box W3 ⟨x, y, w, h, -1⟩ hgr3.size, hgr3.alloc _⟩
theorem boxes_make (hn : plan.length = n) (hl : n ≤ 65536) (hp : Pts w0 PA plan) (x y w h : Nat) (i : Nat) (hi : i < bn) : BxAll w0 BA PA bn bc n pc plan x y w h [(1, (i : Int))] [⟨x, y, w, h, i⟩] := by
 intro hx hy k0 at_ rest W hW hd
 obtain ⟨h1, h2, h3⟩ := drop_head hd
 obtain ⟨b, off, rfl, p0, p1⟩ := Pts_at (hp.keep hW) h1
 rw [h2] at p0 p1
 dsimp only at p0 p1
 have hlt : (at_ : Int) < (n : Int) := by omega
 have hatn : at_ < n := by omega
 clear hd h2 h3 hp h1
 have hii : (i : Int) < (bn : Int) := by omega
 go_enter Tryz.func18, Tryz.ntmps18
 go_upto_region 1 with fail
 generalize hW1 : World.alloc W _ = W1
 obtain ⟨hg1, hB1⟩ := box5b hW1
 obtain ⟨U, hU⟩ : ∃ U, W.heap.size = U := ⟨_, rfl⟩
 rw [hU] at hB1 ⊢
 have HB1 := Lib.hid hB1
 have HU := Lib.hid hU
 clear hW1 hB1 hU
 replace p0 := hg1.keep p0
 replace p1 := hg1.keep p1
 go_upto_region 4 with fail
 generalize hW2 : World.alloc W1 _ = W2
 obtain ⟨hg2, hB2⟩ := box2b hW2
 have hUS : U < W1.heap.size := HB1.out.lt
 generalize W1.heap.size = S at hB2 hUS ⊢
 have hgr2 := hg1.trans hg2
 have HB := Lib.hid (HB1.out.keep hg2)
 have HS := Lib.hid hB2
 clear hW2 hB2 HB1 p0 p1 hg1 hg2
 have s0 : W2.cell? ⟨S, 0, none⟩ = some (.int .i64 1) := HS.out.cell 0
 have s1 : W2.cell? ⟨S, 1, none⟩ = some (.int .i64 (i : Int)) := HS.out.cell 1
 obtain ⟨⟨b0, b1, b2, b3, b4⟩, f0, f1, f2, f3, f4⟩ := Blk5 HB.out
 go_upto_region 12 with fail
 have HB3 := Lib.hid (Blk.put5 HB.out 4 (Value.int .i64 i) rfl)
 have hgr3 := Gr.setCell hgr2 (p := ⟨U, 4, none⟩) (show W.heap.size ≤ U from Nat.le_of_eq HU.out) (Value.int .i64 i)
 clear s0 s1 b0 b1 b2 b3 b4 f0 f1 f2 f3 f4 hgr2 HB HS
 generalize W2.setCell _ _ = W3 at HB3 hgr3 ⊢
 obtain ⟨⟨b0, b1, b2, b3, b4⟩, -⟩ := Blk5 HB3.out
 go_wp2_with fail
 go_ret2
 exact ⟨W3.heap.size, 1, rfl, by simp, owns_box W3 ⟨x, y, w, h, i⟩ hgr3.size, hgr3.alloc _⟩
theorem boxes_across (hn : plan.length = n) (hl : n ≤ 65536) (hp : Pts w0 PA plan) (x y w h c : Nat) (x2 w2 : Nat) (hx2 : x + c = x2) (hw2 : w - c = w2) (hc1 : 1 ≤ c) (hc2 : c < w) (P Q : List St) (l r : List Bx) (ha : BxAll w0 BA PA bn bc n pc plan x y c h P l) (hb : BxAll w0 BA PA bn bc n pc plan x2 y w2 h Q r) (hll : 1 ≤ l.length) (hlr : l.length + r.length ≤ 65536) : BxAll w0 BA PA bn bc n pc plan x y w h ((2, (c : Int)) :: (P ++ Q)) (l ++ r) := by
 intro hx hy k0 at_ rest W hW hd
 obtain ⟨hd1, hd2, hd3⟩ := drop_head hd
 obtain ⟨b, off, rfl, p0, p1⟩ := Pts_at (hp.keep hW) hd1
 rw [hd2] at p0 p1
 dsimp only at p0 p1
 have hlt : (at_ : Int) < (n : Int) := by omega
 have hatn : at_ < n := by omega
 have e1 : (x : Int) + (c : Int) = (x2 : Int) := by omega
 have e2 : (w : Int) - (c : Int) = (w2 : Int) := by omega
 have hcI : (c : Int) < (w : Int) := by omega
 have hdP : plan.drop (at_ + 1) = P ++ (Q ++ rest) := by rw [hd3]; exact List.append_assoc _ _ _
 have hdQ : plan.drop (at_ + 1 + P.length) = Q ++ rest := by
  rw [← List.drop_drop, hdP, List.drop_left]
 have HA := Lib.hid (ha (by omega) (by omega))
 have HBQ := Lib.hid (hb (by omega) (by omega))
 have HDP := Lib.hid hdP
 have HDQ := Lib.hid hdQ
 clear hd hd2 hd3 hp hd1 hdP hdQ ha hb
 go_enter Tryz.func18, Tryz.ntmps18
 go_upto_region 1 with fail
 generalize hW1 : World.alloc W _ = W1
 obtain ⟨hg1, hB1⟩ := box5b hW1
 obtain ⟨U, hU⟩ : ∃ U, W.heap.size = U := ⟨_, rfl⟩
 rw [hU] at hB1 ⊢
 have HB1 := Lib.hid hB1
 have HU := Lib.hid hU
 clear hW1 hB1 hU
 replace p0 := hg1.keep p0
 replace p1 := hg1.keep p1
 go_upto_region 4 with fail
 generalize hW2 : World.alloc W1 _ = W2
 obtain ⟨hg2, hB2⟩ := box2b hW2
 have hUS : U < W1.heap.size := HB1.out.lt
 generalize W1.heap.size = S at hB2 hUS ⊢
 have hgr2 := hg1.trans hg2
 have HB := Lib.hid (HB1.out.keep hg2)
 have HS := Lib.hid hB2
 clear hW2 hB2 HB1 p0 p1 hg1 hg2
 have s0 : W2.cell? ⟨S, 0, none⟩ = some (.int .i64 2) := HS.out.cell 0
 have s1 : W2.cell? ⟨S, 1, none⟩ = some (.int .i64 c) := HS.out.cell 1
 obtain ⟨⟨b0, b1, b2, b3, b4⟩, f0, f1, f2, f3, f4⟩ := Blk5 HB.out
 go_upto_region 13 with fail
 rw [show decide (n ≤ at_) = false from decide_eq_false (by omega)]
 go_cut [11, 12] from 53 to 54 (fun u v wx => ∃ A' B', u = .pointer (some ⟨A', 0, none⟩) ∧ v = .pointer (some ⟨B', 0, none⟩) ∧ (S < A' ∧ S < B' ∧ A' ≠ B') ∧ Blk wx A' 31 #[.int .i64 x, .int .i64 y, .int .i64 w, .int .i64 h, .int .i64 k0] ∧ Blk wx B' 31 #[.int .i64 x, .int .i64 y, .int .i64 w, .int .i64 h, .int .i64 k0] ∧ Gr W2 wx)
 case first =>
  have KS : Hid (∀ W', Gr W2 W' → (fun W' => Gr W2 W' ∧ W'.cell? ⟨U, 0, none⟩ = some (.int .i64 x) ∧ W'.cell? ⟨U, 1, none⟩ = some (.int .i64 y) ∧ W'.cell? ⟨U, 2, none⟩ = some (.int .i64 w) ∧ W'.cell? ⟨U, 3, none⟩ = some (.int .i64 h) ∧ W'.cell? ⟨U, 4, none⟩ = some (.int .i64 k0)) W') := Lib.hid (fun W' h => ⟨h, h.keep b0, h.keep b1, h.keep b2, h.keep b3, h.keep b4⟩)
  refine wp_region_held_drew (S := (fun W' => Gr W2 W' ∧ W'.cell? ⟨U, 0, none⟩ = some (.int .i64 x) ∧ W'.cell? ⟨U, 1, none⟩ = some (.int .i64 y) ∧ W'.cell? ⟨U, 2, none⟩ = some (.int .i64 w) ∧ W'.cell? ⟨U, 3, none⟩ = some (.int .i64 h) ∧ W'.cell? ⟨U, 4, none⟩ = some (.int .i64 k0))) ?_ ?_ (fun hHeld => ?_)
  ·kernel_rfl
  ·((try dsimp only); (refine KS.out _ ?_; (repeat (first | exact Gr.refl _ | exact hHeld.1 | (refine Gr.drew ?_) | (refine Gr.alloc ?_ _) | (refine Gr.setCell ?_ (by simp) _)))))
  refine ti 0 (some 53) rfl rfl ?_; try simp only [Act.put, lA, lB, lC]
  refine ti 1 (some 54) rfl rfl ?_; try simp only [Act.put, lA, lB, lC]
  refine tr [2, 3] (.cons rfl (fun K hK => ?_) (.cons rfl (fun K hK => ?_) .nil))
  go_simp
  refine hK.out _ _ ?_ (fun hHeld => ?_)
  ·((try dsimp only); (refine KS.out _ ?_; (repeat (first | exact Gr.refl _ | exact hHeld.1 | (refine Gr.drew ?_) | (refine Gr.alloc ?_ _) | (refine Gr.setCell ?_ (by simp) _)))))
  clear hK K; try simp only [Act.put, lA, lB, lC]
  refine tr [3] (.cons rfl (fun K hK => ?_) .nil)
  go_simp
  refine hK.out _ _ ?_ (fun hHeld => ?_)
  ·((try dsimp only); (refine KS.out _ ?_; (repeat (first | exact Gr.refl _ | exact hHeld.1 | (refine Gr.drew ?_) | (refine Gr.alloc ?_ _) | (refine Gr.setCell ?_ (by simp) _)))))
  clear hK K; try simp only [Act.put, lA, lB, lC]
  refine tr [4] (.cons rfl (fun K hK => ?_) .nil)
  go_simp
  refine hK.out _ _ ?_ (fun hHeld => ?_)
  ·((try dsimp only); (refine KS.out _ ?_; (repeat (first | exact Gr.refl _ | exact hHeld.1 | (refine Gr.drew ?_) | (refine Gr.alloc ?_ _) | (refine Gr.setCell ?_ (by simp) _)))))
  clear hK K; try simp only [Act.put, lA, lB, lC]
  refine tr [5] (.cons rfl (fun K hK => ?_) .nil)
  go_simp
  refine hK.out _ _ ?_ (fun hHeld => ?_)
  ·((try dsimp only); (refine KS.out _ ?_; (repeat (first | exact Gr.refl _ | exact hHeld.1 | (refine Gr.drew ?_) | (refine Gr.alloc ?_ _) | (refine Gr.setCell ?_ (by simp) _)))))
  clear hK K; try simp only [Act.put, lA, lB, lC]
  refine wpAnyH_done ?_ ?_ _
  ·kernel_rfl
  rotate_left
  go_simp
  refine hK.out _ _ ?_ (fun hHeld => ?_)
  ·((try dsimp only); (refine KS.out _ ?_; (repeat (first | exact Gr.refl _ | exact hHeld.1 | (refine Gr.drew ?_) | (refine Gr.alloc ?_ _) | (refine Gr.setCell ?_ (by simp) _)))))
  clear hK K; try simp only [Act.put, lA, lB, lC]
  refine tr [2] (.cons rfl (fun K hK => ?_) .nil)
  go_simp
  refine hK.out _ _ ?_ (fun hHeld => ?_)
  ·((try dsimp only); (refine KS.out _ ?_; (repeat (first | exact Gr.refl _ | exact hHeld.1 | (refine Gr.drew ?_) | (refine Gr.alloc ?_ _) | (refine Gr.setCell ?_ (by simp) _)))))
  clear hK K; try simp only [Act.put, lA, lB, lC]
  refine tr [4] (.cons rfl (fun K hK => ?_) .nil)
  go_simp
  refine hK.out _ _ ?_ (fun hHeld => ?_)
  ·((try dsimp only); (refine KS.out _ ?_; (repeat (first | exact Gr.refl _ | exact hHeld.1 | (refine Gr.drew ?_) | (refine Gr.alloc ?_ _) | (refine Gr.setCell ?_ (by simp) _)))))
  clear hK K; try simp only [Act.put, lA, lB, lC]
  refine tr [5] (.cons rfl (fun K hK => ?_) .nil)
  go_simp
  refine hK.out _ _ ?_ (fun hHeld => ?_)
  ·((try dsimp only); (refine KS.out _ ?_; (repeat (first | exact Gr.refl _ | exact hHeld.1 | (refine Gr.drew ?_) | (refine Gr.alloc ?_ _) | (refine Gr.setCell ?_ (by simp) _)))))
  clear hK K; try simp only [Act.put, lA, lB, lC]
  refine wpAnyH_done ?_ ?_ _
  ·kernel_rfl
  rotate_left
  all_goals
   go_wp2_with fail
   go_meet
   obtain ⟨q1, q2, q3⟩ := two_boxes W2 #[.int .i64 x, .int .i64 y, .int .i64 w, .int .i64 h, .int .i64 k0] 31
   have hS := HS.out.lt
   first
    | exact ⟨W2.heap.size, W2.heap.size + 1, rfl, rfl, by omega, q1, q2, q3⟩
    | exact ⟨W2.heap.size + 1, W2.heap.size, rfl, rfl, by omega, q2, q1, q3⟩
 case rest =>
  obtain ⟨A', B', rfl, rfl, hne, hA', hB', hg3⟩ := hcut
  rename World => W3
  have HX := Lib.hid (show Tbx W U S A' B' _ _ _ _ W3 from ⟨HB.out.keep hg3, HS.out.keep hg3, hA', hB', hgr2.trans hg3, ⟨hUS, hne⟩, Nat.le_of_eq HU.out⟩)
  clear hA' hB' hg3 hgr2 HB HS s0 s1 b0 b1 b2 b3 b4 f0 f1 f2 f3 f4 hne HU
  have hei : (at_ : Int) + 1 = ((at_ + 1 : Nat) : Int) := by push_cast; rfl
  obtain ⟨t1, ht1⟩ : ∃ t, at_ + 1 = t := ⟨_, rfl⟩
  rw [ht1] at hei HDP HDQ
  obtain ⟨t2, ht2⟩ : ∃ t, t1 + P.length = t := ⟨_, rfl⟩
  rw [ht2] at HDQ
  have HT := Lib.hid (And.intro ht1 ht2)
  clear ht1 ht2 hatn hlt
  have s0 := HX.out.bs.cell 0
  have s1 := HX.out.bs.cell 1
  have b2 := HX.out.bu.cell 2
  have z2 := HX.out.ba.cell 2
  have f2 := HX.out.ba.free 2
  go_upto_region 17 with fail
  have HX4 := Lib.hid (HX.out.setA 2 (Value.int .i64 c) rfl)
  clear s0 s1 b2 z2 f2 HX
  generalize W3.setCell _ _ = W4 at HX4 ⊢
  have s1 := HX4.out.bs.cell 1
  have b0 := HX4.out.bu.cell 0
  have z0 := HX4.out.bb.cell 0
  have f0 := HX4.out.bb.free 0
  go_upto_region 18 with fail
  have HX5 := Lib.hid (HX4.out.setB 0 (Value.int .i64 x2) rfl)
  clear s1 b0 z0 f0 HX4
  generalize W4.setCell _ _ = W5 at HX5 ⊢
  have s1 := HX5.out.bs.cell 1
  have b2 := HX5.out.bu.cell 2
  have z2 := HX5.out.bb.cell 2
  have f2 := HX5.out.bb.free 2
  go_upto_region 23 with fail
  have HX6 := Lib.hid (HX5.out.setB 2 (Value.int .i64 w2) rfl)
  clear s1 b2 z2 f2 HX5
  generalize W5.setCell _ _ = W6 at HX6 ⊢
  have HGW := Lib.hid hW
  clear hW
  have a0 := HX6.out.ba.cell 0
  have a1 := HX6.out.ba.cell 1
  have a2 := HX6.out.ba.cell 2
  have a3 := HX6.out.ba.cell 3
  have a4 := HX6.out.ba.cell 4
  go_wp2_with fail
  refine (HA.out k0 t1 (Q ++ rest) _ (HGW.out.trans HX6.out.gr) HDP.out).mono ?_
  rintro e W7 ⟨g7, c7, rfl, hc7, ho7, hg7⟩
  rw [HT.out.2]
  obtain ⟨L1, hL1⟩ : ∃ L, l.length = L := ⟨_, rfl⟩
  obtain ⟨L2, hL2⟩ : ∃ L, r.length = L := ⟨_, rfl⟩
  rw [hL1] at hc7 ho7 hlr hll ⊢
  rw [hL2] at hlr
  have HL := Lib.hid (And.intro hL1 hL2)
  have HW6 := Lib.hid HX6.out.gr.size
  have HO7 := Lib.hid (owns_baseT ho7 HW6.out)
  have HX7 := Lib.hid (HX6.out.keep hg7)
  clear a0 a1 a2 a3 a4 HX6 ho7 hg7 hL1 hL2 HW6
  have a0 := HX7.out.bb.cell 0
  have a1 := HX7.out.bb.cell 1
  have a2 := HX7.out.bb.cell 2
  have a3 := HX7.out.bb.cell 3
  have a4 := HX7.out.bb.cell 4
  have ht2n : ¬ ((t2 : Int) < 0) := by omega
  go_wp2_with fail
  refine (HBQ.out k0 t2 rest _ (HGW.out.trans HX7.out.gr) HDQ.out).mono ?_
  rintro e W8 ⟨g8, c8, rfl, hc8, ho8, hg8⟩
  rw [HL.out.2] at hc8 ho8 ⊢
  have HC8 := Lib.hid (Rd_news enc5_len (by decide) (Rd_of_owns enc5_len HL.out.2 ho8))
  have HO8 := Lib.hid (owns_gr HO7.out hg8)
  have hg9 := HX7.out.gr.trans hg8
  clear a0 a1 a2 a3 a4 HX7 HO7 ho8 hg8 ht2n
  obtain ⟨i0, hi, hz0, hz1, hz2⟩ := info_parts Tryz.infoBox
  go_wp2_with (at_builtin; refine wpList_append_own _ rfl _ _ 27 rfl W.heap.size 31 i0 _ 5 40 Tryz.underlying27 hi hz0 hz1 hz2 rfl (by decide) _ _ _ rfl HO8.out ⟨g8, 0, none⟩ L2 c8 (flatE enc5 r) rfl ?qc1 ?qc2 ?qc3 ?qc4 ?qc5 ?qc6 ?_)
  case qc1 => rw [flatE_len enc5_len, HL.out.2]
  case qc2 => exact HC8.out
  case qc3 => exact oneCell_flat enc5_one _
  case qc4 => unfold maxLen; omega
  case qc5 => omega
  case qc6 => exact hg9.size
  intro v' W9 hown hgrow hnil
  have hgr : Gr W W9 := Below.grown hg9 hgrow hg9.size (fun t ht => (HO8.out.lt t ht).1)
  obtain ⟨gv, cv, rfl, hcv⟩ := owns_shape hown (by omega)
  have HO := Lib.hid hown
  have HG := Lib.hid hgr
  have HCV := Lib.hid hcv
  clear hown hgrow hnil hi hz0 hz1 hz2 hgr hcv
  go_wp2_with fail
  go_ret2
  have hat : t2 + Q.length = at_ + ((P ++ Q).length + 1) := by
   have := HT.out
   rw [List.length_append]
   omega
  have hlen : (l ++ r).length = L1 + L2 := by rw [List.length_append, HL.out.1, HL.out.2]
  refine ⟨gv, cv, ?_, by rw [hlen]; exact HCV.out, by rw [hlen, flatE_app]; exact HO.out, HG.out⟩
  rw [hlen, ← hat]
  rfl
theorem boxes_along (hn : plan.length = n) (hl : n ≤ 65536) (hp : Pts w0 PA plan) (x y w h c : Nat) (y2 h2 : Nat) (hy2 : y + c = y2) (hh2 : h - c = h2) (hc1 : 1 ≤ c) (hc2 : c < h) (P Q : List St) (l r : List Bx) (ha : BxAll w0 BA PA bn bc n pc plan x y w c P l) (hb : BxAll w0 BA PA bn bc n pc plan x y2 w h2 Q r) (hll : 1 ≤ l.length) (hlr : l.length + r.length ≤ 65536) : BxAll w0 BA PA bn bc n pc plan x y w h ((3, (c : Int)) :: (P ++ Q)) (l ++ r) := by
 intro hx hy k0 at_ rest W hW hd
 obtain ⟨hd1, hd2, hd3⟩ := drop_head hd
 obtain ⟨b, off, rfl, p0, p1⟩ := Pts_at (hp.keep hW) hd1
 rw [hd2] at p0 p1
 dsimp only at p0 p1
 have hlt : (at_ : Int) < (n : Int) := by omega
 have hatn : at_ < n := by omega
 have e1 : (y : Int) + (c : Int) = (y2 : Int) := by omega
 have e2 : (h : Int) - (c : Int) = (h2 : Int) := by omega
 have hcI : (c : Int) < (h : Int) := by omega
 have hdP : plan.drop (at_ + 1) = P ++ (Q ++ rest) := by rw [hd3]; exact List.append_assoc _ _ _
 have hdQ : plan.drop (at_ + 1 + P.length) = Q ++ rest := by
  rw [← List.drop_drop, hdP, List.drop_left]
 have HA := Lib.hid (ha (by omega) (by omega))
 have HBQ := Lib.hid (hb (by omega) (by omega))
 have HDP := Lib.hid hdP
 have HDQ := Lib.hid hdQ
 clear hd hd2 hd3 hp hd1 hdP hdQ ha hb
 go_enter Tryz.func18, Tryz.ntmps18
 go_upto_region 1 with fail
 generalize hW1 : World.alloc W _ = W1
 obtain ⟨hg1, hB1⟩ := box5b hW1
 obtain ⟨U, hU⟩ : ∃ U, W.heap.size = U := ⟨_, rfl⟩
 rw [hU] at hB1 ⊢
 have HB1 := Lib.hid hB1
 have HU := Lib.hid hU
 clear hW1 hB1 hU
 replace p0 := hg1.keep p0
 replace p1 := hg1.keep p1
 go_upto_region 4 with fail
 generalize hW2 : World.alloc W1 _ = W2
 obtain ⟨hg2, hB2⟩ := box2b hW2
 have hUS : U < W1.heap.size := HB1.out.lt
 generalize W1.heap.size = S at hB2 hUS ⊢
 have hgr2 := hg1.trans hg2
 have HB := Lib.hid (HB1.out.keep hg2)
 have HS := Lib.hid hB2
 clear hW2 hB2 HB1 p0 p1 hg1 hg2
 have s0 : W2.cell? ⟨S, 0, none⟩ = some (.int .i64 3) := HS.out.cell 0
 have s1 : W2.cell? ⟨S, 1, none⟩ = some (.int .i64 c) := HS.out.cell 1
 obtain ⟨⟨b0, b1, b2, b3, b4⟩, f0, f1, f2, f3, f4⟩ := Blk5 HB.out
 go_upto_region 13 with fail
 rw [show decide (n ≤ at_) = false from decide_eq_false (by omega)]
 go_cut [11, 12] from 53 to 54 (fun u v wx => ∃ A' B', u = .pointer (some ⟨A', 0, none⟩) ∧ v = .pointer (some ⟨B', 0, none⟩) ∧ (S < A' ∧ S < B' ∧ A' ≠ B') ∧ Blk wx A' 31 #[.int .i64 x, .int .i64 y, .int .i64 w, .int .i64 h, .int .i64 k0] ∧ Blk wx B' 31 #[.int .i64 x, .int .i64 y, .int .i64 w, .int .i64 h, .int .i64 k0] ∧ Gr W2 wx)
 case first =>
  have KS : Hid (∀ W', Gr W2 W' → (fun W' => Gr W2 W' ∧ W'.cell? ⟨U, 0, none⟩ = some (.int .i64 x) ∧ W'.cell? ⟨U, 1, none⟩ = some (.int .i64 y) ∧ W'.cell? ⟨U, 2, none⟩ = some (.int .i64 w) ∧ W'.cell? ⟨U, 3, none⟩ = some (.int .i64 h) ∧ W'.cell? ⟨U, 4, none⟩ = some (.int .i64 k0)) W') := Lib.hid (fun W' h => ⟨h, h.keep b0, h.keep b1, h.keep b2, h.keep b3, h.keep b4⟩)
  refine wp_region_held_drew (S := (fun W' => Gr W2 W' ∧ W'.cell? ⟨U, 0, none⟩ = some (.int .i64 x) ∧ W'.cell? ⟨U, 1, none⟩ = some (.int .i64 y) ∧ W'.cell? ⟨U, 2, none⟩ = some (.int .i64 w) ∧ W'.cell? ⟨U, 3, none⟩ = some (.int .i64 h) ∧ W'.cell? ⟨U, 4, none⟩ = some (.int .i64 k0))) ?_ ?_ (fun hHeld => ?_)
  ·kernel_rfl
  ·((try dsimp only); (refine KS.out _ ?_; (repeat (first | exact Gr.refl _ | exact hHeld.1 | (refine Gr.drew ?_) | (refine Gr.alloc ?_ _) | (refine Gr.setCell ?_ (by simp) _)))))
  refine ti 0 (some 53) rfl rfl ?_; try simp only [Act.put, lA, lB, lC]
  refine ti 1 (some 54) rfl rfl ?_; try simp only [Act.put, lA, lB, lC]
  refine tr [2, 3] (.cons rfl (fun K hK => ?_) (.cons rfl (fun K hK => ?_) .nil))
  go_simp
  refine hK.out _ _ ?_ (fun hHeld => ?_)
  ·((try dsimp only); (refine KS.out _ ?_; (repeat (first | exact Gr.refl _ | exact hHeld.1 | (refine Gr.drew ?_) | (refine Gr.alloc ?_ _) | (refine Gr.setCell ?_ (by simp) _)))))
  clear hK K; try simp only [Act.put, lA, lB, lC]
  refine tr [3] (.cons rfl (fun K hK => ?_) .nil)
  go_simp
  refine hK.out _ _ ?_ (fun hHeld => ?_)
  ·((try dsimp only); (refine KS.out _ ?_; (repeat (first | exact Gr.refl _ | exact hHeld.1 | (refine Gr.drew ?_) | (refine Gr.alloc ?_ _) | (refine Gr.setCell ?_ (by simp) _)))))
  clear hK K; try simp only [Act.put, lA, lB, lC]
  refine tr [4] (.cons rfl (fun K hK => ?_) .nil)
  go_simp
  refine hK.out _ _ ?_ (fun hHeld => ?_)
  ·((try dsimp only); (refine KS.out _ ?_; (repeat (first | exact Gr.refl _ | exact hHeld.1 | (refine Gr.drew ?_) | (refine Gr.alloc ?_ _) | (refine Gr.setCell ?_ (by simp) _)))))
  clear hK K; try simp only [Act.put, lA, lB, lC]
  refine tr [5] (.cons rfl (fun K hK => ?_) .nil)
  go_simp
  refine hK.out _ _ ?_ (fun hHeld => ?_)
  ·((try dsimp only); (refine KS.out _ ?_; (repeat (first | exact Gr.refl _ | exact hHeld.1 | (refine Gr.drew ?_) | (refine Gr.alloc ?_ _) | (refine Gr.setCell ?_ (by simp) _)))))
  clear hK K; try simp only [Act.put, lA, lB, lC]
  refine wpAnyH_done ?_ ?_ _
  ·kernel_rfl
  rotate_left
  go_simp
  refine hK.out _ _ ?_ (fun hHeld => ?_)
  ·((try dsimp only); (refine KS.out _ ?_; (repeat (first | exact Gr.refl _ | exact hHeld.1 | (refine Gr.drew ?_) | (refine Gr.alloc ?_ _) | (refine Gr.setCell ?_ (by simp) _)))))
  clear hK K; try simp only [Act.put, lA, lB, lC]
  refine tr [2] (.cons rfl (fun K hK => ?_) .nil)
  go_simp
  refine hK.out _ _ ?_ (fun hHeld => ?_)
  ·((try dsimp only); (refine KS.out _ ?_; (repeat (first | exact Gr.refl _ | exact hHeld.1 | (refine Gr.drew ?_) | (refine Gr.alloc ?_ _) | (refine Gr.setCell ?_ (by simp) _)))))
  clear hK K; try simp only [Act.put, lA, lB, lC]
  refine tr [4] (.cons rfl (fun K hK => ?_) .nil)
  go_simp
  refine hK.out _ _ ?_ (fun hHeld => ?_)
  ·((try dsimp only); (refine KS.out _ ?_; (repeat (first | exact Gr.refl _ | exact hHeld.1 | (refine Gr.drew ?_) | (refine Gr.alloc ?_ _) | (refine Gr.setCell ?_ (by simp) _)))))
  clear hK K; try simp only [Act.put, lA, lB, lC]
  refine tr [5] (.cons rfl (fun K hK => ?_) .nil)
  go_simp
  refine hK.out _ _ ?_ (fun hHeld => ?_)
  ·((try dsimp only); (refine KS.out _ ?_; (repeat (first | exact Gr.refl _ | exact hHeld.1 | (refine Gr.drew ?_) | (refine Gr.alloc ?_ _) | (refine Gr.setCell ?_ (by simp) _)))))
  clear hK K; try simp only [Act.put, lA, lB, lC]
  refine wpAnyH_done ?_ ?_ _
  ·kernel_rfl
  rotate_left
  all_goals
   go_wp2_with fail
   go_meet
   obtain ⟨q1, q2, q3⟩ := two_boxes W2 #[.int .i64 x, .int .i64 y, .int .i64 w, .int .i64 h, .int .i64 k0] 31
   have hS := HS.out.lt
   first
    | exact ⟨W2.heap.size, W2.heap.size + 1, rfl, rfl, by omega, q1, q2, q3⟩
    | exact ⟨W2.heap.size + 1, W2.heap.size, rfl, rfl, by omega, q2, q1, q3⟩
 case rest =>
  obtain ⟨A', B', rfl, rfl, hne, hA', hB', hg3⟩ := hcut
  rename World => W3
  have HX := Lib.hid (show Tbx W U S A' B' _ _ _ _ W3 from ⟨HB.out.keep hg3, HS.out.keep hg3, hA', hB', hgr2.trans hg3, ⟨hUS, hne⟩, Nat.le_of_eq HU.out⟩)
  clear hA' hB' hg3 hgr2 HB HS s0 s1 b0 b1 b2 b3 b4 f0 f1 f2 f3 f4 hne HU
  have hei : (at_ : Int) + 1 = ((at_ + 1 : Nat) : Int) := by push_cast; rfl
  obtain ⟨t1, ht1⟩ : ∃ t, at_ + 1 = t := ⟨_, rfl⟩
  rw [ht1] at hei HDP HDQ
  obtain ⟨t2, ht2⟩ : ∃ t, t1 + P.length = t := ⟨_, rfl⟩
  rw [ht2] at HDQ
  have HT := Lib.hid (And.intro ht1 ht2)
  clear ht1 ht2 hatn hlt
  have s0 := HX.out.bs.cell 0
  have s1 := HX.out.bs.cell 1
  have b3 := HX.out.bu.cell 3
  have z3 := HX.out.ba.cell 3
  have f3 := HX.out.ba.free 3
  go_upto_region 21 with fail
  have HX4 := Lib.hid (HX.out.setA 3 (Value.int .i64 c) rfl)
  clear s0 s1 b3 z3 f3 HX
  generalize W3.setCell _ _ = W4 at HX4 ⊢
  have s1 := HX4.out.bs.cell 1
  have b1 := HX4.out.bu.cell 1
  have z1 := HX4.out.bb.cell 1
  have f1 := HX4.out.bb.free 1
  go_upto_region 22 with fail
  have HX5 := Lib.hid (HX4.out.setB 1 (Value.int .i64 y2) rfl)
  clear s1 b1 z1 f1 HX4
  generalize W4.setCell _ _ = W5 at HX5 ⊢
  have s1 := HX5.out.bs.cell 1
  have b3 := HX5.out.bu.cell 3
  have z3 := HX5.out.bb.cell 3
  have f3 := HX5.out.bb.free 3
  go_upto_region 23 with fail
  have HX6 := Lib.hid (HX5.out.setB 3 (Value.int .i64 h2) rfl)
  clear s1 b3 z3 f3 HX5
  generalize W5.setCell _ _ = W6 at HX6 ⊢
  have HGW := Lib.hid hW
  clear hW
  have a0 := HX6.out.ba.cell 0
  have a1 := HX6.out.ba.cell 1
  have a2 := HX6.out.ba.cell 2
  have a3 := HX6.out.ba.cell 3
  have a4 := HX6.out.ba.cell 4
  go_wp2_with fail
  refine (HA.out k0 t1 (Q ++ rest) _ (HGW.out.trans HX6.out.gr) HDP.out).mono ?_
  rintro e W7 ⟨g7, c7, rfl, hc7, ho7, hg7⟩
  rw [HT.out.2]
  obtain ⟨L1, hL1⟩ : ∃ L, l.length = L := ⟨_, rfl⟩
  obtain ⟨L2, hL2⟩ : ∃ L, r.length = L := ⟨_, rfl⟩
  rw [hL1] at hc7 ho7 hlr hll ⊢
  rw [hL2] at hlr
  have HL := Lib.hid (And.intro hL1 hL2)
  have HW6 := Lib.hid HX6.out.gr.size
  have HO7 := Lib.hid (owns_baseT ho7 HW6.out)
  have HX7 := Lib.hid (HX6.out.keep hg7)
  clear a0 a1 a2 a3 a4 HX6 ho7 hg7 hL1 hL2 HW6
  have a0 := HX7.out.bb.cell 0
  have a1 := HX7.out.bb.cell 1
  have a2 := HX7.out.bb.cell 2
  have a3 := HX7.out.bb.cell 3
  have a4 := HX7.out.bb.cell 4
  have ht2n : ¬ ((t2 : Int) < 0) := by omega
  go_wp2_with fail
  refine (HBQ.out k0 t2 rest _ (HGW.out.trans HX7.out.gr) HDQ.out).mono ?_
  rintro e W8 ⟨g8, c8, rfl, hc8, ho8, hg8⟩
  rw [HL.out.2] at hc8 ho8 ⊢
  have HC8 := Lib.hid (Rd_news enc5_len (by decide) (Rd_of_owns enc5_len HL.out.2 ho8))
  have HO8 := Lib.hid (owns_gr HO7.out hg8)
  have hg9 := HX7.out.gr.trans hg8
  clear a0 a1 a2 a3 a4 HX7 HO7 ho8 hg8 ht2n
  obtain ⟨i0, hi, hz0, hz1, hz2⟩ := info_parts Tryz.infoBox
  go_wp2_with (at_builtin; refine wpList_append_own _ rfl _ _ 27 rfl W.heap.size 31 i0 _ 5 40 Tryz.underlying27 hi hz0 hz1 hz2 rfl (by decide) _ _ _ rfl HO8.out ⟨g8, 0, none⟩ L2 c8 (flatE enc5 r) rfl ?qc1 ?qc2 ?qc3 ?qc4 ?qc5 ?qc6 ?_)
  case qc1 => rw [flatE_len enc5_len, HL.out.2]
  case qc2 => exact HC8.out
  case qc3 => exact oneCell_flat enc5_one _
  case qc4 => unfold maxLen; omega
  case qc5 => omega
  case qc6 => exact hg9.size
  intro v' W9 hown hgrow hnil
  have hgr : Gr W W9 := Below.grown hg9 hgrow hg9.size (fun t ht => (HO8.out.lt t ht).1)
  obtain ⟨gv, cv, rfl, hcv⟩ := owns_shape hown (by omega)
  have HO := Lib.hid hown
  have HG := Lib.hid hgr
  have HCV := Lib.hid hcv
  clear hown hgrow hnil hi hz0 hz1 hz2 hgr hcv
  go_wp2_with fail
  go_ret2
  have hat : t2 + Q.length = at_ + ((P ++ Q).length + 1) := by
   have := HT.out
   rw [List.length_append]
   omega
  have hlen : (l ++ r).length = L1 + L2 := by rw [List.length_append, HL.out.1, HL.out.2]
  refine ⟨gv, cv, ?_, by rw [hlen]; exact HCV.out, by rw [hlen, flatE_app]; exact HO.out, HG.out⟩
  rw [hlen, ← hat]
  rfl
theorem tboxes_any (hbs : bs.length = bn) (hn : plan.length = n) (hl : n ≤ 65536) (hp : Pts w0 PA plan) {x y w h : Nat} {P : List St} {l : List Bx} (k : Boxes bs x y w h P l) : P.length ≤ 32768 → BxAll w0 BA PA bn bc n pc plan x y w h P l := by
 induction k with
 | waste x y w h => intro _; exact boxes_waste w0 BA PA bn bc n pc plan hn hl hp x y w h
 | make x y w h i hi hf => intro _; exact boxes_make w0 BA PA bn bc n pc plan hn hl hp x y w h i (by omega)
 | across x y w h c P Q l r h1 h2 k1 k2 ih1 ih2 =>
   intro hP
   have c1 := k1.count
   have c2 := k2.count
   simp only [List.length_cons, List.length_append] at hP
   exact boxes_across w0 BA PA bn bc n pc plan hn hl hp x y w h c (x + c) (w - c) rfl rfl h1 h2 P Q l r (ih1 (by omega)) (ih2 (by omega)) (by omega) (by omega)
 | along x y w h c P Q l r h1 h2 k1 k2 ih1 ih2 =>
   intro hP
   have c1 := k1.count
   have c2 := k2.count
   simp only [List.length_cons, List.length_append] at hP
   exact boxes_along w0 BA PA bn bc n pc plan hn hl hp x y w h c (y + c) (h - c) rfl rfl h1 h2 P Q l r (ih1 (by omega)) (ih2 (by omega)) (by omega) (by omega)
end

set_option maxRecDepth 100000
set_option maxHeartbeats 80000000

def RdRows (w : World) (A : Option Addr) (tb : List (List Int)) : Prop :=
 ∀ i row, tb[i]? = some row → ∃ b off Ai ci, A = some ⟨b, off, none⟩ ∧ w.cell? ⟨b, off + i, none⟩ = some (.slice Ai row.length ci) ∧ Ints w Ai row
def at2 (tb : List (List Int)) (w h : Nat) : Int := (tb.getD w []).getD h 0
def numB (n : Int) : Bool := decide (0 ≤ n) && decide (n ≤ 1099511627776)
def Frm (W H : Nat) (tb : List (List Int)) : Prop := tb.length = W + 1 ∧ ∀ w, w ≤ W → (tb.getD w []).length = H + 1 ∧ ∀ h, h ≤ H → 0 ≤ at2 tb w h ∧ at2 tb w h ≤ 1099511627776
theorem cutT_end {f : Nat → Int} {s k : Nat} (h1 : 1 ≤ k) (h2 : 2 * (k - 1) ≤ s) (h3 : s < 2 * k) : cutT f s k = cutT f s s := by
 by_cases e : k ≤ s
 ·exact cutT_half f s k e h3
 ·obtain rfl : k = 1 := by omega
  have hs : s = 0 := by omega
  subst hs; rfl
theorem blT_bd {bs : List Bl} (hb : ∀ b ∈ bs, blB b = true) (w h : Int) (k : Nat) (hk : k ≤ bs.length) : 0 ≤ blT bs w h k ∧ blT bs w h k ≤ 1048576 :=
 ⟨blT_nonneg bs w h k, blT_le bs w h (by omega) k (fun i hi _ => ((blB_iff _).1 (hb _ (bl_mem (by omega)))).2.2.2)⟩
end Go.Proofs.YtobcdkjomehdkaaGreat
