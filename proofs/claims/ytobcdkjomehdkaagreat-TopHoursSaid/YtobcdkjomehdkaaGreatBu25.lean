/- TopLaid: the laws' remainder, and a valid task out of any. -/
import Derived.Test.YtobcdkjomehdkaaGreatBu24
import Derived.Test.YtobcdkjomehdkaaGreatBu2
import Derived.Test.YtobcdkjomehdkaaGreatBu0
import Derived.Deep.CutRange
import Derived.Deep.AppendLies
import Derived.Laws.AppendOwnNone
namespace Go.Proofs.YtobcdkjomehdkaaGreat
open Go.RowKit
set_option linter.unusedSimpArgs false
set_option maxRecDepth 100000
set_option maxHeartbeats 80000000

def modT (x n : Int) : Int := wrap64 ((IntKind.u64.wrap x).tmod n)
theorem modT_le {x n : Int} (h1 : 0 < n) (h2 : n ≤ 9223372036854775807) : 0 ≤ modT x n ∧ modT x n < n := by
 have hx : 0 ≤ IntKind.u64.wrap x := by
  simp only [IntKind.wrap, IntKind.signed]
  first | (exact Int.emod_nonneg _ (by decide)) | omega
 have e : (IntKind.u64.wrap x).tmod n = (IntKind.u64.wrap x) % n := Int.tmod_eq_emod_of_nonneg hx
 have a := Int.emod_nonneg (IntKind.u64.wrap x) (by omega : n ≠ 0)
 have b := Int.emod_lt_of_pos (IntKind.u64.wrap x) h1
 unfold modT
 rw [e, show wrap64 (IntKind.u64.wrap x % n) = IntKind.u64.wrap x % n from IntWalk.wrap64_in _ (by omega)]
 exact ⟨a, b⟩
theorem tmod_any (x n : Int) (w : World) (h1 : 0 < n) (h2 : n ≤ 9223372036854775807) :
 Calls Tryz.prog 9 #[.int .i64 x, .int .i64 n] w fun e w' => e = .returned (.int .i64 (modT x n)) ∧ w' = w := by
 have e0 : IntKind.u64.wrap n = n := by
  simp only [IntKind.wrap, IntKind.signed]
  first | (exact Int.emod_eq_of_lt (by omega) (by simp [IntKind.bits]; omega)) | omega
 have e1 : (n == 0) = false := by simp; omega
 go_enter Tryz.func9, Tryz.ntmps9
 go_wp2_with fail
 go_ret
 exact ⟨rfl, rfl⟩

set_option maxRecDepth 100000
set_option maxHeartbeats 80000000

def sdT (M x : Int) : Int := 1 + modT (IntKind.i64.wrap (x - 1)) M
theorem sdT_in {M : Int} (x : Int) (h1 : 1 ≤ M) (h2 : M ≤ 48) : 1 ≤ sdT M x ∧ sdT M x ≤ M := by
 have := modT_le (x := IntKind.i64.wrap (x - 1)) (n := M) (by omega) (by omega)
 unfold sdT; omega
def fixT (M : Int) (b : Bl) : Bl := (sdT M b.1, sdT M b.2.1, modT b.2.2 200)
theorem fixT_ok {M : Int} (b : Bl) (h1 : 1 ≤ M) (h2 : M ≤ 48) : blB (fixT M b) = true := by
 have a := sdT_in b.1 h1 h2
 have c := sdT_in b.2.1 h1 h2
 have d := modT_le (x := b.2.2) (n := 200) (by omega) (by omega)
 unfold fixT
 exact (blB_iff _).2 (by dsimp only; omega)
def TaskPost (x y : Int) (qs : List Bl) (w : World) (e : Ending) (w' : World) : Prop :=
 ∃ A c, e = .returned (.agg #[.int .i64 x, .int .i64 y, .slice A qs.length c]) ∧ Tris w' A qs ∧ Gr w w'
theorem Tryz.infoBlT : (Tryz.prog.info? 59).map (fun i => (i.zero, i.size, i.bytes)) = some (some (.agg #[.int .i64 0, .int .i64 0, .int .i64 0]), 3, 24) := by kernel_rfl

theorem Blk.asideT {w : World} {g : Nat} {t : TypeId} {cs : Array Value} (h : Blk w g t cs) {p : Addr} (hne : g ≠ p.block) (u : Value) : Blk (w.setCell p u) g t cs := (Below.heap_setCell w p u g hne).trans h
structure Tkt (w0 : World) (U O : Nat) (bx : Array Value) (x y : Int) (v : Value) (w : World) : Prop where
 box : Blk w U 24 bx
 res : Blk w (U + 1) 24 #[.int .i64 0, .int .i64 0, .slice none 0 0]
 out : Blk w O 24 #[.int .i64 x, .int .i64 y, v]
 gr : Gr w0 w
 ne : U + 1 < O
 le : w0.heap.size ≤ U
theorem Tkt.keep {w0 w w' : World} {U O : Nat} {bx : Array Value} {x y : Int} {v : Value} (h : Tkt w0 U O bx x y v w) (hg : Gr w w') : Tkt w0 U O bx x y v w' :=
 ⟨h.box.keep hg, h.res.keep hg, h.out.keep hg, h.gr.trans hg, h.ne, h.le⟩
theorem Tkt.set {w0 w : World} {U O : Nat} {bx : Array Value} {x y : Int} {v : Value} (h : Tkt w0 U O bx x y v w) (v' : Value) : Tkt w0 U O bx x y v' (w.setCell ⟨O, 2, none⟩ v') :=
 ⟨Blk.asideT h.box (by have := h.ne; show U ≠ O; omega) v', Blk.asideT h.res (by have := h.ne; show U + 1 ≠ O; omega) v', h.out.put 2 v', Gr.setCell h.gr (p := ⟨O, 2, none⟩) (by have := h.ne; have := h.le; show w0.heap.size ≤ O; omega) v', h.ne, h.le⟩

theorem Tkt.grown {w0 w w2 : World} {U O : Nat} {bx : Array Value} {x y : Int} {v : Value} (h : Tkt w0 U O bx x y v w) {u : Value} {k : Nat} {cs : List Value} (hrow : w.ownsRow w0.heap.size 59 3 u k cs) (hgrow : w.grownBy w2 u.ownBlock) : Tkt w0 U O bx x y v w2 :=
 ⟨h.box.grown hgrow (h.box.apart hrow (by decide)), h.res.grown hgrow (h.res.apart hrow (by decide)), h.out.grown hgrow (h.out.apart hrow (by decide)), Below.grown h.gr hgrow h.gr.size (fun t ht => (hrow.lt t ht).1), h.ne, h.le⟩

theorem task_any (W H : Int) (A : Option Addr) (n c : Nat) (bs : List Bl) (M K : Nat) (w : World) (hM1 : 1 ≤ M) (hM2 : M ≤ 48) (hK : K ≤ 48) (hn : bs.length = n) (hl : n ≤ 9223372036854775807) (hp : Tris w A bs) :
 Calls Tryz.prog 5 #[.agg #[.int .i64 W, .int .i64 H, .slice A n c], .int .i64 M, .int .i64 K] w (TaskPost (sdT M W) (sdT M H) ((bs.take K).map (fixT M)) w) := by
 have HN := Lib.hid hn
 have HP := Lib.hid hp
 have HI := Lib.hid (fun x => IntWalk.i64_in (1 + modT x M) (by have := modT_le (x := x) (n := M) (by omega) (by omega); omega))
 have HM := Lib.hid (fun x W => tmod_any x M W (by omega) (by omega))
 have HM2 := Lib.hid (fun x W => tmod_any x 200 W (by omega) (by omega))
 clear hn hp
 go_enter Tryz.func5, Tryz.ntmps5
 go_upto_region 1 with fail
 generalize hW0 : World.alloc (World.alloc w _) _ = W0
 have hg0 : Gr w W0 := by rw [← hW0]; exact ((Gr.refl w).alloc _).alloc _
 have hB0 : Blk W0 w.heap.size 24 #[.int .i64 W, .int .i64 H, .slice A n c] := by rw [← hW0]; exact Blk.keep (w := w.alloc _) (heap_alloc_new w _) ((Gr.refl _).alloc _)
 have hR0 : Blk W0 (w.heap.size + 1) 24 #[.int .i64 0, .int .i64 0, .slice none 0 0] := by
  rw [← hW0]
  have := heap_alloc_new (w.alloc (.cells #[.int .i64 W, .int .i64 H, .slice A n c] 24)) (.cells #[.int .i64 0, .int .i64 0, .slice none 0 0] 24)
  rw [show (w.alloc (.cells #[.int .i64 W, .int .i64 H, .slice A n c] 24)).heap.size = w.heap.size + 1 by simp] at this
  exact this
 obtain ⟨U, hU⟩ : ∃ U, w.heap.size = U := ⟨_, rfl⟩
 rw [hU] at hB0 hR0 ⊢
 have HU := Lib.hid hU
 have HB0 := Lib.hid hB0
 have HR0 := Lib.hid hR0
 clear hW0 hB0 hR0 hU
 go_cut [7] from 10 to 22 (fun v wx => ∃ O, v = .pointer (some ⟨O, 0, none⟩) ∧ U + 1 < O ∧ Blk wx O 24 #[.int .i64 (sdT M W), .int .i64 (sdT M H), .slice none 0 0] ∧ Gr W0 wx)
 case first =>
  have b0 := HB0.out.cell 0
  have b1 := HB0.out.cell 1
  have KS : Hid (∀ W', Gr W0 W' → (fun W' => Gr W0 W' ∧ W'.cell? ⟨U, 0, none⟩ = some (.int .i64 W) ∧ W'.cell? ⟨U, 1, none⟩ = some (.int .i64 H)) W') := Lib.hid (fun W' h => ⟨h, h.keep b0, h.keep b1⟩)
  have q1 : IntKind.i64.wrap (1 + modT (IntKind.i64.wrap (W - 1)) (M : Int)) = sdT M W := HI.out _
  have q2 : IntKind.i64.wrap (1 + modT (IntKind.i64.wrap (H - 1)) (M : Int)) = sdT M H := HI.out _
  refine wp_region_held_drew (S := (fun W' => Gr W0 W' ∧ W'.cell? ⟨U, 0, none⟩ = some (.int .i64 W) ∧ W'.cell? ⟨U, 1, none⟩ = some (.int .i64 H))) ?_ ?_ (fun hHeld => ?_)
  ·kernel_rfl
  ·((try dsimp only); (refine KS.out _ ?_; (repeat (first | exact Gr.refl _ | exact hHeld.1 | (refine Gr.drew ?_) | (refine Gr.alloc ?_ _) | (refine Gr.setCell ?_ (by simp) _)))))
  refine ti 0 (some 10) rfl rfl ?_; try simp only [Act.put, lA, lB, lC]
  refine ti 1 (some 11) rfl rfl ?_; try simp only [Act.put, lA, lB, lC]
  refine ti 2 (some 12) rfl rfl ?_; try simp only [Act.put, lA, lB, lC]
  refine ti 3 (some 13) rfl rfl ?_; try simp only [Act.put, lA, lB, lC]
  refine ti 6 (some 16) rfl rfl ?_; try simp only [Act.put, lA, lB, lC]
  refine ti 7 (some 17) rfl rfl ?_; try simp only [Act.put, lA, lB, lC]
  refine ti 8 (some 18) rfl rfl ?_; try simp only [Act.put, lA, lB, lC]
  refine ti 9 (some 19) rfl rfl ?_; try simp only [Act.put, lA, lB, lC]
  refine tr [4, 13] (.cons rfl (fun K hK => ?_) (.cons rfl (fun K hK => ?_) .nil))
  go_simp
  first | (go_at_call 9; (with_reducible refine (HM.out _ _).mono ?_); rintro e w' ⟨rfl, rfl⟩)
  refine hK.out _ _ ?_ (fun hHeld => ?_)
  ·((try dsimp only); (refine KS.out _ ?_; (repeat (first | exact Gr.refl _ | exact hHeld.1 | (refine Gr.drew ?_) | (refine Gr.alloc ?_ _) | (refine Gr.setCell ?_ (by simp) _)))))
  clear hK K; try simp only [Act.put, lA, lB, lC]
  refine ti 5 (some 15) rfl rfl ?_; try simp only [Act.put, lA, lB, lC]
  refine tr [10, 13] (.cons rfl (fun K hK => ?_) (.cons rfl (fun K hK => ?_) .nil))
  go_simp
  first | (go_at_call 9; (with_reducible refine (HM.out _ _).mono ?_); rintro e w' ⟨rfl, rfl⟩)
  refine hK.out _ _ ?_ (fun hHeld => ?_)
  ·((try dsimp only); (refine KS.out _ ?_; (repeat (first | exact Gr.refl _ | exact hHeld.1 | (refine Gr.drew ?_) | (refine Gr.alloc ?_ _) | (refine Gr.setCell ?_ (by simp) _)))))
  clear hK K; try simp only [Act.put, lA, lB, lC]
  refine ti 11 (some 21) rfl rfl ?_; try simp only [Act.put, lA, lB, lC]
  refine ti 12 (some 22) rfl rfl ?_; try simp only [Act.put, lA, lB, lC]
  refine tr [13] (.cons rfl (fun K hK => ?_) .nil)
  go_simp
  refine hK.out _ _ ?_ (fun hHeld => ?_)
  ·((try dsimp only); (refine KS.out _ ?_; (repeat (first | exact Gr.refl _ | exact hHeld.1 | (refine Gr.drew ?_) | (refine Gr.alloc ?_ _) | (refine Gr.setCell ?_ (by simp) _)))))
  clear hK K; try simp only [Act.put, lA, lB, lC]
  refine tr [14] (.cons rfl (fun K hK => ?_) .nil)
  go_simp
  refine hK.out _ _ ?_ (fun hHeld => ?_)
  ·((try dsimp only); (refine KS.out _ ?_; (repeat (first | exact Gr.refl _ | exact hHeld.1 | (refine Gr.drew ?_) | (refine Gr.alloc ?_ _) | (refine Gr.setCell ?_ (by simp) _)))))
  clear hK K; try simp only [Act.put, lA, lB, lC]
  refine wpAnyH_done ?_ ?_ _
  ·kernel_rfl
  rotate_left
  go_simp
  refine hK.out _ _ ?_ (fun hHeld => ?_)
  ·((try dsimp only); (refine KS.out _ ?_; (repeat (first | exact Gr.refl _ | exact hHeld.1 | (refine Gr.drew ?_) | (refine Gr.alloc ?_ _) | (refine Gr.setCell ?_ (by simp) _)))))
  clear hK K; try simp only [Act.put, lA, lB, lC]
  refine tr [10] (.cons rfl (fun K hK => ?_) .nil)
  go_simp
  first | (go_at_call 9; (with_reducible refine (HM.out _ _).mono ?_); rintro e w' ⟨rfl, rfl⟩)
  refine hK.out _ _ ?_ (fun hHeld => ?_)
  ·((try dsimp only); (refine KS.out _ ?_; (repeat (first | exact Gr.refl _ | exact hHeld.1 | (refine Gr.drew ?_) | (refine Gr.alloc ?_ _) | (refine Gr.setCell ?_ (by simp) _)))))
  clear hK K; try simp only [Act.put, lA, lB, lC]
  refine ti 11 (some 21) rfl rfl ?_; try simp only [Act.put, lA, lB, lC]
  refine ti 12 (some 22) rfl rfl ?_; try simp only [Act.put, lA, lB, lC]
  refine tr [14] (.cons rfl (fun K hK => ?_) .nil)
  go_simp
  refine hK.out _ _ ?_ (fun hHeld => ?_)
  ·((try dsimp only); (refine KS.out _ ?_; (repeat (first | exact Gr.refl _ | exact hHeld.1 | (refine Gr.drew ?_) | (refine Gr.alloc ?_ _) | (refine Gr.setCell ?_ (by simp) _)))))
  clear hK K; try simp only [Act.put, lA, lB, lC]
  refine wpAnyH_done ?_ ?_ _
  ·kernel_rfl
  rotate_left
  go_simp
  refine hK.out _ _ ?_ (fun hHeld => ?_)
  ·((try dsimp only); (refine KS.out _ ?_; (repeat (first | exact Gr.refl _ | exact hHeld.1 | (refine Gr.drew ?_) | (refine Gr.alloc ?_ _) | (refine Gr.setCell ?_ (by simp) _)))))
  clear hK K; try simp only [Act.put, lA, lB, lC]
  refine tr [4] (.cons rfl (fun K hK => ?_) .nil)
  go_simp
  first | (go_at_call 9; (with_reducible refine (HM.out _ _).mono ?_); rintro e w' ⟨rfl, rfl⟩)
  refine hK.out _ _ ?_ (fun hHeld => ?_)
  ·((try dsimp only); (refine KS.out _ ?_; (repeat (first | exact Gr.refl _ | exact hHeld.1 | (refine Gr.drew ?_) | (refine Gr.alloc ?_ _) | (refine Gr.setCell ?_ (by simp) _)))))
  clear hK K; try simp only [Act.put, lA, lB, lC]
  refine ti 5 (some 15) rfl rfl ?_; try simp only [Act.put, lA, lB, lC]
  refine tr [10] (.cons rfl (fun K hK => ?_) .nil)
  go_simp
  first | (go_at_call 9; (with_reducible refine (HM.out _ _).mono ?_); rintro e w' ⟨rfl, rfl⟩)
  refine hK.out _ _ ?_ (fun hHeld => ?_)
  ·((try dsimp only); (refine KS.out _ ?_; (repeat (first | exact Gr.refl _ | exact hHeld.1 | (refine Gr.drew ?_) | (refine Gr.alloc ?_ _) | (refine Gr.setCell ?_ (by simp) _)))))
  clear hK K; try simp only [Act.put, lA, lB, lC]
  refine ti 11 (some 21) rfl rfl ?_; try simp only [Act.put, lA, lB, lC]
  refine ti 12 (some 22) rfl rfl ?_; try simp only [Act.put, lA, lB, lC]
  refine tr [14] (.cons rfl (fun K hK => ?_) .nil)
  go_simp
  refine hK.out _ _ ?_ (fun hHeld => ?_)
  ·((try dsimp only); (refine KS.out _ ?_; (repeat (first | exact Gr.refl _ | exact hHeld.1 | (refine Gr.drew ?_) | (refine Gr.alloc ?_ _) | (refine Gr.setCell ?_ (by simp) _)))))
  clear hK K; try simp only [Act.put, lA, lB, lC]
  refine wpAnyH_done ?_ ?_ _
  ·kernel_rfl
  rotate_left
  all_goals
   go_wp2_with fail
   go_meet
   exact ⟨W0.heap.size, rfl, HR0.out.lt, Blk.keep (w := W0.alloc _) (heap_alloc_new W0 _) (Gr.refl _).drew, ((Gr.refl W0).alloc _).drew⟩
 case rest =>
  obtain ⟨O, rfl, hO, hBO, hg1⟩ := hcut
  have HX := Lib.hid (show Tkt w U O _ _ _ _ _ from ⟨HB0.out.keep hg1, HR0.out.keep hg1, hBO, hg0.trans hg1, hO, Nat.le_of_eq HU.out⟩)
  clear HB0 HR0 hBO hg0 hg1
  obtain ⟨i0, hi, hz0, hz1, hz2⟩ := info_parts Tryz.infoBlT
  have HI0 := Lib.hid (And.intro hi (And.intro hz0 (And.intro hz1 hz2)))
  clear hi hz0 hz1 hz2
  go_wp2_with fail
  go_loopw [8] (fun z wr => ∃ (k : Nat) (v : Value), k ≤ n ∧ k ≤ K ∧ z = .int .i64 k ∧ Hid (Tkt w U O #[.int .i64 W, .int .i64 H, .slice A n c] (sdT M W) (sdT M H) v wr) ∧ Hid (wr.ownsRow w.heap.size 59 3 v k (flatE enc3 ((bs.take k).map (fixT M))))) (fun z _ => n - (intOf z).toNat)
  case atStart => exact ⟨0, _, by omega, by omega, rfl, HX, Lib.hid (World.ownsRow_nil _ _ _ _)⟩
  case round =>
   obtain ⟨k, v, hkn, hkK, rfl, hX, hown⟩ := hrel
   clear HX
   have b2 := hX.out.box.cell 2
   by_cases hlt : k < n ∧ k < K
   ·obtain ⟨h1, h2⟩ := hlt
    have e1 : decide ((k : Int) < (n : Int)) = true := decide_eq_true (by omega)
    have e2 : decide ((k : Int) < (K : Int)) = true := decide_eq_true (by omega)
    have hki : (k : Int) < (n : Int) := by omega
    obtain ⟨bb, boff, rfl, q0, q1, q2⟩ := Tris_at (HP.out.keep hX.out.gr) (show k < bs.length by rw [HN.out]; exact h1)
    have HQ : Hid (flatE enc3 ((bs.take (k + 1)).map (fixT M)) = flatE enc3 ((bs.take k).map (fixT M)) ++ enc3 (fixT M (bs.getD k (0, 0, 0)))) := Lib.hid (by rw [List.take_add_one, getD_of (0, 0, 0) (show k < bs.length by rw [HN.out]; exact h1), Option.toList_some, List.map_append, flatE_app]; simp [flatE])
    generalize bs.getD k (0, 0, 0) = q at q0 q1 q2 HQ
    obtain ⟨qa, qb, qc⟩ := q
    dsimp only at q0 q1 q2
    go_upto_region 6 with fail
    generalize hT1 : World.alloc wr _ = w1
    have hg1 : Gr wr w1 := by rw [← hT1]; exact (Gr.refl wr).alloc _
    have hB1 : Blk w1 wr.heap.size 59 #[.int .i64 qa, .int .i64 qb, .int .i64 qc] := by rw [← hT1]; exact heap_alloc_new wr _
    have hne : v.ownBlock ≠ some wr.heap.size := fun e => Nat.lt_irrefl _ (hown.out.lt _ e).2
    generalize wr.heap.size = T at hB1 hne ⊢
    have HNE := Lib.hid hne
    have hB1h := Lib.hid hB1
    clear hne
    have HX1 := Lib.hid (hX.out.keep hg1)
    have HO1 := Lib.hid (owns_gr hown.out hg1)
    have t0 := hB1.cell 0
    have t1 := hB1.cell 1
    have t2 := hB1.cell 2
    have o2 := HX1.out.out.cell 2
    have f2 := HX1.out.out.free 2
    have z1 : IntKind.i64.wrap (1 + modT (IntKind.i64.wrap (qa - 1)) (M : Int)) = sdT M qa := HI.out _
    have z2 : IntKind.i64.wrap (1 + modT (IntKind.i64.wrap (qb - 1)) (M : Int)) = sdT M qb := HI.out _
    clear hT1 hg1 hB1 hX hown q0 q1 q2 b2 e1 e2
    have hdr := (Gr.refl w1).drew
    have hw1 := HX1.out.gr.size
    have HBT : Hid (Blk w1 T 59 #[.int .i64 qa, .int .i64 qb, .int .i64 qc]) := hB1h
    have hda := hdr.alloc (.cells #[.int .i64 (sdT M qa), .int .i64 (sdT M qb), .int .i64 (modT qc 200)] 59)
    have HB1d := Lib.hid (HBT.out.keep hdr)
    have HB1a := Lib.hid (HBT.out.keep hda)
    have HX1d := Lib.hid (HX1.out.keep hdr)
    have HX1a := Lib.hid (HX1.out.keep hda)
    have HO1a := Lib.hid (owns_gr HO1.out hda)
    have HTO : Hid (T ≠ O) := Lib.hid (HBT.out.differ HX1.out.out (by decide))
    have c8 := HX1d.out.out.cell 2
    have c9 : (w1.alloc (.cells #[.int .i64 (sdT M qa), .int .i64 (sdT M qb), .int .i64 (modT qc 200)] 59)).cell? ⟨O, 2, none⟩ = some v := HX1a.out.out.cell 2
    have KS : Hid (∀ W', Blk W' T 59 #[.int .i64 qa, .int .i64 qb, .int .i64 qc] → W'.cell? ⟨T, 0, none⟩ = some (.int .i64 qa) ∧ W'.cell? ⟨T, 1, none⟩ = some (.int .i64 qb) ∧ W'.cell? ⟨T, 2, none⟩ = some (.int .i64 qc)) := Lib.hid (fun W' h => ⟨h.cell 0, h.cell 1, h.cell 2⟩)
    obtain ⟨hi, hz0, hz1, hz2⟩ := HI0.out
    clear t0 t1 t2 o2 f2 hdr hda
    refine wp_region_held_drew (S := (fun W' => W'.cell? ⟨T, 0, none⟩ = some (.int .i64 qa) ∧ W'.cell? ⟨T, 1, none⟩ = some (.int .i64 qb) ∧ W'.cell? ⟨T, 2, none⟩ = some (.int .i64 qc))) ?_ ?_ (fun hHeld => ?_)
    ·kernel_rfl
    ·((try dsimp only); (first | exact hHeld | exact KS.out _ HB1d.out | exact KS.out _ HB1a.out | exact KS.out _ HBG.out | exact KS.out _ HBF.out))
    refine ti 0 (some 40) rfl rfl ?_; try simp only [Act.put, lA, lB, lC]
    refine ti 2 (some 42) rfl rfl ?_; try simp only [Act.put, lA, lB, lC]
    refine ti 3 (some 43) rfl rfl ?_; try simp only [Act.put, lA, lB, lC]
    refine ti 4 (some 44) rfl rfl ?_; try simp only [Act.put, lA, lB, lC]
    refine ti 5 (some 45) rfl rfl ?_; try simp only [Act.put, lA, lB, lC]
    refine ti 8 (some 48) rfl rfl ?_; try simp only [Act.put, lA, lB, lC]
    refine ti 9 (some 49) rfl rfl ?_; try simp only [Act.put, lA, lB, lC]
    refine ti 10 (some 50) rfl rfl ?_; try simp only [Act.put, lA, lB, lC]
    refine ti 11 (some 51) rfl rfl ?_; try simp only [Act.put, lA, lB, lC]
    refine ti 14 (some 54) rfl rfl ?_; try simp only [Act.put, lA, lB, lC]
    refine ti 15 (some 55) rfl rfl ?_; try simp only [Act.put, lA, lB, lC]
    refine tr [1, 6] (.cons rfl (fun K hK => ?_) (.cons rfl (fun K hK => ?_) .nil))
    go_simp
    refine hK.out _ _ ?_ (fun hHeld => ?_)
    ·((try dsimp only); (first | exact hHeld | exact KS.out _ HB1d.out | exact KS.out _ HB1a.out | exact KS.out _ HBG.out | exact KS.out _ HBF.out))
    clear hK K; try simp only [Act.put, lA, lB, lC]
    refine tr [6] (.cons rfl (fun K hK => ?_) .nil)
    go_simp
    first | (go_at_call 9; (with_reducible refine (HM.out _ _).mono ?_); rintro e w' ⟨rfl, rfl⟩) | (go_at_call 9; (with_reducible refine (HM2.out _ _).mono ?_); rintro e w' ⟨rfl, rfl⟩) | (refine step_append_lies _ (by rfl) (.tmp 41) (.tmp 58) 22 (by rfl) w.heap.size 59 i0 _ 3 24 Tryz.underlying22 hi hz0 hz1 hz2 rfl (by decide) v k (flatE enc3 ((bs.take k).map (fixT M))) (by rfl) HO1a.out ⟨w1.heap.size, 0, none⟩ 1 1 [.int .i64 (sdT M qa), .int .i64 (sdT M qb), .int .i64 (modT qc 200)] (by rfl) rfl (World.news_of_block (heap_alloc_new _ _)) (enc3_one (sdT M qa, sdT M qb, modT qc 200)) (by decide) (by unfold maxLen; omega) (by omega) HX1a.out.gr.size _ rfl ?_; intro g' cap' w5 hown' hgrow _ _; have hX5 := HX1a.out.grown HO1a.out hgrow; have d8 := hX5.out.cell 2; have d9 := hX5.out.free 2; have HX7 := Lib.hid (hX5.set (.slice (some ⟨g', 0, none⟩) (k + 1) cap')); have HO7 := Lib.hid (ownsRow_setCell_other (a := ⟨O, 2, none⟩) hown' (fun e => hX5.out.apart hown' (by decide) e.symm) (.slice (some ⟨g', 0, none⟩) (k + 1) cap')); have HBG := Lib.hid (HB1a.out.grown hgrow (Ne.symm HNE.out)); have HBF := Lib.hid (HBG.out.other (p := ⟨O, 2, none⟩) HTO.out (.slice (some ⟨g', 0, none⟩) (k + 1) cap')); clear hown' hgrow hX5)
    refine hK.out _ _ ?_ (fun hHeld => ?_)
    ·((try dsimp only); (first | exact hHeld | exact KS.out _ HB1d.out | exact KS.out _ HB1a.out | exact KS.out _ HBG.out | exact KS.out _ HBF.out))
    clear hK K; try simp only [Act.put, lA, lB, lC]
    refine ti 7 (some 47) rfl rfl ?_; try simp only [Act.put, lA, lB, lC]
    refine tr [12] (.cons rfl (fun K hK => ?_) .nil)
    go_simp
    first | (go_at_call 9; (with_reducible refine (HM.out _ _).mono ?_); rintro e w' ⟨rfl, rfl⟩) | (go_at_call 9; (with_reducible refine (HM2.out _ _).mono ?_); rintro e w' ⟨rfl, rfl⟩) | (refine step_append_lies _ (by rfl) (.tmp 41) (.tmp 58) 22 (by rfl) w.heap.size 59 i0 _ 3 24 Tryz.underlying22 hi hz0 hz1 hz2 rfl (by decide) v k (flatE enc3 ((bs.take k).map (fixT M))) (by rfl) HO1a.out ⟨w1.heap.size, 0, none⟩ 1 1 [.int .i64 (sdT M qa), .int .i64 (sdT M qb), .int .i64 (modT qc 200)] (by rfl) rfl (World.news_of_block (heap_alloc_new _ _)) (enc3_one (sdT M qa, sdT M qb, modT qc 200)) (by decide) (by unfold maxLen; omega) (by omega) HX1a.out.gr.size _ rfl ?_; intro g' cap' w5 hown' hgrow _ _; have hX5 := HX1a.out.grown HO1a.out hgrow; have d8 := hX5.out.cell 2; have d9 := hX5.out.free 2; have HX7 := Lib.hid (hX5.set (.slice (some ⟨g', 0, none⟩) (k + 1) cap')); have HO7 := Lib.hid (ownsRow_setCell_other (a := ⟨O, 2, none⟩) hown' (fun e => hX5.out.apart hown' (by decide) e.symm) (.slice (some ⟨g', 0, none⟩) (k + 1) cap')); have HBG := Lib.hid (HB1a.out.grown hgrow (Ne.symm HNE.out)); have HBF := Lib.hid (HBG.out.other (p := ⟨O, 2, none⟩) HTO.out (.slice (some ⟨g', 0, none⟩) (k + 1) cap')); clear hown' hgrow hX5)
    refine hK.out _ _ ?_ (fun hHeld => ?_)
    ·((try dsimp only); (first | exact hHeld | exact KS.out _ HB1d.out | exact KS.out _ HB1a.out | exact KS.out _ HBG.out | exact KS.out _ HBF.out))
    clear hK K; try simp only [Act.put, lA, lB, lC]
    refine ti 13 (some 53) rfl rfl ?_; try simp only [Act.put, lA, lB, lC]
    refine tr [16] (.cons rfl (fun K hK => ?_) .nil)
    go_simp
    first | (go_at_call 9; (with_reducible refine (HM.out _ _).mono ?_); rintro e w' ⟨rfl, rfl⟩) | (go_at_call 9; (with_reducible refine (HM2.out _ _).mono ?_); rintro e w' ⟨rfl, rfl⟩) | (refine step_append_lies _ (by rfl) (.tmp 41) (.tmp 58) 22 (by rfl) w.heap.size 59 i0 _ 3 24 Tryz.underlying22 hi hz0 hz1 hz2 rfl (by decide) v k (flatE enc3 ((bs.take k).map (fixT M))) (by rfl) HO1a.out ⟨w1.heap.size, 0, none⟩ 1 1 [.int .i64 (sdT M qa), .int .i64 (sdT M qb), .int .i64 (modT qc 200)] (by rfl) rfl (World.news_of_block (heap_alloc_new _ _)) (enc3_one (sdT M qa, sdT M qb, modT qc 200)) (by decide) (by unfold maxLen; omega) (by omega) HX1a.out.gr.size _ rfl ?_; intro g' cap' w5 hown' hgrow _ _; have hX5 := HX1a.out.grown HO1a.out hgrow; have d8 := hX5.out.cell 2; have d9 := hX5.out.free 2; have HX7 := Lib.hid (hX5.set (.slice (some ⟨g', 0, none⟩) (k + 1) cap')); have HO7 := Lib.hid (ownsRow_setCell_other (a := ⟨O, 2, none⟩) hown' (fun e => hX5.out.apart hown' (by decide) e.symm) (.slice (some ⟨g', 0, none⟩) (k + 1) cap')); have HBG := Lib.hid (HB1a.out.grown hgrow (Ne.symm HNE.out)); have HBF := Lib.hid (HBG.out.other (p := ⟨O, 2, none⟩) HTO.out (.slice (some ⟨g', 0, none⟩) (k + 1) cap')); clear hown' hgrow hX5)
    refine hK.out _ _ ?_ (fun hHeld => ?_)
    ·((try dsimp only); (first | exact hHeld | exact KS.out _ HB1d.out | exact KS.out _ HB1a.out | exact KS.out _ HBG.out | exact KS.out _ HBF.out))
    clear hK K; try simp only [Act.put, lA, lB, lC]
    refine ti 17 (some 57) rfl rfl ?_; try simp only [Act.put, lA, lB, lC]
    refine tr [18] (.cons rfl (fun K hK => ?_) .nil)
    go_simp
    refine hK.out _ _ ?_ (fun hHeld => ?_)
    ·((try dsimp only); (first | exact hHeld | exact KS.out _ HB1d.out | exact KS.out _ HB1a.out | exact KS.out _ HBG.out | exact KS.out _ HBF.out))
    clear hK K; try simp only [Act.put, lA, lB, lC]
    refine tr [19] (.cons rfl (fun K hK => ?_) .nil)
    first | (refine step_append_lies _ (by rfl) (.tmp 41) (.tmp 58) 22 (by rfl) w.heap.size 59 i0 _ 3 24 Tryz.underlying22 hi hz0 hz1 hz2 rfl (by decide) v k (flatE enc3 ((bs.take k).map (fixT M))) (by rfl) HO1a.out ⟨w1.heap.size, 0, none⟩ 1 1 [.int .i64 (sdT M qa), .int .i64 (sdT M qb), .int .i64 (modT qc 200)] (by rfl) rfl (World.news_of_block (heap_alloc_new _ _)) (enc3_one (sdT M qa, sdT M qb, modT qc 200)) (by decide) (by unfold maxLen; omega) (by omega) HX1a.out.gr.size _ rfl ?_; intro g' cap' w5 hown' hgrow _ _; have hX5 := HX1a.out.grown HO1a.out hgrow; have d8 := hX5.out.cell 2; have d9 := hX5.out.free 2; have HX7 := Lib.hid (hX5.set (.slice (some ⟨g', 0, none⟩) (k + 1) cap')); have HO7 := Lib.hid (ownsRow_setCell_other (a := ⟨O, 2, none⟩) hown' (fun e => hX5.out.apart hown' (by decide) e.symm) (.slice (some ⟨g', 0, none⟩) (k + 1) cap')); have HBG := Lib.hid (HB1a.out.grown hgrow (Ne.symm HNE.out)); have HBF := Lib.hid (HBG.out.other (p := ⟨O, 2, none⟩) HTO.out (.slice (some ⟨g', 0, none⟩) (k + 1) cap')); clear hown' hgrow hX5)
    refine hK.out _ _ ?_ (fun hHeld => ?_)
    ·((try dsimp only); (first | exact hHeld | exact KS.out _ HB1d.out | exact KS.out _ HB1a.out | exact KS.out _ HBG.out | exact KS.out _ HBF.out))
    clear hK K; try simp only [Act.put, lA, lB, lC]
    refine ti 20 (some 60) rfl rfl ?_; try simp only [Act.put, lA, lB, lC]
    refine tr [21] (.cons rfl (fun K hK => ?_) .nil)
    go_simp
    refine hK.out _ _ ?_ (fun hHeld => ?_)
    ·((try dsimp only); (first | exact hHeld | exact KS.out _ HB1d.out | exact KS.out _ HB1a.out | exact KS.out _ HBG.out | exact KS.out _ HBF.out))
    clear hK K; try simp only [Act.put, lA, lB, lC]
    refine wpAnyH_done ?_ ?_ _
    ·kernel_rfl
    rotate_left
    go_simp
    first | (go_at_call 9; (with_reducible refine (HM.out _ _).mono ?_); rintro e w' ⟨rfl, rfl⟩) | (go_at_call 9; (with_reducible refine (HM2.out _ _).mono ?_); rintro e w' ⟨rfl, rfl⟩) | (refine step_append_lies _ (by rfl) (.tmp 41) (.tmp 58) 22 (by rfl) w.heap.size 59 i0 _ 3 24 Tryz.underlying22 hi hz0 hz1 hz2 rfl (by decide) v k (flatE enc3 ((bs.take k).map (fixT M))) (by rfl) HO1a.out ⟨w1.heap.size, 0, none⟩ 1 1 [.int .i64 (sdT M qa), .int .i64 (sdT M qb), .int .i64 (modT qc 200)] (by rfl) rfl (World.news_of_block (heap_alloc_new _ _)) (enc3_one (sdT M qa, sdT M qb, modT qc 200)) (by decide) (by unfold maxLen; omega) (by omega) HX1a.out.gr.size _ rfl ?_; intro g' cap' w5 hown' hgrow _ _; have hX5 := HX1a.out.grown HO1a.out hgrow; have d8 := hX5.out.cell 2; have d9 := hX5.out.free 2; have HX7 := Lib.hid (hX5.set (.slice (some ⟨g', 0, none⟩) (k + 1) cap')); have HO7 := Lib.hid (ownsRow_setCell_other (a := ⟨O, 2, none⟩) hown' (fun e => hX5.out.apart hown' (by decide) e.symm) (.slice (some ⟨g', 0, none⟩) (k + 1) cap')); have HBG := Lib.hid (HB1a.out.grown hgrow (Ne.symm HNE.out)); have HBF := Lib.hid (HBG.out.other (p := ⟨O, 2, none⟩) HTO.out (.slice (some ⟨g', 0, none⟩) (k + 1) cap')); clear hown' hgrow hX5)
    refine hK.out _ _ ?_ (fun hHeld => ?_)
    ·((try dsimp only); (first | exact hHeld | exact KS.out _ HB1d.out | exact KS.out _ HB1a.out | exact KS.out _ HBG.out | exact KS.out _ HBF.out))
    clear hK K; try simp only [Act.put, lA, lB, lC]
    refine ti 7 (some 47) rfl rfl ?_; try simp only [Act.put, lA, lB, lC]
    refine tr [1, 12] (.cons rfl (fun K hK => ?_) (.cons rfl (fun K hK => ?_) .nil))
    go_simp
    refine hK.out _ _ ?_ (fun hHeld => ?_)
    ·((try dsimp only); (first | exact hHeld | exact KS.out _ HB1d.out | exact KS.out _ HB1a.out | exact KS.out _ HBG.out | exact KS.out _ HBF.out))
    clear hK K; try simp only [Act.put, lA, lB, lC]
    refine tr [12] (.cons rfl (fun K hK => ?_) .nil)
    go_simp
    first | (go_at_call 9; (with_reducible refine (HM.out _ _).mono ?_); rintro e w' ⟨rfl, rfl⟩) | (go_at_call 9; (with_reducible refine (HM2.out _ _).mono ?_); rintro e w' ⟨rfl, rfl⟩) | (refine step_append_lies _ (by rfl) (.tmp 41) (.tmp 58) 22 (by rfl) w.heap.size 59 i0 _ 3 24 Tryz.underlying22 hi hz0 hz1 hz2 rfl (by decide) v k (flatE enc3 ((bs.take k).map (fixT M))) (by rfl) HO1a.out ⟨w1.heap.size, 0, none⟩ 1 1 [.int .i64 (sdT M qa), .int .i64 (sdT M qb), .int .i64 (modT qc 200)] (by rfl) rfl (World.news_of_block (heap_alloc_new _ _)) (enc3_one (sdT M qa, sdT M qb, modT qc 200)) (by decide) (by unfold maxLen; omega) (by omega) HX1a.out.gr.size _ rfl ?_; intro g' cap' w5 hown' hgrow _ _; have hX5 := HX1a.out.grown HO1a.out hgrow; have d8 := hX5.out.cell 2; have d9 := hX5.out.free 2; have HX7 := Lib.hid (hX5.set (.slice (some ⟨g', 0, none⟩) (k + 1) cap')); have HO7 := Lib.hid (ownsRow_setCell_other (a := ⟨O, 2, none⟩) hown' (fun e => hX5.out.apart hown' (by decide) e.symm) (.slice (some ⟨g', 0, none⟩) (k + 1) cap')); have HBG := Lib.hid (HB1a.out.grown hgrow (Ne.symm HNE.out)); have HBF := Lib.hid (HBG.out.other (p := ⟨O, 2, none⟩) HTO.out (.slice (some ⟨g', 0, none⟩) (k + 1) cap')); clear hown' hgrow hX5)
    refine hK.out _ _ ?_ (fun hHeld => ?_)
    ·((try dsimp only); (first | exact hHeld | exact KS.out _ HB1d.out | exact KS.out _ HB1a.out | exact KS.out _ HBG.out | exact KS.out _ HBF.out))
    clear hK K; try simp only [Act.put, lA, lB, lC]
    refine ti 13 (some 53) rfl rfl ?_; try simp only [Act.put, lA, lB, lC]
    refine tr [16] (.cons rfl (fun K hK => ?_) .nil)
    go_simp
    first | (go_at_call 9; (with_reducible refine (HM.out _ _).mono ?_); rintro e w' ⟨rfl, rfl⟩) | (go_at_call 9; (with_reducible refine (HM2.out _ _).mono ?_); rintro e w' ⟨rfl, rfl⟩) | (refine step_append_lies _ (by rfl) (.tmp 41) (.tmp 58) 22 (by rfl) w.heap.size 59 i0 _ 3 24 Tryz.underlying22 hi hz0 hz1 hz2 rfl (by decide) v k (flatE enc3 ((bs.take k).map (fixT M))) (by rfl) HO1a.out ⟨w1.heap.size, 0, none⟩ 1 1 [.int .i64 (sdT M qa), .int .i64 (sdT M qb), .int .i64 (modT qc 200)] (by rfl) rfl (World.news_of_block (heap_alloc_new _ _)) (enc3_one (sdT M qa, sdT M qb, modT qc 200)) (by decide) (by unfold maxLen; omega) (by omega) HX1a.out.gr.size _ rfl ?_; intro g' cap' w5 hown' hgrow _ _; have hX5 := HX1a.out.grown HO1a.out hgrow; have d8 := hX5.out.cell 2; have d9 := hX5.out.free 2; have HX7 := Lib.hid (hX5.set (.slice (some ⟨g', 0, none⟩) (k + 1) cap')); have HO7 := Lib.hid (ownsRow_setCell_other (a := ⟨O, 2, none⟩) hown' (fun e => hX5.out.apart hown' (by decide) e.symm) (.slice (some ⟨g', 0, none⟩) (k + 1) cap')); have HBG := Lib.hid (HB1a.out.grown hgrow (Ne.symm HNE.out)); have HBF := Lib.hid (HBG.out.other (p := ⟨O, 2, none⟩) HTO.out (.slice (some ⟨g', 0, none⟩) (k + 1) cap')); clear hown' hgrow hX5)
    refine hK.out _ _ ?_ (fun hHeld => ?_)
    ·((try dsimp only); (first | exact hHeld | exact KS.out _ HB1d.out | exact KS.out _ HB1a.out | exact KS.out _ HBG.out | exact KS.out _ HBF.out))
    clear hK K; try simp only [Act.put, lA, lB, lC]
    refine ti 17 (some 57) rfl rfl ?_; try simp only [Act.put, lA, lB, lC]
    refine tr [18] (.cons rfl (fun K hK => ?_) .nil)
    go_simp
    refine hK.out _ _ ?_ (fun hHeld => ?_)
    ·((try dsimp only); (first | exact hHeld | exact KS.out _ HB1d.out | exact KS.out _ HB1a.out | exact KS.out _ HBG.out | exact KS.out _ HBF.out))
    clear hK K; try simp only [Act.put, lA, lB, lC]
    refine tr [19] (.cons rfl (fun K hK => ?_) .nil)
    first | (refine step_append_lies _ (by rfl) (.tmp 41) (.tmp 58) 22 (by rfl) w.heap.size 59 i0 _ 3 24 Tryz.underlying22 hi hz0 hz1 hz2 rfl (by decide) v k (flatE enc3 ((bs.take k).map (fixT M))) (by rfl) HO1a.out ⟨w1.heap.size, 0, none⟩ 1 1 [.int .i64 (sdT M qa), .int .i64 (sdT M qb), .int .i64 (modT qc 200)] (by rfl) rfl (World.news_of_block (heap_alloc_new _ _)) (enc3_one (sdT M qa, sdT M qb, modT qc 200)) (by decide) (by unfold maxLen; omega) (by omega) HX1a.out.gr.size _ rfl ?_; intro g' cap' w5 hown' hgrow _ _; have hX5 := HX1a.out.grown HO1a.out hgrow; have d8 := hX5.out.cell 2; have d9 := hX5.out.free 2; have HX7 := Lib.hid (hX5.set (.slice (some ⟨g', 0, none⟩) (k + 1) cap')); have HO7 := Lib.hid (ownsRow_setCell_other (a := ⟨O, 2, none⟩) hown' (fun e => hX5.out.apart hown' (by decide) e.symm) (.slice (some ⟨g', 0, none⟩) (k + 1) cap')); have HBG := Lib.hid (HB1a.out.grown hgrow (Ne.symm HNE.out)); have HBF := Lib.hid (HBG.out.other (p := ⟨O, 2, none⟩) HTO.out (.slice (some ⟨g', 0, none⟩) (k + 1) cap')); clear hown' hgrow hX5)
    refine hK.out _ _ ?_ (fun hHeld => ?_)
    ·((try dsimp only); (first | exact hHeld | exact KS.out _ HB1d.out | exact KS.out _ HB1a.out | exact KS.out _ HBG.out | exact KS.out _ HBF.out))
    clear hK K; try simp only [Act.put, lA, lB, lC]
    refine ti 20 (some 60) rfl rfl ?_; try simp only [Act.put, lA, lB, lC]
    refine tr [21] (.cons rfl (fun K hK => ?_) .nil)
    go_simp
    refine hK.out _ _ ?_ (fun hHeld => ?_)
    ·((try dsimp only); (first | exact hHeld | exact KS.out _ HB1d.out | exact KS.out _ HB1a.out | exact KS.out _ HBG.out | exact KS.out _ HBF.out))
    clear hK K; try simp only [Act.put, lA, lB, lC]
    refine wpAnyH_done ?_ ?_ _
    ·kernel_rfl
    rotate_left
    go_simp
    first | (go_at_call 9; (with_reducible refine (HM.out _ _).mono ?_); rintro e w' ⟨rfl, rfl⟩) | (go_at_call 9; (with_reducible refine (HM2.out _ _).mono ?_); rintro e w' ⟨rfl, rfl⟩) | (refine step_append_lies _ (by rfl) (.tmp 41) (.tmp 58) 22 (by rfl) w.heap.size 59 i0 _ 3 24 Tryz.underlying22 hi hz0 hz1 hz2 rfl (by decide) v k (flatE enc3 ((bs.take k).map (fixT M))) (by rfl) HO1a.out ⟨w1.heap.size, 0, none⟩ 1 1 [.int .i64 (sdT M qa), .int .i64 (sdT M qb), .int .i64 (modT qc 200)] (by rfl) rfl (World.news_of_block (heap_alloc_new _ _)) (enc3_one (sdT M qa, sdT M qb, modT qc 200)) (by decide) (by unfold maxLen; omega) (by omega) HX1a.out.gr.size _ rfl ?_; intro g' cap' w5 hown' hgrow _ _; have hX5 := HX1a.out.grown HO1a.out hgrow; have d8 := hX5.out.cell 2; have d9 := hX5.out.free 2; have HX7 := Lib.hid (hX5.set (.slice (some ⟨g', 0, none⟩) (k + 1) cap')); have HO7 := Lib.hid (ownsRow_setCell_other (a := ⟨O, 2, none⟩) hown' (fun e => hX5.out.apart hown' (by decide) e.symm) (.slice (some ⟨g', 0, none⟩) (k + 1) cap')); have HBG := Lib.hid (HB1a.out.grown hgrow (Ne.symm HNE.out)); have HBF := Lib.hid (HBG.out.other (p := ⟨O, 2, none⟩) HTO.out (.slice (some ⟨g', 0, none⟩) (k + 1) cap')); clear hown' hgrow hX5)
    refine hK.out _ _ ?_ (fun hHeld => ?_)
    ·((try dsimp only); (first | exact hHeld | exact KS.out _ HB1d.out | exact KS.out _ HB1a.out | exact KS.out _ HBG.out | exact KS.out _ HBF.out))
    clear hK K; try simp only [Act.put, lA, lB, lC]
    refine ti 13 (some 53) rfl rfl ?_; try simp only [Act.put, lA, lB, lC]
    refine tr [1, 16] (.cons rfl (fun K hK => ?_) (.cons rfl (fun K hK => ?_) .nil))
    go_simp
    refine hK.out _ _ ?_ (fun hHeld => ?_)
    ·((try dsimp only); (first | exact hHeld | exact KS.out _ HB1d.out | exact KS.out _ HB1a.out | exact KS.out _ HBG.out | exact KS.out _ HBF.out))
    clear hK K; try simp only [Act.put, lA, lB, lC]
    refine tr [16] (.cons rfl (fun K hK => ?_) .nil)
    go_simp
    first | (go_at_call 9; (with_reducible refine (HM.out _ _).mono ?_); rintro e w' ⟨rfl, rfl⟩) | (go_at_call 9; (with_reducible refine (HM2.out _ _).mono ?_); rintro e w' ⟨rfl, rfl⟩) | (refine step_append_lies _ (by rfl) (.tmp 41) (.tmp 58) 22 (by rfl) w.heap.size 59 i0 _ 3 24 Tryz.underlying22 hi hz0 hz1 hz2 rfl (by decide) v k (flatE enc3 ((bs.take k).map (fixT M))) (by rfl) HO1a.out ⟨w1.heap.size, 0, none⟩ 1 1 [.int .i64 (sdT M qa), .int .i64 (sdT M qb), .int .i64 (modT qc 200)] (by rfl) rfl (World.news_of_block (heap_alloc_new _ _)) (enc3_one (sdT M qa, sdT M qb, modT qc 200)) (by decide) (by unfold maxLen; omega) (by omega) HX1a.out.gr.size _ rfl ?_; intro g' cap' w5 hown' hgrow _ _; have hX5 := HX1a.out.grown HO1a.out hgrow; have d8 := hX5.out.cell 2; have d9 := hX5.out.free 2; have HX7 := Lib.hid (hX5.set (.slice (some ⟨g', 0, none⟩) (k + 1) cap')); have HO7 := Lib.hid (ownsRow_setCell_other (a := ⟨O, 2, none⟩) hown' (fun e => hX5.out.apart hown' (by decide) e.symm) (.slice (some ⟨g', 0, none⟩) (k + 1) cap')); have HBG := Lib.hid (HB1a.out.grown hgrow (Ne.symm HNE.out)); have HBF := Lib.hid (HBG.out.other (p := ⟨O, 2, none⟩) HTO.out (.slice (some ⟨g', 0, none⟩) (k + 1) cap')); clear hown' hgrow hX5)
    refine hK.out _ _ ?_ (fun hHeld => ?_)
    ·((try dsimp only); (first | exact hHeld | exact KS.out _ HB1d.out | exact KS.out _ HB1a.out | exact KS.out _ HBG.out | exact KS.out _ HBF.out))
    clear hK K; try simp only [Act.put, lA, lB, lC]
    refine ti 17 (some 57) rfl rfl ?_; try simp only [Act.put, lA, lB, lC]
    refine tr [18] (.cons rfl (fun K hK => ?_) .nil)
    go_simp
    refine hK.out _ _ ?_ (fun hHeld => ?_)
    ·((try dsimp only); (first | exact hHeld | exact KS.out _ HB1d.out | exact KS.out _ HB1a.out | exact KS.out _ HBG.out | exact KS.out _ HBF.out))
    clear hK K; try simp only [Act.put, lA, lB, lC]
    refine tr [19] (.cons rfl (fun K hK => ?_) .nil)
    first | (refine step_append_lies _ (by rfl) (.tmp 41) (.tmp 58) 22 (by rfl) w.heap.size 59 i0 _ 3 24 Tryz.underlying22 hi hz0 hz1 hz2 rfl (by decide) v k (flatE enc3 ((bs.take k).map (fixT M))) (by rfl) HO1a.out ⟨w1.heap.size, 0, none⟩ 1 1 [.int .i64 (sdT M qa), .int .i64 (sdT M qb), .int .i64 (modT qc 200)] (by rfl) rfl (World.news_of_block (heap_alloc_new _ _)) (enc3_one (sdT M qa, sdT M qb, modT qc 200)) (by decide) (by unfold maxLen; omega) (by omega) HX1a.out.gr.size _ rfl ?_; intro g' cap' w5 hown' hgrow _ _; have hX5 := HX1a.out.grown HO1a.out hgrow; have d8 := hX5.out.cell 2; have d9 := hX5.out.free 2; have HX7 := Lib.hid (hX5.set (.slice (some ⟨g', 0, none⟩) (k + 1) cap')); have HO7 := Lib.hid (ownsRow_setCell_other (a := ⟨O, 2, none⟩) hown' (fun e => hX5.out.apart hown' (by decide) e.symm) (.slice (some ⟨g', 0, none⟩) (k + 1) cap')); have HBG := Lib.hid (HB1a.out.grown hgrow (Ne.symm HNE.out)); have HBF := Lib.hid (HBG.out.other (p := ⟨O, 2, none⟩) HTO.out (.slice (some ⟨g', 0, none⟩) (k + 1) cap')); clear hown' hgrow hX5)
    refine hK.out _ _ ?_ (fun hHeld => ?_)
    ·((try dsimp only); (first | exact hHeld | exact KS.out _ HB1d.out | exact KS.out _ HB1a.out | exact KS.out _ HBG.out | exact KS.out _ HBF.out))
    clear hK K; try simp only [Act.put, lA, lB, lC]
    refine ti 20 (some 60) rfl rfl ?_; try simp only [Act.put, lA, lB, lC]
    refine tr [21] (.cons rfl (fun K hK => ?_) .nil)
    go_simp
    refine hK.out _ _ ?_ (fun hHeld => ?_)
    ·((try dsimp only); (first | exact hHeld | exact KS.out _ HB1d.out | exact KS.out _ HB1a.out | exact KS.out _ HBG.out | exact KS.out _ HBF.out))
    clear hK K; try simp only [Act.put, lA, lB, lC]
    refine wpAnyH_done ?_ ?_ _
    ·kernel_rfl
    rotate_left
    go_simp
    first | (go_at_call 9; (with_reducible refine (HM.out _ _).mono ?_); rintro e w' ⟨rfl, rfl⟩) | (go_at_call 9; (with_reducible refine (HM2.out _ _).mono ?_); rintro e w' ⟨rfl, rfl⟩) | (refine step_append_lies _ (by rfl) (.tmp 41) (.tmp 58) 22 (by rfl) w.heap.size 59 i0 _ 3 24 Tryz.underlying22 hi hz0 hz1 hz2 rfl (by decide) v k (flatE enc3 ((bs.take k).map (fixT M))) (by rfl) HO1a.out ⟨w1.heap.size, 0, none⟩ 1 1 [.int .i64 (sdT M qa), .int .i64 (sdT M qb), .int .i64 (modT qc 200)] (by rfl) rfl (World.news_of_block (heap_alloc_new _ _)) (enc3_one (sdT M qa, sdT M qb, modT qc 200)) (by decide) (by unfold maxLen; omega) (by omega) HX1a.out.gr.size _ rfl ?_; intro g' cap' w5 hown' hgrow _ _; have hX5 := HX1a.out.grown HO1a.out hgrow; have d8 := hX5.out.cell 2; have d9 := hX5.out.free 2; have HX7 := Lib.hid (hX5.set (.slice (some ⟨g', 0, none⟩) (k + 1) cap')); have HO7 := Lib.hid (ownsRow_setCell_other (a := ⟨O, 2, none⟩) hown' (fun e => hX5.out.apart hown' (by decide) e.symm) (.slice (some ⟨g', 0, none⟩) (k + 1) cap')); have HBG := Lib.hid (HB1a.out.grown hgrow (Ne.symm HNE.out)); have HBF := Lib.hid (HBG.out.other (p := ⟨O, 2, none⟩) HTO.out (.slice (some ⟨g', 0, none⟩) (k + 1) cap')); clear hown' hgrow hX5)
    refine hK.out _ _ ?_ (fun hHeld => ?_)
    ·((try dsimp only); (first | exact hHeld | exact KS.out _ HB1d.out | exact KS.out _ HB1a.out | exact KS.out _ HBG.out | exact KS.out _ HBF.out))
    clear hK K; try simp only [Act.put, lA, lB, lC]
    refine ti 17 (some 57) rfl rfl ?_; try simp only [Act.put, lA, lB, lC]
    refine tr [1, 18] (.cons rfl (fun K hK => ?_) (.cons rfl (fun K hK => ?_) .nil))
    go_simp
    refine hK.out _ _ ?_ (fun hHeld => ?_)
    ·((try dsimp only); (first | exact hHeld | exact KS.out _ HB1d.out | exact KS.out _ HB1a.out | exact KS.out _ HBG.out | exact KS.out _ HBF.out))
    clear hK K; try simp only [Act.put, lA, lB, lC]
    refine tr [18] (.cons rfl (fun K hK => ?_) .nil)
    go_simp
    refine hK.out _ _ ?_ (fun hHeld => ?_)
    ·((try dsimp only); (first | exact hHeld | exact KS.out _ HB1d.out | exact KS.out _ HB1a.out | exact KS.out _ HBG.out | exact KS.out _ HBF.out))
    clear hK K; try simp only [Act.put, lA, lB, lC]
    refine tr [19] (.cons rfl (fun K hK => ?_) .nil)
    first | (refine step_append_lies _ (by rfl) (.tmp 41) (.tmp 58) 22 (by rfl) w.heap.size 59 i0 _ 3 24 Tryz.underlying22 hi hz0 hz1 hz2 rfl (by decide) v k (flatE enc3 ((bs.take k).map (fixT M))) (by rfl) HO1a.out ⟨w1.heap.size, 0, none⟩ 1 1 [.int .i64 (sdT M qa), .int .i64 (sdT M qb), .int .i64 (modT qc 200)] (by rfl) rfl (World.news_of_block (heap_alloc_new _ _)) (enc3_one (sdT M qa, sdT M qb, modT qc 200)) (by decide) (by unfold maxLen; omega) (by omega) HX1a.out.gr.size _ rfl ?_; intro g' cap' w5 hown' hgrow _ _; have hX5 := HX1a.out.grown HO1a.out hgrow; have d8 := hX5.out.cell 2; have d9 := hX5.out.free 2; have HX7 := Lib.hid (hX5.set (.slice (some ⟨g', 0, none⟩) (k + 1) cap')); have HO7 := Lib.hid (ownsRow_setCell_other (a := ⟨O, 2, none⟩) hown' (fun e => hX5.out.apart hown' (by decide) e.symm) (.slice (some ⟨g', 0, none⟩) (k + 1) cap')); have HBG := Lib.hid (HB1a.out.grown hgrow (Ne.symm HNE.out)); have HBF := Lib.hid (HBG.out.other (p := ⟨O, 2, none⟩) HTO.out (.slice (some ⟨g', 0, none⟩) (k + 1) cap')); clear hown' hgrow hX5)
    refine hK.out _ _ ?_ (fun hHeld => ?_)
    ·((try dsimp only); (first | exact hHeld | exact KS.out _ HB1d.out | exact KS.out _ HB1a.out | exact KS.out _ HBG.out | exact KS.out _ HBF.out))
    clear hK K; try simp only [Act.put, lA, lB, lC]
    refine ti 20 (some 60) rfl rfl ?_; try simp only [Act.put, lA, lB, lC]
    refine tr [21] (.cons rfl (fun K hK => ?_) .nil)
    go_simp
    refine hK.out _ _ ?_ (fun hHeld => ?_)
    ·((try dsimp only); (first | exact hHeld | exact KS.out _ HB1d.out | exact KS.out _ HB1a.out | exact KS.out _ HBG.out | exact KS.out _ HBF.out))
    clear hK K; try simp only [Act.put, lA, lB, lC]
    refine wpAnyH_done ?_ ?_ _
    ·kernel_rfl
    rotate_left
    go_simp
    refine hK.out _ _ ?_ (fun hHeld => ?_)
    ·((try dsimp only); (first | exact hHeld | exact KS.out _ HB1d.out | exact KS.out _ HB1a.out | exact KS.out _ HBG.out | exact KS.out _ HBF.out))
    clear hK K; try simp only [Act.put, lA, lB, lC]
    refine tr [1] (.cons rfl (fun K hK => ?_) .nil)
    go_simp
    refine hK.out _ _ ?_ (fun hHeld => ?_)
    ·((try dsimp only); (first | exact hHeld | exact KS.out _ HB1d.out | exact KS.out _ HB1a.out | exact KS.out _ HBG.out | exact KS.out _ HBF.out))
    clear hK K; try simp only [Act.put, lA, lB, lC]
    refine tr [19] (.cons rfl (fun K hK => ?_) .nil)
    first | (refine step_append_lies _ (by rfl) (.tmp 41) (.tmp 58) 22 (by rfl) w.heap.size 59 i0 _ 3 24 Tryz.underlying22 hi hz0 hz1 hz2 rfl (by decide) v k (flatE enc3 ((bs.take k).map (fixT M))) (by rfl) HO1a.out ⟨w1.heap.size, 0, none⟩ 1 1 [.int .i64 (sdT M qa), .int .i64 (sdT M qb), .int .i64 (modT qc 200)] (by rfl) rfl (World.news_of_block (heap_alloc_new _ _)) (enc3_one (sdT M qa, sdT M qb, modT qc 200)) (by decide) (by unfold maxLen; omega) (by omega) HX1a.out.gr.size _ rfl ?_; intro g' cap' w5 hown' hgrow _ _; have hX5 := HX1a.out.grown HO1a.out hgrow; have d8 := hX5.out.cell 2; have d9 := hX5.out.free 2; have HX7 := Lib.hid (hX5.set (.slice (some ⟨g', 0, none⟩) (k + 1) cap')); have HO7 := Lib.hid (ownsRow_setCell_other (a := ⟨O, 2, none⟩) hown' (fun e => hX5.out.apart hown' (by decide) e.symm) (.slice (some ⟨g', 0, none⟩) (k + 1) cap')); have HBG := Lib.hid (HB1a.out.grown hgrow (Ne.symm HNE.out)); have HBF := Lib.hid (HBG.out.other (p := ⟨O, 2, none⟩) HTO.out (.slice (some ⟨g', 0, none⟩) (k + 1) cap')); clear hown' hgrow hX5)
    refine hK.out _ _ ?_ (fun hHeld => ?_)
    ·((try dsimp only); (first | exact hHeld | exact KS.out _ HB1d.out | exact KS.out _ HB1a.out | exact KS.out _ HBG.out | exact KS.out _ HBF.out))
    clear hK K; try simp only [Act.put, lA, lB, lC]
    refine ti 20 (some 60) rfl rfl ?_; try simp only [Act.put, lA, lB, lC]
    refine tr [21] (.cons rfl (fun K hK => ?_) .nil)
    go_simp
    refine hK.out _ _ ?_ (fun hHeld => ?_)
    ·((try dsimp only); (first | exact hHeld | exact KS.out _ HB1d.out | exact KS.out _ HB1a.out | exact KS.out _ HBG.out | exact KS.out _ HBF.out))
    clear hK K; try simp only [Act.put, lA, lB, lC]
    refine wpAnyH_done ?_ ?_ _
    ·kernel_rfl
    rotate_left
    all_goals
     clear hi hz0 hz1 hz2 c8 c9
     go_wp2_with fail
     go_roundw
     case rel => exact ⟨k + 1, _, by omega, by omega, by go_num, HX7, Lib.hid (by rw [HQ.out]; exact HO7.out)⟩
     case measure => simp [intOf]; omega
   ·have HL : Hid (bs.take k = bs.take K) := Lib.hid (by have := HN.out; by_cases e : k = K; (· rw [e]); (· rw [List.take_of_length_le (by omega), List.take_of_length_le (by omega)]))
    have hv : decide ((k : Int) < (n : Int)) = false ∨ (decide ((k : Int) < (n : Int)) = true ∧ decide ((k : Int) < (K : Int)) = false) := by
     by_cases e : k < n
     ·exact Or.inr ⟨decide_eq_true (by omega), decide_eq_false (by omega)⟩
     ·exact Or.inl (decide_eq_false (by omega))
    have hLn : ((bs.take k).map (fixT M)).length = k := by have := HN.out; simp; omega
    obtain ⟨A5, c5, rfl, g1, g2, g3⟩ := own_row enc3_len hLn hown.out
    have o0 := hX.out.out.cell 0
    have o1 := hX.out.out.cell 1
    have o2 := hX.out.out.cell 2
    have z0 := hX.out.res.free 0
    have z1 := hX.out.res.free 1
    have z2 := hX.out.res.free 2
    have y0 := hX.out.res.cell 0
    have y1 := hX.out.res.cell 1
    have y2 := hX.out.res.cell 2
    have hput := ((hX.out.res.put 0 (.int .i64 (sdT M W))).put 1 (.int .i64 (sdT M H))).put 2 (.slice A5 k c5)
    have hfin := ownsRow_setCell_other (a := ⟨U + 1, 2, none⟩) (ownsRow_setCell_other (a := ⟨U + 1, 1, none⟩) (ownsRow_setCell_other (a := ⟨U + 1, 0, none⟩) hown.out (fun e => hX.out.res.apart hown.out (by decide) e.symm) (.int .i64 (sdT M W))) (fun e => hX.out.res.apart hown.out (by decide) e.symm) (.int .i64 (sdT M H))) (fun e => hX.out.res.apart hown.out (by decide) e.symm) (.slice A5 k c5)
    have hgf := ((((Gb.of (Gr.refl wr) (U + 1)).put 0 (.int .i64 (sdT M W))).put 1 (.int .i64 (sdT M H))).put 2 (.slice A5 k c5)).gr hX.out.gr (by have := hX.out.le; omega)
    obtain ⟨A6, c6, e6, -, hrd, -⟩ := own_row enc3_len hLn hfin
    cases e6
    have HPOST : Hid (TaskPost (sdT M W) (sdT M H) ((bs.take K).map (fixT M)) w (.returned (.agg #[.int .i64 (sdT M W), .int .i64 (sdT M H), .slice A5 k c5])) (((wr.setCell ⟨U + 1, 0, none⟩ (.int .i64 (sdT M W))).setCell ⟨U + 1, 1, none⟩ (.int .i64 (sdT M H))).setCell ⟨U + 1, 2, none⟩ (.slice A5 k c5))) := Lib.hid (by unfold TaskPost; rw [← HL.out]; exact ⟨A5, c5, by rw [hLn], hrd, hgf⟩)
    have HPUT := Lib.hid (And.intro (hput.cell 0) (And.intro (hput.cell 1) (hput.cell 2)))
    clear hLn hfin hput hgf hrd hlt g1 g2 g3
    have hw : (¬ k < n ∧ decide ((k : Int) < (n : Int)) = false) ∨ ((k < n ∧ decide ((k : Int) < (n : Int)) = true) ∧ ¬ k < K ∧ decide ((k : Int) < (K : Int)) = false) := by
     rcases hv with d1 | ⟨d1, d2⟩
     ·exact Or.inl ⟨by have := of_decide_eq_false d1; omega, d1⟩
     ·exact Or.inr ⟨⟨by have := of_decide_eq_true d1; omega, d1⟩, by have := of_decide_eq_false d2; omega, d2⟩
    clear hv
    rcases hw with ⟨d1, d2⟩ | ⟨⟨d1, d2⟩, d3, d4⟩
    all_goals
     go_wp2_with fail
     obtain ⟨u0, u1, u2⟩ := HPUT.out
     simp at u0 u1 u2
     refine bodyPost_ret (v := .agg #[.int .i64 (sdT M W), .int .i64 (sdT M H), .slice A5 k c5]) ?_ ?_ ?_
     ·simp [results, Tryz.results5, go_sem, u0, u1, u2]
     ·rfl
     ·exact HPOST.out

end Go.Proofs.YtobcdkjomehdkaaGreat
