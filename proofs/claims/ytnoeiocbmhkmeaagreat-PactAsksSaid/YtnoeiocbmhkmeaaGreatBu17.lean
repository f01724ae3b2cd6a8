/- Layer 5: a letter handled: the other kinds, and all of them. -/
import Derived.Test.YtnoeiocbmhkmeaaGreatBu15
import Derived.Test.YtnoeiocbmhkmeaaGreatBu16
import Derived.Test.YtnoeiocbmhkmeaaGreatBu12
namespace Go.Proofs.YtnoeiocbmhkmeaaGreat
open Go.RowKit
set_option linter.unusedSimpArgs false
set_option maxRecDepth 100000
set_option maxHeartbeats 80000000

theorem handle_disagree {p : Nat} (m : Ml) (w : World) {R : Ending → World → Prop} (hk : m.2.2.1 = 3) (hR : ∀ e w', R e w' → ∃ v, e = .returned v)
 (HC : ∀ W, Gr w W → Calls Tryz.prog 84 #[.pointer (some ⟨p, 0, none⟩), .agg #[.int .i64 m.1, .int .i64 m.2.1, .int .i64 m.2.2.1, .int .i64 m.2.2.2.1, .int .i64 m.2.2.2.2]] W R) :
 Calls Tryz.prog 70 #[.pointer (some ⟨p, 0, none⟩), .agg #[.int .i64 m.1, .int .i64 m.2.1, .int .i64 m.2.2.1, .int .i64 m.2.2.2.1, .int .i64 m.2.2.2.2]] w R := by
 obtain ⟨f, t, kd, tx, n⟩ := m
 dsimp only at hk HC ⊢
 subst hk
 have HCC := Lib.hid HC
 have HRR := Lib.hid hR
 clear HC hR
 have hst := fun (w : World) (a : Addr) (m : Mode) => run_store Tryz.prog w a .nilFunc m rfl
 have hsf := fun (w : World) (a : Addr) (k : Nat) (m : Mode) => run_store Tryz.prog w a (.func (.func k) #[] #[]) m rfl
 go_enter Tryz.func70, Tryz.ntmps70
 go_upto_region 1 with fail
 go_wp2_with (simp only [hst, hsf, go_sem])
 clear hst hsf
 have hU : Blk (w.alloc (.cells #[.int .i64 f, .int .i64 t, .int .i64 3, .int .i64 tx, .int .i64 n] 59)) w.heap.size 59 #[.int .i64 f, .int .i64 t, .int .i64 3, .int .i64 tx, .int .i64 n] := Blk.new w _ _ rfl
 have hg1 := (Gr.refl w).alloc (.cells #[.int .i64 f, .int .i64 t, .int .i64 3, .int .i64 tx, .int .i64 n] 59)
 have hz1 : (w.alloc (.cells #[.int .i64 f, .int .i64 t, .int .i64 3, .int .i64 tx, .int .i64 n] 59)).heap.size = w.heap.size + 1 := by simp
 generalize w.alloc (.cells #[.int .i64 f, .int .i64 t, .int .i64 3, .int .i64 tx, .int .i64 n] 59) = w1 at hU hg1 hz1 ⊢
 rw [← hz1]
 clear hz1
 generalize hW2 : World.alloc w1 _ = w2
 have hg2 : Gr w1 w2 := by rw [← hW2]; exact (Gr.refl w1).alloc _
 have t1 : w2.drew.cell? ⟨w1.heap.size, 3, none⟩ = some (.func (.func 84) #[] #[]) := by rw [← hW2]; exact alloc_new rfl rfl
 have hdr := (Gr.refl w2).drew
 have hgd := hg1.trans (hg2.trans hdr)
 have hU2 := hU.keep (hg2.trans hdr)
 have b0 : w2.drew.cell? ⟨w.heap.size, 0, none⟩ = some (.int .i64 f) := hU2.cell 0
 have b1 : w2.drew.cell? ⟨w.heap.size, 1, none⟩ = some (.int .i64 t) := hU2.cell 1
 have b2 : w2.drew.cell? ⟨w.heap.size, 2, none⟩ = some (.int .i64 3) := hU2.cell 2
 have b3 : w2.drew.cell? ⟨w.heap.size, 3, none⟩ = some (.int .i64 tx) := hU2.cell 3
 have b4 : w2.drew.cell? ⟨w.heap.size, 4, none⟩ = some (.int .i64 n) := hU2.cell 4
 generalize w1.heap.size = T at t1 ⊢
 generalize w.heap.size = U at b0 b1 b2 b3 b4 ⊢
 clear hW2 hU hg1 hg2 hU2
 refine wp_region_held_drew (S := (fun _ => True)) ?_ ?_ (fun hHeld => ?_)
 ·kernel_rfl
 ·((try dsimp only); (try trivial))
 refine ti 0 (some 7) rfl rfl ?_; try simp only [Act.put, lA, lB, lC]
 refine ti 4 (some 11) rfl rfl ?_; try simp only [Act.put, lA, lB, lC]
 refine tr [1, 5] (.cons rfl (fun K hK => ?_) (.cons rfl (fun K hK => ?_) .nil))
 go_simp
 refine hK.out _ _ ?_ (fun hHeld => ?_)
 ·((try dsimp only); (try trivial))
 clear hK K; try simp only [Act.put, lA, lB, lC]
 refine ti 2 (some 9) rfl rfl ?_; try simp only [Act.put, lA, lB, lC]
 refine tr [3, 5] (.cons rfl (fun K hK => ?_) (.cons rfl (fun K hK => ?_) .nil))
 go_simp
 refine hK.out _ _ ?_ (fun hHeld => ?_)
 ·((try dsimp only); (try trivial))
 clear hK K; try simp only [Act.put, lA, lB, lC]
 refine tr [5] (.cons rfl (fun K hK => ?_) .nil)
 go_simp
 refine hK.out _ _ ?_ (fun hHeld => ?_)
 ·((try dsimp only); (try trivial))
 clear hK K; try simp only [Act.put, lA, lB, lC]
 refine tr [6] (.cons rfl (fun K hK => ?_) .nil)
 go_simp
 first | (go_at_call 84; (with_reducible refine (HCC.out _ hgd).mono ?_); intro e w3 hR3; obtain ⟨v, rfl⟩ := HRR.out _ _ hR3; have HR3 := Lib.hid hR3; clear hR3)
 refine hK.out _ _ ?_ (fun hHeld => ?_)
 ·((try dsimp only); (try trivial))
 clear hK K; try simp only [Act.put, lA, lB, lC]
 refine ti 7 (some 4) rfl rfl ?_; try simp only [Act.put, lA, lB, lC]
 refine wpAnyH_done ?_ ?_ _
 ·kernel_rfl
 rotate_left
 go_simp
 refine hK.out _ _ ?_ (fun hHeld => ?_)
 ·((try dsimp only); (try trivial))
 clear hK K; try simp only [Act.put, lA, lB, lC]
 refine tr [3] (.cons rfl (fun K hK => ?_) .nil)
 go_simp
 refine hK.out _ _ ?_ (fun hHeld => ?_)
 ·((try dsimp only); (try trivial))
 clear hK K; try simp only [Act.put, lA, lB, lC]
 refine tr [6] (.cons rfl (fun K hK => ?_) .nil)
 go_simp
 first | (go_at_call 84; (with_reducible refine (HCC.out _ hgd).mono ?_); intro e w3 hR3; obtain ⟨v, rfl⟩ := HRR.out _ _ hR3; have HR3 := Lib.hid hR3; clear hR3)
 refine hK.out _ _ ?_ (fun hHeld => ?_)
 ·((try dsimp only); (try trivial))
 clear hK K; try simp only [Act.put, lA, lB, lC]
 refine ti 7 (some 4) rfl rfl ?_; try simp only [Act.put, lA, lB, lC]
 refine wpAnyH_done ?_ ?_ _
 ·kernel_rfl
 rotate_left
 go_simp
 refine hK.out _ _ ?_ (fun hHeld => ?_)
 ·((try dsimp only); (try trivial))
 clear hK K; try simp only [Act.put, lA, lB, lC]
 refine tr [1] (.cons rfl (fun K hK => ?_) .nil)
 go_simp
 refine hK.out _ _ ?_ (fun hHeld => ?_)
 ·((try dsimp only); (try trivial))
 clear hK K; try simp only [Act.put, lA, lB, lC]
 refine ti 2 (some 9) rfl rfl ?_; try simp only [Act.put, lA, lB, lC]
 refine tr [3] (.cons rfl (fun K hK => ?_) .nil)
 go_simp
 refine hK.out _ _ ?_ (fun hHeld => ?_)
 ·((try dsimp only); (try trivial))
 clear hK K; try simp only [Act.put, lA, lB, lC]
 refine tr [6] (.cons rfl (fun K hK => ?_) .nil)
 go_simp
 first | (go_at_call 84; (with_reducible refine (HCC.out _ hgd).mono ?_); intro e w3 hR3; obtain ⟨v, rfl⟩ := HRR.out _ _ hR3; have HR3 := Lib.hid hR3; clear hR3)
 refine hK.out _ _ ?_ (fun hHeld => ?_)
 ·((try dsimp only); (try trivial))
 clear hK K; try simp only [Act.put, lA, lB, lC]
 refine ti 7 (some 4) rfl rfl ?_; try simp only [Act.put, lA, lB, lC]
 refine wpAnyH_done ?_ ?_ _
 ·kernel_rfl
 rotate_left
 all_goals
  clear hHeld t1 b0 b1 b2 b3 b4
  go_wp2_with fail
  exact HR3.out

theorem handle_abort {p : Nat} (m : Ml) (w : World) {R : Ending → World → Prop} (hk : m.2.2.1 = 5) (hR : ∀ e w', R e w' → ∃ v, e = .returned v)
 (HC : ∀ W, Gr w W → Calls Tryz.prog 86 #[.pointer (some ⟨p, 0, none⟩), .agg #[.int .i64 m.1, .int .i64 m.2.1, .int .i64 m.2.2.1, .int .i64 m.2.2.2.1, .int .i64 m.2.2.2.2]] W R) :
 Calls Tryz.prog 70 #[.pointer (some ⟨p, 0, none⟩), .agg #[.int .i64 m.1, .int .i64 m.2.1, .int .i64 m.2.2.1, .int .i64 m.2.2.2.1, .int .i64 m.2.2.2.2]] w R := by
 obtain ⟨f, t, kd, tx, n⟩ := m
 dsimp only at hk HC ⊢
 subst hk
 have HCC := Lib.hid HC
 have HRR := Lib.hid hR
 clear HC hR
 have hst := fun (w : World) (a : Addr) (m : Mode) => run_store Tryz.prog w a .nilFunc m rfl
 have hsf := fun (w : World) (a : Addr) (k : Nat) (m : Mode) => run_store Tryz.prog w a (.func (.func k) #[] #[]) m rfl
 go_enter Tryz.func70, Tryz.ntmps70
 go_upto_region 1 with fail
 go_wp2_with (simp only [hst, hsf, go_sem])
 clear hst hsf
 have hU : Blk (w.alloc (.cells #[.int .i64 f, .int .i64 t, .int .i64 5, .int .i64 tx, .int .i64 n] 59)) w.heap.size 59 #[.int .i64 f, .int .i64 t, .int .i64 5, .int .i64 tx, .int .i64 n] := Blk.new w _ _ rfl
 have hg1 := (Gr.refl w).alloc (.cells #[.int .i64 f, .int .i64 t, .int .i64 5, .int .i64 tx, .int .i64 n] 59)
 have hz1 : (w.alloc (.cells #[.int .i64 f, .int .i64 t, .int .i64 5, .int .i64 tx, .int .i64 n] 59)).heap.size = w.heap.size + 1 := by simp
 generalize w.alloc (.cells #[.int .i64 f, .int .i64 t, .int .i64 5, .int .i64 tx, .int .i64 n] 59) = w1 at hU hg1 hz1 ⊢
 rw [← hz1]
 clear hz1
 generalize hW2 : World.alloc w1 _ = w2
 have hg2 : Gr w1 w2 := by rw [← hW2]; exact (Gr.refl w1).alloc _
 have t1 : w2.drew.cell? ⟨w1.heap.size, 5, none⟩ = some (.func (.func 86) #[] #[]) := by rw [← hW2]; exact alloc_new rfl rfl
 have hdr := (Gr.refl w2).drew
 have hgd := hg1.trans (hg2.trans hdr)
 have hU2 := hU.keep (hg2.trans hdr)
 have b0 : w2.drew.cell? ⟨w.heap.size, 0, none⟩ = some (.int .i64 f) := hU2.cell 0
 have b1 : w2.drew.cell? ⟨w.heap.size, 1, none⟩ = some (.int .i64 t) := hU2.cell 1
 have b2 : w2.drew.cell? ⟨w.heap.size, 2, none⟩ = some (.int .i64 5) := hU2.cell 2
 have b3 : w2.drew.cell? ⟨w.heap.size, 3, none⟩ = some (.int .i64 tx) := hU2.cell 3
 have b4 : w2.drew.cell? ⟨w.heap.size, 4, none⟩ = some (.int .i64 n) := hU2.cell 4
 generalize w1.heap.size = T at t1 ⊢
 generalize w.heap.size = U at b0 b1 b2 b3 b4 ⊢
 clear hW2 hU hg1 hg2 hU2
 refine wp_region_held_drew (S := (fun _ => True)) ?_ ?_ (fun hHeld => ?_)
 ·kernel_rfl
 ·((try dsimp only); (try trivial))
 refine ti 0 (some 7) rfl rfl ?_; try simp only [Act.put, lA, lB, lC]
 refine ti 4 (some 11) rfl rfl ?_; try simp only [Act.put, lA, lB, lC]
 refine tr [1, 5] (.cons rfl (fun K hK => ?_) (.cons rfl (fun K hK => ?_) .nil))
 go_simp
 refine hK.out _ _ ?_ (fun hHeld => ?_)
 ·((try dsimp only); (try trivial))
 clear hK K; try simp only [Act.put, lA, lB, lC]
 refine ti 2 (some 9) rfl rfl ?_; try simp only [Act.put, lA, lB, lC]
 refine tr [3, 5] (.cons rfl (fun K hK => ?_) (.cons rfl (fun K hK => ?_) .nil))
 go_simp
 refine hK.out _ _ ?_ (fun hHeld => ?_)
 ·((try dsimp only); (try trivial))
 clear hK K; try simp only [Act.put, lA, lB, lC]
 refine tr [5] (.cons rfl (fun K hK => ?_) .nil)
 go_simp
 refine hK.out _ _ ?_ (fun hHeld => ?_)
 ·((try dsimp only); (try trivial))
 clear hK K; try simp only [Act.put, lA, lB, lC]
 refine tr [6] (.cons rfl (fun K hK => ?_) .nil)
 go_simp
 first | (go_at_call 86; (with_reducible refine (HCC.out _ hgd).mono ?_); intro e w3 hR3; obtain ⟨v, rfl⟩ := HRR.out _ _ hR3; have HR3 := Lib.hid hR3; clear hR3)
 refine hK.out _ _ ?_ (fun hHeld => ?_)
 ·((try dsimp only); (try trivial))
 clear hK K; try simp only [Act.put, lA, lB, lC]
 refine ti 7 (some 4) rfl rfl ?_; try simp only [Act.put, lA, lB, lC]
 refine wpAnyH_done ?_ ?_ _
 ·kernel_rfl
 rotate_left
 go_simp
 refine hK.out _ _ ?_ (fun hHeld => ?_)
 ·((try dsimp only); (try trivial))
 clear hK K; try simp only [Act.put, lA, lB, lC]
 refine tr [3] (.cons rfl (fun K hK => ?_) .nil)
 go_simp
 refine hK.out _ _ ?_ (fun hHeld => ?_)
 ·((try dsimp only); (try trivial))
 clear hK K; try simp only [Act.put, lA, lB, lC]
 refine tr [6] (.cons rfl (fun K hK => ?_) .nil)
 go_simp
 first | (go_at_call 86; (with_reducible refine (HCC.out _ hgd).mono ?_); intro e w3 hR3; obtain ⟨v, rfl⟩ := HRR.out _ _ hR3; have HR3 := Lib.hid hR3; clear hR3)
 refine hK.out _ _ ?_ (fun hHeld => ?_)
 ·((try dsimp only); (try trivial))
 clear hK K; try simp only [Act.put, lA, lB, lC]
 refine ti 7 (some 4) rfl rfl ?_; try simp only [Act.put, lA, lB, lC]
 refine wpAnyH_done ?_ ?_ _
 ·kernel_rfl
 rotate_left
 go_simp
 refine hK.out _ _ ?_ (fun hHeld => ?_)
 ·((try dsimp only); (try trivial))
 clear hK K; try simp only [Act.put, lA, lB, lC]
 refine tr [1] (.cons rfl (fun K hK => ?_) .nil)
 go_simp
 refine hK.out _ _ ?_ (fun hHeld => ?_)
 ·((try dsimp only); (try trivial))
 clear hK K; try simp only [Act.put, lA, lB, lC]
 refine ti 2 (some 9) rfl rfl ?_; try simp only [Act.put, lA, lB, lC]
 refine tr [3] (.cons rfl (fun K hK => ?_) .nil)
 go_simp
 refine hK.out _ _ ?_ (fun hHeld => ?_)
 ·((try dsimp only); (try trivial))
 clear hK K; try simp only [Act.put, lA, lB, lC]
 refine tr [6] (.cons rfl (fun K hK => ?_) .nil)
 go_simp
 first | (go_at_call 86; (with_reducible refine (HCC.out _ hgd).mono ?_); intro e w3 hR3; obtain ⟨v, rfl⟩ := HRR.out _ _ hR3; have HR3 := Lib.hid hR3; clear hR3)
 refine hK.out _ _ ?_ (fun hHeld => ?_)
 ·((try dsimp only); (try trivial))
 clear hK K; try simp only [Act.put, lA, lB, lC]
 refine ti 7 (some 4) rfl rfl ?_; try simp only [Act.put, lA, lB, lC]
 refine wpAnyH_done ?_ ?_ _
 ·kernel_rfl
 rotate_left
 all_goals
  clear hHeld t1 b0 b1 b2 b3 b4
  go_wp2_with fail
  exact HR3.out

theorem handle_tell {p : Nat} (m : Ml) (w : World) {R : Ending → World → Prop} (hk : m.2.2.1 = 7) (hR : ∀ e w', R e w' → ∃ v, e = .returned v)
 (HC : ∀ W, Gr w W → Calls Tryz.prog 88 #[.pointer (some ⟨p, 0, none⟩), .agg #[.int .i64 m.1, .int .i64 m.2.1, .int .i64 m.2.2.1, .int .i64 m.2.2.2.1, .int .i64 m.2.2.2.2]] W R) :
 Calls Tryz.prog 70 #[.pointer (some ⟨p, 0, none⟩), .agg #[.int .i64 m.1, .int .i64 m.2.1, .int .i64 m.2.2.1, .int .i64 m.2.2.2.1, .int .i64 m.2.2.2.2]] w R := by
 obtain ⟨f, t, kd, tx, n⟩ := m
 dsimp only at hk HC ⊢
 subst hk
 have HCC := Lib.hid HC
 have HRR := Lib.hid hR
 clear HC hR
 have hst := fun (w : World) (a : Addr) (m : Mode) => run_store Tryz.prog w a .nilFunc m rfl
 have hsf := fun (w : World) (a : Addr) (k : Nat) (m : Mode) => run_store Tryz.prog w a (.func (.func k) #[] #[]) m rfl
 go_enter Tryz.func70, Tryz.ntmps70
 go_upto_region 1 with fail
 go_wp2_with (simp only [hst, hsf, go_sem])
 clear hst hsf
 have hU : Blk (w.alloc (.cells #[.int .i64 f, .int .i64 t, .int .i64 7, .int .i64 tx, .int .i64 n] 59)) w.heap.size 59 #[.int .i64 f, .int .i64 t, .int .i64 7, .int .i64 tx, .int .i64 n] := Blk.new w _ _ rfl
 have hg1 := (Gr.refl w).alloc (.cells #[.int .i64 f, .int .i64 t, .int .i64 7, .int .i64 tx, .int .i64 n] 59)
 have hz1 : (w.alloc (.cells #[.int .i64 f, .int .i64 t, .int .i64 7, .int .i64 tx, .int .i64 n] 59)).heap.size = w.heap.size + 1 := by simp
 generalize w.alloc (.cells #[.int .i64 f, .int .i64 t, .int .i64 7, .int .i64 tx, .int .i64 n] 59) = w1 at hU hg1 hz1 ⊢
 rw [← hz1]
 clear hz1
 generalize hW2 : World.alloc w1 _ = w2
 have hg2 : Gr w1 w2 := by rw [← hW2]; exact (Gr.refl w1).alloc _
 have t1 : w2.drew.cell? ⟨w1.heap.size, 7, none⟩ = some (.func (.func 88) #[] #[]) := by rw [← hW2]; exact alloc_new rfl rfl
 have hdr := (Gr.refl w2).drew
 have hgd := hg1.trans (hg2.trans hdr)
 have hU2 := hU.keep (hg2.trans hdr)
 have b0 : w2.drew.cell? ⟨w.heap.size, 0, none⟩ = some (.int .i64 f) := hU2.cell 0
 have b1 : w2.drew.cell? ⟨w.heap.size, 1, none⟩ = some (.int .i64 t) := hU2.cell 1
 have b2 : w2.drew.cell? ⟨w.heap.size, 2, none⟩ = some (.int .i64 7) := hU2.cell 2
 have b3 : w2.drew.cell? ⟨w.heap.size, 3, none⟩ = some (.int .i64 tx) := hU2.cell 3
 have b4 : w2.drew.cell? ⟨w.heap.size, 4, none⟩ = some (.int .i64 n) := hU2.cell 4
 generalize w1.heap.size = T at t1 ⊢
 generalize w.heap.size = U at b0 b1 b2 b3 b4 ⊢
 clear hW2 hU hg1 hg2 hU2
 refine wp_region_held_drew (S := (fun _ => True)) ?_ ?_ (fun hHeld => ?_)
 ·kernel_rfl
 ·((try dsimp only); (try trivial))
 refine ti 0 (some 7) rfl rfl ?_; try simp only [Act.put, lA, lB, lC]
 refine ti 4 (some 11) rfl rfl ?_; try simp only [Act.put, lA, lB, lC]
 refine tr [1, 5] (.cons rfl (fun K hK => ?_) (.cons rfl (fun K hK => ?_) .nil))
 go_simp
 refine hK.out _ _ ?_ (fun hHeld => ?_)
 ·((try dsimp only); (try trivial))
 clear hK K; try simp only [Act.put, lA, lB, lC]
 refine ti 2 (some 9) rfl rfl ?_; try simp only [Act.put, lA, lB, lC]
 refine tr [3, 5] (.cons rfl (fun K hK => ?_) (.cons rfl (fun K hK => ?_) .nil))
 go_simp
 refine hK.out _ _ ?_ (fun hHeld => ?_)
 ·((try dsimp only); (try trivial))
 clear hK K; try simp only [Act.put, lA, lB, lC]
 refine tr [5] (.cons rfl (fun K hK => ?_) .nil)
 go_simp
 refine hK.out _ _ ?_ (fun hHeld => ?_)
 ·((try dsimp only); (try trivial))
 clear hK K; try simp only [Act.put, lA, lB, lC]
 refine tr [6] (.cons rfl (fun K hK => ?_) .nil)
 go_simp
 first | (go_at_call 88; (with_reducible refine (HCC.out _ hgd).mono ?_); intro e w3 hR3; obtain ⟨v, rfl⟩ := HRR.out _ _ hR3; have HR3 := Lib.hid hR3; clear hR3)
 refine hK.out _ _ ?_ (fun hHeld => ?_)
 ·((try dsimp only); (try trivial))
 clear hK K; try simp only [Act.put, lA, lB, lC]
 refine ti 7 (some 4) rfl rfl ?_; try simp only [Act.put, lA, lB, lC]
 refine wpAnyH_done ?_ ?_ _
 ·kernel_rfl
 rotate_left
 go_simp
 refine hK.out _ _ ?_ (fun hHeld => ?_)
 ·((try dsimp only); (try trivial))
 clear hK K; try simp only [Act.put, lA, lB, lC]
 refine tr [3] (.cons rfl (fun K hK => ?_) .nil)
 go_simp
 refine hK.out _ _ ?_ (fun hHeld => ?_)
 ·((try dsimp only); (try trivial))
 clear hK K; try simp only [Act.put, lA, lB, lC]
 refine tr [6] (.cons rfl (fun K hK => ?_) .nil)
 go_simp
 first | (go_at_call 88; (with_reducible refine (HCC.out _ hgd).mono ?_); intro e w3 hR3; obtain ⟨v, rfl⟩ := HRR.out _ _ hR3; have HR3 := Lib.hid hR3; clear hR3)
 refine hK.out _ _ ?_ (fun hHeld => ?_)
 ·((try dsimp only); (try trivial))
 clear hK K; try simp only [Act.put, lA, lB, lC]
 refine ti 7 (some 4) rfl rfl ?_; try simp only [Act.put, lA, lB, lC]
 refine wpAnyH_done ?_ ?_ _
 ·kernel_rfl
 rotate_left
 go_simp
 refine hK.out _ _ ?_ (fun hHeld => ?_)
 ·((try dsimp only); (try trivial))
 clear hK K; try simp only [Act.put, lA, lB, lC]
 refine tr [1] (.cons rfl (fun K hK => ?_) .nil)
 go_simp
 refine hK.out _ _ ?_ (fun hHeld => ?_)
 ·((try dsimp only); (try trivial))
 clear hK K; try simp only [Act.put, lA, lB, lC]
 refine ti 2 (some 9) rfl rfl ?_; try simp only [Act.put, lA, lB, lC]
 refine tr [3] (.cons rfl (fun K hK => ?_) .nil)
 go_simp
 refine hK.out _ _ ?_ (fun hHeld => ?_)
 ·((try dsimp only); (try trivial))
 clear hK K; try simp only [Act.put, lA, lB, lC]
 refine tr [6] (.cons rfl (fun K hK => ?_) .nil)
 go_simp
 first | (go_at_call 88; (with_reducible refine (HCC.out _ hgd).mono ?_); intro e w3 hR3; obtain ⟨v, rfl⟩ := HRR.out _ _ hR3; have HR3 := Lib.hid hR3; clear hR3)
 refine hK.out _ _ ?_ (fun hHeld => ?_)
 ·((try dsimp only); (try trivial))
 clear hK K; try simp only [Act.put, lA, lB, lC]
 refine ti 7 (some 4) rfl rfl ?_; try simp only [Act.put, lA, lB, lC]
 refine wpAnyH_done ?_ ?_ _
 ·kernel_rfl
 rotate_left
 all_goals
  clear hHeld t1 b0 b1 b2 b3 b4
  go_wp2_with fail
  exact HR3.out


theorem OkM.i64tx {q : Nat} {b : Int} {m : Ml} (h : OkM q b m) (hb : b ≤ 256) : I64 m.2.2.2.1 := by have := h.tx; unfold I64; omega
theorem OkM.i64fr {q : Nat} {b : Int} {m : Ml} (h : OkM q b m) (hq : q ≤ 8) : I64 m.1 := by have := h.fr; unfold I64; omega
theorem mput_at {β : Type} {l1 l2 : List (Int × β)} {a : Int} {x y : β} (hp : (l1 ++ (a, x) :: l2).Pairwise (fun p q => p.1 ≠ q.1)) : mput (l1 ++ (a, x) :: l2) a y = l1 ++ (a, y) :: l2 := by
 have h0 := List.pairwise_append.1 hp
 have hg : mget (l1 ++ (a, x) :: l2) a = some x := mget_of (p := (a, x)) hp (by simp)
 unfold mput
 rw [hg, if_pos (show (some x).isSome = true from rfl), List.map_append, List.map_cons]
 have e1 : l1.map (fun p => if p.1 = a then (a, y) else p) = l1 := by
  conv => rhs; rw [← List.map_id l1]
  apply List.map_congr_left
  intro p hp
  rw [if_neg (h0.2.2 p hp (a, x) List.mem_cons_self)]
  rfl
 have e2 : l2.map (fun p => if p.1 = a then (a, y) else p) = l2 := by
  conv => rhs; rw [← List.map_id l2]
  apply List.map_congr_left
  intro p hp
  rw [if_neg (fun e => (List.pairwise_cons.1 h0.2.1).1 p hp e.symm)]
  rfl
 rw [e1, e2, if_pos rfl]
theorem opn_of {s : Sx} {tx : Int} {d : Dl} {q : Nat} {b : Int} (h : OkS q b (nz s)) (hg : mget s.opn tx = some d) : OkD q d := by
 have h1 : mget (nz s).opn tx = some (dz d) := by show mget (dzs s.opn) tx = _; rw [mget_dz, hg]; rfl
 have h2 := deal_mem h.opn h1
 exact ⟨h2.lo, h2.hi, h2.part⟩
theorem handle_all {B : Nat} {s : Sx} {q : Nat} {b : Int} (m : Ml) (w : World) (h : Its B w (siteIt s)) (hs : OkS q b (nz s)) (hm : OkM q b m) (hq : q ≤ 8) (hb : b ≤ 256) :
 Calls Tryz.prog 70 #[.pointer (some ⟨s.p, 0, none⟩), .agg #[.int .i64 m.1, .int .i64 m.2.1, .int .i64 m.2.2.1, .int .i64 m.2.2.2.1, .int .i64 m.2.2.2.2]] w
  (fun e w' => ∃ s', nz s' = (han (nz s) m).1 ∧ StepP B w s s' (han (nz s) m).2 e w') := by
 have hret : ∀ e w', (∃ s', nz s' = (han (nz s) m).1 ∧ StepP B w s s' (han (nz s) m).2 e w') → ∃ v, e = .returned v := fun e w' ⟨s', _, hst⟩ => by
  obtain ⟨A, c, he, -⟩ := hst.let5
  exact ⟨_, he⟩
 have htx := hm.i64tx hb
 have hf := hm.i64fr hq
 have hk := hm.kind
 have lift : ∀ {W : World} {s' : Sx} {l : List Ml} {e : Ending} {w' : World}, Gr w W → nz s' = (han (nz s) m).1 → l = (han (nz s) m).2 → StepP B W s s' l e w' → ∃ s', nz s' = (han (nz s) m).1 ∧ StepP B w s s' (han (nz s) m).2 e w' := fun {W s' l e w'} hg h1 h2 h3 => by
  subst h2
  exact ⟨s', h1, h3.let5, h3.its, (Ch.of hg).trans h3.ch (fun _ hm => Or.inl hm), h3.p, fun g hg' => (h3.blk g hg').imp id (fun h => Nat.le_trans hg.size h)⟩
 rcases (by omega : m.2.2.1 = 1 ∨ m.2.2.1 = 2 ∨ m.2.2.1 = 3 ∨ m.2.2.1 = 4 ∨ m.2.2.1 = 5 ∨ m.2.2.1 = 6 ∨ m.2.2.1 = 7) with k | k | k | k | k | k | k
 ·refine handle_ask m w k hret (fun W hW => (ask_any m W (h.keep hW) htx hs.stock hm.n (hs.prB hb)).mono ?_)
  intro e w' hst
  refine lift hW ?_ ?_ hst
  ·rw [han_nz]; unfold han; rw [if_pos k]
  ·rw [han_nz]; unfold han; rw [if_pos k]
 ·refine handle_agree m w k hret (fun W hW => ?_)
  have hh : han (nz s) m = (nz (agrS s m.1 m.2.2.2.1), agrL s m) := by rw [han_nz]; unfold han; rw [if_neg (by omega), if_pos k]
  cases hg : mget s.opn m.2.2.2.1 with
  | none =>
    refine (agree_shut m W (h.keep hW) htx hf hg).mono ?_
    intro e w' hst
    refine lift hW ?_ ?_ hst
    ·rw [hh]; unfold agrS; rw [hg]
    ·rw [hh]
  | some d =>
    have hd := opn_of hs hg
    have hgn : mget s.grt m.2.2.2.1 = none := by
     have h1 := hs.apart (m.2.2.2.1, dz d) (mget_some (by show mget (dzs s.opn) _ = _; rw [mget_dz, hg]; rfl))
     have h2 : mget (dzs s.grt) m.2.2.2.1 = none := h1
     rw [mget_dz] at h2
     simpa using h2
    refine (agree_open m W (h.keep hW) htx hf hg hgn (by have := hd.hi; omega) hd.lo (fun p hp => by have := hd.part p hp; unfold I64; omega)).mono ?_
    rintro e w' ⟨l1, l2, ho, hst | hst⟩
    ·obtain ⟨hne, hst⟩ := hst
     have he : (mdel d.miss m.1).isEmpty = false := by cases hx : mdel d.miss m.1 <;> simp_all
     refine lift hW ?_ ?_ hst
     ·rw [hh]; unfold agrS; rw [hg]; dsimp only; rw [he, if_neg (by simp), ho, mput_at (by rw [← ho]; exact h.sOpn.apart)]
     ·rw [hh]; unfold agrL; rw [hg]; dsimp only; rw [he, if_neg (by simp)]
    ·obtain ⟨hne, d', hd1, hd2, hst⟩ := hst
     have he : (mdel d.miss m.1).isEmpty = true := by rw [hne]; rfl
     refine lift hW ?_ ?_ hst
     ·rw [hh]; unfold agrS; rw [hg]; dsimp only; rw [he, if_pos rfl, mput_new _ hgn]
      obtain ⟨l3, l4, ho2, hdel⟩ := mget_split h.sOpn.apart hg
      have e3 : mdel s.opn m.2.2.2.1 = l1 ++ l2 := by
       have hap := h.sOpn.apart
       rw [ho] at hap ⊢
       unfold mdel
       rw [List.filter_append, List.filter_cons_of_neg (by simp)]
       congr 1
       ·rw [List.filter_eq_self]
        intro p hp
        have := (List.pairwise_append.1 hap).2.2 p hp (m.2.2.2.1, d) List.mem_cons_self
        simpa using this
       ·rw [List.filter_eq_self]
        intro p hp
        have := (List.pairwise_cons.1 (List.pairwise_append.1 hap).2.1).1 p hp
        simpa using fun e => this e.symm
      rw [e3]
      unfold nz dzs
      dsimp only
      simp only [List.map_append]
      obtain ⟨dp, dm, db, dc, dg⟩ := d'
      dsimp only at hd1 hd2
      rw [hd1, hd2]
      rfl
     ·rw [hh]; unfold agrL; rw [hg]; dsimp only; rw [he, if_pos rfl]
 ·refine handle_disagree m w k hret (fun W hW => ?_)
  have hh : han (nz s) m = (nz (disS s m.2.2.2.1), disL s m.1 m.2.2.2.1) := by rw [han_nz]; unfold han; rw [if_neg (by omega), if_neg (by omega), if_pos k]
  cases hg : mget s.opn m.2.2.2.1 with
  | none =>
    refine (disagree_shut m W (h.keep hW) htx hg).mono ?_
    intro e w' hst
    refine lift hW ?_ ?_ hst
    ·rw [hh]; unfold disS; rw [hg]
    ·rw [hh]; unfold disL; rw [hg]
  | some d =>
    have hd := opn_of hs hg
    refine (disagree_open m W (h.keep hW) htx hg (by have := hd.hi; omega)).mono ?_
    intro e w' hst
    refine lift hW ?_ ?_ hst
    ·rw [hh]; unfold disS; rw [hg]
    ·rw [hh]; unfold disL; rw [hg]
 ·refine handle_commit m w k hret (fun W hW => (commit_any m W (h.keep hW) htx hs.stock (hs.prB hb)).mono ?_)
  intro e w' hst
  have hh : han (nz s) m = (nz (keepS s m.2.2.2.1), keepL s m) := by rw [han_nz]; unfold han; rw [if_neg (by omega), if_neg (by omega), if_neg (by omega), if_pos k]
  exact lift hW (by rw [hh]) (by rw [hh]) hst
 ·refine handle_abort m w k hret (fun W hW => (abort_any m W (h.keep hW) htx).mono ?_)
  intro e w' hst
  have hh : han (nz s) m = (nz (aboS s m.2.2.2.1), []) := by rw [han_nz]; unfold han; rw [if_neg (by omega), if_neg (by omega), if_neg (by omega), if_neg (by omega), if_pos k]
  exact lift hW (by rw [hh]) (by rw [hh]) hst
 ·refine handle_finish m w k hret (fun W hW => (finish_any m W (h.keep hW) htx hf).mono ?_)
  have hh : han (nz s) m = (nz (finS s m.1 m.2.2.2.1), []) := by rw [han_nz]; unfold han; rw [if_neg (by omega), if_neg (by omega), if_neg (by omega), if_neg (by omega), if_neg (by omega), if_pos k]
  rintro e w' (⟨hg, hst⟩ | ⟨d, l1, l2, hg, ho, hst⟩)
  ·refine lift hW ?_ ?_ hst
   ·rw [hh]; unfold finS; rw [hg]
   ·rw [hh]
  ·have hap := h.sGrt.apart
   have e3 : mdel s.grt m.2.2.2.1 = l1 ++ l2 := by
    rw [ho] at hap ⊢
    unfold mdel
    rw [List.filter_append, List.filter_cons_of_neg (by simp)]
    congr 1
    ·rw [List.filter_eq_self]
     intro p hp
     have := (List.pairwise_append.1 hap).2.2 p hp (m.2.2.2.1, d) List.mem_cons_self
     simpa using this
    ·rw [List.filter_eq_self]
     intro p hp
     have := (List.pairwise_cons.1 (List.pairwise_append.1 hap).2.1).1 p hp
     simpa using fun e => this e.symm
   rcases hst with ⟨hne, hst⟩ | ⟨hne, hst⟩
   ·have he : (mdel d.miss m.1).isEmpty = true := by rw [hne]; rfl
    refine lift hW ?_ ?_ hst
    ·rw [hh]; unfold finS; rw [hg]; dsimp only; rw [he, if_pos rfl, e3]
    ·rw [hh]
   ·have he : (mdel d.miss m.1).isEmpty = false := by cases hx : mdel d.miss m.1 <;> simp_all
    refine lift hW ?_ ?_ hst
    ·rw [hh]; unfold finS; rw [hg]; dsimp only; rw [he, if_neg (by simp), ho, mput_at (by rw [← ho]; exact hap)]
    ·rw [hh]
 ·refine handle_tell m w k hret (fun W hW => (tell_any m W (h.keep hW) htx).mono ?_)
  intro e w' hst
  have hh : han (nz s) m = (nz s, telL s m) := by rw [han_nz]; unfold han; rw [if_neg (by omega), if_neg (by omega), if_neg (by omega), if_neg (by omega), if_neg (by omega), if_neg (by omega)]
  exact lift hW (by rw [hh]) (by rw [hh]) hst

end Go.Proofs.YtnoeiocbmhkmeaaGreat
