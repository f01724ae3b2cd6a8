/- Layer 5: a letter handled: the four kinds that a transaction without trouble sends. -/
import Derived.Test.YtnoeiocbmhkmeaaGreatBu9
namespace Go.Proofs.YtnoeiocbmhkmeaaGreat
open Go.RowKit
set_option linter.unusedSimpArgs false
set_option maxRecDepth 100000
set_option maxHeartbeats 80000000

theorem handle_ask {p : Nat} (m : Ml) (w : World) {R : Ending → World → Prop} (hk : m.2.2.1 = 1) (hR : ∀ e w', R e w' → ∃ v, e = .returned v)
 (HC : ∀ W, Gr w W → Calls Tryz.prog 82 #[.pointer (some ⟨p, 0, none⟩), .agg #[.int .i64 m.1, .int .i64 m.2.1, .int .i64 m.2.2.1, .int .i64 m.2.2.2.1, .int .i64 m.2.2.2.2]] W R) :
 Calls Tryz.prog 70 #[.pointer (some ⟨p, 0, none⟩), .agg #[.int .i64 m.1, .int .i64 m.2.1, .int .i64 m.2.2.1, .int .i64 m.2.2.2.1, .int .i64 m.2.2.2.2]] w R := by
 obtain ⟨f, t, kd, tx, n⟩ := m
 dsimp only at hk HC ⊢
 subst hk
 have HCC := Lib.hid HC
 have HRR := Lib.hid hR
 clear HC hR
 have hst := fun (w : World) (a : Addr) (m : Mode) => run_store Tryz.prog w a .nilFunc m rfl
 have hsf := fun (w : World) (a : Addr) (k : Nat) (m : Mode) => run_store Tryz.prog w a (.func (.func k) #[] #[]) m rfl
 go_enter Tryz.func70, Tryz.ntmps70
 go_upto_region 1 with fail
 go_wp2_with (simp only [hst, hsf, go_sem])
 clear hst hsf
 have hU : Blk (w.alloc (.cells #[.int .i64 f, .int .i64 t, .int .i64 1, .int .i64 tx, .int .i64 n] 59)) w.heap.size 59 #[.int .i64 f, .int .i64 t, .int .i64 1, .int .i64 tx, .int .i64 n] := Blk.new w _ _ rfl
 have hg1 := (Gr.refl w).alloc (.cells #[.int .i64 f, .int .i64 t, .int .i64 1, .int .i64 tx, .int .i64 n] 59)
 have hz1 : (w.alloc (.cells #[.int .i64 f, .int .i64 t, .int .i64 1, .int .i64 tx, .int .i64 n] 59)).heap.size = w.heap.size + 1 := by simp
 generalize w.alloc (.cells #[.int .i64 f, .int .i64 t, .int .i64 1, .int .i64 tx, .int .i64 n] 59) = w1 at hU hg1 hz1 ⊢
 rw [← hz1]
 clear hz1
 generalize hW2 : World.alloc w1 _ = w2
 have hg2 : Gr w1 w2 := by rw [← hW2]; exact (Gr.refl w1).alloc _
 have t1 : w2.drew.cell? ⟨w1.heap.size, 1, none⟩ = some (.func (.func 82) #[] #[]) := by rw [← hW2]; exact alloc_new rfl rfl
 have hdr := (Gr.refl w2).drew
 have hgd := hg1.trans (hg2.trans hdr)
 have hU2 := hU.keep (hg2.trans hdr)
 have b0 : w2.drew.cell? ⟨w.heap.size, 0, none⟩ = some (.int .i64 f) := hU2.cell 0
 have b1 : w2.drew.cell? ⟨w.heap.size, 1, none⟩ = some (.int .i64 t) := hU2.cell 1
 have b2 : w2.drew.cell? ⟨w.heap.size, 2, none⟩ = some (.int .i64 1) := hU2.cell 2
 have b3 : w2.drew.cell? ⟨w.heap.size, 3, none⟩ = some (.int .i64 tx) := hU2.cell 3
 have b4 : w2.drew.cell? ⟨w.heap.size, 4, none⟩ = some (.int .i64 n) := hU2.cell 4
 generalize w1.heap.size = T at t1 ⊢
 generalize w.heap.size = U at b0 b1 b2 b3 b4 ⊢
 clear hW2 hU hg1 hg2 hU2
 refine wp_region_held_drew (S := (fun _ => True)) ?_ ?_ (fun hHeld => ?_)
 ·kernel_rfl
 ·((try dsimp only); (try trivial))
 refine ti 0 (some 7) rfl rfl ?_; try simp only [Act.put, lA, lB, lC]
 refine ti 4 (some 11) rfl rfl ?_; try simp only [Act.put, lA, lB, lC]
 refine tr [1, 5] (.cons rfl (fun K hK => ?_) (.cons rfl (fun K hK => ?_) .nil))
 go_simp
 refine hK.out _ _ ?_ (fun hHeld => ?_)
 ·((try dsimp only); (try trivial))
 clear hK K; try simp only [Act.put, lA, lB, lC]
 refine ti 2 (some 9) rfl rfl ?_; try simp only [Act.put, lA, lB, lC]
 refine tr [3, 5] (.cons rfl (fun K hK => ?_) (.cons rfl (fun K hK => ?_) .nil))
 go_simp
 refine hK.out _ _ ?_ (fun hHeld => ?_)
 ·((try dsimp only); (try trivial))
 clear hK K; try simp only [Act.put, lA, lB, lC]
 refine tr [5] (.cons rfl (fun K hK => ?_) .nil)
 go_simp
 refine hK.out _ _ ?_ (fun hHeld => ?_)
 ·((try dsimp only); (try trivial))
 clear hK K; try simp only [Act.put, lA, lB, lC]
 refine tr [6] (.cons rfl (fun K hK => ?_) .nil)
 go_simp
 first | (go_at_call 82; (with_reducible refine (HCC.out _ hgd).mono ?_); intro e w3 hR3; obtain ⟨v, rfl⟩ := HRR.out _ _ hR3; have HR3 := Lib.hid hR3; clear hR3)
 refine hK.out _ _ ?_ (fun hHeld => ?_)
 ·((try dsimp only); (try trivial))
 clear hK K; try simp only [Act.put, lA, lB, lC]
 refine ti 7 (some 4) rfl rfl ?_; try simp only [Act.put, lA, lB, lC]
 refine wpAnyH_done ?_ ?_ _
 ·kernel_rfl
 rotate_left
 go_simp
 refine hK.out _ _ ?_ (fun hHeld => ?_)
 ·((try dsimp only); (try trivial))
 clear hK K; try simp only [Act.put, lA, lB, lC]
 refine tr [3] (.cons rfl (fun K hK => ?_) .nil)
 go_simp
 refine hK.out _ _ ?_ (fun hHeld => ?_)
 ·((try dsimp only); (try trivial))
 clear hK K; try simp only [Act.put, lA, lB, lC]
 refine tr [6] (.cons rfl (fun K hK => ?_) .nil)
 go_simp
 first | (go_at_call 82; (with_reducible refine (HCC.out _ hgd).mono ?_); intro e w3 hR3; obtain ⟨v, rfl⟩ := HRR.out _ _ hR3; have HR3 := Lib.hid hR3; clear hR3)
 refine hK.out _ _ ?_ (fun hHeld => ?_)
 ·((try dsimp only); (try trivial))
 clear hK K; try simp only [Act.put, lA, lB, lC]
 refine ti 7 (some 4) rfl rfl ?_; try simp only [Act.put, lA, lB, lC]
 refine wpAnyH_done ?_ ?_ _
 ·kernel_rfl
 rotate_left
 go_simp
 refine hK.out _ _ ?_ (fun hHeld => ?_)
 ·((try dsimp only); (try trivial))
 clear hK K; try simp only [Act.put, lA, lB, lC]
 refine tr [1] (.cons rfl (fun K hK => ?_) .nil)
 go_simp
 refine hK.out _ _ ?_ (fun hHeld => ?_)
 ·((try dsimp only); (try trivial))
 clear hK K; try simp only [Act.put, lA, lB, lC]
 refine ti 2 (some 9) rfl rfl ?_; try simp only [Act.put, lA, lB, lC]
 refine tr [3] (.cons rfl (fun K hK => ?_) .nil)
 go_simp
 refine hK.out _ _ ?_ (fun hHeld => ?_)
 ·((try dsimp only); (try trivial))
 clear hK K; try simp only [Act.put, lA, lB, lC]
 refine tr [6] (.cons rfl (fun K hK => ?_) .nil)
 go_simp
 first | (go_at_call 82; (with_reducible refine (HCC.out _ hgd).mono ?_); intro e w3 hR3; obtain ⟨v, rfl⟩ := HRR.out _ _ hR3; have HR3 := Lib.hid hR3; clear hR3)
 refine hK.out _ _ ?_ (fun hHeld => ?_)
 ·((try dsimp only); (try trivial))
 clear hK K; try simp only [Act.put, lA, lB, lC]
 refine ti 7 (some 4) rfl rfl ?_; try simp only [Act.put, lA, lB, lC]
 refine wpAnyH_done ?_ ?_ _
 ·kernel_rfl
 rotate_left
 all_goals
  clear hHeld t1 b0 b1 b2 b3 b4
  go_wp2_with fail
  exact HR3.out

theorem handle_agree {p : Nat} (m : Ml) (w : World) {R : Ending → World → Prop} (hk : m.2.2.1 = 2) (hR : ∀ e w', R e w' → ∃ v, e = .returned v)
 (HC : ∀ W, Gr w W → Calls Tryz.prog 83 #[.pointer (some ⟨p, 0, none⟩), .agg #[.int .i64 m.1, .int .i64 m.2.1, .int .i64 m.2.2.1, .int .i64 m.2.2.2.1, .int .i64 m.2.2.2.2]] W R) :
 Calls Tryz.prog 70 #[.pointer (some ⟨p, 0, none⟩), .agg #[.int .i64 m.1, .int .i64 m.2.1, .int .i64 m.2.2.1, .int .i64 m.2.2.2.1, .int .i64 m.2.2.2.2]] w R := by
 obtain ⟨f, t, kd, tx, n⟩ := m
 dsimp only at hk HC ⊢
 subst hk
 have HCC := Lib.hid HC
 have HRR := Lib.hid hR
 clear HC hR
 have hst := fun (w : World) (a : Addr) (m : Mode) => run_store Tryz.prog w a .nilFunc m rfl
 have hsf := fun (w : World) (a : Addr) (k : Nat) (m : Mode) => run_store Tryz.prog w a (.func (.func k) #[] #[]) m rfl
 go_enter Tryz.func70, Tryz.ntmps70
 go_upto_region 1 with fail
 go_wp2_with (simp only [hst, hsf, go_sem])
 clear hst hsf
 have hU : Blk (w.alloc (.cells #[.int .i64 f, .int .i64 t, .int .i64 2, .int .i64 tx, .int .i64 n] 59)) w.heap.size 59 #[.int .i64 f, .int .i64 t, .int .i64 2, .int .i64 tx, .int .i64 n] := Blk.new w _ _ rfl
 have hg1 := (Gr.refl w).alloc (.cells #[.int .i64 f, .int .i64 t, .int .i64 2, .int .i64 tx, .int .i64 n] 59)
 have hz1 : (w.alloc (.cells #[.int .i64 f, .int .i64 t, .int .i64 2, .int .i64 tx, .int .i64 n] 59)).heap.size = w.heap.size + 1 := by simp
 generalize w.alloc (.cells #[.int .i64 f, .int .i64 t, .int .i64 2, .int .i64 tx, .int .i64 n] 59) = w1 at hU hg1 hz1 ⊢
 rw [← hz1]
 clear hz1
 generalize hW2 : World.alloc w1 _ = w2
 have hg2 : Gr w1 w2 := by rw [← hW2]; exact (Gr.refl w1).alloc _
 have t1 : w2.drew.cell? ⟨w1.heap.size, 2, none⟩ = some (.func (.func 83) #[] #[]) := by rw [← hW2]; exact alloc_new rfl rfl
 have hdr := (Gr.refl w2).drew
 have hgd := hg1.trans (hg2.trans hdr)
 have hU2 := hU.keep (hg2.trans hdr)
 have b0 : w2.drew.cell? ⟨w.heap.size, 0, none⟩ = some (.int .i64 f) := hU2.cell 0
 have b1 : w2.drew.cell? ⟨w.heap.size, 1, none⟩ = some (.int .i64 t) := hU2.cell 1
 have b2 : w2.drew.cell? ⟨w.heap.size, 2, none⟩ = some (.int .i64 2) := hU2.cell 2
 have b3 : w2.drew.cell? ⟨w.heap.size, 3, none⟩ = some (.int .i64 tx) := hU2.cell 3
 have b4 : w2.drew.cell? ⟨w.heap.size, 4, none⟩ = some (.int .i64 n) := hU2.cell 4
 generalize w1.heap.size = T at t1 ⊢
 generalize w.heap.size = U at b0 b1 b2 b3 b4 ⊢
 clear hW2 hU hg1 hg2 hU2
 refine wp_region_held_drew (S := (fun _ => True)) ?_ ?_ (fun hHeld => ?_)
 ·kernel_rfl
 ·((try dsimp only); (try trivial))
 refine ti 0 (some 7) rfl rfl ?_; try simp only [Act.put, lA, lB, lC]
 refine ti 4 (some 11) rfl rfl ?_; try simp only [Act.put, lA, lB, lC]
 refine tr [1, 5] (.cons rfl (fun K hK => ?_) (.cons rfl (fun K hK => ?_) .nil))
 go_simp
 refine hK.out _ _ ?_ (fun hHeld => ?_)
 ·((try dsimp only); (try trivial))
 clear hK K; try simp only [Act.put, lA, lB, lC]
 refine ti 2 (some 9) rfl rfl ?_; try simp only [Act.put, lA, lB, lC]
 refine tr [3, 5] (.cons rfl (fun K hK => ?_) (.cons rfl (fun K hK => ?_) .nil))
 go_simp
 refine hK.out _ _ ?_ (fun hHeld => ?_)
 ·((try dsimp only); (try trivial))
 clear hK K; try simp only [Act.put, lA, lB, lC]
 refine tr [5] (.cons rfl (fun K hK => ?_) .nil)
 go_simp
 refine hK.out _ _ ?_ (fun hHeld => ?_)
 ·((try dsimp only); (try trivial))
 clear hK K; try simp only [Act.put, lA, lB, lC]
 refine tr [6] (.cons rfl (fun K hK => ?_) .nil)
 go_simp
 first | (go_at_call 83; (with_reducible refine (HCC.out _ hgd).mono ?_); intro e w3 hR3; obtain ⟨v, rfl⟩ := HRR.out _ _ hR3; have HR3 := Lib.hid hR3; clear hR3)
 refine hK.out _ _ ?_ (fun hHeld => ?_)
 ·((try dsimp only); (try trivial))
 clear hK K; try simp only [Act.put, lA, lB, lC]
 refine ti 7 (some 4) rfl rfl ?_; try simp only [Act.put, lA, lB, lC]
 refine wpAnyH_done ?_ ?_ _
 ·kernel_rfl
 rotate_left
 go_simp
 refine hK.out _ _ ?_ (fun hHeld => ?_)
 ·((try dsimp only); (try trivial))
 clear hK K; try simp only [Act.put, lA, lB, lC]
 refine tr [3] (.cons rfl (fun K hK => ?_) .nil)
 go_simp
 refine hK.out _ _ ?_ (fun hHeld => ?_)
 ·((try dsimp only); (try trivial))
 clear hK K; try simp only [Act.put, lA, lB, lC]
 refine tr [6] (.cons rfl (fun K hK => ?_) .nil)
 go_simp
 first | (go_at_call 83; (with_reducible refine (HCC.out _ hgd).mono ?_); intro e w3 hR3; obtain ⟨v, rfl⟩ := HRR.out _ _ hR3; have HR3 := Lib.hid hR3; clear hR3)
 refine hK.out _ _ ?_ (fun hHeld => ?_)
 ·((try dsimp only); (try trivial))
 clear hK K; try simp only [Act.put, lA, lB, lC]
 refine ti 7 (some 4) rfl rfl ?_; try simp only [Act.put, lA, lB, lC]
 refine wpAnyH_done ?_ ?_ _
 ·kernel_rfl
 rotate_left
 go_simp
 refine hK.out _ _ ?_ (fun hHeld => ?_)
 ·((try dsimp only); (try trivial))
 clear hK K; try simp only [Act.put, lA, lB, lC]
 refine tr [1] (.cons rfl (fun K hK => ?_) .nil)
 go_simp
 refine hK.out _ _ ?_ (fun hHeld => ?_)
 ·((try dsimp only); (try trivial))
 clear hK K; try simp only [Act.put, lA, lB, lC]
 refine ti 2 (some 9) rfl rfl ?_; try simp only [Act.put, lA, lB, lC]
 refine tr [3] (.cons rfl (fun K hK => ?_) .nil)
 go_simp
 refine hK.out _ _ ?_ (fun hHeld => ?_)
 ·((try dsimp only); (try trivial))
 clear hK K; try simp only [Act.put, lA, lB, lC]
 refine tr [6] (.cons rfl (fun K hK => ?_) .nil)
 go_simp
 first | (go_at_call 83; (with_reducible refine (HCC.out _ hgd).mono ?_); intro e w3 hR3; obtain ⟨v, rfl⟩ := HRR.out _ _ hR3; have HR3 := Lib.hid hR3; clear hR3)
 refine hK.out _ _ ?_ (fun hHeld => ?_)
 ·((try dsimp only); (try trivial))
 clear hK K; try simp only [Act.put, lA, lB, lC]
 refine ti 7 (some 4) rfl rfl ?_; try simp only [Act.put, lA, lB, lC]
 refine wpAnyH_done ?_ ?_ _
 ·kernel_rfl
 rotate_left
 all_goals
  clear hHeld t1 b0 b1 b2 b3 b4
  go_wp2_with fail
  exact HR3.out

theorem handle_commit {p : Nat} (m : Ml) (w : World) {R : Ending → World → Prop} (hk : m.2.2.1 = 4) (hR : ∀ e w', R e w' → ∃ v, e = .returned v)
 (HC : ∀ W, Gr w W → Calls Tryz.prog 85 #[.pointer (some ⟨p, 0, none⟩), .agg #[.int .i64 m.1, .int .i64 m.2.1, .int .i64 m.2.2.1, .int .i64 m.2.2.2.1, .int .i64 m.2.2.2.2]] W R) :
 Calls Tryz.prog 70 #[.pointer (some ⟨p, 0, none⟩), .agg #[.int .i64 m.1, .int .i64 m.2.1, .int .i64 m.2.2.1, .int .i64 m.2.2.2.1, .int .i64 m.2.2.2.2]] w R := by
 obtain ⟨f, t, kd, tx, n⟩ := m
 dsimp only at hk HC ⊢
 subst hk
 have HCC := Lib.hid HC
 have HRR := Lib.hid hR
 clear HC hR
 have hst := fun (w : World) (a : Addr) (m : Mode) => run_store Tryz.prog w a .nilFunc m rfl
 have hsf := fun (w : World) (a : Addr) (k : Nat) (m : Mode) => run_store Tryz.prog w a (.func (.func k) #[] #[]) m rfl
 go_enter Tryz.func70, Tryz.ntmps70
 go_upto_region 1 with fail
 go_wp2_with (simp only [hst, hsf, go_sem])
 clear hst hsf
 have hU : Blk (w.alloc (.cells #[.int .i64 f, .int .i64 t, .int .i64 4, .int .i64 tx, .int .i64 n] 59)) w.heap.size 59 #[.int .i64 f, .int .i64 t, .int .i64 4, .int .i64 tx, .int .i64 n] := Blk.new w _ _ rfl
 have hg1 := (Gr.refl w).alloc (.cells #[.int .i64 f, .int .i64 t, .int .i64 4, .int .i64 tx, .int .i64 n] 59)
 have hz1 : (w.alloc (.cells #[.int .i64 f, .int .i64 t, .int .i64 4, .int .i64 tx, .int .i64 n] 59)).heap.size = w.heap.size + 1 := by simp
 generalize w.alloc (.cells #[.int .i64 f, .int .i64 t, .int .i64 4, .int .i64 tx, .int .i64 n] 59) = w1 at hU hg1 hz1 ⊢
 rw [← hz1]
 clear hz1
 generalize hW2 : World.alloc w1 _ = w2
 have hg2 : Gr w1 w2 := by rw [← hW2]; exact (Gr.refl w1).alloc _
 have t1 : w2.drew.cell? ⟨w1.heap.size, 4, none⟩ = some (.func (.func 85) #[] #[]) := by rw [← hW2]; exact alloc_new rfl rfl
 have hdr := (Gr.refl w2).drew
 have hgd := hg1.trans (hg2.trans hdr)
 have hU2 := hU.keep (hg2.trans hdr)
 have b0 : w2.drew.cell? ⟨w.heap.size, 0, none⟩ = some (.int .i64 f) := hU2.cell 0
 have b1 : w2.drew.cell? ⟨w.heap.size, 1, none⟩ = some (.int .i64 t) := hU2.cell 1
 have b2 : w2.drew.cell? ⟨w.heap.size, 2, none⟩ = some (.int .i64 4) := hU2.cell 2
 have b3 : w2.drew.cell? ⟨w.heap.size, 3, none⟩ = some (.int .i64 tx) := hU2.cell 3
 have b4 : w2.drew.cell? ⟨w.heap.size, 4, none⟩ = some (.int .i64 n) := hU2.cell 4
 generalize w1.heap.size = T at t1 ⊢
 generalize w.heap.size = U at b0 b1 b2 b3 b4 ⊢
 clear hW2 hU hg1 hg2 hU2
 refine wp_region_held_drew (S := (fun _ => True)) ?_ ?_ (fun hHeld => ?_)
 ·kernel_rfl
 ·((try dsimp only); (try trivial))
 refine ti 0 (some 7) rfl rfl ?_; try simp only [Act.put, lA, lB, lC]
 refine ti 4 (some 11) rfl rfl ?_; try simp only [Act.put, lA, lB, lC]
 refine tr [1, 5] (.cons rfl (fun K hK => ?_) (.cons rfl (fun K hK => ?_) .nil))
 go_simp
 refine hK.out _ _ ?_ (fun hHeld => ?_)
 ·((try dsimp only); (try trivial))
 clear hK K; try simp only [Act.put, lA, lB, lC]
 refine ti 2 (some 9) rfl rfl ?_; try simp only [Act.put, lA, lB, lC]
 refine tr [3, 5] (.cons rfl (fun K hK => ?_) (.cons rfl (fun K hK => ?_) .nil))
 go_simp
 refine hK.out _ _ ?_ (fun hHeld => ?_)
 ·((try dsimp only); (try trivial))
 clear hK K; try simp only [Act.put, lA, lB, lC]
 refine tr [5] (.cons rfl (fun K hK => ?_) .nil)
 go_simp
 refine hK.out _ _ ?_ (fun hHeld => ?_)
 ·((try dsimp only); (try trivial))
 clear hK K; try simp only [Act.put, lA, lB, lC]
 refine tr [6] (.cons rfl (fun K hK => ?_) .nil)
 go_simp
 first | (go_at_call 85; (with_reducible refine (HCC.out _ hgd).mono ?_); intro e w3 hR3; obtain ⟨v, rfl⟩ := HRR.out _ _ hR3; have HR3 := Lib.hid hR3; clear hR3)
 refine hK.out _ _ ?_ (fun hHeld => ?_)
 ·((try dsimp only); (try trivial))
 clear hK K; try simp only [Act.put, lA, lB, lC]
 refine ti 7 (some 4) rfl rfl ?_; try simp only [Act.put, lA, lB, lC]
 refine wpAnyH_done ?_ ?_ _
 ·kernel_rfl
 rotate_left
 go_simp
 refine hK.out _ _ ?_ (fun hHeld => ?_)
 ·((try dsimp only); (try trivial))
 clear hK K; try simp only [Act.put, lA, lB, lC]
 refine tr [3] (.cons rfl (fun K hK => ?_) .nil)
 go_simp
 refine hK.out _ _ ?_ (fun hHeld => ?_)
 ·((try dsimp only); (try trivial))
 clear hK K; try simp only [Act.put, lA, lB, lC]
 refine tr [6] (.cons rfl (fun K hK => ?_) .nil)
 go_simp
 first | (go_at_call 85; (with_reducible refine (HCC.out _ hgd).mono ?_); intro e w3 hR3; obtain ⟨v, rfl⟩ := HRR.out _ _ hR3; have HR3 := Lib.hid hR3; clear hR3)
 refine hK.out _ _ ?_ (fun hHeld => ?_)
 ·((try dsimp only); (try trivial))
 clear hK K; try simp only [Act.put, lA, lB, lC]
 refine ti 7 (some 4) rfl rfl ?_; try simp only [Act.put, lA, lB, lC]
 refine wpAnyH_done ?_ ?_ _
 ·kernel_rfl
 rotate_left
 go_simp
 refine hK.out _ _ ?_ (fun hHeld => ?_)
 ·((try dsimp only); (try trivial))
 clear hK K; try simp only [Act.put, lA, lB, lC]
 refine tr [1] (.cons rfl (fun K hK => ?_) .nil)
 go_simp
 refine hK.out _ _ ?_ (fun hHeld => ?_)
 ·((try dsimp only); (try trivial))
 clear hK K; try simp only [Act.put, lA, lB, lC]
 refine ti 2 (some 9) rfl rfl ?_; try simp only [Act.put, lA, lB, lC]
 refine tr [3] (.cons rfl (fun K hK => ?_) .nil)
 go_simp
 refine hK.out _ _ ?_ (fun hHeld => ?_)
 ·((try dsimp only); (try trivial))
 clear hK K; try simp only [Act.put, lA, lB, lC]
 refine tr [6] (.cons rfl (fun K hK => ?_) .nil)
 go_simp
 first | (go_at_call 85; (with_reducible refine (HCC.out _ hgd).mono ?_); intro e w3 hR3; obtain ⟨v, rfl⟩ := HRR.out _ _ hR3; have HR3 := Lib.hid hR3; clear hR3)
 refine hK.out _ _ ?_ (fun hHeld => ?_)
 ·((try dsimp only); (try trivial))
 clear hK K; try simp only [Act.put, lA, lB, lC]
 refine ti 7 (some 4) rfl rfl ?_; try simp only [Act.put, lA, lB, lC]
 refine wpAnyH_done ?_ ?_ _
 ·kernel_rfl
 rotate_left
 all_goals
  clear hHeld t1 b0 b1 b2 b3 b4
  go_wp2_with fail
  exact HR3.out

theorem handle_finish {p : Nat} (m : Ml) (w : World) {R : Ending → World → Prop} (hk : m.2.2.1 = 6) (hR : ∀ e w', R e w' → ∃ v, e = .returned v)
 (HC : ∀ W, Gr w W → Calls Tryz.prog 87 #[.pointer (some ⟨p, 0, none⟩), .agg #[.int .i64 m.1, .int .i64 m.2.1, .int .i64 m.2.2.1, .int .i64 m.2.2.2.1, .int .i64 m.2.2.2.2]] W R) :
 Calls Tryz.prog 70 #[.pointer (some ⟨p, 0, none⟩), .agg #[.int .i64 m.1, .int .i64 m.2.1, .int .i64 m.2.2.1, .int .i64 m.2.2.2.1, .int .i64 m.2.2.2.2]] w R := by
 obtain ⟨f, t, kd, tx, n⟩ := m
 dsimp only at hk HC ⊢
 subst hk
 have HCC := Lib.hid HC
 have HRR := Lib.hid hR
 clear HC hR
 have hst := fun (w : World) (a : Addr) (m : Mode) => run_store Tryz.prog w a .nilFunc m rfl
 have hsf := fun (w : World) (a : Addr) (k : Nat) (m : Mode) => run_store Tryz.prog w a (.func (.func k) #[] #[]) m rfl
 go_enter Tryz.func70, Tryz.ntmps70
 go_upto_region 1 with fail
 go_wp2_with (simp only [hst, hsf, go_sem])
 clear hst hsf
 have hU : Blk (w.alloc (.cells #[.int .i64 f, .int .i64 t, .int .i64 6, .int .i64 tx, .int .i64 n] 59)) w.heap.size 59 #[.int .i64 f, .int .i64 t, .int .i64 6, .int .i64 tx, .int .i64 n] := Blk.new w _ _ rfl
 have hg1 := (Gr.refl w).alloc (.cells #[.int .i64 f, .int .i64 t, .int .i64 6, .int .i64 tx, .int .i64 n] 59)
 have hz1 : (w.alloc (.cells #[.int .i64 f, .int .i64 t, .int .i64 6, .int .i64 tx, .int .i64 n] 59)).heap.size = w.heap.size + 1 := by simp
 generalize w.alloc (.cells #[.int .i64 f, .int .i64 t, .int .i64 6, .int .i64 tx, .int .i64 n] 59) = w1 at hU hg1 hz1 ⊢
 rw [← hz1]
 clear hz1
 generalize hW2 : World.alloc w1 _ = w2
 have hg2 : Gr w1 w2 := by rw [← hW2]; exact (Gr.refl w1).alloc _
 have t1 : w2.drew.cell? ⟨w1.heap.size, 6, none⟩ = some (.func (.func 87) #[] #[]) := by rw [← hW2]; exact alloc_new rfl rfl
 have hdr := (Gr.refl w2).drew
 have hgd := hg1.trans (hg2.trans hdr)
 have hU2 := hU.keep (hg2.trans hdr)
 have b0 : w2.drew.cell? ⟨w.heap.size, 0, none⟩ = some (.int .i64 f) := hU2.cell 0
 have b1 : w2.drew.cell? ⟨w.heap.size, 1, none⟩ = some (.int .i64 t) := hU2.cell 1
 have b2 : w2.drew.cell? ⟨w.heap.size, 2, none⟩ = some (.int .i64 6) := hU2.cell 2
 have b3 : w2.drew.cell? ⟨w.heap.size, 3, none⟩ = some (.int .i64 tx) := hU2.cell 3
 have b4 : w2.drew.cell? ⟨w.heap.size, 4, none⟩ = some (.int .i64 n) := hU2.cell 4
 generalize w1.heap.size = T at t1 ⊢
 generalize w.heap.size = U at b0 b1 b2 b3 b4 ⊢
 clear hW2 hU hg1 hg2 hU2
 refine wp_region_held_drew (S := (fun _ => True)) ?_ ?_ (fun hHeld => ?_)
 ·kernel_rfl
 ·((try dsimp only); (try trivial))
 refine ti 0 (some 7) rfl rfl ?_; try simp only [Act.put, lA, lB, lC]
 refine ti 4 (some 11) rfl rfl ?_; try simp only [Act.put, lA, lB, lC]
 refine tr [1, 5] (.cons rfl (fun K hK => ?_) (.cons rfl (fun K hK => ?_) .nil))
 go_simp
 refine hK.out _ _ ?_ (fun hHeld => ?_)
 ·((try dsimp only); (try trivial))
 clear hK K; try simp only [Act.put, lA, lB, lC]
 refine ti 2 (some 9) rfl rfl ?_; try simp only [Act.put, lA, lB, lC]
 refine tr [3, 5] (.cons rfl (fun K hK => ?_) (.cons rfl (fun K hK => ?_) .nil))
 go_simp
 refine hK.out _ _ ?_ (fun hHeld => ?_)
 ·((try dsimp only); (try trivial))
 clear hK K; try simp only [Act.put, lA, lB, lC]
 refine tr [5] (.cons rfl (fun K hK => ?_) .nil)
 go_simp
 refine hK.out _ _ ?_ (fun hHeld => ?_)
 ·((try dsimp only); (try trivial))
 clear hK K; try simp only [Act.put, lA, lB, lC]
 refine tr [6] (.cons rfl (fun K hK => ?_) .nil)
 go_simp
 first | (go_at_call 87; (with_reducible refine (HCC.out _ hgd).mono ?_); intro e w3 hR3; obtain ⟨v, rfl⟩ := HRR.out _ _ hR3; have HR3 := Lib.hid hR3; clear hR3)
 refine hK.out _ _ ?_ (fun hHeld => ?_)
 ·((try dsimp only); (try trivial))
 clear hK K; try simp only [Act.put, lA, lB, lC]
 refine ti 7 (some 4) rfl rfl ?_; try simp only [Act.put, lA, lB, lC]
 refine wpAnyH_done ?_ ?_ _
 ·kernel_rfl
 rotate_left
 go_simp
 refine hK.out _ _ ?_ (fun hHeld => ?_)
 ·((try dsimp only); (try trivial))
 clear hK K; try simp only [Act.put, lA, lB, lC]
 refine tr [3] (.cons rfl (fun K hK => ?_) .nil)
 go_simp
 refine hK.out _ _ ?_ (fun hHeld => ?_)
 ·((try dsimp only); (try trivial))
 clear hK K; try simp only [Act.put, lA, lB, lC]
 refine tr [6] (.cons rfl (fun K hK => ?_) .nil)
 go_simp
 first | (go_at_call 87; (with_reducible refine (HCC.out _ hgd).mono ?_); intro e w3 hR3; obtain ⟨v, rfl⟩ := HRR.out _ _ hR3; have HR3 := Lib.hid hR3; clear hR3)
 refine hK.out _ _ ?_ (fun hHeld => ?_)
 ·((try dsimp only); (try trivial))
 clear hK K; try simp only [Act.put, lA, lB, lC]
 refine ti 7 (some 4) rfl rfl ?_; try simp only [Act.put, lA, lB, lC]
 refine wpAnyH_done ?_ ?_ _
 ·kernel_rfl
 rotate_left
 go_simp
 refine hK.out _ _ ?_ (fun hHeld => ?_)
 ·((try dsimp only); (try trivial))
 clear hK K; try simp only [Act.put, lA, lB, lC]
 refine tr [1] (.cons rfl (fun K hK => ?_) .nil)
 go_simp
 refine hK.out _ _ ?_ (fun hHeld => ?_)
 ·((try dsimp only); (try trivial))
 clear hK K; try simp only [Act.put, lA, lB, lC]
 refine ti 2 (some 9) rfl rfl ?_; try simp only [Act.put, lA, lB, lC]
 refine tr [3] (.cons rfl (fun K hK => ?_) .nil)
 go_simp
 refine hK.out _ _ ?_ (fun hHeld => ?_)
 ·((try dsimp only); (try trivial))
 clear hK K; try simp only [Act.put, lA, lB, lC]
 refine tr [6] (.cons rfl (fun K hK => ?_) .nil)
 go_simp
 first | (go_at_call 87; (with_reducible refine (HCC.out _ hgd).mono ?_); intro e w3 hR3; obtain ⟨v, rfl⟩ := HRR.out _ _ hR3; have HR3 := Lib.hid hR3; clear hR3)
 refine hK.out _ _ ?_ (fun hHeld => ?_)
 ·((try dsimp only); (try trivial))
 clear hK K; try simp only [Act.put, lA, lB, lC]
 refine ti 7 (some 4) rfl rfl ?_; try simp only [Act.put, lA, lB, lC]
 refine wpAnyH_done ?_ ?_ _
 ·kernel_rfl
 rotate_left
 all_goals
  clear hHeld t1 b0 b1 b2 b3 b4
  go_wp2_with fail
  exact HR3.out

end Go.Proofs.YtnoeiocbmhkmeaaGreat
