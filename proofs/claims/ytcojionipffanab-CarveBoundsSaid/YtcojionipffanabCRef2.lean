/- Layer 2: the reference's reading of plans, as deep as it goes. -/
import Derived.Test.YtcojionipffanabCRef
namespace Go.Proofs.Ytcojionipffanab
open Go.RowKit
set_option linter.unusedSimpArgs false

/-- Four cells stored in a block. -/
theorem cut_put {w : World} {S : Nat} {t : TypeId} {cs : Array Value} (h : Blk w S t cs) (hs : cs.size = 4) (a b c d : Value) :
    ((((w.setCell ⟨S, 0, none⟩ a).setCell ⟨S, 1, none⟩ b).setCell ⟨S, 2, none⟩ c).setCell ⟨S, 3, none⟩ d).cell? ⟨S, 0, none⟩ = some a ∧ ((((w.setCell ⟨S, 0, none⟩ a).setCell ⟨S, 1, none⟩ b).setCell ⟨S, 2, none⟩ c).setCell ⟨S, 3, none⟩ d).cell? ⟨S, 1, none⟩ = some b ∧
    ((((w.setCell ⟨S, 0, none⟩ a).setCell ⟨S, 1, none⟩ b).setCell ⟨S, 2, none⟩ c).setCell ⟨S, 3, none⟩ d).cell? ⟨S, 2, none⟩ = some c ∧ ((((w.setCell ⟨S, 0, none⟩ a).setCell ⟨S, 1, none⟩ b).setCell ⟨S, 2, none⟩ c).setCell ⟨S, 3, none⟩ d).cell? ⟨S, 3, none⟩ = some d := by
  have hp := (((h.put 0 a).put 1 b).put 2 c).put 3 d
  refine ⟨?_, ?_, ?_, ?_⟩
  all_goals
    rw [hp.cell]
    simp [Array.getElem?_setIfInBounds, hs]
theorem cut_old {w : World} {S : Nat} {t : TypeId} {x0 x1 x2 x3 : Value} (h : Blk w S t #[x0, x1, x2, x3]) : (w.cell? ⟨S, 0, none⟩ = some x0 ∧ w.cell? ⟨S, 1, none⟩ = some x1 ∧ w.cell? ⟨S, 2, none⟩ = some x2 ∧ w.cell? ⟨S, 3, none⟩ = some x3) ∧
    (w.frozen? ⟨S, 0, none⟩ = false ∧ w.frozen? ⟨S, 1, none⟩ = false ∧ w.frozen? ⟨S, 2, none⟩ = false ∧ w.frozen? ⟨S, 3, none⟩ = false) :=
  ⟨⟨h.cell 0, h.cell 1, h.cell 2, h.cell 3⟩, h.free 0, h.free 1, h.free 2, h.free 3⟩
theorem Gr.put4 {a w : World} (h : Gr a w) {S : Nat} (hS : a.heap.size ≤ S) (x0 x1 x2 x3 : Value) : Gr a ((((w.setCell ⟨S, 0, none⟩ x0).setCell ⟨S, 1, none⟩ x1).setCell ⟨S, 2, none⟩ x2).setCell ⟨S, 3, none⟩ x3) :=
  (((h.setCell hS _).setCell hS _).setCell hS _).setCell hS _

set_option maxRecDepth 100000 in
set_option maxHeartbeats 4000000 in
theorem rread_make (W H : Int) (BA PA : Option Addr) (bn bc n pc k : Nat) (bs : List Bl) (plan : List St) (w : World) (hn : plan.length = n) (hbn : bs.length = bn) (hbs : ∀ b ∈ bs, blB b = true) (hB : Tris w BA bs) (hP : Pts w PA plan) (hk : k < n) (arg : Int) (hs : plan.getD k (0, 0) = (1, arg)) :
    Calls Try.prog 37 #[.int .i64 W, .int .i64 H, .slice BA bn bc, .slice PA n pc, .int .i64 (k : Int)] w (CutPost plan (rdP bs W H (plan.drop k)) k w) := by
  have hkl : k < plan.length := by omega
  obtain ⟨g, off, rfl, s1, s2⟩ := Pts_at hP hkl
  rw [hs] at s1 s2
  have q1 : (w.alloc (.cells #[.int .i64 0, .int .i64 0, .int .i64 0, .bool false] 76)).cell? ⟨g, off + k * 2, none⟩ = some (.int .i64 1) := alloc_old s1
  have q2 : (w.alloc (.cells #[.int .i64 0, .int .i64 0, .int .i64 0, .bool false] 76)).cell? ⟨g, off + k * 2 + 1, none⟩ = some (.int .i64 arg) := alloc_old s2
  have hR : Hid (rdP bs W H (plan.drop k) = if 0 ≤ arg ∧ arg < bs.length ∧ fitsB (bl bs arg.toNat) W H = true then some ([bl bs arg.toNat], plan.drop (k + 1)) else none) := Lib.hid (by rw [drop_cons2 hkl, hs, rdP_cons]; simp)
  rw [hR.out]
  have HK := Lib.hid hkl
  clear hs hP hn hkl
  by_cases h0 : 0 ≤ arg
  · by_cases h1 : arg < bn
    · obtain ⟨i, rfl⟩ : ∃ i : Nat, arg = i := ⟨arg.toNat, by omega⟩
      have hi : i < bs.length := by omega
      obtain ⟨bg, boff, rfl, t1, t2, t3⟩ := Tris_at hB hi
      rw [bl_getD] at t1 t2 t3
      have hbg : bg < w.heap.size := World.block_lt_of_cell? w _ t1
      have HBL : Hid (bl bs (i : Int).toNat = bl bs i) := Lib.hid (by simp)
      rw [HBL.out]
      obtain ⟨⟨b1, b2⟩, ⟨b3, b4⟩, b5, b6⟩ := (blB_iff _).1 (hbs _ (bl_mem hi))
      have HX := Lib.hid (fun (r : Bool) (h : fitsB (bl bs i) W H = r) W' => fits_any (bl bs i) W H W' r h)
      have HY := Lib.hid (fun (r : Bool) (h : fitsB (bl bs i) W H = r) W' => rFits_any (bl bs i) W H W' r h)
      have HSUM : Hid (sumV [bl bs i] = (bl bs i).2.2 ∧ sumA [bl bs i] = (bl bs i).1 * (bl bs i).2.1) := Lib.hid (by simp [sumV, sumA])
      obtain ⟨f, hf⟩ : ∃ f, fitsB (bl bs i) W H = f := ⟨_, rfl⟩
      have HF := Lib.hid (fun W' => rFits_any (bl bs i) W H W' f hf)
      have HRR : Hid ((if 0 ≤ (i : Int) ∧ (i : Int) < bs.length ∧ fitsB (bl bs i) W H = true then some ([bl bs i], plan.drop (k + 1)) else none) = if f = true then some ([bl bs i], plan.drop (k + 1)) else none) := Lib.hid (by
        rw [hf]
        by_cases e : f = true
        · rw [if_pos ⟨by omega, by omega, e⟩, if_pos e]
        · rw [if_neg (fun c => e c.2.2), if_neg e])
      rw [HRR.out]
      clear HX HY hf hB hbs hbn HRR hR
      generalize bl bs i = x at t1 t2 t3 b1 b2 b3 b4 b5 b6 HSUM HF ⊢
      obtain ⟨x1, x2, x3⟩ := x
      dsimp only at t1 t2 t3 b1 b2 b3 b4 b5 b6 HSUM HF
      have ha := (Gr.refl w).alloc (.cells #[.int .i64 0, .int .i64 0, .int .i64 0, .bool false] 76)
      have haa := ha.alloc (.cells #[.int .i64 1, .int .i64 (i : Int)] 56)
      have r1 := haa.keep t1
      have r2 := haa.keep t2
      have r3 := haa.keep t3
      have HAA := Lib.hid haa
      clear ha haa
      rcases f with _ | _
      · go_enter Try.func37, Try.ntmps37
        go_wp2_with fail
        generalize hW : World.alloc (World.alloc w _) _ = W1 at r1 r2 r3 HAA
        have hB1 : Blk W1 w.heap.size 76 #[.int .i64 0, .int .i64 0, .int .i64 0, .bool false] := by rw [← hW]; exact Blk.alloc (Blk.new _ _ _ rfl) _
        clear hW r1 r2 r3
        refine (HF.out _).mono ?_
        rintro e w2 ⟨rfl, hb⟩
        have hB2 := hB1.keep hb
        obtain ⟨⟨z0, z1, z2, z3⟩, y0, y1, y2, y3⟩ := cut_old hB2
        obtain ⟨u0, u1, u2, u3⟩ := cut_put hB2 rfl (.int .i64 0) (.int .i64 0) (.int .i64 0) (.bool true)
        have HG := Lib.hid ((HAA.out.trans hb).put4 (Nat.le_refl _) (.int .i64 0) (.int .i64 0) (.int .i64 0) (.bool true))
        have HU := Lib.hid (And.intro u0 (And.intro u1 (And.intro u2 u3)))
        clear hB1 hB2 u0 u1 u2 u3 hb
        go_wp2_with fail
        obtain ⟨u0, u1, u2, u3⟩ := HU.out
        refine bodyPost_ret (v := .agg #[.int .i64 0, .int .i64 0, .int .i64 0, .bool true]) ?_ rfl ⟨_, _, _, _, rfl, rfl, HG.out⟩
        simp [results, Try.results37, go_sem, u0, u1, u2, u3]
      · go_enter Try.func37, Try.ntmps37
        go_wp2_with fail
        generalize hW : World.alloc (World.alloc w _) _ = W1 at r1 r2 r3 HAA
        have hB1 : Blk W1 w.heap.size 76 #[.int .i64 0, .int .i64 0, .int .i64 0, .bool false] := by rw [← hW]; exact Blk.alloc (Blk.new _ _ _ rfl) _
        have hS1 : Blk W1 (w.heap.size + 1) 56 #[.int .i64 1, .int .i64 (i : Int)] := by rw [← hW]; exact Blk.new _ _ _ (by simp)
        clear hW
        refine (HF.out _).mono ?_
        rintro e w2 ⟨rfl, hb⟩
        have hB2 := hB1.keep hb
        obtain ⟨⟨z0, z1, z2, z3⟩, y0, y1, y2, y3⟩ := cut_old hB2
        have p1 := (hS1.keep hb).cell 1
        replace r1 := hb.keep r1
        replace r2 := hb.keep r2
        replace r3 := hb.keep r3
        have m1 : x1 * x2 ≤ 48 * 48 := Int.le_trans (Int.mul_le_mul_of_nonneg_right b2 (by omega)) (Int.mul_le_mul_of_nonneg_left b4 (by omega))
        have m2 : 0 ≤ x1 * x2 := Int.mul_nonneg (by omega) (by omega)
        have mw : IntKind.i64.wrap (x1 * x2) = x1 * x2 := IntWalk.i64_in _ (by omega)
        have hg2 := HAA.out.trans hb
        obtain ⟨u0, u1, u2, u3⟩ := cut_put hB2 rfl (.int .i64 1) (.int .i64 x3) (.int .i64 (x1 * x2)) (.bool false)
        have HG := Lib.hid ((hg2.put4 (Nat.le_refl _) (.int .i64 1) (.int .i64 x3) (.int .i64 (x1 * x2)) (.bool false)).drew)
        have HU := Lib.hid (And.intro u0 (And.intro u1 (And.intro u2 u3)))
        have n1 : w.heap.size + 1 ≠ w.heap.size := by omega
        have n2 : bg ≠ w.heap.size := by omega
        have i7 : (0 : Int) ≤ (i : Int) := by omega
        clear hB1 hB2 u0 u1 u2 u3 hb hg2 hS1
        go_wp2_with fail
        refine wp_region_held_drew (S := (fun W' => W'.cell? ⟨w.heap.size + 1, 1, none⟩ = some (.int .i64 (i : Int)) ∧ W'.cell? ⟨bg, boff + i * 3, none⟩ = some (.int .i64 x1) ∧ W'.cell? ⟨bg, boff + i * 3 + 1, none⟩ = some (.int .i64 x2) ∧ W'.cell? ⟨bg, boff + i * 3 + 2, none⟩ = some (.int .i64 x3))) ?_ ?_ (fun hHeld => ?_)
        · kernel_rfl
        · ((try dsimp only); (first | exact ⟨p1, r1, r2, r3⟩ | exact ⟨cell_other (cell_other (cell_other (cell_other p1 n1) n1) n1) n1, cell_other (cell_other (cell_other (cell_other r1 n2) n2) n2) n2, cell_other (cell_other (cell_other (cell_other r2 n2) n2) n2) n2, cell_other (cell_other (cell_other (cell_other r3 n2) n2) n2) n2⟩))
        refine take_in (i := 0) (v := ?_) (d := (some 53)) rfl rfl ?_ ?_ ?_ ?_ ?_ ?_ ?_ ?_
        rotate_left
        · kernel_rfl
        · kernel_rfl
        · kernel_rfl
        · (intro _ _ _ hq; exact hq)
        · rfl
        · (intro _w hSw; (try dsimp only at hSw); go_simp; try with_reducible rfl)
        · assumption
        try simp only [Act.put, List.setIfInBounds_toArray, List.set_cons_zero, List.set_cons_succ]
        refine take_in (i := 1) (v := ?_) (d := (some 54)) rfl rfl ?_ ?_ ?_ ?_ ?_ ?_ ?_ ?_
        rotate_left
        · kernel_rfl
        · kernel_rfl
        · kernel_rfl
        · (intro _ _ _ hq; exact hq)
        · rfl
        · (intro _w hSw; (try dsimp only at hSw); go_simp; try with_reducible rfl)
        · assumption
        try simp only [Act.put, List.setIfInBounds_toArray, List.set_cons_zero, List.set_cons_succ]
        refine take_in (i := 2) (v := ?_) (d := (some 55)) rfl rfl ?_ ?_ ?_ ?_ ?_ ?_ ?_ ?_
        rotate_left
        · kernel_rfl
        · kernel_rfl
        · kernel_rfl
        · (intro _ _ _ hq; exact hq)
        · rfl
        · (intro _w hSw; (try dsimp only at hSw); go_simp; try with_reducible rfl)
        · assumption
        try simp only [Act.put, List.setIfInBounds_toArray, List.set_cons_zero, List.set_cons_succ]
        refine take_in (i := 3) (v := ?_) (d := (some 56)) rfl rfl ?_ ?_ ?_ ?_ ?_ ?_ ?_ ?_
        rotate_left
        · kernel_rfl
        · kernel_rfl
        · kernel_rfl
        · (intro _ _ _ hq; exact hq)
        · rfl
        · (intro _w hSw; (try dsimp only at hSw); go_simp; try with_reducible rfl)
        · assumption
        try simp only [Act.put, List.setIfInBounds_toArray, List.set_cons_zero, List.set_cons_succ]
        refine take_in (i := 4) (v := ?_) (d := (some 57)) rfl rfl ?_ ?_ ?_ ?_ ?_ ?_ ?_ ?_
        rotate_left
        · kernel_rfl
        · kernel_rfl
        · kernel_rfl
        · (intro _ _ _ hq; exact hq)
        · rfl
        · (intro _w hSw; (try dsimp only at hSw); go_simp; try with_reducible rfl)
        · assumption
        try simp only [Act.put, List.setIfInBounds_toArray, List.set_cons_zero, List.set_cons_succ]
        refine take_in (i := 5) (v := ?_) (d := (some 58)) rfl rfl ?_ ?_ ?_ ?_ ?_ ?_ ?_ ?_
        rotate_left
        · kernel_rfl
        · kernel_rfl
        · kernel_rfl
        · (intro _ _ _ hq; exact hq)
        · rfl
        · (intro _w hSw; (try dsimp only at hSw); go_simp; try with_reducible rfl)
        · assumption
        try simp only [Act.put, List.setIfInBounds_toArray, List.set_cons_zero, List.set_cons_succ]
        refine take_in (i := 6) (v := ?_) (d := (some 59)) rfl rfl ?_ ?_ ?_ ?_ ?_ ?_ ?_ ?_
        rotate_left
        · kernel_rfl
        · kernel_rfl
        · kernel_rfl
        · (intro _ _ _ hq; exact hq)
        · rfl
        · (intro _w hSw; (try dsimp only at hSw); go_simp; try with_reducible rfl)
        · assumption
        try simp only [Act.put, List.setIfInBounds_toArray, List.set_cons_zero, List.set_cons_succ]
        refine take_in (i := 7) (v := ?_) (d := (some 60)) rfl rfl ?_ ?_ ?_ ?_ ?_ ?_ ?_ ?_
        rotate_left
        · kernel_rfl
        · kernel_rfl
        · kernel_rfl
        · (intro _ _ _ hq; exact hq)
        · rfl
        · (intro _w hSw; (try dsimp only at hSw); go_simp; try with_reducible rfl)
        · assumption
        try simp only [Act.put, List.setIfInBounds_toArray, List.set_cons_zero, List.set_cons_succ]
        refine take_in (i := 8) (v := ?_) (d := (some 61)) rfl rfl ?_ ?_ ?_ ?_ ?_ ?_ ?_ ?_
        rotate_left
        · kernel_rfl
        · kernel_rfl
        · kernel_rfl
        · (intro _ _ _ hq; exact hq)
        · rfl
        · (intro _w hSw; (try dsimp only at hSw); go_simp; try with_reducible rfl)
        · assumption
        try simp only [Act.put, List.setIfInBounds_toArray, List.set_cons_zero, List.set_cons_succ]
        refine take_in (i := 9) (v := ?_) (d := (some 62)) rfl rfl ?_ ?_ ?_ ?_ ?_ ?_ ?_ ?_
        rotate_left
        · kernel_rfl
        · kernel_rfl
        · kernel_rfl
        · (intro _ _ _ hq; exact hq)
        · rfl
        · (intro _w hSw; (try dsimp only at hSw); go_simp; try with_reducible rfl)
        · assumption
        try simp only [Act.put, List.setIfInBounds_toArray, List.set_cons_zero, List.set_cons_succ]
        refine take_in (i := 10) (v := ?_) (d := (some 63)) rfl rfl ?_ ?_ ?_ ?_ ?_ ?_ ?_ ?_
        rotate_left
        · kernel_rfl
        · kernel_rfl
        · kernel_rfl
        · (intro _ _ _ hq; exact hq)
        · rfl
        · (intro _w hSw; (try dsimp only at hSw); go_simp; try with_reducible rfl)
        · assumption
        try simp only [Act.put, List.setIfInBounds_toArray, List.set_cons_zero, List.set_cons_succ]
        refine take_in (i := 11) (v := ?_) (d := (some 64)) rfl rfl ?_ ?_ ?_ ?_ ?_ ?_ ?_ ?_
        rotate_left
        · kernel_rfl
        · kernel_rfl
        · kernel_rfl
        · (intro _ _ _ hq; exact hq)
        · rfl
        · (intro _w hSw; (try dsimp only at hSw); go_simp; try with_reducible rfl)
        · assumption
        try simp only [Act.put, List.setIfInBounds_toArray, List.set_cons_zero, List.set_cons_succ]
        refine take_in (i := 12) (v := ?_) (d := (some 65)) rfl rfl ?_ ?_ ?_ ?_ ?_ ?_ ?_ ?_
        rotate_left
        · kernel_rfl
        · kernel_rfl
        · kernel_rfl
        · (intro _ _ _ hq; exact hq)
        · rfl
        · (intro _w hSw; (try dsimp only at hSw); go_simp; try with_reducible rfl)
        · assumption
        try simp only [Act.put, List.setIfInBounds_toArray, List.set_cons_zero, List.set_cons_succ]
        refine take_in (i := 13) (v := ?_) (d := (some 66)) rfl rfl ?_ ?_ ?_ ?_ ?_ ?_ ?_ ?_
        rotate_left
        · kernel_rfl
        · kernel_rfl
        · kernel_rfl
        · (intro _ _ _ hq; exact hq)
        · rfl
        · (intro _w hSw; (try dsimp only at hSw); go_simp; try with_reducible rfl)
        · assumption
        try simp only [Act.put, List.setIfInBounds_toArray, List.set_cons_zero, List.set_cons_succ]
        refine take_in (i := 14) (v := ?_) (d := (some 67)) rfl rfl ?_ ?_ ?_ ?_ ?_ ?_ ?_ ?_
        rotate_left
        · kernel_rfl
        · kernel_rfl
        · kernel_rfl
        · (intro _ _ _ hq; exact hq)
        · rfl
        · (intro _w hSw; (try dsimp only at hSw); go_simp; try with_reducible rfl)
        · assumption
        try simp only [Act.put, List.setIfInBounds_toArray, List.set_cons_zero, List.set_cons_succ]
        refine take_in (i := 15) (v := ?_) (d := (some 68)) rfl rfl ?_ ?_ ?_ ?_ ?_ ?_ ?_ ?_
        rotate_left
        · kernel_rfl
        · kernel_rfl
        · kernel_rfl
        · (intro _ _ _ hq; exact hq)
        · rfl
        · (intro _w hSw; (try dsimp only at hSw); go_simp; try with_reducible rfl)
        · assumption
        try simp only [Act.put, List.setIfInBounds_toArray, List.set_cons_zero, List.set_cons_succ]
        refine take_in (i := 16) (v := ?_) (d := (some 69)) rfl rfl ?_ ?_ ?_ ?_ ?_ ?_ ?_ ?_
        rotate_left
        · kernel_rfl
        · kernel_rfl
        · kernel_rfl
        · (intro _ _ _ hq; exact hq)
        · rfl
        · (intro _w hSw; (try dsimp only at hSw); go_simp; try with_reducible rfl)
        · assumption
        try simp only [Act.put, List.setIfInBounds_toArray, List.set_cons_zero, List.set_cons_succ]
        refine take_in (i := 17) (v := ?_) (d := (some 70)) rfl rfl ?_ ?_ ?_ ?_ ?_ ?_ ?_ ?_
        rotate_left
        · kernel_rfl
        · kernel_rfl
        · kernel_rfl
        · (intro _ _ _ hq; exact hq)
        · rfl
        · (intro _w hSw; (try dsimp only at hSw); go_simp; try with_reducible rfl)
        · assumption
        try simp only [Act.put, List.setIfInBounds_toArray, List.set_cons_zero, List.set_cons_succ]
        refine take_in (i := 18) (v := ?_) (d := (some 71)) rfl rfl ?_ ?_ ?_ ?_ ?_ ?_ ?_ ?_
        rotate_left
        · kernel_rfl
        · kernel_rfl
        · kernel_rfl
        · (intro _ _ _ hq; exact hq)
        · rfl
        · (intro _w hSw; (try dsimp only at hSw); go_simp; try with_reducible rfl)
        · assumption
        try simp only [Act.put, List.setIfInBounds_toArray, List.set_cons_zero, List.set_cons_succ]
        refine take_in (i := 19) (v := ?_) (d := (some 72)) rfl rfl ?_ ?_ ?_ ?_ ?_ ?_ ?_ ?_
        rotate_left
        · kernel_rfl
        · kernel_rfl
        · kernel_rfl
        · (intro _ _ _ hq; exact hq)
        · rfl
        · (intro _w hSw; (try dsimp only at hSw); go_simp; try with_reducible rfl)
        · assumption
        try simp only [Act.put, List.setIfInBounds_toArray, List.set_cons_zero, List.set_cons_succ]
        refine wpAnyH_ready (rs := [20]) ?_ ?_ ?_
        · kernel_rfl
        · simp
        refine (AllReadyH.cons rfl (fun K hK => ?_) AllReadyH.nil)
        go_simp
        refine hK.out _ _ ?_ (fun hHeld => ?_)
        · ((try dsimp only); (first | exact ⟨p1, r1, r2, r3⟩ | exact ⟨cell_other (cell_other (cell_other (cell_other p1 n1) n1) n1) n1, cell_other (cell_other (cell_other (cell_other r1 n2) n2) n2) n2, cell_other (cell_other (cell_other (cell_other r2 n2) n2) n2) n2, cell_other (cell_other (cell_other (cell_other r3 n2) n2) n2) n2⟩))
        clear hK K
        try simp only [Act.put, List.setIfInBounds_toArray, List.set_cons_zero, List.set_cons_succ]
        refine wpAnyH_done ?_ ?_ _
        · kernel_rfl
        rotate_left
        go_wp2_with fail
        obtain ⟨u0, u1, u2, u3⟩ := HU.out
        refine bodyPost_ret (v := .agg #[.int .i64 1, .int .i64 x3, .int .i64 (x1 * x2), .bool false]) ?_ rfl ⟨_, _, _, _, rfl, ⟨rfl, HSUM.out.1.symm, HSUM.out.2.symm, k + 1, rfl, by omega, HK.out, by omega⟩, HG.out⟩
        simp [results, Try.results37, go_sem, u0, u1, u2, u3]
    · rw [if_neg (by rw [hbn]; omega)]
      clear hbn hbs hB hR
      go_enter Try.func37, Try.ntmps37
      go_wp2_with fail
      refine bodyPost_ret (v := .agg #[.int .i64 0, .int .i64 0, .int .i64 0, .bool true]) ?_ rfl ⟨_, _, _, _, rfl, rfl, by (repeat (first | exact Gr.refl _ | assumption | (refine Gr.drew ?_) | (refine Gr.drewN ?_ _) | (refine Gr.alloc ?_ _) | (refine Gr.trans ?_ (by assumption))))⟩
      simp [results, Try.results37, go_sem]
  · rw [if_neg (by omega)]
    clear hbn hbs hB hR
    go_enter Try.func37, Try.ntmps37
    go_wp2_with fail
    refine bodyPost_ret (v := .agg #[.int .i64 0, .int .i64 0, .int .i64 0, .bool true]) ?_ rfl ⟨_, _, _, _, rfl, rfl, by (repeat (first | exact Gr.refl _ | assumption | (refine Gr.drew ?_) | (refine Gr.drewN ?_ _) | (refine Gr.alloc ?_ _) | (refine Gr.trans ?_ (by assumption))))⟩
    simp [results, Try.results37, go_sem]

end Go.Proofs.Ytcojionipffanab
