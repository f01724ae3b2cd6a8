/- Layer 2: the closure that reads the steps of one piece. -/
import Derived.Test.YtobcdkjomehdkaaGreatBu24
import Derived.Test.YtobcdkjomehdkaaGreatBu2
import Derived.Laws.EntriesVeiled
namespace Go.Proofs.YtobcdkjomehdkaaGreat
open Go.RowKit
set_option linter.unusedSimpArgs false
set_option maxRecDepth 100000
set_option maxHeartbeats 80000000

def fnPiece (a p b m f : Nat) : Value := .func (.func 86) #[] #[.pointer (some ⟨a, 0, none⟩), .pointer (some ⟨p, 0, none⟩), .pointer (some ⟨b, 0, none⟩), .pointer (some ⟨m, 0, none⟩), .pointer (some ⟨f, 0, none⟩)]

theorem Tryz.infoBl : (Tryz.prog.info? 59).map (fun i => (i.zero, i.size, i.bytes)) = some (some (.agg #[.int .i64 0, .int .i64 0, .int .i64 0]), 3, 24) := by kernel_rfl

def RPost (wb w0 : World) (a p b m f : Nat) (pv bv : Value) (plan : List St) (ms : List Bl) (R : Option (List Bl × List St)) (e : Ending) (w' : World) : Prop :=
 match R with
 | some (m1, r) => e = .returned (.bool true) ∧ ∃ v k', r = plan.drop k' ∧ k' ≤ plan.length ∧ RSt wb a p b m f pv bv (fnPiece a p b m f) k' (ms ++ m1) v w' ∧ StK w0 w'
 | none => e = .returned (.bool false) ∧ ∃ v k' ms', k' ≤ plan.length ∧ RSt wb a p b m f pv bv (fnPiece a p b m f) k' ms' v w' ∧ StK w0 w'

theorem piece_end (wb : World) (a p b m f : Nat) (PA : Option Addr) (pc : Nat) (bv : Value) (W H : Int) (bs : List Bl) (plan : List St) (ms : List Bl) (v : Value) (w : World) (n : Nat) (hn : plan.length = n)
 (hS : RSt wb a p b m f (.slice PA n pc) bv (fnPiece a p b m f) n ms v w) :
 Calls Tryz.prog 86 #[.int .i64 W, .int .i64 H, .pointer (some ⟨a, 0, none⟩), .pointer (some ⟨p, 0, none⟩), .pointer (some ⟨b, 0, none⟩), .pointer (some ⟨m, 0, none⟩), .pointer (some ⟨f, 0, none⟩)] w (RPost wb w a p b m f (.slice PA n pc) bv plan ms (rdP bs W H (plan.drop n))) := by
 have hR : Hid (rdP bs W H (plan.drop n) = none) := Lib.hid (by rw [List.drop_of_length_le (by omega), rdP_nil])
 rw [hR.out]
 have HN := Lib.hid hn
 have c1 := cell_of_one hS.at_
 have c2 := cell_of_one hS.plan
 have HS := Lib.hid hS
 clear hS hn
 go_enter Tryz.func86, Tryz.ntmps86
 go_wp2_with fail
 go_ret
 exact ⟨rfl, _, _, _, by rw [HN.out]; exact Nat.le_refl _, HS.out, StK.refl _⟩

theorem step_block {wb : World} {a p b m f : Nat} {pv bv fv : Value} {k : Nat} {ms : List Bl} {v : Value} {w : World} (h : RSt wb a p b m f pv bv fv k ms v w) (x y : Value) :
 Blk ((w.alloc (.cells #[x, y] 97)).setCell ⟨a, 0, none⟩ (.int .i64 ((k : Int) + 1))) w.heap.size 97 #[x, y] := by
 have h1 : Blk (w.alloc (.cells #[x, y] 97)) w.heap.size 97 #[x, y] := heap_alloc_new w _
 exact h1.other (h1.differ (h.at_.alloc _) (by decide)) _

theorem drop_cons {plan : List St} {k : Nat} (h : k < plan.length) : plan.drop k = plan.getD k (0, 0) :: plan.drop (k + 1) := by
 rw [List.drop_eq_getElem_cons h, List.getD_eq_getElem?_getD, List.getElem?_eq_getElem h]; rfl

theorem piece_waste (wb : World) (a p b m f : Nat) (PA : Option Addr) (pc : Nat) (bv : Value) (W H : Int) (bs : List Bl) (plan : List St) (ms : List Bl) (v : Value) (w : World) (n k : Nat) (hn : plan.length = n) (hl : n ≤ 281474976710656)
 (hP : Pts wb PA plan) (hk : k < n) (arg : Int) (hs : plan.getD k (0, 0) = (0, arg))
 (hS : RSt wb a p b m f (.slice PA n pc) bv (fnPiece a p b m f) k ms v w) :
 Calls Tryz.prog 86 #[.int .i64 W, .int .i64 H, .pointer (some ⟨a, 0, none⟩), .pointer (some ⟨p, 0, none⟩), .pointer (some ⟨b, 0, none⟩), .pointer (some ⟨m, 0, none⟩), .pointer (some ⟨f, 0, none⟩)] w (RPost wb w a p b m f (.slice PA n pc) bv plan ms (rdP bs W H (plan.drop k))) := by
 have hkl : k < plan.length := by omega
 obtain ⟨g, off, rfl, s1, s2⟩ := Pts_at (hP.keep hS.old) hkl
 rw [hs] at s1 s2
 have hR : Hid (rdP bs W H (plan.drop k) = if arg = 0 then some ([], plan.drop (k + 1)) else none) := Lib.hid (by rw [drop_cons hkl, hs, rdP_cons]; simp)
 rw [hR.out]
 have HN := Lib.hid hn
 have c1 := cell_of_one hS.at_
 have c2 := cell_of_one hS.plan
 obtain ⟨⟨c3, f3⟩, c4, c5⟩ := hS.facts (.int .i64 0) (.int .i64 arg) 97
 have HS := Lib.hid hS
 clear hS hn hs hP hkl
 by_cases h0 : arg = 0
 ·subst h0
  go_enter Tryz.func86, Tryz.ntmps86
  go_wp2_with fail
  go_ret
  exact ⟨rfl, _, k + 1, rfl, by rw [HN.out]; omega, by have := HS.out.step (.cells #[.int .i64 0, .int .i64 0] 97); rw [List.append_nil]; exact this, HS.out.stk _ _⟩
 ·rw [if_neg h0]
  have h1 : (arg == 0) = false := by simpa using h0
  clear h0
  go_enter Tryz.func86, Tryz.ntmps86
  go_wp2_with fail
  go_ret
  exact ⟨rfl, _, k + 1, _, by rw [HN.out]; omega, HS.out.step (.cells #[.int .i64 0, .int .i64 arg] 97), HS.out.stk _ _⟩

theorem piece_other (wb : World) (a p b m f : Nat) (PA : Option Addr) (pc : Nat) (bv : Value) (W H : Int) (bs : List Bl) (plan : List St) (ms : List Bl) (v : Value) (w : World) (n k : Nat) (hn : plan.length = n) (hl : n ≤ 281474976710656)
 (hP : Pts wb PA plan) (hk : k < n) (kd arg : Int) (hs : plan.getD k (0, 0) = (kd, arg)) (h0 : kd ≠ 0) (h1 : kd ≠ 1) (h2 : kd ≠ 2) (h3 : kd ≠ 3)
 (hS : RSt wb a p b m f (.slice PA n pc) bv (fnPiece a p b m f) k ms v w) :
 Calls Tryz.prog 86 #[.int .i64 W, .int .i64 H, .pointer (some ⟨a, 0, none⟩), .pointer (some ⟨p, 0, none⟩), .pointer (some ⟨b, 0, none⟩), .pointer (some ⟨m, 0, none⟩), .pointer (some ⟨f, 0, none⟩)] w (RPost wb w a p b m f (.slice PA n pc) bv plan ms (rdP bs W H (plan.drop k))) := by
 have hkl : k < plan.length := by omega
 obtain ⟨g, off, rfl, s1, s2⟩ := Pts_at (hP.keep hS.old) hkl
 rw [hs] at s1 s2
 have hR : Hid (rdP bs W H (plan.drop k) = none) := Lib.hid (by rw [drop_cons hkl, hs, rdP_cons]; simp [h0, h1, h2, h3])
 rw [hR.out]
 have HN := Lib.hid hn
 have c1 := cell_of_one hS.at_
 have c2 := cell_of_one hS.plan
 obtain ⟨⟨c3, f3⟩, c4, c5⟩ := hS.facts (.int .i64 kd) (.int .i64 arg) 97
 have HS := Lib.hid hS
 have e0 : (kd == 0) = false := by simpa using h0
 have e1 : (kd == 1) = false := by simpa using h1
 have e2 : (kd == 2) = false := by simpa using h2
 have e3 : (kd == 3) = false := by simpa using h3
 clear hS hn hs hP hkl h0 h1 h2 h3
 go_enter Tryz.func86, Tryz.ntmps86
 go_wp2_with fail
 go_ret
 exact ⟨rfl, _, k + 1, _, by rw [HN.out]; omega, HS.out.step (.cells #[.int .i64 kd, .int .i64 arg] 97), HS.out.stk _ _⟩

theorem piece_make (wb : World) (a p b m f : Nat) (PA : Option Addr) (pc : Nat) (BA : Option Addr) (bn bc : Nat) (W H : Int) (bs : List Bl) (plan : List St) (ms : List Bl) (v : Value) (w : World) (n k : Nat) (hn : plan.length = n) (hl : n ≤ 8192) (hbn : bs.length = bn) (hms : ms.length ≤ k)
 (hP : Pts wb PA plan) (hB : Tris wb BA bs) (hk : k < n) (arg : Int) (hs : plan.getD k (0, 0) = (1, arg))
 (hS : RSt wb a p b m f (.slice PA n pc) (.slice BA bn bc) (fnPiece a p b m f) k ms v w) :
 Calls Tryz.prog 86 #[.int .i64 W, .int .i64 H, .pointer (some ⟨a, 0, none⟩), .pointer (some ⟨p, 0, none⟩), .pointer (some ⟨b, 0, none⟩), .pointer (some ⟨m, 0, none⟩), .pointer (some ⟨f, 0, none⟩)] w (RPost wb w a p b m f (.slice PA n pc) (.slice BA bn bc) plan ms (rdP bs W H (plan.drop k))) := by
 have hkl : k < plan.length := by omega
 obtain ⟨g, off, rfl, s1, s2⟩ := Pts_at (hP.keep hS.old) hkl
 rw [hs] at s1 s2
 have hR : Hid (rdP bs W H (plan.drop k) = if 0 ≤ arg ∧ arg < bs.length ∧ fitsB (bl bs arg.toNat) W H = true then some ([bl bs arg.toNat], plan.drop (k + 1)) else none) := Lib.hid (by rw [drop_cons hkl, hs, rdP_cons]; simp)
 rw [hR.out]
 have HN := Lib.hid hn
 have HBN := Lib.hid hbn
 have c1 := cell_of_one hS.at_
 have c2 := cell_of_one hS.plan
 obtain ⟨⟨c3, f3⟩, c4, c5⟩ := hS.facts (.int .i64 1) (.int .i64 arg) 97
 have hS2 := hS.step (.cells #[.int .i64 1, .int .i64 arg] 97)
 have c6 := cell_of_one hS2.blanks
 have c7 := cell_of_one hS2.made
 have HS := Lib.hid hS2
 have HBB := Lib.hid hB
 have hsb := step_block hS (.int .i64 1) (.int .i64 arg)
 have hst0 := Lib.hid (hS.stk (.cells #[.int .i64 1, .int .i64 arg] 97) (.int .i64 ((k : Int) + 1)))
 have hbk0 := Lib.hid hsb
 clear hS hS2 hn hs hP hkl
 by_cases h0 : 0 ≤ arg
 ·by_cases h1 : arg < bn
  ·obtain ⟨i, rfl⟩ : ∃ i : Nat, arg = i := ⟨arg.toNat, by omega⟩
   have hi : i < bs.length := by omega
   obtain ⟨bg, boff, rfl, t1, t2, t3⟩ := Tris_at (hB.keep HS.out.old) hi
   rw [bl_getD] at t1 t2 t3
   have HBL : Hid (bl bs (i : Int).toNat = bl bs i) := Lib.hid (by simp)
   rw [HBL.out]
   rcases hf : fitsB (bl bs i) W H with _ | _
   ·rw [if_neg (by simp)]
    have HF := Lib.hid hf
    clear hbn hf hsb
    go_enter Tryz.func86, Tryz.ntmps86
    go_wp2_with fail
    refine (fits_any (bl bs i) _ _ _ _ HF.out).mono ?_
    rintro e w1 ⟨rfl, hb⟩
    go_wp2_with fail
    go_ret
    exact ⟨rfl, _, k + 1, _, by rw [HN.out]; omega, HS.out.keep hb, hst0.out.trans (StK.of hb)⟩
   ·rw [if_pos ⟨by omega, by omega, rfl⟩]
    obtain ⟨i0, hi0, hz0, hz1, hz2⟩ := info_parts Tryz.infoBl
    have HI := Lib.hid (And.intro hi0 (And.intro hz0 (And.intro hz1 hz2)))
    have HF := Lib.hid hf
    clear hbn hf hi0 hz0 hz1 hz2 hsb
    have hsb := Lib.hid hbk0.out
    go_enter Tryz.func86, Tryz.ntmps86
    go_wp2_with fail
    refine (fits_any (bl bs i) _ _ _ _ HF.out).mono ?_
    rintro e w1 ⟨rfl, hb⟩
    replace c5 := hb.keep c5
    replace c6 := hb.keep c6
    replace c7 := hb.keep c7
    replace t1 := hb.keep t1
    replace t2 := hb.keep t2
    replace t3 := hb.keep t3
    replace HS := Lib.hid (HS.out.keep hb)
    replace hsb := hsb.out.keep hb
    have hst1 := Lib.hid (hst0.out.trans (StK.of hb))
    clear hb
    go_wp2_with fail
    generalize hx : bl bs i = x at t1 t2 t3 HF ⊢
    obtain ⟨x1, x2, x3⟩ := x
    have HX := Lib.hid hx
    clear hx
    dsimp only at t1 t2 t3
    have hdr := (Gr.refl w1).drew
    have hda := hdr.alloc (.cells #[.int .i64 x1, .int .i64 x2, .int .i64 x3] 59)
    have hbk := Lib.hid (hsb.keep hdr)
    have hbk2 := Lib.hid (hsb.keep hda)
    have HS1 := Lib.hid (HS.out.keep hdr)
    have HS2 := Lib.hid (HS.out.keep hda)
    have c8 := cell_of_one HS1.out.made
    have c9 : (w1.alloc (.cells #[.int .i64 x1, .int .i64 x2, .int .i64 x3] 59)).cell? ⟨m, 0, none⟩ = some v := cell_of_one HS2.out.made
    have KS : Hid (∀ W', Gr wb W' → Blk W' b 22 #[.slice (some ⟨bg, boff, none⟩) bn bc] → Blk W' w.heap.size 97 #[.int .i64 1, .int .i64 (i : Int)] →
     W'.cell? ⟨b, 0, none⟩ = some (.slice (some ⟨bg, boff, none⟩) bn bc) ∧ W'.cell? ⟨w.heap.size, 1, none⟩ = some (.int .i64 (i : Int)) ∧ W'.cell? ⟨bg, boff + i * 3, none⟩ = some (.int .i64 x1) ∧ W'.cell? ⟨bg, boff + i * 3 + 1, none⟩ = some (.int .i64 x2) ∧ W'.cell? ⟨bg, boff + i * 3 + 2, none⟩ = some (.int .i64 x3)) := Lib.hid (fun W' h1 h2 h3 => by
     obtain ⟨bg', boff', e', q1, q2, q3⟩ := Tris_at (HBB.out.keep h1) hi
     obtain ⟨rfl, rfl⟩ : bg = bg' ∧ boff = boff' := by simpa using e'
     rw [bl_getD, HX.out] at q1 q2 q3
     exact ⟨cell_of_one h2, h3.cell 1, q1, q2, q3⟩)
    clear hdr hda c5 c6 c7 t1 t2 t3
    obtain ⟨hi0, hz0, hz1, hz2⟩ := HI.out
    refine wp_region_held_drew (S := (fun W' => W'.cell? ⟨b, 0, none⟩ = some (.slice (some ⟨bg, boff, none⟩) bn bc) ∧ W'.cell? ⟨w.heap.size, 1, none⟩ = some (.int .i64 (i : Int)) ∧ W'.cell? ⟨bg, boff + i * 3, none⟩ = some (.int .i64 x1) ∧ W'.cell? ⟨bg, boff + i * 3 + 1, none⟩ = some (.int .i64 x2) ∧ W'.cell? ⟨bg, boff + i * 3 + 2, none⟩ = some (.int .i64 x3))) ?_ ?_ (fun hHeld => ?_)
    ·kernel_rfl
    ·((try dsimp only); (first | exact hHeld | exact KS.out _ HS1.out.old HS1.out.blanks hbk.out | exact KS.out _ HS2.out.old HS2.out.blanks hbk2.out | exact KS.out _ (Below.grown HS2.out.old HG.out HS2.out.old.size (fun t ht => (HS2.out.row.lt t ht).1)) (HS2.out.blanks.grown HG.out (HS2.out.blanks.apart HS2.out.row (by decide))) (hbk2.out.grown HG.out (hbk2.out.apart HS2.out.row (by decide))) | exact KS.out _ HFIN.out.old HFIN.out.blanks HBF.out))
    refine ti 1 (some 52) rfl rfl ?_; try simp only [Act.put, lA, lB, lC]
    refine ti 2 (some 53) rfl rfl ?_; try simp only [Act.put, lA, lB, lC]
    refine ti 3 (some 54) rfl rfl ?_; try simp only [Act.put, lA, lB, lC]
    refine ti 4 (some 55) rfl rfl ?_; try simp only [Act.put, lA, lB, lC]
    refine ti 5 (some 56) rfl rfl ?_; try simp only [Act.put, lA, lB, lC]
    refine tr [0, 6] (.cons rfl (fun K hK => ?_) (.cons rfl (fun K hK => ?_) .nil))
    go_simp
    refine hK.out _ _ ?_ (fun hHeld => ?_)
    ·((try dsimp only); (first | exact hHeld | exact KS.out _ HS1.out.old HS1.out.blanks hbk.out | exact KS.out _ HS2.out.old HS2.out.blanks hbk2.out | exact KS.out _ (Below.grown HS2.out.old HG.out HS2.out.old.size (fun t ht => (HS2.out.row.lt t ht).1)) (HS2.out.blanks.grown HG.out (HS2.out.blanks.apart HS2.out.row (by decide))) (hbk2.out.grown HG.out (hbk2.out.apart HS2.out.row (by decide))) | exact KS.out _ HFIN.out.old HFIN.out.blanks HBF.out))
    clear hK K; try simp only [Act.put, lA, lB, lC]
    refine tr [6] (.cons rfl (fun K hK => ?_) .nil)
    go_simp
    refine hK.out _ _ ?_ (fun hHeld => ?_)
    ·((try dsimp only); (first | exact hHeld | exact KS.out _ HS1.out.old HS1.out.blanks hbk.out | exact KS.out _ HS2.out.old HS2.out.blanks hbk2.out | exact KS.out _ (Below.grown HS2.out.old HG.out HS2.out.old.size (fun t ht => (HS2.out.row.lt t ht).1)) (HS2.out.blanks.grown HG.out (HS2.out.blanks.apart HS2.out.row (by decide))) (hbk2.out.grown HG.out (hbk2.out.apart HS2.out.row (by decide))) | exact KS.out _ HFIN.out.old HFIN.out.blanks HBF.out))
    clear hK K; try simp only [Act.put, lA, lB, lC]
    refine tr [7] (.cons rfl (fun K hK => ?_) .nil)
    first | (refine step_append_lies _ (by rfl) (.tmp 51) (.tmp 57) 22 (by rfl) wb.heap.size 59 i0 _ 3 24 Tryz.underlying22 hi0 hz0 hz1 hz2 rfl (by decide) v ms.length (flatE enc3 ms) (by rfl) HS2.out.row ⟨w1.heap.size, 0, none⟩ 1 1 [.int .i64 x1, .int .i64 x2, .int .i64 x3] (by rfl) rfl (World.news_of_block (heap_alloc_new _ _)) (enc3_one (x1, x2, x3)) (by decide) (by unfold maxLen; omega) (by omega) HS2.out.old.size _ rfl ?_; intro g' cap' w3 hown hgrow _ _; have HG := Lib.hid hgrow; have hm := HS2.out.made.grown hgrow (HS2.out.made.apart HS2.out.row (by decide)); have d8 := cell_of_one hm; have d9 := free_of_one hm; have HFIN := Lib.hid (HS2.out.more (x := (x1, x2, x3)) hown hgrow); have HST := Lib.hid ((StK.of ((Gr.refl w1).drew.alloc (.cells #[.int .i64 x1, .int .i64 x2, .int .i64 x3] 59))).trans (HS2.out.stk_more hgrow (.slice (some ⟨g', 0, none⟩) (ms.length + 1) cap'))); have HBF := Lib.hid ((hbk2.out.grown hgrow (hbk2.out.apart HS2.out.row (by decide))).other (hbk2.out.differ HS2.out.made (by decide)) (p := ⟨m, 0, none⟩) (.slice (some ⟨g', 0, none⟩) (ms.length + 1) cap')); clear hown hgrow hm)
    refine hK.out _ _ ?_ (fun hHeld => ?_)
    ·((try dsimp only); (first | exact hHeld | exact KS.out _ HS1.out.old HS1.out.blanks hbk.out | exact KS.out _ HS2.out.old HS2.out.blanks hbk2.out | exact KS.out _ (Below.grown HS2.out.old HG.out HS2.out.old.size (fun t ht => (HS2.out.row.lt t ht).1)) (HS2.out.blanks.grown HG.out (HS2.out.blanks.apart HS2.out.row (by decide))) (hbk2.out.grown HG.out (hbk2.out.apart HS2.out.row (by decide))) | exact KS.out _ HFIN.out.old HFIN.out.blanks HBF.out))
    clear hK K; try simp only [Act.put, lA, lB, lC]
    refine tr [8] (.cons rfl (fun K hK => ?_) .nil)
    go_simp
    refine hK.out _ _ ?_ (fun hHeld => ?_)
    ·((try dsimp only); (first | exact hHeld | exact KS.out _ HS1.out.old HS1.out.blanks hbk.out | exact KS.out _ HS2.out.old HS2.out.blanks hbk2.out | exact KS.out _ (Below.grown HS2.out.old HG.out HS2.out.old.size (fun t ht => (HS2.out.row.lt t ht).1)) (HS2.out.blanks.grown HG.out (HS2.out.blanks.apart HS2.out.row (by decide))) (hbk2.out.grown HG.out (hbk2.out.apart HS2.out.row (by decide))) | exact KS.out _ HFIN.out.old HFIN.out.blanks HBF.out))
    clear hK K; try simp only [Act.put, lA, lB, lC]
    refine wpAnyH_done ?_ ?_ _
    ·kernel_rfl
    rotate_left
    go_simp
    refine hK.out _ _ ?_ (fun hHeld => ?_)
    ·((try dsimp only); (first | exact hHeld | exact KS.out _ HS1.out.old HS1.out.blanks hbk.out | exact KS.out _ HS2.out.old HS2.out.blanks hbk2.out | exact KS.out _ (Below.grown HS2.out.old HG.out HS2.out.old.size (fun t ht => (HS2.out.row.lt t ht).1)) (HS2.out.blanks.grown HG.out (HS2.out.blanks.apart HS2.out.row (by decide))) (hbk2.out.grown HG.out (hbk2.out.apart HS2.out.row (by decide))) | exact KS.out _ HFIN.out.old HFIN.out.blanks HBF.out))
    clear hK K; try simp only [Act.put, lA, lB, lC]
    refine tr [0] (.cons rfl (fun K hK => ?_) .nil)
    go_simp
    refine hK.out _ _ ?_ (fun hHeld => ?_)
    ·((try dsimp only); (first | exact hHeld | exact KS.out _ HS1.out.old HS1.out.blanks hbk.out | exact KS.out _ HS2.out.old HS2.out.blanks hbk2.out | exact KS.out _ (Below.grown HS2.out.old HG.out HS2.out.old.size (fun t ht => (HS2.out.row.lt t ht).1)) (HS2.out.blanks.grown HG.out (HS2.out.blanks.apart HS2.out.row (by decide))) (hbk2.out.grown HG.out (hbk2.out.apart HS2.out.row (by decide))) | exact KS.out _ HFIN.out.old HFIN.out.blanks HBF.out))
    clear hK K; try simp only [Act.put, lA, lB, lC]
    refine tr [7] (.cons rfl (fun K hK => ?_) .nil)
    first | (refine step_append_lies _ (by rfl) (.tmp 51) (.tmp 57) 22 (by rfl) wb.heap.size 59 i0 _ 3 24 Tryz.underlying22 hi0 hz0 hz1 hz2 rfl (by decide) v ms.length (flatE enc3 ms) (by rfl) HS2.out.row ⟨w1.heap.size, 0, none⟩ 1 1 [.int .i64 x1, .int .i64 x2, .int .i64 x3] (by rfl) rfl (World.news_of_block (heap_alloc_new _ _)) (enc3_one (x1, x2, x3)) (by decide) (by unfold maxLen; omega) (by omega) HS2.out.old.size _ rfl ?_; intro g' cap' w3 hown hgrow _ _; have HG := Lib.hid hgrow; have hm := HS2.out.made.grown hgrow (HS2.out.made.apart HS2.out.row (by decide)); have d8 := cell_of_one hm; have d9 := free_of_one hm; have HFIN := Lib.hid (HS2.out.more (x := (x1, x2, x3)) hown hgrow); have HST := Lib.hid ((StK.of ((Gr.refl w1).drew.alloc (.cells #[.int .i64 x1, .int .i64 x2, .int .i64 x3] 59))).trans (HS2.out.stk_more hgrow (.slice (some ⟨g', 0, none⟩) (ms.length + 1) cap'))); have HBF := Lib.hid ((hbk2.out.grown hgrow (hbk2.out.apart HS2.out.row (by decide))).other (hbk2.out.differ HS2.out.made (by decide)) (p := ⟨m, 0, none⟩) (.slice (some ⟨g', 0, none⟩) (ms.length + 1) cap')); clear hown hgrow hm)
    refine hK.out _ _ ?_ (fun hHeld => ?_)
    ·((try dsimp only); (first | exact hHeld | exact KS.out _ HS1.out.old HS1.out.blanks hbk.out | exact KS.out _ HS2.out.old HS2.out.blanks hbk2.out | exact KS.out _ (Below.grown HS2.out.old HG.out HS2.out.old.size (fun t ht => (HS2.out.row.lt t ht).1)) (HS2.out.blanks.grown HG.out (HS2.out.blanks.apart HS2.out.row (by decide))) (hbk2.out.grown HG.out (hbk2.out.apart HS2.out.row (by decide))) | exact KS.out _ HFIN.out.old HFIN.out.blanks HBF.out))
    clear hK K; try simp only [Act.put, lA, lB, lC]
    refine tr [8] (.cons rfl (fun K hK => ?_) .nil)
    go_simp
    refine hK.out _ _ ?_ (fun hHeld => ?_)
    ·((try dsimp only); (first | exact hHeld | exact KS.out _ HS1.out.old HS1.out.blanks hbk.out | exact KS.out _ HS2.out.old HS2.out.blanks hbk2.out | exact KS.out _ (Below.grown HS2.out.old HG.out HS2.out.old.size (fun t ht => (HS2.out.row.lt t ht).1)) (HS2.out.blanks.grown HG.out (HS2.out.blanks.apart HS2.out.row (by decide))) (hbk2.out.grown HG.out (hbk2.out.apart HS2.out.row (by decide))) | exact KS.out _ HFIN.out.old HFIN.out.blanks HBF.out))
    clear hK K; try simp only [Act.put, lA, lB, lC]
    refine wpAnyH_done ?_ ?_ _
    ·kernel_rfl
    rotate_left
    all_goals
     clear HI hi0 hz0 hz1 hz2 c8 c9
     go_wp2_with fail
     go_ret
     exact ⟨rfl, _, k + 1, rfl, by rw [HN.out]; omega, by rw [HX.out]; exact HFIN.out, hst1.out.trans HST.out⟩
  ·rw [if_neg (by rw [hbn]; omega)]
   clear hbn hsb
   go_enter Tryz.func86, Tryz.ntmps86
   go_wp2_with fail
   go_ret
   exact ⟨rfl, _, k + 1, _, by rw [HN.out]; omega, HS.out, hst0.out⟩
 ·rw [if_neg (by omega)]
  clear hsb
  go_enter Tryz.func86, Tryz.ntmps86
  go_wp2_with fail
  go_ret
  exact ⟨rfl, _, k + 1, _, by rw [HN.out]; omega, HS.out, hst0.out⟩

def andMade (m1 : List Bl) (Q : Option (List Bl × List St)) : Option (List Bl × List St) :=
 match Q with
 | none => none
 | some (m', r') => some (m1 ++ m', r')
theorem two2_of (m1 : List Bl) (r1 : List St) (k : List St → Option (List Bl × List St)) : two2 (some (m1, r1)) k = andMade m1 (k r1) := rfl

def Sz (W H : Int) : Prop := (1 ≤ W ∧ W ≤ 48) ∧ 1 ≤ H ∧ H ≤ 48

theorem piece_nocut (wb : World) (a p b m f : Nat) (PA : Option Addr) (pc : Nat) (bv : Value) (W H : Int) (bs : List Bl) (plan : List St) (ms : List Bl) (v : Value) (w : World) (n k : Nat) (hn : plan.length = n) (hl : n ≤ 8192)
 (hP : Pts wb PA plan) (hk : k < n) (kd arg : Int) (hs : plan.getD k (0, 0) = (kd, arg)) (hkd : (kd = 2 ∧ cutB arg W = false) ∨ (kd = 3 ∧ cutB arg H = false))
 (hS : RSt wb a p b m f (.slice PA n pc) bv (fnPiece a p b m f) k ms v w) :
 Calls Tryz.prog 86 #[.int .i64 W, .int .i64 H, .pointer (some ⟨a, 0, none⟩), .pointer (some ⟨p, 0, none⟩), .pointer (some ⟨b, 0, none⟩), .pointer (some ⟨m, 0, none⟩), .pointer (some ⟨f, 0, none⟩)] w (RPost wb w a p b m f (.slice PA n pc) bv plan ms (rdP bs W H (plan.drop k))) := by
 have hkl : k < plan.length := by omega
 obtain ⟨g, off, rfl, s1, s2⟩ := Pts_at (hP.keep hS.old) hkl
 rw [hs] at s1 s2
 have hR : Hid (rdP bs W H (plan.drop k) = none) := Lib.hid (by
  rw [drop_cons hkl, hs, rdP_cons]
  rcases hkd with ⟨rfl, h⟩ | ⟨rfl, h⟩
  ·have h' : ¬(1 ≤ arg ∧ arg < W) := by simp [cutB] at h; omega
   simp [h']
  ·have h' : ¬(1 ≤ arg ∧ arg < H) := by simp [cutB] at h; omega
   simp [h'])
 rw [hR.out]
 have HN := Lib.hid hn
 have c1 := cell_of_one hS.at_
 have c2 := cell_of_one hS.plan
 obtain ⟨⟨c3, f3⟩, c4, c5⟩ := hS.facts (.int .i64 kd) (.int .i64 arg) 97
 have HS := Lib.hid (hS.step (.cells #[.int .i64 kd, .int .i64 arg] 97))
 have hst0 := Lib.hid (hS.stk (.cells #[.int .i64 kd, .int .i64 arg] 97) (.int .i64 ((k : Int) + 1)))
 clear hS hn hs hP hkl
 rcases hkd with ⟨rfl, h⟩ | ⟨rfl, h⟩
 all_goals
  have HC := Lib.hid h
  clear h
  go_enter Tryz.func86, Tryz.ntmps86
  go_wp2_with fail
  refine (isCut_any _ _ _ _ HC.out).mono ?_
  rintro e w1 ⟨rfl, rfl⟩
  go_wp2_with fail
  go_ret
  exact ⟨rfl, _, k + 1, _, by rw [HN.out]; omega, HS.out, hst0.out⟩

def PieceUpto (d : Nat) (wb : World) (a p b m f : Nat) (PA : Option Addr) (pc : Nat) (bv : Value) (bs : List Bl) (plan : List St) : Prop :=
 ∀ (W H : Int) (ms : List Bl) (v : Value) (w : World) (k : Nat), Sz W H → k ≤ plan.length → plan.length - k ≤ d → ms.length ≤ k → RSt wb a p b m f (.slice PA plan.length pc) bv (fnPiece a p b m f) k ms v w →
  Calls Tryz.prog 86 #[.int .i64 W, .int .i64 H, .pointer (some ⟨a, 0, none⟩), .pointer (some ⟨p, 0, none⟩), .pointer (some ⟨b, 0, none⟩), .pointer (some ⟨m, 0, none⟩), .pointer (some ⟨f, 0, none⟩)] w (RPost wb w a p b m f (.slice PA plan.length pc) bv plan ms (rdP bs W H (plan.drop k)))

theorem piece_across (d : Nat) (wb : World) (a p b m f : Nat) (PA : Option Addr) (pc : Nat) (bv : Value) (W H : Int) (bs : List Bl) (plan : List St) (ms : List Bl) (v : Value) (w : World) (k : Nat) (hl : plan.length ≤ 8192)
 (ih : PieceUpto d wb a p b m f PA pc bv bs plan) (hZ : Sz W H) (hd : plan.length - k ≤ d + 1) (hms : ms.length ≤ k)
 (hP : Pts wb PA plan) (hk : k < plan.length) (arg : Int) (hs : plan.getD k (0, 0) = (2, arg)) (h1 : 1 ≤ arg) (h2 : arg < W)
 (hS : RSt wb a p b m f (.slice PA plan.length pc) bv (fnPiece a p b m f) k ms v w) :
 Calls Tryz.prog 86 #[.int .i64 W, .int .i64 H, .pointer (some ⟨a, 0, none⟩), .pointer (some ⟨p, 0, none⟩), .pointer (some ⟨b, 0, none⟩), .pointer (some ⟨m, 0, none⟩), .pointer (some ⟨f, 0, none⟩)] w (RPost wb w a p b m f (.slice PA plan.length pc) bv plan ms (rdP bs W H (plan.drop k))) := by
 obtain ⟨g, off, rfl, s1, s2⟩ := Pts_at (hP.keep hS.old) hk
 rw [hs] at s1 s2
 obtain ⟨⟨hW1, hW2⟩, hH1, hH2⟩ := id hZ
 have hR : Hid (rdP bs W H (plan.drop k) = two2 (rdP bs arg H (plan.drop (k + 1))) (rdP bs (W - arg) H)) := Lib.hid (by
  rw [drop_cons hk, hs, rdP_cons]
  simp [h1, h2])
 rw [hR.out]
 have c1 := cell_of_one hS.at_
 have c2 := cell_of_one hS.plan
 obtain ⟨⟨c3, f3⟩, c4, c5⟩ := hS.facts (.int .i64 2) (.int .i64 arg) 97
 have hS2 := hS.step (.cells #[.int .i64 2, .int .i64 arg] 97)
 have c6 := cell_of_one hS2.self
 have HS := Lib.hid hS2
 have hst0 := Lib.hid (hS.stk (.cells #[.int .i64 2, .int .i64 arg] 97) (.int .i64 ((k : Int) + 1)))
 have hsb := Lib.hid (step_block hS (.int .i64 2) (.int .i64 arg))
 have HC : Hid (cutB arg W = true) := Lib.hid (by simp [cutB]; omega)
 have I1 := Lib.hid (fun W' (h : RSt wb a p b m f (.slice (some ⟨g, off, none⟩) plan.length pc) bv (fnPiece a p b m f) (k + 1) ms v W') => ih arg H ms v W' (k + 1) ⟨⟨h1, by omega⟩, hH1, hH2⟩ hk (by omega) (by omega) h)
 have IH := Lib.hid ih
 have HL : Hid (∀ m1 r, rdP bs arg H (plan.drop (k + 1)) = some (m1, r) → r.length ≤ plan.length - (k + 1) ∧ m1.length + r.length ≤ plan.length - (k + 1)) := Lib.hid (fun m1 r e => by
  have := (rdP_made bs _ _ _ _ _ _ (Nat.le_refl _) e).2
  rw [List.length_drop] at this
  omega)
 generalize hQ : rdP bs arg H (plan.drop (k + 1)) = Q at I1 HL ⊢
 have hlk := hl
 generalize hN : plan.length = n at hS hS2 HS I1 HL hk hd hlk c2
 have HN := Lib.hid hN
 clear hS hS2 hs hP ih hQ hN
 unfold fnPiece at c6
 rcases Q with _ | ⟨m1, r1⟩
 ·go_enter Tryz.func86, Tryz.ntmps86
  go_wp2_with fail
  refine (isCut_any _ _ _ _ HC.out).mono ?_
  rintro e w1 ⟨rfl, rfl⟩
  go_wp2_with fail
  refine (I1.out _ HS.out).mono ?_
  rintro e w1 ⟨rfl, v1, k1, ms1, hk1, hS1, hst1⟩
  have HS1 := Lib.hid hS1
  have HST := Lib.hid hst1
  clear hS1 hst1
  go_wp2_with fail
  go_ret
  exact ⟨rfl, v1, k1, ms1, hk1, HS1.out, hst0.out.trans HST.out⟩
 ·obtain ⟨hr1, hr2⟩ := HL.out m1 r1 rfl
  go_enter Tryz.func86, Tryz.ntmps86
  go_wp2_with fail
  refine (isCut_any _ _ _ _ HC.out).mono ?_
  rintro e w1 ⟨rfl, rfl⟩
  go_wp2_with fail
  refine (I1.out _ HS.out).mono ?_
  rintro e w1 ⟨rfl, v1, k1, hrk, hk1, hS1, hst1⟩
  have c7 := cell_of_one hS1.self
  unfold fnPiece at c7
  have c8 : w1.cell? ⟨w.heap.size, 1, none⟩ = some (.int .i64 arg) := (hst1 _ _ hsb.out).cell 1
  have hk1n : k1 ≤ n := by have := HN.out; omega
  have hrl : r1.length = n - k1 := by rw [hrk, List.length_drop, HN.out]
  have I2 := Lib.hid (IH.out (W - arg) H (ms ++ m1) v1 w1 k1 ⟨⟨by omega, by omega⟩, hH1, hH2⟩ hk1 (by rw [HN.out]; omega) (by rw [List.length_append]; omega) (by rw [HN.out]; exact hS1))
  have HST := Lib.hid hst1
  have HRK := Lib.hid hrk
  clear hS1 hst1 hrk hrl
  rw [← HRK.out] at I2
  generalize hQ2 : rdP bs (W - arg) H r1 = Q2 at I2
  have HQ2 := Lib.hid hQ2
  clear hQ2
  rw [HN.out] at I2
  have HT : Hid (two2 (some (m1, r1)) (rdP bs (W - arg) H) = andMade m1 Q2) := Lib.hid (by rw [two2_of, HQ2.out])
  go_wp2_with fail
  refine I2.out.mono ?_
  rcases Q2 with _ | ⟨m2, r2⟩
  ·rintro e w2 ⟨rfl, v2, k2, ms2, hk2, hS2, hst2⟩
   have HS2 := Lib.hid hS2
   have HST2 := Lib.hid hst2
   clear hS2 hst2
   go_wp2_with fail
   go_ret
   rw [HT.out]
   exact ⟨rfl, v2, k2, ms2, hk2, HS2.out, (hst0.out.trans HST.out).trans HST2.out⟩
  ·rintro e w2 ⟨rfl, v2, k2, hr2k, hk2, hS2, hst2⟩
   have HS2 := Lib.hid hS2
   have HST2 := Lib.hid hst2
   have HR2 := Lib.hid hr2k
   clear hS2 hst2 hr2k
   go_wp2_with fail
   go_ret
   rw [HT.out]
   exact ⟨rfl, v2, k2, HR2.out, hk2, by rw [← List.append_assoc]; exact HS2.out, (hst0.out.trans HST.out).trans HST2.out⟩

set_option maxRecDepth 100000
set_option maxHeartbeats 80000000

theorem piece_along (d : Nat) (wb : World) (a p b m f : Nat) (PA : Option Addr) (pc : Nat) (bv : Value) (W H : Int) (bs : List Bl) (plan : List St) (ms : List Bl) (v : Value) (w : World) (k : Nat) (hl : plan.length ≤ 8192)
 (ih : PieceUpto d wb a p b m f PA pc bv bs plan) (hZ : Sz W H) (hd : plan.length - k ≤ d + 1) (hms : ms.length ≤ k)
 (hP : Pts wb PA plan) (hk : k < plan.length) (arg : Int) (hs : plan.getD k (0, 0) = (3, arg)) (h1 : 1 ≤ arg) (h2 : arg < H)
 (hS : RSt wb a p b m f (.slice PA plan.length pc) bv (fnPiece a p b m f) k ms v w) :
 Calls Tryz.prog 86 #[.int .i64 W, .int .i64 H, .pointer (some ⟨a, 0, none⟩), .pointer (some ⟨p, 0, none⟩), .pointer (some ⟨b, 0, none⟩), .pointer (some ⟨m, 0, none⟩), .pointer (some ⟨f, 0, none⟩)] w (RPost wb w a p b m f (.slice PA plan.length pc) bv plan ms (rdP bs W H (plan.drop k))) := by
 obtain ⟨g, off, rfl, s1, s2⟩ := Pts_at (hP.keep hS.old) hk
 rw [hs] at s1 s2
 obtain ⟨⟨hW1, hW2⟩, hH1, hH2⟩ := id hZ
 have hR : Hid (rdP bs W H (plan.drop k) = two2 (rdP bs W arg (plan.drop (k + 1))) (rdP bs W (H - arg))) := Lib.hid (by
  rw [drop_cons hk, hs, rdP_cons]
  simp [h1, h2])
 rw [hR.out]
 have c1 := cell_of_one hS.at_
 have c2 := cell_of_one hS.plan
 obtain ⟨⟨c3, f3⟩, c4, c5⟩ := hS.facts (.int .i64 3) (.int .i64 arg) 97
 have hS2 := hS.step (.cells #[.int .i64 3, .int .i64 arg] 97)
 have c6 := cell_of_one hS2.self
 have HS := Lib.hid hS2
 have hst0 := Lib.hid (hS.stk (.cells #[.int .i64 3, .int .i64 arg] 97) (.int .i64 ((k : Int) + 1)))
 have hsb := Lib.hid (step_block hS (.int .i64 3) (.int .i64 arg))
 have HC : Hid (cutB arg H = true) := Lib.hid (by simp [cutB]; omega)
 have I1 := Lib.hid (fun W' (h : RSt wb a p b m f (.slice (some ⟨g, off, none⟩) plan.length pc) bv (fnPiece a p b m f) (k + 1) ms v W') => ih W arg ms v W' (k + 1) ⟨⟨hW1, hW2⟩, h1, by omega⟩ hk (by omega) (by omega) h)
 have IH := Lib.hid ih
 have HL : Hid (∀ m1 r, rdP bs W arg (plan.drop (k + 1)) = some (m1, r) → r.length ≤ plan.length - (k + 1) ∧ m1.length + r.length ≤ plan.length - (k + 1)) := Lib.hid (fun m1 r e => by
  have := (rdP_made bs _ _ _ _ _ _ (Nat.le_refl _) e).2
  rw [List.length_drop] at this
  omega)
 generalize hQ : rdP bs W arg (plan.drop (k + 1)) = Q at I1 HL ⊢
 have hlk := hl
 generalize hN : plan.length = n at hS hS2 HS I1 HL hk hd hlk c2
 have HN := Lib.hid hN
 clear hS hS2 hs hP ih hQ hN
 unfold fnPiece at c6
 rcases Q with _ | ⟨m1, r1⟩
 ·go_enter Tryz.func86, Tryz.ntmps86
  go_wp2_with fail
  refine (isCut_any _ _ _ _ HC.out).mono ?_
  rintro e w1 ⟨rfl, rfl⟩
  go_wp2_with fail
  refine (I1.out _ HS.out).mono ?_
  rintro e w1 ⟨rfl, v1, k1, ms1, hk1, hS1, hst1⟩
  have HS1 := Lib.hid hS1
  have HST := Lib.hid hst1
  clear hS1 hst1
  go_wp2_with fail
  go_ret
  exact ⟨rfl, v1, k1, ms1, hk1, HS1.out, hst0.out.trans HST.out⟩
 ·obtain ⟨hr1, hr2⟩ := HL.out m1 r1 rfl
  go_enter Tryz.func86, Tryz.ntmps86
  go_wp2_with fail
  refine (isCut_any _ _ _ _ HC.out).mono ?_
  rintro e w1 ⟨rfl, rfl⟩
  go_wp2_with fail
  refine (I1.out _ HS.out).mono ?_
  rintro e w1 ⟨rfl, v1, k1, hrk, hk1, hS1, hst1⟩
  have c7 := cell_of_one hS1.self
  unfold fnPiece at c7
  have c8 : w1.cell? ⟨w.heap.size, 1, none⟩ = some (.int .i64 arg) := (hst1 _ _ hsb.out).cell 1
  have hk1n : k1 ≤ n := by have := HN.out; omega
  have hrl : r1.length = n - k1 := by rw [hrk, List.length_drop, HN.out]
  have I2 := Lib.hid (IH.out W (H - arg) (ms ++ m1) v1 w1 k1 ⟨⟨hW1, hW2⟩, by omega, by omega⟩ hk1 (by rw [HN.out]; omega) (by rw [List.length_append]; omega) (by rw [HN.out]; exact hS1))
  have HST := Lib.hid hst1
  have HRK := Lib.hid hrk
  clear hS1 hst1 hrk hrl
  rw [← HRK.out] at I2
  generalize hQ2 : rdP bs W (H - arg) r1 = Q2 at I2
  have HQ2 := Lib.hid hQ2
  clear hQ2
  rw [HN.out] at I2
  have HT : Hid (two2 (some (m1, r1)) (rdP bs W (H - arg)) = andMade m1 Q2) := Lib.hid (by rw [two2_of, HQ2.out])
  go_wp2_with fail
  refine I2.out.mono ?_
  rcases Q2 with _ | ⟨m2, r2⟩
  ·rintro e w2 ⟨rfl, v2, k2, ms2, hk2, hS2, hst2⟩
   have HS2 := Lib.hid hS2
   have HST2 := Lib.hid hst2
   clear hS2 hst2
   go_wp2_with fail
   go_ret
   rw [HT.out]
   exact ⟨rfl, v2, k2, ms2, hk2, HS2.out, (hst0.out.trans HST.out).trans HST2.out⟩
  ·rintro e w2 ⟨rfl, v2, k2, hr2k, hk2, hS2, hst2⟩
   have HS2 := Lib.hid hS2
   have HST2 := Lib.hid hst2
   have HR2 := Lib.hid hr2k
   clear hS2 hst2 hr2k
   go_wp2_with fail
   go_ret
   rw [HT.out]
   exact ⟨rfl, v2, k2, HR2.out, hk2, by rw [← List.append_assoc]; exact HS2.out, (hst0.out.trans HST.out).trans HST2.out⟩

theorem piece_all (wb : World) (a p b m f : Nat) (PA : Option Addr) (pc : Nat) (BA : Option Addr) (bn bc : Nat) (bs : List Bl) (plan : List St) (hl : plan.length ≤ 8192) (hbn : bs.length = bn)
 (hP : Pts wb PA plan) (hB : Tris wb BA bs) : ∀ d, PieceUpto d wb a p b m f PA pc (.slice BA bn bc) bs plan := by
 have hend : ∀ (W H : Int) (ms : List Bl) (v : Value) (w : World) (k : Nat), k = plan.length → RSt wb a p b m f (.slice PA plan.length pc) (.slice BA bn bc) (fnPiece a p b m f) k ms v w →
  Calls Tryz.prog 86 #[.int .i64 W, .int .i64 H, .pointer (some ⟨a, 0, none⟩), .pointer (some ⟨p, 0, none⟩), .pointer (some ⟨b, 0, none⟩), .pointer (some ⟨m, 0, none⟩), .pointer (some ⟨f, 0, none⟩)] w (RPost wb w a p b m f (.slice PA plan.length pc) (.slice BA bn bc) plan ms (rdP bs W H (plan.drop k))) := by
  intro W H ms v w k hk hS
  subst hk
  exact piece_end wb a p b m f PA pc _ W H bs plan ms v w _ rfl hS
 intro d
 induction d with
 | zero =>
   intro W H ms v w k hZ hk hd hms hS
   exact hend W H ms v w k (by omega) hS
 | succ d ih =>
   intro W H ms v w k hZ hk hd hms hS
   by_cases he : k = plan.length
   ·exact hend W H ms v w k he hS
   ·have hk' : k < plan.length := by omega
    obtain ⟨⟨kd, arg⟩, hs⟩ : ∃ s, plan.getD k (0, 0) = s := ⟨_, rfl⟩
    by_cases h0 : kd = 0
    ·subst h0; exact piece_waste wb a p b m f PA pc _ W H bs plan ms v w _ k rfl (by omega) hP hk' arg hs hS
    ·by_cases h1 : kd = 1
     ·subst h1; exact piece_make wb a p b m f PA pc BA bn bc W H bs plan ms v w _ k rfl hl hbn hms hP hB hk' arg hs hS
     ·by_cases h2 : kd = 2
      ·subst h2
       by_cases hc : 1 ≤ arg ∧ arg < W
       ·exact piece_across d wb a p b m f PA pc _ W H bs plan ms v w k hl ih hZ hd hms hP hk' arg hs hc.1 hc.2 hS
       ·exact piece_nocut wb a p b m f PA pc _ W H bs plan ms v w _ k rfl hl hP hk' 2 arg hs (Or.inl ⟨rfl, by simp [cutB]; omega⟩) hS
      ·by_cases h3 : kd = 3
       ·subst h3
        by_cases hc : 1 ≤ arg ∧ arg < H
        ·exact piece_along d wb a p b m f PA pc _ W H bs plan ms v w k hl ih hZ hd hms hP hk' arg hs hc.1 hc.2 hS
        ·exact piece_nocut wb a p b m f PA pc _ W H bs plan ms v w _ k rfl hl hP hk' 3 arg hs (Or.inr ⟨rfl, by simp [cutB]; omega⟩) hS
       ·exact piece_other wb a p b m f PA pc _ W H bs plan ms v w _ k rfl (by omega) hP hk' kd arg hs h0 h1 h2 h3 hS

set_option maxRecDepth 100000
set_option maxHeartbeats 80000000

def allOf (Q : Option (List Bl × List St)) : Option (List Bl) :=
 match Q with
 | some (m, []) => some m
 | _ => none
def readL (bs : List Bl) (W H : Int) (plan : List St) : Option (List Bl) :=
 if plan.length ≤ 8192 then allOf (rdP bs W H plan) else none

def ReadPost (R : Option (List Bl)) (w : World) (e : Ending) (w' : World) : Prop :=
 Gr w w' ∧ match R with
 | some m => ∃ A c, e = .returned (.tuple #[.slice A m.length c, .bool true]) ∧ Tris w' A m
 | none => ∃ v, e = .returned (.tuple #[v, .bool false])

theorem RSt.start (w : World) (bv pv : Value) {S : Nat} (hS : w.heap.size = S) :
 RSt w (S + 1 + 1 + 1 + 1) (S + 1) S (S + 1 + 1 + 1) (S + 1 + 1 + 1 + 1 + 1) pv bv (fnPiece (S + 1 + 1 + 1 + 1) (S + 1) S (S + 1 + 1 + 1) (S + 1 + 1 + 1 + 1 + 1)) 0 [] (.slice (some ⟨S + 1 + 1, 0, none⟩) 0 0)
  ((((((w.alloc (.cells #[bv] 22)).alloc (.cells #[pv] 60)).alloc (.cells #[] 59)).alloc (.cells #[.slice (some ⟨S + 1 + 1, 0, none⟩) 0 0] 22)).alloc (.cells #[.int .i64 0] 3)).alloc
    (.cells #[fnPiece (S + 1 + 1 + 1 + 1) (S + 1) S (S + 1 + 1 + 1) (S + 1 + 1 + 1 + 1 + 1)] 138)) := by
 subst hS
 refine ⟨?_, ?_, ?_, ?_, ?_, ?_, ?_, by omega, by omega, by omega⟩
 ·exact Blk.alloc (Blk.new _ _ _ (by simp)) _
 ·exact Blk.alloc (Blk.alloc (Blk.alloc (Blk.alloc (Blk.new _ _ _ (by simp)) _) _) _) _
 ·exact Blk.alloc (Blk.alloc (Blk.alloc (Blk.alloc (Blk.alloc (Blk.new _ _ _ (by simp)) _) _) _) _) _
 ·exact Blk.alloc (Blk.alloc (Blk.new _ _ _ (by simp)) _) _
 ·exact Blk.new _ _ _ (by simp)
 ·have h : ((w.alloc (.cells #[bv] 22)).alloc (.cells #[pv] 60)).heap.size = w.heap.size + 1 + 1 := by simp
  have := World.ownsRow_made (e := 59) (size := 3) (base := w.heap.size) ((w.alloc (.cells #[bv] 22)).alloc (.cells #[pv] 60)) #[] 0 (by simp; omega) (Nat.zero_le _) (by simp)
  rw [h] at this
  exact ((this.alloc _).alloc _).alloc _
 ·exact ((((((Gr.refl w).alloc _).alloc _).alloc _).alloc _).alloc _).alloc _

theorem read_any (W H : Int) (BA PA : Option Addr) (bn bc n pc : Nat) (bs : List Bl) (plan : List St) (w : World) (hbn : bs.length = bn) (hn : plan.length = n) (hl : n ≤ 281474976710656) (hZ : Sz W H) (hB : Tris w BA bs) (hP : Pts w PA plan) :
 Calls Tryz.prog 66 #[.int .i64 W, .int .i64 H, .slice BA bn bc, .slice PA n pc] w (ReadPost (readL bs W H plan) w) := by
 by_cases h8 : n ≤ 8192
 ·subst hn
  obtain ⟨S, hS⟩ : ∃ S, w.heap.size = S := ⟨_, rfl⟩
  have h0 := RSt.start w (.slice BA bn bc) (.slice PA plan.length pc) hS
  have HC := Lib.hid (piece_all w _ _ _ _ _ PA pc BA bn bc bs plan h8 hbn hP hB plan.length W H [] _ _ 0 hZ (Nat.zero_le _) (by omega) (Nat.zero_le _) h0)
  obtain ⟨Q, hQ⟩ : ∃ Q, rdP bs W H plan = Q := ⟨_, rfl⟩
  rw [List.drop_zero, hQ] at HC
  have HR : Hid (readL bs W H plan = allOf Q) := Lib.hid (by unfold readL; rw [if_pos h8, hQ])
  clear h0 hQ hB hP hZ hbn
  subst hS
  generalize hN : plan.length = n at HC h8 ⊢
  have HN := Lib.hid hN
  clear hN
  unfold fnPiece at HC
  go_enter Tryz.func66, Tryz.ntmps66
  go_wp2_with fail
  refine HC.out.mono ?_
  clear HC
  rcases Q with _ | ⟨m, r⟩
  ·rintro e w1 ⟨rfl, v, k', ms', hk', hS1, -⟩
   have c1 := cell_of_one hS1.made
   have HS1 := Lib.hid hS1.old
   clear hS1
   go_wp2_with fail
   go_quiet (fail)
   go_wp2_with fail
   go_ret2
   rw [HR.out]
   exact ⟨HS1.out.drewN _, _, rfl⟩
  ·rintro e w1 ⟨rfl, v, k', hr, hk', hS1, -⟩
   have c1 := cell_of_one hS1.made
   have c2 := cell_of_one hS1.at_
   have c3 := cell_of_one hS1.plan
   obtain ⟨A, c, rfl, hmc, hTr, -⟩ := own_row enc3_len rfl hS1.row
   have HS1 := Lib.hid hS1.old
   have HT := Lib.hid hTr
   have HRR := Lib.hid hr
   clear hS1 hTr hr
   by_cases hkn : k' = n
   ·subst hkn
    have hr0 : r = [] := by rw [HRR.out, List.drop_of_length_le (by rw [HN.out]; exact Nat.le_refl _)]
    have HR0 := Lib.hid hr0
    clear hr0
    go_wp2_with fail
    go_quiet (fail)
    go_wp2_with fail
    go_ret2
    rw [HR.out, HR0.out]
    exact ⟨HS1.out.drewN _, A, c, rfl, HT.out.keep ((Gr.refl _).drewN _)⟩
   ·have hr0 : allOf (some (m, r)) = none := by
     have h1 := congrArg List.length HRR.out
     rw [List.length_drop, HN.out] at h1
     rw [HN.out] at hk'
     match r, h1 with
     | [], h1 => simp at h1; omega
     | _ :: _, _ => rfl
    have HR0 := Lib.hid hr0
    have hne : ((k' : Int) == (n : Int)) = false := by simp; omega
    clear hr0 hkn
    go_wp2_with fail
    go_quiet (fail)
    go_wp2_with fail
    go_ret2
    rw [HR.out, HR0.out]
    exact ⟨HS1.out.drewN _, _, rfl⟩
 ·have hR : Hid (readL bs W H plan = none) := Lib.hid (by unfold readL; rw [if_neg (by omega)])
  rw [hR.out]
  clear hbn hn hZ hB hP
  go_enter Tryz.func66, Tryz.ntmps66
  go_wp2_with fail
  go_ret2
  exact ⟨by (repeat (first | exact Gr.refl _ | assumption | (refine Gr.drew ?_) | (refine Gr.drewN ?_ _) | (refine Gr.alloc ?_ _) | (refine Gr.trans ?_ (by assumption)))), _, rfl⟩

end Go.Proofs.YtobcdkjomehdkaaGreat
