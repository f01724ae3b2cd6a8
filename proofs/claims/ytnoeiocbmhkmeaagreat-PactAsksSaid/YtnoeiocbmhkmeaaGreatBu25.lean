/- Layer 5: the reference turns a transaction. -/
import Derived.Test.YtnoeiocbmhkmeaaGreatBu24
namespace Go.Proofs.YtnoeiocbmhkmeaaGreat
open Go.RowKit
set_option linter.unusedSimpArgs false
set_option maxRecDepth 100000
set_option maxHeartbeats 80000000

theorem Tryz.infoBo5 : (Tryz.prog.info? 4).map (fun i => (i.zero, i.size, i.bytes)) = some (some (.bool false), 1, 1) := by kernel_rfl
def bo5 (n : Nat) : Array Value := (List.replicate n (Value.bool false)).toArray
theorem made_bo5 (n : Nat) : madeCells #[Value.bool false] (n * 1) = bo5 n := by
 have hs : (madeCells #[Value.bool false] (n * 1)).size = n := by have := size_madeCells #[Value.bool false] (n * 1); simpa using this
 apply Array.ext
 ·rw [hs]; simp [bo5]
 ·intro i h1 h2
  simp [madeCells, bo5, Nat.mod_one]
theorem mk_bo5 (n : Nat) (hl : n ≤ 4096) (w : World) : (Instr.makeSlice 98 (.int .i64 (n : Int)) (.int .i64 (n : Int))).run Tryz.prog w =
 .ok (.slice (some ⟨w.heap.size, 0, none⟩) n n) (w.alloc (.cells (bo5 n) 4)) := by
 obtain ⟨i0, hi, hz0, hz1, hz2⟩ := info_parts Tryz.infoBo5
 have h := run_make (P := Tryz.prog) w 98 4 i0 _ Tryz.underlying98 hi hz0 .i64 .i64 (n : Int) (n : Int) (by omega) (by omega) (by rw [hz2]; omega) (by omega)
 rw [hz1] at h
 simp only [Int.toNat_natCast] at h
 rw [h, show (Value.bool false).cells = #[Value.bool false] from rfl, made_bo5]
theorem flat_bo5 (l : List Bool) : flatE encBo5 l = l.map Value.bool := by
 induction l with
 | nil => rfl
 | cons x r ih => show encBo5 x ++ flatE encBo5 r = _; rw [ih]; rfl
theorem owns_bo5 {w : World} {B g n : Nat} (h : Blk w g 4 (bo5 n)) (hB : B ≤ g) (hn : n ≤ 4096) : w.ownsRow B 4 1 (.slice (some ⟨g, 0, none⟩) n n) n (flatE encBo5 (List.replicate n false)) := by
 refine ⟨by rw [flat_bo5]; simp, Or.inr ⟨g, n, bo5 n, rfl, hB, h, Nat.le_refl _, by unfold maxLen; omega, by simp [bo5], ?_⟩⟩
 rw [flat_bo5]
 simp [bo5]
theorem blk_two {a b : Rw} {g h : Nat} (ha : a.v.ownBlock = some g) (hb : b.v.ownBlock = some h) : blkR [a, b] = [g, h] := by
 unfold blkR
 simp [ha, hb]
theorem xturn_any (S : List Nat) (w0 : World) (L : LN) (k : Nat) (x : LT) (is : Int) (w : World) (h : XOw S w0 w L) (hk : L.txs[k]? = some x) (h2 : L.txs.length ≤ 256) (hp8 : x.parts.length ≤ 8) :
 Calls Tryz.prog 63 #[L.v, .int .i64 ((k : Int) + 1), .int .i64 is] w fun e w' => e = .returned L.v ∧ Ch (blkR L.rows) w w' ∧ ∃ hv, (∀ g, hv.ownBlock = some g → w.heap.size ≤ g) ∧ XOw S w0 w' { L with txs := L.txs.set k { x with is := is, heard := List.replicate x.parts.length false, hv := hv } } := by
 have hrow : w.ownsRow w0.heap.size 4 1 x.hv x.heard.length (flatE encBo5 x.heard) := h.rws.all x.row (by
  simp only [LN.rows, List.mem_cons, List.mem_append, List.mem_map]
  exact Or.inr (Or.inr (Or.inr (Or.inr ⟨x, List.mem_of_getElem? hk, rfl⟩))))
 have htr : w.ownsRow w0.heap.size 100 4 L.tv L.txs.length (flatE encLT L.txs) := h.rws.all L.tRow (by simp [LN.rows])
 obtain ⟨gt, ct, htv, -⟩ := owns_shape htr (by have := (List.getElem?_eq_some_iff.1 hk).1; omega)
 obtain ⟨Ah, ch, hhv, -⟩ := RdV.of encBo5_len hrow
 obtain ⟨Ap, cp, hpv, -⟩ := (h.parts x (List.mem_of_getElem? hk)).rd h.gr
 obtain ⟨As, ns, cs, hsv⟩ : ∃ A n c, L.sv = .slice A n c := by
  obtain ⟨A, c, e, -⟩ := RdV.of (k := 3) encLS_len (h.rws.all L.sRow (by simp [LN.rows]))
  exact ⟨A, _, c, e⟩
 obtain ⟨Al, nl, cl, hlv⟩ : ∃ A n c, L.lv = .slice A n c := by
  obtain ⟨A, c, e, -⟩ := RdV.of (k := 5) enc5m_len (h.rws.all L.lRow (by simp [LN.rows]))
  exact ⟨A, _, c, e⟩
 have hlt := (List.getElem?_eq_some_iff.1 hk).1
 obtain ⟨b, off, hb, hc⟩ := Rd_of_owns encLT_len rfl (by rw [htv] at htr; exact htr) k x hk
 injection hb with hb
 injection hb with hb1 hb2
 subst hb1 hb2
 have z0 : w.cell? ⟨gt, 0 + k * 4, none⟩ = some (.int .i64 x.at5) := hc 0 _ rfl
 have z1 : w.cell? ⟨gt, 0 + k * 4 + 1, none⟩ = some (.int .i64 x.is) := hc 1 _ rfl
 have z2 : w.cell? ⟨gt, 0 + k * 4 + 2, none⟩ = some x.pv := hc 2 _ rfl
 have z3 : w.cell? ⟨gt, 0 + k * 4 + 3, none⟩ = some x.hv := hc 3 _ rfl
 rw [Nat.zero_add] at z0 z1 z2 z3
 rw [hpv] at z2
 rw [hhv] at z3
 have HH := Lib.hid h
 have HK := Lib.hid hk
 have HTR := Lib.hid htr
 have HV := Lib.hid (And.intro hsv (And.intro htv (And.intro hlv (And.intro hpv hhv))))
 have hki : (k : Int) < (L.txs.length : Int) := by omega
 have hk0 : (0 : Int) ≤ (k : Int) := by omega
 have HB := Lib.hid h.rws.le
 obtain ⟨M, hM⟩ : ∃ M, (fun (e : Ending) (w' : World) => e = .returned L.v ∧ Ch (blkR L.rows) w w' ∧ ∃ hv, (∀ g, hv.ownBlock = some g → w.heap.size ≤ g) ∧ XOw S w0 w' { L with txs := L.txs.set k { x with is := is, heard := List.replicate x.parts.length false, hv := hv } }) = M := ⟨_, rfl⟩
 rw [hM]
 have HM := Lib.hid hM
 unfold LN.v
 rw [hsv, htv, hlv]
 obtain ⟨n, hn⟩ : ∃ n, L.txs.length = n := ⟨_, rfl⟩
 obtain ⟨p, hp⟩ : ∃ p, x.parts.length = p := ⟨_, rfl⟩
 obtain ⟨q, hq⟩ : ∃ q, x.heard.length = q := ⟨_, rfl⟩
 rw [hn] at hki hlt h2 ⊢
 rw [hp] at hp8 z2
 rw [hq] at z3
 obtain ⟨at5, h5⟩ : ∃ a, x.at5 = a := ⟨_, rfl⟩
 rw [h5] at z0
 have H5 := Lib.hid h5
 generalize x.is = is0 at z1
 have HNQ := Lib.hid (And.intro hn (And.intro hp hq))
 have hmk := fun W => mk_bo5 p (by omega) W
 obtain ⟨cur, hcur, hcz⟩ := owns_blk (by rw [htv] at htr; exact htr)
 rw [hn] at hcz
 have HCUR := Lib.hid hcur
 clear h hk hrow htr hsv htv hlv hpv hhv hM hn hp hq hc h5
 go_enter Tryz.func63, Tryz.ntmps63
 go_upto_region 1 with fail
 generalize hW1 : World.alloc (World.alloc w _) _ = w1
 obtain ⟨g, hg⟩ : ∃ g, w.heap.size = g := ⟨_, rfl⟩
 obtain ⟨hg1, k1, k2, hs1⟩ := box33 hg hW1
 have HG := Lib.hid hg1
 have HS := Lib.hid hg
 have HS1 := Lib.hid hs1
 have b0 := k1.cell 0
 have b1 := k1.cell 1
 have b2 := k1.cell 2
 simp only [List.getElem?_toArray, List.getElem?_cons_succ, List.getElem?_cons_zero] at b0 b1 b2
 have HK1 := Lib.hid k1
 have HK2 := Lib.hid k2
 have y0 := hg1.keep z0
 have y1 := hg1.keep z1
 have y2 := hg1.keep z2
 have y3 := hg1.keep z3
 have ha := (Gr.refl w1).alloc (.cells #[.int .i64 0, .int .i64 0, .slice none 0 0, .slice none 0 0] 100)
 rw [hg]
 clear hg1 hW1 hg k1 k2 hs1 z0 z1 z2 z3 hcur
 go_upto_region 2 with fail
 generalize hW2 : World.alloc w1 _ = w2
 have k5 : Blk w2 (g + 2) 100 #[.int .i64 at5, .int .i64 is0, .slice Ap p cp, .slice Ah q ch] := by rw [← hW2]; exact Blk.new _ _ _ HS1.out
 have hg2 : Gr w1 w2 := by rw [← hW2]; exact (Gr.refl w1).alloc _
 have hs2 : w2.heap.size = g + 3 := by rw [← hW2]; have := HS1.out; simp; omega
 have HG2 := Lib.hid hg2
 have HS2 := Lib.hid hs2
 have HK5 := Lib.hid k5
 rw [HS1.out]
 have v0 := k5.cell 0
 have v1 := k5.cell 1
 have v2 := k5.cell 2
 have v3 := k5.cell 3
 have f1 := k5.free 1
 simp only [List.getElem?_toArray, List.getElem?_cons_succ, List.getElem?_cons_zero] at v0 v1 v2 v3
 clear hW2 ha k5 hg2 hs2
 go_upto_region 3 with fail
 generalize hW3 : World.setCell w2 _ _ = w3
 have k6 : Blk w3 (g + 2) 100 #[.int .i64 at5, .int .i64 is, .slice Ap p cp, .slice Ah q ch] := by rw [← hW3]; exact HK5.out.put 1 (.int .i64 is)
 have hc3 : Ch [g + 2] w2 w3 := by rw [← hW3]; exact Ch.refl.set (p := ⟨g + 2, 1, none⟩) (by simp) _
 have hs3 : w3.heap.size = g + 3 := by rw [← hW3, ← HS2.out]; simp [World.setCell]
 have HC3 := Lib.hid hc3
 have HS3 := Lib.hid hs3
 have HK6 := Lib.hid k6
 clear v0 v1 v2 v3 f1 hW3 hc3 hs3
 have v2 := k6.cell 2
 simp only [List.getElem?_toArray, List.getElem?_cons_succ, List.getElem?_cons_zero] at v2
 have k7 := k6.keep ((Gr.refl w3).alloc (.cells (bo5 p) 4))
 have f3 := k7.free 3
 have v3 := k7.cell 3
 simp only [List.getElem?_toArray, List.getElem?_cons_succ, List.getElem?_cons_zero] at v3
 clear k6 k7
 go_upto_region 4 with fail
 rw [HS3.out]
 generalize hW4 : World.setCell (World.alloc w3 _) _ _ = w4
 have ka := HK6.out.keep ((Gr.refl w3).alloc (.cells (bo5 p) 4))
 have k8 : Blk w4 (g + 2) 100 #[.int .i64 at5, .int .i64 is, .slice Ap p cp, .slice (some ⟨g + 3, 0, none⟩) p p] := by rw [← hW4]; exact ka.put 3 _
 have hca : Ch [g + 2] (w3.alloc (.cells (bo5 p) 4)) w4 := by rw [← hW4]; exact Ch.refl.set (p := ⟨g + 2, 3, none⟩) (by simp) _
 have hb3 : Blk (w3.alloc (.cells (bo5 p) 4)) (g + 3) 4 (bo5 p) := Blk.new _ _ _ HS3.out
 have k9 : Blk w4 (g + 3) 4 (bo5 p) := (hca.block (g + 3) hb3.lt (by simp)).trans hb3
 have hg3 : Gr w1 w3 := HC3.out.up HG2.out (fun t ht => by have := HS1.out; simp at ht; omega)
 have hg4 : Gr w1 w4 := hca.up (hg3.trans ((Gr.refl w3).alloc _)) (fun t ht => by have := HS1.out; simp at ht; omega)
 have HG4 := Lib.hid hg4
 have HK8 := Lib.hid k8
 have HK9 := Lib.hid k9
 have k1 := HK1.out.keep hg4
 have k2 := HK2.out.keep hg4
 have HK2' := Lib.hid k2
 have hcu := (HCUR.out.keep HG.out).keep hg4
 have b0 := k1.cell 0
 have b1 := k1.cell 1
 have b2 := k1.cell 2
 have v0 := k8.cell 0
 have v1 := k8.cell 1
 have v2 := k8.cell 2
 have v3 := k8.cell 3
 have f0 := k2.free 0
 have f1 := k2.free 1
 have f2 := k2.free 2
 have d0 := k2.cell 0
 have d1 := k2.cell 1
 have d2 := k2.cell 2
 simp only [List.getElem?_toArray, List.getElem?_cons_succ, List.getElem?_cons_zero] at b0 b1 b2 d0 d1 d2 v0 v1 v2 v3
 obtain ⟨_, c0⟩ := hcu.get (i := k * 4) (by omega)
 obtain ⟨_, c1⟩ := hcu.get (i := k * 4 + 1) (by omega)
 obtain ⟨_, c2⟩ := hcu.get (i := k * 4 + 2) (by omega)
 obtain ⟨_, c3⟩ := hcu.get (i := k * 4 + 3) (by omega)
 have e0 := hcu.free (k * 4)
 have e1 := hcu.free (k * 4 + 1)
 have e2 := hcu.free (k * 4 + 2)
 have e3 := hcu.free (k * 4 + 3)
 have hne : gt < g := by have := HCUR.out.lt; have := HS.out; omega
 have h10 : (g == gt) = false := by simp; omega
 have h11 : (gt == g) = false := by simp; omega
 have h12 : (gt == g + 1) = false := by simp; omega
 have h13 : (g + 1 == gt) = false := by simp; omega
 have HNE := Lib.hid hne
 clear hW4 ka k8 hca hb3 k9 hg3 hg4 k1 k2 hcu y0 y1 y2 y3 hmk
 go_wp2_with fail
 generalize hW5 : World.setCell (World.setCell (World.setCell (World.setCell w4 _ _) _ _) _ _) _ _ = w5
 generalize hW : World.setCell (World.setCell (World.setCell w5 _ _) _ _) _ _ = W
 have hc5 : Ch [gt] w4 w5 := by
  rw [← hW5]
  exact (((Ch.refl.set (p := ⟨gt, k * 4, none⟩) (by simp) _).set (p := ⟨gt, k * 4 + 1, none⟩) (by simp) _).set (p := ⟨gt, k * 4 + 2, none⟩) (by simp) _).set (p := ⟨gt, k * 4 + 3, none⟩) (by simp) _
 have k25 := (show Blk w5 (g + 1) _ _ from (hc5.block (g + 1) HK2'.out.lt (by have := HNE.out; simp; omega)).trans HK2'.out)
 obtain ⟨kW, cW⟩ := put33 k25 hW
 have u0 := kW.cell 0
 have u1 := kW.cell 1
 have u2 := kW.cell 2
 refine bodyPost_ret (v := .agg #[.slice As ns cs, .slice (some ⟨gt, 0, none⟩) n ct, .slice Al nl cl]) ?_ ?_ ?_
 ·simp [results, Tryz.results63, go_sem, u0, u1, u2]
 ·rfl
 ·rw [← HM.out]
  obtain ⟨hsv, htv, hlv, hpv, hhv⟩ := HV.out
  obtain ⟨hn, hp, hq⟩ := HNQ.out
  have hS := HS.out
  have hB := HB.out
  have hNE := HNE.out
  have hgt : gt ∈ blkR [L.tRow, x.row] := List.mem_filterMap.2 ⟨L.tRow, by simp, by show L.tv.ownBlock = _; rw [htv]; rfl⟩
  have hw4 : Gr w w4 := HG.out.trans HG4.out
  have hc51 : Ch [gt, g + 1] w4 W := (hc5.mono (T := [gt, g + 1]) (by simp)).trans cW (fun x hx => Or.inl (by simp at hx ⊢; exact Or.inr hx))
  have hcw : Ch [gt] w W := (Ch.of hw4).trans hc51 (fun x hx => by
   simp at hx
   rcases hx with rfl | rfl
   ·exact Or.inl (by simp)
   ·exact Or.inr (by omega))
  have htr4 := owns_gr HTR.out hw4
  rw [htv, hn] at htr4
  have htr5 := owns_tx htr4 (i := k) (by omega) { x with is := is, heard := List.replicate x.parts.length false, hv := .slice (some ⟨g + 3, 0, none⟩) p p }
  dsimp only at htr5
  rw [H5.out, hpv, hp, hW5] at htr5
  have htrW := owns_ch htr5 cW (fun x hx hm => by
   have h1 : gt = x := by injection hx
   simp at hm
   omega)
  have hboW := owns_ch (owns_bo5 HK9.out (B := w0.heap.size) (by omega) (by omega)) hc51 (fun x hx hm => by
   have h1 : g + 3 = x := by injection hx
   simp at hm
   omega)
  have hblk : blkR [LN.tRow { L with txs := L.txs.set k { x with is := is, heard := List.replicate x.parts.length false, hv := .slice (some ⟨g + 3, 0, none⟩) p p } }, LT.row { x with is := is, heard := List.replicate x.parts.length false, hv := .slice (some ⟨g + 3, 0, none⟩) p p }] = [gt, g + 3] := by
   exact blk_two (by show L.tv.ownBlock = _; rw [htv]; rfl) rfl
  refine ⟨by unfold LN.v; rw [hsv, htv, hlv, hn], hcw.mono (fun y hy => by rw [List.mem_singleton.1 hy]; exact blk_sub (a := [L.tRow, x.row]) (fun r hr => (LN.permT (perm_get HK.out) L.tRow).mem_iff.2 (List.mem_append_left _ hr)) _ hgt), .slice (some ⟨g + 3, 0, none⟩) p p, fun y hy => by have hy' : some (g + 3) = some y := hy; injection hy' with hy'; omega, ?_⟩
  refine HH.out.setTx HK.out ⟨rfl, rfl⟩ (hcw.mono (fun x hx => by rw [List.mem_singleton.1 hx]; exact hgt)) ⟨fun r hr => ?_, ?_, Nat.le_trans hB hcw.size⟩ (fun y hy => ?_)
  ·rcases List.mem_cons.1 hr with rfl | hr
   ·show W.ownsRow _ _ 4 L.tv (L.txs.set k _).length (flatE encLT (L.txs.set k _))
    rw [List.length_set, htv, hpv, H5.out, hn, hp]
    exact htrW
   ·rw [List.mem_singleton.1 hr]
    show W.ownsRow _ _ 1 _ (List.replicate x.parts.length false).length (flatE encBo5 (List.replicate x.parts.length false))
    rw [List.length_replicate, hp]
    exact hboW
  ·show (blkR _).Nodup
   rw [hblk]
   simp
   omega
  ·rw [hblk] at hy
   simp at hy
   rcases hy with rfl | rfl
   ·exact Or.inl hgt
   ·exact Or.inr (by omega)

set_option maxRecDepth 100000
set_option maxHeartbeats 80000000

theorem xhear_any (S : List Nat) (w0 : World) (L : LN) (k : Nat) (x : LT) (j : Nat) (w : World) (h : XOw S w0 w L) (hk : L.txs[k]? = some x) (h2 : L.txs.length ≤ 256) (hj : j < x.heard.length) (hp8 : x.heard.length ≤ 8) :
 Calls Tryz.prog 80 #[L.v, .int .i64 ((k : Int) + 1), .int .i64 (j : Int)] w fun e w' => e = .returned (.tuple #[L.v, .bool ((x.heard.set j true).all id)]) ∧ Ch (blkR L.rows) w w' ∧ XOw S w0 w' { L with txs := L.txs.set k { x with heard := x.heard.set j true } } := by
 have hrow : w.ownsRow w0.heap.size 4 1 x.hv x.heard.length (flatE encBo5 x.heard) := h.rws.all x.row (by
  simp only [LN.rows, List.mem_cons, List.mem_append, List.mem_map]
  exact Or.inr (Or.inr (Or.inr (Or.inr ⟨x, List.mem_of_getElem? hk, rfl⟩))))
 have htr : w.ownsRow w0.heap.size 100 4 L.tv L.txs.length (flatE encLT L.txs) := h.rws.all L.tRow (by simp [LN.rows])
 obtain ⟨gt, ct, htv, -⟩ := owns_shape htr (by have := (List.getElem?_eq_some_iff.1 hk).1; omega)
 obtain ⟨gh, ch, hhv, hch⟩ := owns_shape hrow (by omega)
 obtain ⟨Ap, cp, hpv, -⟩ := (h.parts x (List.mem_of_getElem? hk)).rd h.gr
 obtain ⟨As, ns, cs, hsv⟩ : ∃ A n c, L.sv = .slice A n c := by
  obtain ⟨A, c, e, -⟩ := RdV.of (k := 3) encLS_len (h.rws.all L.sRow (by simp [LN.rows]))
  exact ⟨A, _, c, e⟩
 obtain ⟨Al, nl, cl, hlv⟩ : ∃ A n c, L.lv = .slice A n c := by
  obtain ⟨A, c, e, -⟩ := RdV.of (k := 5) enc5m_len (h.rws.all L.lRow (by simp [LN.rows]))
  exact ⟨A, _, c, e⟩
 have hlt := (List.getElem?_eq_some_iff.1 hk).1
 obtain ⟨b, off, hb, hc⟩ := Rd_of_owns encLT_len rfl (by rw [htv] at htr; exact htr) k x hk
 injection hb with hb
 injection hb with hb1 hb2
 subst hb1 hb2
 have z0 : w.cell? ⟨gt, 0 + k * 4, none⟩ = some (.int .i64 x.at5) := hc 0 _ rfl
 have z1 : w.cell? ⟨gt, 0 + k * 4 + 1, none⟩ = some (.int .i64 x.is) := hc 1 _ rfl
 have z2 : w.cell? ⟨gt, 0 + k * 4 + 2, none⟩ = some x.pv := hc 2 _ rfl
 have z3 : w.cell? ⟨gt, 0 + k * 4 + 3, none⟩ = some x.hv := hc 3 _ rfl
 rw [Nat.zero_add] at z0 z1 z2 z3
 rw [hpv] at z2
 rw [hhv] at z3
 have HH := Lib.hid h
 have HK := Lib.hid hk
 have HTR := Lib.hid htr
 have HV := Lib.hid (And.intro hsv (And.intro htv (And.intro hlv (And.intro hpv hhv))))
 have hki : (k : Int) < (L.txs.length : Int) := by omega
 have hk0 : (0 : Int) ≤ (k : Int) := by omega
 have HB := Lib.hid h.rws.le
 obtain ⟨M, hM⟩ : ∃ M, (fun (e : Ending) (w' : World) => e = .returned (.tuple #[L.v, .bool ((x.heard.set j true).all id)]) ∧ Ch (blkR L.rows) w w' ∧ XOw S w0 w' { L with txs := L.txs.set k { x with heard := x.heard.set j true } }) = M := ⟨_, rfl⟩
 rw [hM]
 have HM := Lib.hid hM
 unfold LN.v
 rw [hsv, htv, hlv]
 obtain ⟨n, hn⟩ : ∃ n, L.txs.length = n := ⟨_, rfl⟩
 obtain ⟨p, hp⟩ : ∃ p, x.parts.length = p := ⟨_, rfl⟩
 obtain ⟨q, hq⟩ : ∃ q, x.heard.length = q := ⟨_, rfl⟩
 rw [hn] at hki hlt h2 ⊢
 rw [hp] at z2
 rw [hq] at z3 hp8 hj hch
 obtain ⟨at5, h5⟩ : ∃ a, x.at5 = a := ⟨_, rfl⟩
 rw [h5] at z0
 have H5 := Lib.hid h5
 obtain ⟨is0, h6⟩ : ∃ a, x.is = a := ⟨_, rfl⟩
 rw [h6] at z1
 have H6 := Lib.hid h6
 have HNQ := Lib.hid (And.intro hn (And.intro hp hq))
 obtain ⟨cuh, hcuh, hchz⟩ := owns_blk (by rw [hhv] at hrow; exact hrow)
 rw [hq] at hchz
 have HCUH := Lib.hid hcuh
 have HROW := Lib.hid hrow
 have hji : (j : Int) < (q : Int) := by omega
 have hj0 : (0 : Int) ≤ (j : Int) := by omega
 obtain ⟨cur, hcur, hcz⟩ := owns_blk (by rw [htv] at htr; exact htr)
 rw [hn] at hcz
 have HCUR := Lib.hid hcur
 clear h hk hrow htr hsv htv hlv hpv hhv hM hn hp hq hc h5 h6 hcuh
 go_enter Tryz.func80, Tryz.ntmps80
 go_upto_region 1 with fail
 generalize hW1 : World.alloc (World.alloc w _) _ = w1
 obtain ⟨g, hg⟩ : ∃ g, w.heap.size = g := ⟨_, rfl⟩
 obtain ⟨hg1, k1, k2, hs1⟩ := box33 hg hW1
 have HG := Lib.hid hg1
 have HS := Lib.hid hg
 have HS1 := Lib.hid hs1
 have b0 := k1.cell 0
 have b1 := k1.cell 1
 have b2 := k1.cell 2
 simp only [List.getElem?_toArray, List.getElem?_cons_succ, List.getElem?_cons_zero] at b0 b1 b2
 have HK1 := Lib.hid k1
 have HK2 := Lib.hid k2
 have y0 := hg1.keep z0
 have y1 := hg1.keep z1
 have y2 := hg1.keep z2
 have y3 := hg1.keep z3
 have ha := (Gr.refl w1).alloc (.cells #[.int .i64 0, .int .i64 0, .slice none 0 0, .slice none 0 0] 100)
 rw [hg]
 clear hg1 hW1 hg k1 k2 hs1 z0 z1 z2 z3 hcur
 go_upto_region 2 with fail
 generalize hW2 : World.alloc w1 _ = w2
 have k5 : Blk w2 (g + 2) 100 #[.int .i64 at5, .int .i64 is0, .slice Ap p cp, .slice (some ⟨gh, 0, none⟩) q ch] := by rw [← hW2]; exact Blk.new _ _ _ HS1.out
 have hg2 : Gr w1 w2 := by rw [← hW2]; exact (Gr.refl w1).alloc _
 have HG2 := Lib.hid (HG.out.trans hg2)
 have HK5 := Lib.hid k5
 rw [HS1.out]
 have k1 := HK1.out.keep hg2
 have k2 := HK2.out.keep hg2
 have HK2' := Lib.hid k2
 have hcu := HCUR.out.keep HG2.out
 have hcv := HCUH.out.keep HG2.out
 have b0 := k1.cell 0
 have b1 := k1.cell 1
 have b2 := k1.cell 2
 have v0 := k5.cell 0
 have v1 := k5.cell 1
 have v2 := k5.cell 2
 have v3 := k5.cell 3
 simp only [List.getElem?_toArray, List.getElem?_cons_succ, List.getElem?_cons_zero] at b0 b1 b2 v0 v1 v2 v3
 obtain ⟨_, cj⟩ := hcv.get (i := j) (by omega)
 have ej := hcv.free j
 have hp := HH.out.rws.perm (LN.permT (perm_get HK.out) L.tRow)
 have hnod := (hp.sub (List.sublist_append_left [L.tRow, x.row] _)).nod
 have hbl : blkR [L.tRow, x.row] = [gt, gh] := blk_two (by show L.tv.ownBlock = _; rw [HV.out.2.1]; rfl) (by show x.hv.ownBlock = _; rw [HV.out.2.2.2.2]; rfl)
 have hth : gt ≠ gh := by
  have h1 : (blkR [L.tRow, x.row]).Nodup := hnod
  rw [hbl] at h1
  simpa using h1
 have HBL := Lib.hid hbl
 have HTH := Lib.hid hth
 have hne : gt < g := by have := HCUR.out.lt; have := HS.out; omega
 have hnh : gh < g := by have := HCUH.out.lt; have := HS.out; omega
 have HNE := Lib.hid (And.intro hne hnh)
 have HCU := Lib.hid hcu
 have HCV := Lib.hid hcv
 have HK1' := Lib.hid k1
 clear hW2 ha k1 k2 k5 hg2 hcu hcv y0 y1 y2 y3 hp hnod hbl hth hne hnh
 go_upto_region 3 with fail
 generalize hW3 : World.setCell w2 _ _ = w3
 have hc3 : Ch [gh] w2 w3 := by rw [← hW3]; exact Ch.refl.set (p := ⟨gh, j, none⟩) (by simp) _
 have HW3 := Lib.hid hW3
 have HC3 := Lib.hid hc3
 have hne := HNE.out.1
 have hnh := HNE.out.2
 have hth := HTH.out
 have k1 : Blk w3 g _ _ := (hc3.block g HK1'.out.lt (by simp; omega)).trans HK1'.out
 have k2 : Blk w3 (g + 1) _ _ := (hc3.block (g + 1) HK2'.out.lt (by simp; omega)).trans HK2'.out
 have k5 : Blk w3 (g + 2) _ _ := (hc3.block (g + 2) HK5.out.lt (by simp; omega)).trans HK5.out
 have hcu : Blk w3 gt _ _ := (hc3.block gt HCU.out.lt (by simp; omega)).trans HCU.out
 have HK13 := Lib.hid k1
 have HK23 := Lib.hid k2
 have HK53 := Lib.hid k5
 clear b0 b1 b2 v0 v1 v2 v3 cj ej hW3
 have b0 := k1.cell 0
 have b1 := k1.cell 1
 have b2 := k1.cell 2
 have v0 := k5.cell 0
 have v1 := k5.cell 1
 have v2 := k5.cell 2
 have v3 := k5.cell 3
 simp only [List.getElem?_toArray, List.getElem?_cons_succ, List.getElem?_cons_zero] at b0 b1 b2 v0 v1 v2 v3
 obtain ⟨_, c0⟩ := hcu.get (i := k * 4) (by omega)
 obtain ⟨_, c1⟩ := hcu.get (i := k * 4 + 1) (by omega)
 obtain ⟨_, c2⟩ := hcu.get (i := k * 4 + 2) (by omega)
 obtain ⟨_, c3⟩ := hcu.get (i := k * 4 + 3) (by omega)
 have e0 := hcu.free (k * 4)
 have e1 := hcu.free (k * 4 + 1)
 have e2 := hcu.free (k * 4 + 2)
 have e3 := hcu.free (k * 4 + 3)
 clear hc3 k1 k2 k5 hcu hne hnh hth
 go_upto_region 4 with fail
 generalize hW4 : World.setCell (World.setCell (World.setCell (World.setCell w3 _ _) _ _) _ _) _ _ = w4
 have hc4 : Ch [gt] w3 w4 := by
  rw [← hW4]
  exact (((Ch.refl.set (p := ⟨gt, k * 4, none⟩) (by simp) _).set (p := ⟨gt, k * 4 + 1, none⟩) (by simp) _).set (p := ⟨gt, k * 4 + 2, none⟩) (by simp) _).set (p := ⟨gt, k * 4 + 3, none⟩) (by simp) _
 have hne := HNE.out.1
 have hnh := HNE.out.2
 have hth := HTH.out
 have k1 : Blk w4 g _ _ := (hc4.block g HK13.out.lt (by simp; omega)).trans HK13.out
 have k2 : Blk w4 (g + 1) _ _ := (hc4.block (g + 1) HK23.out.lt (by simp; omega)).trans HK23.out
 have k5 : Blk w4 (g + 2) _ _ := (hc4.block (g + 2) HK53.out.lt (by simp; omega)).trans HK53.out
 have hr1 := owns_gr HROW.out HG2.out
 rw [HV.out.2.2.2.2, HNQ.out.2.2] at hr1
 have hr3 := owns_bool hr1 (i := j) true
 rw [HW3.out] at hr3
 have hr4 := owns_ch hr3 hc4 (fun x hx hm => by
  have h1 : gh = x := by injection hx
  simp at hm
  omega)
 have HR4 := Lib.hid hr4
 have HW4 := Lib.hid hW4
 have HC4 := Lib.hid hc4
 obtain ⟨hs, hhs⟩ : ∃ l, x.heard.set j true = l := ⟨_, rfl⟩
 have hsl : hs.length = q := by rw [← hhs, List.length_set]; exact HNQ.out.2.2
 rw [hhs] at hr4
 have HHS := Lib.hid hhs
 have HSL := Lib.hid hsl
 have HR : Hid (∀ i, i < q → w4.cell? ⟨gh, i, none⟩ = some (.bool (hs.getD i false))) := Lib.hid (fun i hi => by
  have hg : hs[i]? = some (hs.getD i false) := getD_of false (by omega)
  obtain ⟨b, off, hb, hc⟩ := Rd_of_owns encBo5_len hsl hr4 i _ hg
  injection hb with hb
  injection hb with hb1 hb2
  subst hb1 hb2
  have := hc 0 _ rfl
  simpa using this)
 have HK24 := Lib.hid k2
 clear b0 b1 b2 v0 v1 v2 v3 c0 c1 c2 c3 e0 e1 e2 e3 hW4 hc4 hr1 hr3 hr4 hhs hsl
 have b0 := k1.cell 0
 have b1 := k1.cell 1
 have b2 := k1.cell 2
 have v0 := k5.cell 0
 have v1 := k5.cell 1
 have v2 := k5.cell 2
 have v3 := k5.cell 3
 have f0 := k2.free 0
 have f1 := k2.free 1
 have f2 := k2.free 2
 have d0 := k2.cell 0
 have d1 := k2.cell 1
 have d2 := k2.cell 2
 simp only [List.getElem?_toArray, List.getElem?_cons_succ, List.getElem?_cons_zero] at b0 b1 b2 v0 v1 v2 v3 d0 d1 d2
 clear k1 k2 k5 hne hnh hth
 go_wp2_with fail
 go_loopw [9, 10] (fun a z wr => ∃ i : Nat, i ≤ q ∧ z = .int .i64 (i : Int) ∧ a = .bool ((hs.take i).all id) ∧ wr = w4) (fun _ z _ => q - (intOf z).toNat)
 case atStart => exact ⟨0, Nat.zero_le _, rfl, by simp, rfl⟩
 case round =>
  obtain ⟨i, hi, rfl, rfl, rfl⟩ := hrel
  by_cases hlt : i < q
  ·have yc := HR.out i hlt
   have hii : (i : Int) < (q : Int) := by omega
   have hi0 : (0 : Int) ≤ (i : Int) := by omega
   have HA : Hid ((hs.take (i + 1)).all id = ((hs.take i).all id && hs.getD i false)) := Lib.hid (by
    rw [List.take_add_one, show hs[i]? = some (hs.getD i false) from getD_of false (by have := HSL.out; omega)]
    simp)
   generalize (hs.take i).all id = a at HA ⊢
   generalize hs.getD i false = b at HA yc
   cases a with
   | false =>
     go_wp2_with fail
     go_roundw
     case rel => exact ⟨i + 1, by omega, by go_num, by rw [HA.out]; rfl, by first | rfl | trivial⟩
     case measure => simp [intOf]; omega
   | true =>
     go_wp2_with fail
     go_roundw
     case rel => exact ⟨i + 1, by omega, by go_num, by rw [HA.out]; rfl, by first | rfl | trivial⟩
     case measure => simp [intOf]; omega
  ·obtain rfl : q = i := by omega
   have HA : Hid ((hs.take q).all id = hs.all id) := Lib.hid (by rw [List.take_of_length_le (by have := HSL.out; omega)])
   generalize (hs.take q).all id = a at HA ⊢
   go_wp2_with fail
   generalize hW : World.setCell (World.setCell (World.setCell wr _ _) _ _) _ _ = W
   obtain ⟨kW, cW⟩ := put33 HK24.out hW
   have u0 := kW.cell 0
   have u1 := kW.cell 1
   have u2 := kW.cell 2
   refine bodyPost_ret (v := .tuple #[.agg #[.slice As ns cs, .slice (some ⟨gt, 0, none⟩) n ct, .slice Al nl cl], .bool a]) ?_ ?_ ?_
   ·simp [results, Tryz.results80, go_sem, u0, u1, u2]
   ·rfl
   ·rw [← HM.out]
    obtain ⟨hsv, htv, hlv, hpv, hhv⟩ := HV.out
    obtain ⟨hn, hp, hq⟩ := HNQ.out
    have hS := HS.out
    have hB := HB.out
    have hne := HNE.out.1
    have hnh := HNE.out.2
    have hth := HTH.out
    refine ⟨by unfold LN.v; rw [hsv, htv, hlv, hn, HHS.out, HA.out], ?_⟩
    have hc2 : Ch [gt, gh, g + 1] w2 W := ((HC3.out.mono (T := [gt, gh, g + 1]) (by simp)).trans HC4.out (fun y hy => Or.inl (by simp at hy ⊢; exact Or.inl hy))).trans cW (fun y hy => Or.inl (by simp at hy ⊢; exact Or.inr (Or.inr hy)))
    have hcw : Ch [gt, gh] w W := (Ch.of HG2.out).trans hc2 (fun y hy => by
     simp at hy
     rcases hy with rfl | rfl | rfl
     ·exact Or.inl (by simp)
     ·exact Or.inl (by simp)
     ·exact Or.inr (by omega))
    have htr2 := owns_gr HTR.out HG2.out
    rw [htv, hn] at htr2
    have htr3 := owns_ch htr2 HC3.out (fun y hy hm => by
     have h1 : gt = y := by injection hy
     simp at hm
     omega)
    have htr4 := owns_tx htr3 (i := k) (by omega) { x with heard := x.heard.set j true }
    dsimp only at htr4
    rw [H5.out, H6.out, hpv, hhv, hp, hq, HW4.out] at htr4
    have htrW := owns_ch htr4 cW (fun y hy hm => by
     have h1 : gt = y := by injection hy
     simp at hm
     omega)
    have hroW := owns_ch HR4.out cW (fun y hy hm => by
     have h1 : gh = y := by injection hy
     simp at hm
     omega)
    have hblk : blkR [LN.tRow { L with txs := L.txs.set k { x with heard := x.heard.set j true } }, LT.row { x with heard := x.heard.set j true }] = [gt, gh] := blk_two (by show L.tv.ownBlock = _; rw [htv]; rfl) (by show x.hv.ownBlock = _; rw [hhv]; rfl)
    refine ⟨hcw.mono (fun y hy => blk_sub (a := [L.tRow, x.row]) (fun r hr => (LN.permT (perm_get HK.out) L.tRow).mem_iff.2 (List.mem_append_left _ hr)) _ (by rw [HBL.out]; exact hy)), ?_⟩
    refine HH.out.setTx HK.out ⟨rfl, rfl⟩ (hcw.mono (fun y hy => by rw [HBL.out]; exact hy)) ⟨fun r hr => ?_, ?_, Nat.le_trans hB hcw.size⟩ (fun y hy => Or.inl (by rw [HBL.out, ← hblk]; exact hy))
    ·rcases List.mem_cons.1 hr with rfl | hr
     ·show W.ownsRow _ _ 4 L.tv (L.txs.set k _).length (flatE encLT (L.txs.set k _))
      rw [List.length_set, htv, hpv, hhv, H5.out, H6.out, hn, hp, hq]
      exact htrW
     ·rw [List.mem_singleton.1 hr]
      show W.ownsRow _ _ 1 x.hv (x.heard.set j true).length (flatE encBo5 (x.heard.set j true))
      rw [List.length_set, hhv, hq]
      exact hroW
    ·show (blkR _).Nodup
     rw [hblk]
     simp
     omega

set_option maxRecDepth 100000
set_option maxHeartbeats 80000000

theorem xPart_at {ps : List Mv} {f : Int} {i : Nat} (hi : i < ps.length) (h : ∀ j, j < i → (ps.getD j (0, 0)).1 ≠ f) (he : (ps.getD i (0, 0)).1 = f) : xPart ps f = (i : Int) := by
 have hx : ∀ j, (hj : j < ps.length) → ps.getD j (0, 0) = ps[j] := fun j hj => by
  rw [List.getD_eq_getElem?_getD, List.getElem?_eq_getElem hj]; rfl
 have : ps.findIdx? (fun p => p.1 == f) = some i := by
  rw [List.findIdx?_eq_some_iff_getElem]
  refine ⟨hi, by rw [hx i hi] at he; simpa using he, fun j hj => ?_⟩
  have := h j hj
  rw [hx j (by omega)] at this
  simpa using this
 unfold xPart
 rw [this]
theorem xPart_no {ps : List Mv} {f : Int} (h : ∀ j, j < ps.length → (ps.getD j (0, 0)).1 ≠ f) : xPart ps f = -1 := by
 have : ps.findIdx? (fun p => p.1 == f) = none := by
  rw [List.findIdx?_eq_none_iff]
  intro p hp
  obtain ⟨j, hj⟩ := List.getElem?_of_mem hp
  have h1 := h j (List.getElem?_eq_some_iff.1 hj).1
  rw [List.getD_eq_getElem?_getD, hj] at h1
  simpa using h1
 unfold xPart
 rw [this]
theorem xpart_any (x : LT) (f : Int) (w : World) (hp : RdV 2 enc2 w x.pv x.parts) (hv : ∃ A n c, x.hv = .slice A n c) (hl : x.parts.length ≤ 8) :
 Calls Tryz.prog 77 #[.agg #[.int .i64 x.at5, .int .i64 x.is, x.pv, x.hv], .int .i64 f] w fun e w' => e = .returned (.int .i64 (xPart x.parts f)) ∧ Gr w w' := by
 obtain ⟨A, c, e, hc, -, hr⟩ := hp
 obtain ⟨Ah, nh, ch, hhv⟩ := hv
 rw [e, hhv]
 obtain ⟨p, hpl⟩ : ∃ p, x.parts.length = p := ⟨_, rfl⟩
 generalize x.at5 = a5
 generalize x.is = a6
 generalize x.parts = ps at hr hpl hl ⊢
 rw [hpl] at hl ⊢
 have HPL := Lib.hid hpl
 have HR := Lib.hid hr
 clear e hhv hpl hr hc
 go_enter Tryz.func77, Tryz.ntmps77
 go_upto_region 1 with fail
 generalize hW1 : World.alloc w _ = w1
 have hg1 : Gr w w1 := by rw [← hW1]; exact (Gr.refl w).alloc _
 obtain ⟨g, hg⟩ : ∃ g, w.heap.size = g := ⟨_, rfl⟩
 have k1 : Blk w1 g 100 #[.int .i64 a5, .int .i64 a6, .slice A p c, .slice Ah nh ch] := by rw [← hW1]; exact Blk.new _ _ _ hg
 have HG := Lib.hid hg1
 have HR1 := Lib.hid (HR.out.keep hg1)
 have v2 := k1.cell 2
 simp only [List.getElem?_toArray, List.getElem?_cons_succ, List.getElem?_cons_zero] at v2
 rw [hg]
 clear hg1 hW1 hg k1
 go_wp2_with fail
 go_loopw [5] (fun z wr => ∃ i : Nat, i ≤ p ∧ z = .int .i64 (i : Int) ∧ Hid (∀ j, j < i → (ps.getD j (0, 0)).1 ≠ f) ∧ wr = w1) (fun z _ => p - (intOf z).toNat)
 case atStart => exact ⟨0, Nat.zero_le _, rfl, Lib.hid (fun j hj => by omega), rfl⟩
 case round =>
  obtain ⟨i, hi, rfl, hlow, rfl⟩ := hrel
  by_cases hlt : i < p
  ·obtain ⟨b, off, rfl, x0, x1⟩ := Pts_at HR1.out (k := i) (by rw [HPL.out]; exact hlt)
   have hii : (i : Int) < (p : Int) := by omega
   have hi0 : (0 : Int) ≤ (i : Int) := by omega
   have HAT := Lib.hid (fun he => xPart_at (ps := ps) (f := f) (i := i) (by rw [HPL.out]; exact hlt) hlow.out he)
   have HNX : Hid ((ps.getD i (0, 0)).1 ≠ f → ∀ j, j < i + 1 → (ps.getD j (0, 0)).1 ≠ f) := Lib.hid (fun h j hj => by
    rcases Nat.lt_or_ge j i with e | e
    ·exact hlow.out j e
    ·obtain rfl : j = i := by omega
     exact h)
   generalize ps.getD i (0, 0) = q at x0 x1 HAT HNX
   obtain ⟨q1, q2⟩ := q
   dsimp only at x0 x1 HAT HNX
   by_cases hq : q1 = f
   ·subst hq
    go_wp2_with fail
    go_ret
    exact ⟨ret_int (HAT.out (by first | rfl | trivial)).symm, HG.out⟩
   ·have hqb : (q1 == f) = false := by simpa using hq
    go_wp2_with fail
    go_roundw
    case rel => exact ⟨i + 1, by omega, by go_num, Lib.hid (HNX.out hq), by first | rfl | trivial⟩
    case measure => simp [intOf]; omega
  ·obtain rfl : p = i := by omega
   have HNO := Lib.hid (xPart_no (ps := ps) (f := f) (by rw [HPL.out]; exact hlow.out))
   go_wp2_with fail
   go_ret
   exact ⟨ret_int HNO.out.symm, HG.out⟩

end Go.Proofs.YtnoeiocbmhkmeaaGreat
