/- Layer 5: the reference sends a letter. -/
import Derived.Test.YtnoeiocbmhkmeaaGreatBu23
import Derived.Maps.AppendAt
namespace Go.Proofs.YtnoeiocbmhkmeaaGreat
open Go.RowKit
set_option linter.unusedSimpArgs false
set_option maxRecDepth 100000
set_option maxHeartbeats 80000000

def blkR (l : List Rw) : List Nat := l.filterMap (fun r => r.v.ownBlock)
theorem blk_mem {l : List Rw} {r : Rw} {g : Nat} (hr : r ∈ l) (hb : r.v.ownBlock = some g) : g ∈ blkR l := List.mem_filterMap.2 ⟨r, hr, hb⟩
theorem blk_sub {a l : List Rw} (h : ∀ r ∈ a, r ∈ l) : ∀ g ∈ blkR a, g ∈ blkR l := fun g hg => by
 obtain ⟨r, hr, hb⟩ := List.mem_filterMap.1 hg
 exact blk_mem (h r hr) hb
theorem era_send {L : LN} {m : Ml} (lv : Value) (h : L.mail.length < 1024) : LN.era { L with mail := L.mail ++ [m], lv := lv } = xSend L.era m := by
 unfold xSend LN.era
 dsimp only
 rw [if_neg (by omega)]
theorem era_full {L : LN} {m : Ml} (h : 1024 ≤ L.mail.length) : L.era = xSend L.era m := by
 unfold xSend
 rw [if_pos (show 1024 ≤ L.era.mail.length from h)]
section
variable {S : List Nat} {w0 w w' : World} {L : LN}
theorem XOw.letters (h : XOw S w0 w L) (ml : List Ml) (lv : Value) (hc : Ch L.lv.ownBlock.toList w w') (ho : w'.ownsRow w0.heap.size 59 5 lv ml.length (flatE enc5m ml)) (hb : lv.ownBlock = L.lv.ownBlock ∨ lv.ownBlock = none ∨ ∃ g, lv.ownBlock = some g ∧ w.heap.size ≤ g) : XOw S w0 w' { L with mail := ml, lv := lv } := by
 have h1 : Rws w0.heap.size w (L.lRow :: L.sRow :: L.tRow :: (L.sites.map LS.row ++ L.txs.map LT.row)) := h.rws.perm (by
  unfold LN.rows
  exact ((List.Perm.swap L.lRow L.tRow _).cons L.sRow).trans (List.Perm.swap L.lRow L.sRow _))
 have h2 := h1.turn (r' := LN.lRow { L with mail := ml, lv := lv }) hc ho hb
 refine ⟨h2.perm ?_, fun t ht => (h.parts t ht).ch hc (fun g hg => h.noMove (a := [L.lRow]) (by simp [LN.rows]) g (by rw [List.mem_filterMap]; exact ⟨L.lRow, by simp, show L.lv.ownBlock = some g by simpa using hg⟩)), h.up hc (fun g hg => ?_)⟩
 ·unfold LN.rows
  exact (List.Perm.swap _ _ _).trans ((List.Perm.swap _ _ _).cons _)
 ·have := h.rws.all L.lRow (by simp [LN.rows])
  exact (owns_in this (show L.lv.ownBlock = some g by simpa using hg)).2
end
theorem box33 {w W : World} {t : TypeId} {a b c a' b' c' : Value} {g : Nat} (hg : w.heap.size = g) (hW : (w.alloc (.cells #[a, b, c] t)).alloc (.cells #[a', b', c'] t) = W) : Gr w W ∧ Blk W g t #[a, b, c] ∧ Blk W (g + 1) t #[a', b', c'] ∧ W.heap.size = g + 2 := by
 subst hW hg
 have h1 : (w.alloc (.cells #[a, b, c] t)).heap.size = w.heap.size + 1 := by simp
 refine ⟨((Gr.refl _).alloc _).alloc _, (Blk.new _ _ _ rfl).keep ((Gr.refl _).alloc _), Blk.new _ _ _ h1, ?_⟩
 simp
theorem put33 {w W : World} {g : Nat} {t : TypeId} {a b c x y z : Value} (h : Blk w g t #[a, b, c]) (hW : ((w.setCell ⟨g, 0, none⟩ x).setCell ⟨g, 1, none⟩ y).setCell ⟨g, 2, none⟩ z = W) : Blk W g t #[x, y, z] ∧ Ch [g] w W := by
 subst hW
 exact ⟨((h.put 0 x).put 1 y).put 2 z, ((Ch.refl.set (p := ⟨g, 0, none⟩) (by simp) x).set (p := ⟨g, 1, none⟩) (by simp) y).set (p := ⟨g, 2, none⟩) (by simp) z⟩
theorem Ch.row {T : List Nat} {w w' : World} {row : Option Nat} (h : w.grownBy w' row) (hr : ∀ g, row = some g → g ∈ T) : Ch T w w' := ⟨h.os, h.tape, h.output, h.size, fun g hg hn => h.block g hg (fun e => hn (hr g e.symm))⟩
def XFr (L : LN) (w : World) (L' : LN) (w' : World) : Prop := Ch (blkR L.rows) w w' ∧ ∀ g ∈ blkR L'.rows, g ∈ blkR L.rows ∨ w.heap.size ≤ g
theorem XFr.trans {L L' L'' : LN} {w w' w'' : World} (h : XFr L w L' w') (h' : XFr L' w' L'' w'') : XFr L w L'' w'' :=
 ⟨h.1.trans h'.1 h.2, fun g hg => (h'.2 g hg).elim (fun a => h.2 g a) (fun a => Or.inr (Nat.le_trans h.1.size a))⟩
theorem blk_lv {L : LN} {ml : List Ml} {lv : Value} {n : Nat} (h : lv.ownBlock = L.lv.ownBlock ∨ lv.ownBlock = none ∨ ∃ g, lv.ownBlock = some g ∧ n ≤ g) : ∀ g ∈ blkR (LN.rows { L with mail := ml, lv := lv }), g ∈ blkR L.rows ∨ n ≤ g := by
 intro g hg
 obtain ⟨r, hr, hb⟩ := List.mem_filterMap.1 hg
 simp only [LN.rows, List.mem_cons] at hr
 rcases hr with rfl | rfl | rfl | hr
 ·exact Or.inl (blk_mem (r := L.sRow) (by simp [LN.rows]) hb)
 ·exact Or.inl (blk_mem (r := L.tRow) (by simp [LN.rows]) hb)
 ·change lv.ownBlock = some g at hb
  rcases h with h | h | ⟨g', h, hs⟩
  ·exact Or.inl (blk_mem (r := L.lRow) (by simp [LN.rows]) (by show L.lv.ownBlock = _; rw [← h]; exact hb))
  ·rw [h] at hb; cases hb
  ·rw [h] at hb
   injection hb with hb
   subst hb
   exact Or.inr hs
 ·exact Or.inl (blk_mem (r := r) (by simp only [LN.rows, List.mem_cons]; exact Or.inr (Or.inr (Or.inr hr))) hb)
def SendP (S : List Nat) (w0 w : World) (L : LN) (m : Ml) (e : Ending) (w' : World) : Prop := ∃ ml lv, e = .returned (.agg #[L.sv, L.tv, lv]) ∧ XFr L w { L with mail := ml, lv := lv } w' ∧ XOw S w0 w' { L with mail := ml, lv := lv } ∧ LN.era { L with mail := ml, lv := lv } = xSend L.era m ∧ ml.length ≤ 1024
theorem xsend_any (S : List Nat) (w0 : World) (L : LN) (fr dst kd tx ch : Int) (w : World) (h : XOw S w0 w L) (hl : L.mail.length ≤ 1024) :
 Calls Tryz.prog 62 #[L.v, .int .i64 fr, .int .i64 dst, .int .i64 kd, .int .i64 tx, .int .i64 ch] w (SendP S w0 w L (fr, dst, kd, tx, ch)) := by
 have ho : w.ownsRow w0.heap.size 59 5 L.lv L.mail.length (flatE enc5m L.mail) := h.rws.all L.lRow (by simp [LN.rows])
 obtain ⟨A, c, e, hnc, hcm, -⟩ := RdV.of (k := 5) enc5m_len ho
 have HH := Lib.hid h
 have HE := Lib.hid e
 have HO := Lib.hid ho
 have HL := Lib.hid hl
 have hb0 := h.rws.le
 obtain ⟨As, ns, cs, hsv⟩ : ∃ A n c, L.sv = .slice A n c := by
  obtain ⟨A, c, e, -⟩ := RdV.of (k := 3) encLS_len (h.rws.all L.sRow (by simp [LN.rows]))
  exact ⟨A, _, c, e⟩
 obtain ⟨At, nt, ct, htv⟩ : ∃ A n c, L.tv = .slice A n c := by
  obtain ⟨A, c, e, -⟩ := RdV.of (k := 4) encLT_len (h.rws.all L.tRow (by simp [LN.rows]))
  exact ⟨A, _, c, e⟩
 obtain ⟨n, hn⟩ : ∃ n, L.mail.length = n := ⟨_, rfl⟩
 have HN := Lib.hid hn
 have HSV := Lib.hid (And.intro hsv htv)
 unfold LN.v
 rw [e, hn, hsv, htv]
 rw [hn] at hl hnc
 obtain ⟨M, hM⟩ : ∃ M, SendP S w0 w L (fr, dst, kd, tx, ch) = M := ⟨_, rfl⟩
 by_cases hf : 1024 ≤ n
 ·have HF := Lib.hid (era_full (L := L) (m := (fr, dst, kd, tx, ch)) (by omega))
  have hfi : (1024 : Int) ≤ (n : Int) := by omega
  rw [hM]
  have HM := Lib.hid hM
  clear ho h e hl hn hf hnc hb0 hsv htv hM
  go_enter Tryz.func62, Tryz.ntmps62
  go_upto_region 1 with fail
  generalize hW1 : World.alloc (World.alloc w _) _ = w1
  obtain ⟨g, hg⟩ : ∃ g, w.heap.size = g := ⟨_, rfl⟩
  obtain ⟨hg1, k1, k2, -⟩ := box33 hg hW1
  have HG := Lib.hid hg1
  have HS := Lib.hid hg
  have b0 := k1.cell 0
  have b1 := k1.cell 1
  have b2 := k1.cell 2
  have HK2 := Lib.hid k2
  have f0 := k2.free 0
  have f1 := k2.free 1
  have f2 := k2.free 2
  have d0 := k2.cell 0
  have d1 := k2.cell 1
  have d2 := k2.cell 2
  simp only [List.getElem?_toArray, List.getElem?_cons_succ, List.getElem?_cons_zero] at b0 b1 b2 d0 d1 d2
  rw [hg]
  clear hg1 hW1 hg k1 k2
  go_wp2_with fail
  generalize hW : World.setCell (World.setCell (World.setCell w1 _ _) _ _) _ _ = W
  obtain ⟨kW, cW⟩ := put33 HK2.out hW
  have u0 := kW.cell 0
  have u1 := kW.cell 1
  have u2 := kW.cell 2
  refine bodyPost_ret (v := .agg #[.slice As ns cs, .slice At nt ct, .slice A n c]) ?_ ?_ ?_
  ·simp [results, Tryz.results62, go_sem, u0, u1, u2]
  ·rfl
  ·rw [← HM.out]
   exact ⟨L.mail, L.lv, by rw [HE.out, HN.out, HSV.out.1, HSV.out.2], ⟨Ch.of (cW.up HG.out (fun g' hg' => by have := HS.out; simp at hg'; omega)), fun g' hg' => Or.inl hg'⟩, HH.out.keep (cW.up HG.out (fun g' hg' => by have := HS.out; simp at hg'; omega)), HF.out, HL.out⟩
 ·have HF := Lib.hid (fun lv => era_send (L := L) (m := (fr, dst, kd, tx, ch)) lv (by omega))
  have hfi : ¬ (1024 : Int) ≤ (n : Int) := by omega
  obtain ⟨i0, hi, hz0, hz1, hz2⟩ := info_parts Tryz.infoPtL
  have HI := Lib.hid (And.intro hi (And.intro hz0 (And.intro hz1 hz2)))
  have hln : n < 1024 := by omega
  rw [hM]
  have HM := Lib.hid hM
  clear ho h e hl hn hf hnc hi hz0 hz1 hz2 hsv htv hM
  have HO' : Hid (w.ownsRow w0.heap.size 59 5 (.slice A n c) n (flatE enc5m L.mail)) := Lib.hid (by have := HO.out; rw [HE.out, HN.out] at this; exact this)
  go_enter Tryz.func62, Tryz.ntmps62
  go_upto_region 1 with fail
  generalize hW1 : World.alloc (World.alloc w _) _ = w1
  obtain ⟨g, hg⟩ : ∃ g, w.heap.size = g := ⟨_, rfl⟩
  obtain ⟨hg1, k1, k2, hs1⟩ := box33 hg hW1
  have HG := Lib.hid hg1
  have HS := Lib.hid hg
  have HS1 := Lib.hid hs1
  have HK1 := Lib.hid k1
  have HK2 := Lib.hid k2
  have HO1 := Lib.hid (owns_gr HO'.out hg1)
  have b0 := k1.cell 0
  have b1 := k1.cell 1
  have b2 := k1.cell 2
  simp only [List.getElem?_toArray, List.getElem?_cons_succ, List.getElem?_cons_zero] at b0 b1 b2
  rw [hg]
  clear hg1 hW1 hg k1 k2 hs1
  obtain ⟨hi, hz0, hz1, hz2⟩ := HI.out
  go_wp2_with (at_builtin; refine wpList_append_own_at _ rfl _ _ 31 rfl w0.heap.size 59 i0 _ 5 40 Tryz.underlying31 hi hz0 hz1 hz2 rfl (by decide) _ _ _ rfl (HO1.out.alloc _) ⟨w1.heap.size, 0, none⟩ 1 1 (enc5m (fr, dst, kd, tx, ch)) rfl rfl ?q1 ?q2 ?q3 ?q4 ?q5 ?_)
  case q1 => intro j u hu; first | (rw [Addr.add_lit]; exact alloc_new rfl (by rw [Nat.zero_add]; simpa [enc5m] using hu)) | (simpa [enc5m] using hu)
  case q2 => exact fun u hu => enc5m_one _ u hu
  case q3 => unfold maxLen; omega
  case q4 => omega
  case q5 => have := HS.out; have := HS1.out; simp; omega
  intro v' w3 hown' hgrow hnv hfr
  have hga : Gr w1 (w1.alloc (.cells #[.int .i64 fr, .int .i64 dst, .int .i64 kd, .int .i64 tx, .int .i64 ch] 59)) := (Gr.refl w1).alloc _
  have hoa := HO1.out.alloc (.cells #[.int .i64 fr, .int .i64 dst, .int .i64 kd, .int .i64 tx, .int .i64 ch] 59)
  have k1 := (HK1.out.keep hga).grown hgrow ((HK1.out.keep hga).apart hoa (by decide))
  have k2 := (HK2.out.keep hga).grown hgrow ((HK2.out.keep hga).apart hoa (by decide))
  have HC3 : Hid (Ch L.lv.ownBlock.toList w w3) := Lib.hid (by
   refine (Ch.of (HG.out.trans hga)).trans (Ch.row hgrow (fun t ht => ?_)) (fun t ht => Or.inl ht)
   rw [HE.out, HN.out, ht]
   simp)
  obtain ⟨v3, hv3⟩ : ∃ v, v' = v := ⟨_, rfl⟩
  have HOWN := Lib.hid hown'
  have HFR := Lib.hid hfr
  obtain ⟨g3, c3, rfl, -⟩ := owns_shape hown' (by omega)
  have HK1' := Lib.hid k1
  have HK2' := Lib.hid k2
  have b0 := k1.cell 0
  have b1 := k1.cell 1
  have b2 := k1.cell 2
  have e2 := k1.free 2
  have f0 := k2.free 0
  have f1 := k2.free 1
  have f2 := k2.free 2
  have d0 := k2.cell 0
  have d1 := k2.cell 1
  have d2 := k2.cell 2
  simp only [List.getElem?_toArray, List.getElem?_cons_succ, List.getElem?_cons_zero] at b0 b1 b2 d0 d1 d2
  clear hown' hgrow hnv hfr hga hoa k1 k2 hi hz0 hz1 hz2 hv3
  go_wp2_with fail
  generalize hW4 : World.setCell w3 _ _ = w4
  generalize hW : World.setCell (World.setCell (World.setCell w4 _ _) _ _) _ _ = W
  have hc4 : Ch [g] w3 w4 := by rw [← hW4]; exact Ch.refl.set (p := ⟨g, 2, none⟩) (by simp) _
  have k24 : Blk w4 (g + 1) 33 _ := (hc4.block (g + 1) HK2'.out.lt (by simp)).trans HK2'.out
  obtain ⟨kW, cW⟩ := put33 k24 hW
  have HCW : Ch [g, g + 1] w3 W := (hc4.mono (T := [g, g + 1]) (by simp)).trans cW (fun t ht => Or.inl (by simp at ht ⊢; exact Or.inr ht))
  have u0 := kW.cell 0
  have u1 := kW.cell 1
  have u2 := kW.cell 2
  refine bodyPost_ret (v := .agg #[.slice As ns cs, .slice At nt ct, .slice (some ⟨g3, 0, none⟩) (n + 1) c3]) ?_ ?_ ?_
  ·simp [results, Tryz.results62, go_sem, u0, u1, u2]
  ·rfl
  ·rw [← HM.out]
   have hS := HS.out
   have hS1 := HS1.out
   have a1 := HK1'.out.apart HOWN.out (by decide)
   have a2 := HK2'.out.apart HOWN.out (by decide)
   have hCF : Ch L.lv.ownBlock.toList w W := HC3.out.trans HCW (fun t ht => Or.inr (by simp at ht; omega))
   have hOW := owns_ch HOWN.out HCW (fun t ht hm => by
    simp at hm
    rcases hm with rfl | rfl
    ·exact a1 ht.symm
    ·exact a2 ht.symm)
   have hlv : (Value.slice (some ⟨g3, 0, none⟩) (n + 1) c3).ownBlock = L.lv.ownBlock ∨ (Value.slice (some ⟨g3, 0, none⟩) (n + 1) c3).ownBlock = none ∨ ∃ g, (Value.slice (some ⟨g3, 0, none⟩) (n + 1) c3).ownBlock = some g ∧ w.heap.size ≤ g := by
    rcases HFR.out with h1 | h1
    ·exact Or.inl (by rw [HE.out, HN.out]; exact h1)
    ·exact Or.inr (Or.inr ⟨_, h1, by first | omega | (simp; omega)⟩)
   refine ⟨L.mail ++ [(fr, dst, kd, tx, ch)], .slice (some ⟨g3, 0, none⟩) (n + 1) c3, by rw [HSV.out.1, HSV.out.2], ⟨hCF.mono (fun t ht => blk_mem (r := L.lRow) (by simp [LN.rows]) (show L.lv.ownBlock = some t by simpa using ht)), blk_lv hlv⟩, ?_, HF.out _, by rw [List.length_append, HN.out]; simp; omega⟩
   refine HH.out.letters _ _ hCF ?_ hlv
   rw [List.length_append, HN.out, flatE_snoc]
   exact hOW

set_option maxRecDepth 100000
set_option maxHeartbeats 80000000

theorem Rws.turns {B : Nat} {w w' : World} {a a' l : List Rw} (h : Rws B w (a ++ l)) (hc : Ch (blkR a) w w') (h' : Rws B w' a') (hb : ∀ g ∈ blkR a', g ∈ blkR a ∨ w.heap.size ≤ g) : Rws B w' (a' ++ l) := by
 have hn := h.nod
 rw [List.filterMap_append, List.nodup_append] at hn
 obtain ⟨-, hl, hd⟩ := hn
 refine ⟨fun q hq => ?_, ?_, h'.le⟩
 ·rcases List.mem_append.1 hq with hq | hq
  ·exact h'.all q hq
  ·exact owns_ch (h.all q (List.mem_append_right _ hq)) hc (fun g hg hm => hd g hm g (List.mem_filterMap.2 ⟨q, hq, hg⟩) rfl)
 ·rw [List.filterMap_append, List.nodup_append]
  refine ⟨h'.nod, hl, fun g hg g' hg' e => ?_⟩
  subst e
  rcases hb g hg with h1 | h1
  ·exact hd g h1 g hg' rfl
  ·obtain ⟨q, hq, hqg⟩ := List.mem_filterMap.1 hg'
   have := (owns_in (h.all q (List.mem_append_right _ hq)) hqg).1
   omega
theorem perm_get {α : Type} : ∀ {l : List α} {k : Nat} {x : α}, l[k]? = some x → l.Perm (x :: l.eraseIdx k)
 | [], k, x, h => by simp at h
 | y :: r, 0, x, h => by
   have : y = x := by simpa using h
   subst this
   exact List.Perm.refl _
 | y :: r, k + 1, x, h => by
   have h' : r[k]? = some x := by simpa using h
   rw [List.eraseIdx_cons_succ]
   exact ((perm_get h').cons y).trans (List.Perm.swap x y _)
theorem perm_set {α : Type} {l : List α} {k : Nat} {x y : α} (h : l[k]? = some x) : (l.set k y).Perm (y :: l.eraseIdx k) := by
 have h1 : (l.set k y)[k]? = some y := by
  rw [List.getElem?_set_self (List.getElem?_eq_some_iff.1 h).1]
 have h2 : (l.set k y).eraseIdx k = l.eraseIdx k := by
  refine List.ext_getElem? (fun i => ?_)
  rw [List.getElem?_eraseIdx, List.getElem?_eraseIdx]
  split
  ·rw [List.getElem?_set_ne (by omega)]
  ·rw [List.getElem?_set_ne (by omega)]
 have := perm_get h1
 rwa [h2] at this
theorem perm_t {α : Type} (s t l x : α) (R : List α) : (s :: t :: l :: x :: R).Perm (t :: x :: s :: l :: R) :=
 (List.Perm.swap t s _).trans (((((List.Perm.swap x l R).cons s).trans (List.Perm.swap x s _))).cons t)
theorem perm_s {α : Type} (s t l x : α) (R : List α) : (s :: t :: l :: x :: R).Perm (s :: x :: t :: l :: R) :=
 ((((List.Perm.swap x l R).cons t).trans (List.Perm.swap x t _))).cons s
section
variable {S : List Nat} {w0 w w' : World} {L : LN}
theorem LN.permT {k : Nat} {x : LT} {T : List LT} (hT : T.Perm (x :: L.txs.eraseIdx k)) (tr : Rw) : (L.sRow :: tr :: L.lRow :: (L.sites.map LS.row ++ T.map LT.row)).Perm ([tr, x.row] ++ (L.sRow :: L.lRow :: (L.sites.map LS.row ++ (L.txs.eraseIdx k).map LT.row))) := by
 have e1 : (T.map LT.row).Perm (x.row :: (L.txs.eraseIdx k).map LT.row) := hT.map LT.row
 have e2 := (List.Perm.append_left (L.sites.map LS.row) e1).trans List.perm_middle
 exact (((e2.cons L.lRow).cons tr).cons L.sRow).trans (perm_t _ _ _ _ _)
theorem LN.permS {k : Nat} {x : LS} {A : List LS} (hA : A.Perm (x :: L.sites.eraseIdx k)) (sr : Rw) : (sr :: L.tRow :: L.lRow :: (A.map LS.row ++ L.txs.map LT.row)).Perm ([sr, x.row] ++ (L.tRow :: L.lRow :: ((L.sites.eraseIdx k).map LS.row ++ L.txs.map LT.row))) := by
 have e1 : (A.map LS.row).Perm (x.row :: (L.sites.eraseIdx k).map LS.row) := hA.map LS.row
 have e2 := List.Perm.append_right (L.txs.map LT.row) e1
 exact (((e2.cons L.lRow).cons L.tRow).cons sr).trans (perm_s _ _ _ _ _)
theorem XOw.setTx (h : XOw S w0 w L) {k : Nat} {x x' : LT} (hk : L.txs[k]? = some x) (hp : x'.pv = x.pv ∧ x'.parts = x.parts) (hc : Ch (blkR [L.tRow, x.row]) w w')
 (h' : Rws w0.heap.size w' [LN.tRow { L with txs := L.txs.set k x' }, x'.row]) (hb : ∀ g ∈ blkR [LN.tRow { L with txs := L.txs.set k x' }, x'.row], g ∈ blkR [L.tRow, x.row] ∨ w.heap.size ≤ g) : XOw S w0 w' { L with txs := L.txs.set k x' } := by
 have h1 := h.rws.perm (LN.permT (perm_get hk) L.tRow)
 refine ⟨(h1.turns hc h' hb).perm (LN.permT (L := L) (perm_set hk) _).symm, fun t ht => ?_, h.up hc (fun g hg => ?_)⟩
 ·obtain ⟨j, hj⟩ := List.getElem?_of_mem ht
  change (L.txs.set k x')[j]? = some t at hj
  rw [List.getElem?_set] at hj
  split at hj
  ·split at hj
   ·injection hj with hj
    subst hj
    have h5 := (h.parts x (List.mem_of_getElem? hk)).ch hc (h.noMove (fun r hr => (LN.permT (perm_get hk) L.tRow).mem_iff.2 (List.mem_append_left _ hr)))
    unfold PtOk at h5 ⊢
    rw [hp.1, hp.2]
    exact h5
   ·cases hj
  ·exact (h.parts t (List.mem_of_getElem? hj)).ch hc (h.noMove (fun r hr => (LN.permT (perm_get hk) L.tRow).mem_iff.2 (List.mem_append_left _ hr)))
 ·obtain ⟨q, hq, hqg⟩ := List.mem_filterMap.1 hg
  exact (owns_in (h1.all q (List.mem_append_left _ hq)) hqg).2
theorem XOw.setSite (h : XOw S w0 w L) {k : Nat} {x x' : LS} (hk : L.sites[k]? = some x) (hc : Ch (blkR [L.sRow, x.row]) w w')
 (h' : Rws w0.heap.size w' [LN.sRow { L with sites := L.sites.set k x' }, x'.row]) (hb : ∀ g ∈ blkR [LN.sRow { L with sites := L.sites.set k x' }, x'.row], g ∈ blkR [L.sRow, x.row] ∨ w.heap.size ≤ g) : XOw S w0 w' { L with sites := L.sites.set k x' } := by
 have h1 := h.rws.perm (LN.permS (perm_get hk) L.sRow)
 refine ⟨(h1.turns hc h' hb).perm (LN.permS (L := L) (perm_set hk) _).symm, fun t ht => (h.parts t ht).ch hc (h.noMove (fun r hr => (LN.permS (perm_get hk) L.sRow).mem_iff.2 (List.mem_append_left _ hr))), h.up hc (fun g hg => ?_)⟩
 obtain ⟨q, hq, hqg⟩ := List.mem_filterMap.1 hg
 exact (owns_in (h1.all q (List.mem_append_left _ hq)) hqg).2
end
theorem era_setTx {L : LN} {k : Nat} {x x' : LT} (_hk : L.txs[k]? = some x) : LN.era { L with txs := L.txs.set k x' } = { L.era with txs := L.era.txs.set k x'.era } := by
 unfold LN.era
 dsimp only
 rw [List.map_set]
theorem era_setSite {L : LN} {k : Nat} {x' : LS} : LN.era { L with sites := L.sites.set k x' } = { L.era with sites := L.era.sites.set k x'.era } := by
 unfold LN.era
 dsimp only
 rw [List.map_set]
theorem flatE_set {α : Type} {enc : α → List Value} {k : Nat} (hk : ∀ x, (enc x).length = k) : ∀ (l : List α) (i : Nat) (y : α), i < l.length → flatE enc (l.set i y) = (flatE enc l).take (i * k) ++ enc y ++ (flatE enc l).drop (i * k + k)
 | [], i, y, h => by simp at h
 | x :: r, 0, y, h => by
   show enc y ++ flatE enc r = _
   rw [show flatE enc (x :: r) = enc x ++ flatE enc r from rfl]
   simp [hk]
 | x :: r, i + 1, y, h => by
   rw [List.set_cons_succ]
   rw [show flatE enc (x :: r.set i y) = enc x ++ flatE enc (r.set i y) from rfl, show flatE enc (x :: r) = enc x ++ flatE enc r from rfl]
   rw [flatE_set hk r i y (by simpa using h)]
   have e : (i + 1) * k = (enc x).length + i * k := by rw [hk, Nat.add_mul]; omega
   rw [e, List.take_append, List.drop_append]
   have e1 : (enc x).length + i * k - (enc x).length = i * k := by omega
   have e2 : (enc x).length + i * k + k - (enc x).length = i * k + k := by omega
   have t1 : (enc x).take ((enc x).length + i * k) = enc x := List.take_of_length_le (by omega)
   have d1 : (enc x).drop ((enc x).length + i * k + k) = [] := List.drop_of_length_le (by omega)
   rw [t1, d1, e1, e2]
   simp
theorem sets4 (a b c d : Value) : ∀ (j : Nat) (fl : List Value), j + 4 ≤ fl.length → (((fl.set j a).set (j + 1) b).set (j + 2) c).set (j + 3) d = fl.take j ++ [a, b, c, d] ++ fl.drop (j + 4)
 | 0, [], h => by simp at h
 | 0, [_], h => by simp at h
 | 0, [_, _], h => by simp at h
 | 0, [_, _, _], h => by simp at h
 | 0, x0 :: x1 :: x2 :: x3 :: r, _ => by simp
 | j + 1, [], h => by simp at h
 | j + 1, x :: r, h => by
   have ih := sets4 a b c d j r (by simpa using h)
   rw [show j + 1 + 1 = (j + 1) + 1 from rfl, show j + 1 + 2 = (j + 2) + 1 from rfl, show j + 1 + 3 = (j + 3) + 1 from rfl, show j + 1 + 4 = (j + 4) + 1 from rfl]
   rw [List.set_cons_succ, List.set_cons_succ, List.set_cons_succ, List.set_cons_succ, ih, List.take_succ_cons, List.drop_succ_cons]
   rfl
theorem sets3 (a b c : Value) : ∀ (j : Nat) (fl : List Value), j + 3 ≤ fl.length → ((fl.set j a).set (j + 1) b).set (j + 2) c = fl.take j ++ [a, b, c] ++ fl.drop (j + 3)
 | 0, [], h => by simp at h
 | 0, [_], h => by simp at h
 | 0, [_, _], h => by simp at h
 | 0, x0 :: x1 :: x2 :: r, _ => by simp
 | j + 1, [], h => by simp at h
 | j + 1, x :: r, h => by
   have ih := sets3 a b c j r (by simpa using h)
   rw [show j + 1 + 1 = (j + 1) + 1 from rfl, show j + 1 + 2 = (j + 2) + 1 from rfl, show j + 1 + 3 = (j + 3) + 1 from rfl]
   rw [List.set_cons_succ, List.set_cons_succ, List.set_cons_succ, ih, List.take_succ_cons, List.drop_succ_cons]
   rfl
theorem owns_tx {w : World} {base g n cap i : Nat} {e : TypeId} {l : List LT} (h : w.ownsRow base e 4 (.slice (some ⟨g, 0, none⟩) n cap) n (flatE encLT l)) (hi : i < l.length) (y : LT) :
 ((((w.setCell ⟨g, i * 4, none⟩ (.int .i64 y.at5)).setCell ⟨g, i * 4 + 1, none⟩ (.int .i64 y.is)).setCell ⟨g, i * 4 + 2, none⟩ y.pv).setCell ⟨g, i * 4 + 3, none⟩ y.hv).ownsRow base e 4 (.slice (some ⟨g, 0, none⟩) n cap) n (flatE encLT (l.set i y)) := by
 have := (((owns_cell h (i * 4) (.int .i64 y.at5)) |> fun h => owns_cell h (i * 4 + 1) (.int .i64 y.is)) |> fun h => owns_cell h (i * 4 + 2) y.pv) |> fun h => owns_cell h (i * 4 + 3) y.hv
 rw [sets4 _ _ _ _ _ _ (by rw [flatE_len encLT_len]; omega)] at this
 rw [flatE_set encLT_len l i y hi]
 exact this
theorem owns_site {w : World} {base g n cap i : Nat} {e : TypeId} {l : List LS} (h : w.ownsRow base e 3 (.slice (some ⟨g, 0, none⟩) n cap) n (flatE encLS l)) (hi : i < l.length) (y : LS) :
 (((w.setCell ⟨g, i * 3, none⟩ (.int .i64 y.stock)).setCell ⟨g, i * 3 + 1, none⟩ (.bool y.down)).setCell ⟨g, i * 3 + 2, none⟩ y.mv).ownsRow base e 3 (.slice (some ⟨g, 0, none⟩) n cap) n (flatE encLS (l.set i y)) := by
 have := ((owns_cell h (i * 3) (.int .i64 y.stock)) |> fun h => owns_cell h (i * 3 + 1) (.bool y.down)) |> fun h => owns_cell h (i * 3 + 2) y.mv
 rw [sets3 _ _ _ _ _ (by rw [flatE_len encLS_len]; omega)] at this
 rw [flatE_set encLS_len l i y hi]
 exact this
theorem owns_mind {w : World} {base g n cap i : Nat} {e : TypeId} {l : List (Int × (Int × Int))} (h : w.ownsRow base e 3 (.slice (some ⟨g, 0, none⟩) n cap) n (flatE encMi l)) (hi : i < l.length) (y : Int × (Int × Int)) :
 (((w.setCell ⟨g, i * 3, none⟩ (.int .i64 y.1)).setCell ⟨g, i * 3 + 1, none⟩ (.int .i64 y.2.1)).setCell ⟨g, i * 3 + 2, none⟩ (.int .i64 y.2.2)).ownsRow base e 3 (.slice (some ⟨g, 0, none⟩) n cap) n (flatE encMi (l.set i y)) := by
 have := ((owns_cell h (i * 3) (.int .i64 y.1)) |> fun h => owns_cell h (i * 3 + 1) (.int .i64 y.2.1)) |> fun h => owns_cell h (i * 3 + 2) (.int .i64 y.2.2)
 rw [sets3 _ _ _ _ _ (by rw [flatE_len encMi_len]; omega)] at this
 rw [flatE_set encMi_len l i y hi]
 exact this
theorem owns_bool {w : World} {base g n cap i : Nat} {e : TypeId} {l : List Bool} (h : w.ownsRow base e 1 (.slice (some ⟨g, 0, none⟩) n cap) n (flatE encBo5 l)) (y : Bool) :
 (w.setCell ⟨g, i, none⟩ (.bool y)).ownsRow base e 1 (.slice (some ⟨g, 0, none⟩) n cap) n (flatE encBo5 (l.set i y)) := by
 have := owns_cell h i (.bool y)
 have e1 : ∀ l : List Bool, flatE encBo5 l = l.map Value.bool := fun l => by
  induction l with
  | nil => rfl
  | cons x r ih => show encBo5 x ++ flatE encBo5 r = _; rw [ih]; rfl
 rw [e1, List.map_set, ← e1]
 exact this

set_option maxRecDepth 100000
set_option maxHeartbeats 80000000

theorem flatE_same {α : Type} {enc : α → List Value} : ∀ (l : List α) (k : Nat) (x y : α), l[k]? = some x → enc y = enc x → flatE enc (l.set k y) = flatE enc l
 | [], _, _, _, h, _ => by simp at h
 | z :: r, 0, x, y, h, e => by
   have : z = x := by simpa using h
   subst this
   show enc y ++ flatE enc r = enc z ++ flatE enc r
   rw [e]
 | z :: r, k + 1, x, y, h, e => by
   show enc z ++ flatE enc (r.set k y) = enc z ++ flatE enc r
   rw [flatE_same r k x y (by simpa using h) e]
theorem box3m {w W : World} {t t' : TypeId} {a b c x y z a' b' c' : Value} {g : Nat} (hg : w.heap.size = g) (hW : ((w.alloc (.cells #[a, b, c] t)).alloc (.cells #[x, y, z] t')).alloc (.cells #[a', b', c'] t) = W) : Gr w W ∧ Blk W g t #[a, b, c] ∧ Blk W (g + 1) t' #[x, y, z] ∧ Blk W (g + 2) t #[a', b', c'] ∧ W.heap.size = g + 3 := by
 subst hW hg
 have h1 : (w.alloc (.cells #[a, b, c] t)).heap.size = w.heap.size + 1 := by simp
 have h2 : ((w.alloc (.cells #[a, b, c] t)).alloc (.cells #[x, y, z] t')).heap.size = w.heap.size + 2 := by simp
 exact ⟨(((Gr.refl _).alloc _).alloc _).alloc _, (Blk.new _ _ _ rfl).keep (((Gr.refl _).alloc _).alloc _), (Blk.new _ _ _ h1).keep ((Gr.refl _).alloc _), Blk.new _ _ _ h2, by simp⟩
theorem owns_blk {w : World} {base g n c k : Nat} {e : TypeId} {fl : List Value} (h : w.ownsRow base e k (.slice (some ⟨g, 0, none⟩) n c) n fl) : ∃ cur, Blk w g e cur ∧ n * k ≤ cur.size := by
 rcases h.2 with ⟨h2, -⟩ | ⟨g', cap', cur, h2, h3, h4, h5, h6, h7, h8⟩
 ·cases h2
 ·injection h2 with h2 _ h9
  injection h2 with h2
  injection h2 with h2
  subst h2 h9
  exact ⟨cur, h4, by rw [h7]; exact Nat.mul_le_mul_right _ h5⟩
theorem Blk.get {w : World} {g : Nat} {t : TypeId} {cs : Array Value} (h : Blk w g t cs) {i : Nat} (hi : i < cs.size) : ∃ v, w.cell? ⟨g, i, none⟩ = some v := ⟨cs[i], by rw [h.cell, Array.getElem?_eq_getElem hi]⟩
theorem xmind_any (S : List Nat) (w0 : World) (L : LN) (k t : Nat) (s : LS) (m : Int × (Int × Int)) (w : World) (h : XOw S w0 w L) (hk : L.sites[k]? = some s) (ht : t < s.minds.length) (h8 : L.sites.length ≤ 8) (h2 : s.minds.length ≤ 256) :
 Calls Tryz.prog 79 #[L.v, .int .i64 (k : Int), .int .i64 ((t : Int) + 1), .agg #[.int .i64 m.1, .int .i64 m.2.1, .int .i64 m.2.2]] w fun e w' => e = .returned L.v ∧ Ch (blkR L.rows) w w' ∧ XOw S w0 w' { L with sites := L.sites.set k { s with minds := s.minds.set t m } } := by
 obtain ⟨m1, m2, m3⟩ := m
 have hrow : w.ownsRow w0.heap.size 102 3 s.mv s.minds.length (flatE encMi s.minds) := h.rws.all s.row (by
  simp only [LN.rows, List.mem_cons, List.mem_append, List.mem_map]
  exact Or.inr (Or.inr (Or.inr (Or.inl ⟨s, List.mem_of_getElem? hk, rfl⟩))))
 have hsr : w.ownsRow w0.heap.size 73 3 L.sv L.sites.length (flatE encLS L.sites) := h.rws.all L.sRow (by simp [LN.rows])
 obtain ⟨gs, cs, hsv, -⟩ := owns_shape hsr (by have := (List.getElem?_eq_some_iff.1 hk).1; omega)
 obtain ⟨gm, cm, hmv, hcm⟩ := owns_shape hrow (by omega)
 obtain ⟨At, nt, ct, htv⟩ : ∃ A n c, L.tv = .slice A n c := by
  obtain ⟨A, c, e, -⟩ := RdV.of (k := 4) encLT_len (h.rws.all L.tRow (by simp [LN.rows]))
  exact ⟨A, _, c, e⟩
 obtain ⟨Al, nl, cl, hlv⟩ : ∃ A n c, L.lv = .slice A n c := by
  obtain ⟨A, c, e, -⟩ := RdV.of (k := 5) enc5m_len (h.rws.all L.lRow (by simp [LN.rows]))
  exact ⟨A, _, c, e⟩
 have hlt := (List.getElem?_eq_some_iff.1 hk).1
 obtain ⟨b, off, hb, hc⟩ := Rd_of_owns encLS_len rfl (by rw [hsv] at hsr; exact hsr) k s hk
 injection hb with hb
 injection hb with hb1 hb2
 subst hb1 hb2
 have z2 : w.cell? ⟨gs, 0 + k * 3 + 2, none⟩ = some s.mv := hc 2 _ rfl
 rw [Nat.zero_add] at z2
 rw [hmv] at z2
 have HH := Lib.hid h
 have HK := Lib.hid hk
 have HROW := Lib.hid hrow
 have HSR := Lib.hid hsr
 have HV := Lib.hid (And.intro hsv (And.intro htv (And.intro hlv hmv)))
 have hki : (k : Int) < (L.sites.length : Int) := by omega
 have hk0 : (0 : Int) ≤ (k : Int) := by omega
 have hti : (t : Int) < (s.minds.length : Int) := by omega
 have ht0 : (0 : Int) ≤ (t : Int) := by omega
 have HB := Lib.hid h.rws.le
 obtain ⟨M, hM⟩ : ∃ M, (fun (e : Ending) (w' : World) => e = .returned L.v ∧ Ch (blkR L.rows) w w' ∧ XOw S w0 w' { L with sites := L.sites.set k { s with minds := s.minds.set t (m1, m2, m3) } }) = M := ⟨_, rfl⟩
 rw [hM]
 have HM := Lib.hid hM
 unfold LN.v
 rw [hsv, htv, hlv]
 obtain ⟨n, hn⟩ : ∃ n, L.sites.length = n := ⟨_, rfl⟩
 obtain ⟨q, hq⟩ : ∃ q, s.minds.length = q := ⟨_, rfl⟩
 rw [hn] at hki hlt h8 ⊢
 rw [hq] at hti ht h2 z2 hcm
 have HNQ := Lib.hid (And.intro hn hq)
 obtain ⟨cur, hcur, hcz⟩ := owns_blk (by rw [hmv] at hrow; exact hrow)
 rw [hq] at hcz
 have HCUR := Lib.hid hcur
 clear h hk hrow hsr hsv htv hlv hmv hM hn hq hc
 go_enter Tryz.func79, Tryz.ntmps79
 go_upto_region 1 with fail
 generalize hW1 : World.alloc (World.alloc (World.alloc w _) _) _ = w1
 obtain ⟨g, hg⟩ : ∃ g, w.heap.size = g := ⟨_, rfl⟩
 obtain ⟨hg1, k1, k2, k3, -⟩ := box3m hg hW1
 have HG := Lib.hid hg1
 have HS := Lib.hid hg
 have HK3 := Lib.hid k3
 have HK1 := Lib.hid k1
 have hcu := hcur.keep hg1
 have b0 := k1.cell 0
 have b1 := k1.cell 1
 have b2 := k1.cell 2
 have x0 := k2.cell 0
 have x1 := k2.cell 1
 have x2 := k2.cell 2
 have f0 := k3.free 0
 have f1 := k3.free 1
 have f2 := k3.free 2
 have d0 := k3.cell 0
 have d1 := k3.cell 1
 have d2 := k3.cell 2
 simp only [List.getElem?_toArray, List.getElem?_cons_succ, List.getElem?_cons_zero] at b0 b1 b2 d0 d1 d2 x0 x1 x2
 replace z2 := hg1.keep z2
 obtain ⟨_, c0⟩ := hcu.get (i := t * 3) (by omega)
 obtain ⟨_, c1⟩ := hcu.get (i := t * 3 + 1) (by omega)
 obtain ⟨_, c2⟩ := hcu.get (i := t * 3 + 2) (by omega)
 have e0 := hcu.free (t * 3)
 have e1 := hcu.free (t * 3 + 1)
 have e2 := hcu.free (t * 3 + 2)
 have hne : gm < g := by have := hcur.lt; omega
 have h10 : (g == gm) = false := by simp; omega
 have h11 : (gm == g) = false := by simp; omega
 have h12 : (gm == g + 2) = false := by simp; omega
 have h13 : (g + 2 == gm) = false := by simp; omega
 rw [hg]
 clear hg1 hW1 hg k1 k2 k3 hcur hcu
 go_wp2_with fail
 generalize hW4 : World.setCell (World.setCell (World.setCell w1 _ _) _ _) _ _ = w4
 generalize hW : World.setCell (World.setCell (World.setCell w4 _ _) _ _) _ _ = W
 have hc4 : Ch [gm] w1 w4 := by
  rw [← hW4]
  exact ((Ch.refl.set (p := ⟨gm, t * 3, none⟩) (by simp) _).set (p := ⟨gm, t * 3 + 1, none⟩) (by simp) _).set (p := ⟨gm, t * 3 + 2, none⟩) (by simp) _
 have k34 := (show Blk w4 (g + 2) _ _ from (hc4.block (g + 2) HK3.out.lt (by simp; omega)).trans HK3.out)
 obtain ⟨kW, cW⟩ := put33 k34 hW
 have u0 := kW.cell 0
 have u1 := kW.cell 1
 have u2 := kW.cell 2
 refine bodyPost_ret (v := .agg #[.slice (some ⟨gs, 0, none⟩) n cs, .slice At nt ct, .slice Al nl cl]) ?_ ?_ ?_
 ·simp [results, Tryz.results79, go_sem, u0, u1, u2]
 ·rfl
 ·rw [← HM.out]
  obtain ⟨hsv, htv, hlv, hmv⟩ := HV.out
  obtain ⟨hn, hq⟩ := HNQ.out
  refine ⟨by unfold LN.v; rw [hsv, htv, hlv, hn], ?_⟩
  have hS := HS.out
  have hp := HH.out.rws.perm (LN.permS (perm_get HK.out) L.sRow)
  have hnod := (hp.sub (List.sublist_append_left [L.sRow, s.row] _)).nod
  have hgm : gm ∈ blkR [L.sRow, s.row] := List.mem_filterMap.2 ⟨s.row, by simp, by show s.mv.ownBlock = _; rw [hmv]; rfl⟩
  have hne2 : L.sv.ownBlock ≠ some gm := fun e => by
   have h1 : L.sRow.v.ownBlock = some gm := e
   have h2 : s.row.v.ownBlock = some gm := by show s.mv.ownBlock = _; rw [hmv]; rfl
   rw [List.filterMap_cons, h1, List.filterMap_cons, h2] at hnod
   simp at hnod
  have hcw : Ch [gm] w W := (Ch.of HG.out).trans (T := [gm, g + 2]) ((hc4.mono (T := [gm, g + 2]) (by simp)).trans cW (fun x hx => Or.inl (by simp at hx ⊢; exact Or.inr hx))) (fun x hx => by
   simp at hx
   rcases hx with rfl | rfl
   ·exact Or.inl (by simp)
   ·exact Or.inr (by omega))
  have hsr' := owns_ch HSR.out hcw (fun x hx hm => hne2 (by rw [hx, List.mem_singleton.1 hm]))
  have hrow1 := owns_gr HROW.out HG.out
  rw [hmv] at hrow1
  have hrow4 := owns_mind hrow1 (i := t) (by omega) (m1, m2, m3)
  rw [show ((w1.setCell ⟨gm, t * 3, none⟩ (.int .i64 (m1, m2, m3).1)).setCell ⟨gm, t * 3 + 1, none⟩ (.int .i64 (m1, m2, m3).2.1)).setCell ⟨gm, t * 3 + 2, none⟩ (.int .i64 (m1, m2, m3).2.2) = w4 from hW4] at hrow4
  have hrowW := owns_ch hrow4 cW (fun x hx hm => by
   have h1 : gm = x := by injection hx
   simp at hm
   omega)
  refine ⟨hcw.mono (fun x hx => by rw [List.mem_singleton.1 hx]; exact blk_sub (a := [L.sRow, s.row]) (fun r hr => (LN.permS (perm_get HK.out) L.sRow).mem_iff.2 (List.mem_append_left _ hr)) _ hgm), ?_⟩
  refine HH.out.setSite HK.out (hcw.mono (fun x hx => by rw [List.mem_singleton.1 hx]; exact hgm)) ⟨fun r hr => ?_, hnod, Nat.le_trans HB.out hcw.size⟩ (fun x hx => Or.inl hx)
  rcases List.mem_cons.1 hr with rfl | hr
  ·show W.ownsRow _ _ 3 L.sv (L.sites.set k _).length (flatE encLS (L.sites.set k _))
   rw [List.length_set, flatE_same L.sites k s { s with minds := s.minds.set t (m1, m2, m3) } HK.out rfl]
   exact hsr'
  ·rw [List.mem_singleton.1 hr]
   show W.ownsRow _ _ 3 s.mv (s.minds.set t (m1, m2, m3)).length (flatE encMi (s.minds.set t (m1, m2, m3)))
   rw [List.length_set, hmv]
   exact hrowW

end Go.Proofs.YtnoeiocbmhkmeaaGreat
