/- Layer 5: the reference's net without a letter; a call of the reference, from outside. -/
import Derived.Test.YtnoeiocbmhkmeaaGreatBu31
namespace Go.Proofs.YtnoeiocbmhkmeaaGreat
open Go.RowKit
set_option linter.unusedSimpArgs false
set_option maxRecDepth 100000
set_option maxHeartbeats 80000000

theorem Rd_drop5 {α : Type} {enc : α → List Value} {k : Nat} {w : World} {b off : Nat} {xs : List α} (h : Rd k enc w (some ⟨b, off, none⟩) xs) (m : Nat) : Rd k enc w (some ⟨b, off + m * k, none⟩) (xs.drop m) := fun i x hx => by
 rw [List.getElem?_drop] at hx
 obtain ⟨b', off', e, hc⟩ := h (m + i) x hx
 injection e with e
 injection e with e1 e2
 subst e1 e2
 refine ⟨b, off + m * k, rfl, fun j v hv => ?_⟩
 have := hc j v hv
 rw [Nat.add_mul] at this
 rw [← this]
 congr 2
 omega
theorem xwithoutV {S : List Nat} {w0 w : World} {L : LN} {As At Al : Option Addr} {n m l cs ct cl : Nat} (h : XOw S w0 w L) (hl : XLe L.era) (hs : Shp L As At Al n m l cs ct cl) (k : Nat) (hk : k < l) :
 Calls Tryz.prog 64 #[.agg #[.slice As n cs, .slice At m ct, .slice Al l cl], .int .i64 (k : Int)] w (StepX S w0 w L (xWithout L.era k)) := by
 have hml : l ≤ 1024 := by have := hl.ml; rw [lens_era.2.2, hs.l] at this; exact this
 have hrow : w.ownsRow w0.heap.size 59 5 L.lv L.mail.length (flatE enc5m L.mail) := h.rws.all L.lRow (by simp [LN.rows])
 obtain ⟨gl, c', hlv, hlc⟩ := owns_shape hrow (by rw [hs.l]; omega)
 rw [hs.lv, hs.l] at hlv
 injection hlv with hAl _ hcl
 subst hAl
 subst hcl
 have hr : Rd 5 enc5m w (some ⟨gl, 0, none⟩) L.mail := Rd_of_owns enc5m_len hs.l (by rw [hs.lv, hs.l] at hrow; exact hrow)
 rw [hs.l] at hlc
 have HH := Lib.hid h
 have HSH := Lib.hid hs
 have HR := Lib.hid hr
 have HLO := Lib.hid h.rws.le
 obtain ⟨M, hM⟩ : ∃ M, StepX S w0 w L (xWithout L.era k) = M := ⟨_, rfl⟩
 rw [hM]
 have HM := Lib.hid hM
 have hki : (k : Int) ≤ (l : Int) := by omega
 have hk0 : (0 : Int) ≤ (k : Int) := by omega
 have hkc : (k : Int) ≤ (cl : Int) := by omega
 have hk1 : (k : Int) + 1 ≤ (l : Int) := by omega
 have hk10 : (0 : Int) ≤ (k : Int) + 1 := by omega
 have hlci : (l : Int) ≤ (cl : Int) := by omega
 clear h hl hs hr hrow hM
 go_enter Tryz.func64, Tryz.ntmps64
 go_upto_region 2 with fail
 generalize hW1 : World.alloc (World.alloc w _) _ = w1
 obtain ⟨g, hg⟩ : ∃ g, w.heap.size = g := ⟨_, rfl⟩
 obtain ⟨hg1, k1, k2, hs1⟩ := box33 hg hW1
 have HG := Lib.hid hg1
 have HS := Lib.hid hg
 have HS1 := Lib.hid hs1
 have HK1 := Lib.hid k1
 have HK2 := Lib.hid k2
 have b0 := k1.cell 0
 have b1 := k1.cell 1
 have b2 := k1.cell 2
 simp only [List.getElem?_toArray, List.getElem?_cons_succ, List.getElem?_cons_zero] at b0 b1 b2
 rw [hg]
 clear hg1 hW1 hg k1 k2 hs1
 have HTA : Hid (Rd 5 enc5m w1 (some ⟨gl, 0, none⟩) (L.mail.take k)) := Lib.hid (Rd_take (HR.out.keep HG.out) k)
 have HTL : Hid ((L.mail.take k).length = k) := Lib.hid (by rw [List.length_take, HSH.out.l]; omega)
 have HDL : Hid ((L.mail.drop (k + 1)).length = l - (k + 1)) := Lib.hid (by rw [List.length_drop, HSH.out.l])
 obtain ⟨i0, hi', hz0, hz1, hz2⟩ := info_parts Tryz.infoPtL
 go_wp2_with (at_builtin; refine step_app (by rfl) (.tmp 6) (.tmp 10) 31 (by rfl) w1.heap.size 59 i0 _ 40 Tryz.underlying31 hi' hz0 hz1 hz2 rfl (by decide) enc5m_len enc5m_one (.slice none 0 0) 0 [] rfl (by rfl) (World.ownsRow_nil w1 _ _ _) (Nat.le_refl _) (some ⟨gl, 0, none⟩) k cl (L.mail.take k) (by rfl) HTL.out HTA.out (by unfold maxLen; omega) (by omega) ?_)
 intro A' c2' wb hown' hgrow
 try simp only [List.nil_append, Nat.zero_add] at hown' ⊢
 have hgbb : Gr w1 wb := (Below.refl _ w1).grown hgrow (Nat.le_refl _) (fun t ht => by simp [Value.ownBlock] at ht)
 have HGB := Lib.hid hgbb
 have HOW := Lib.hid hown'
 have HTD : Hid (Rd 5 enc5m wb (some ⟨gl, (k + 1) * 5, none⟩) (L.mail.drop (k + 1))) := Lib.hid (by have := Rd_drop5 (HR.out.keep (HG.out.trans hgbb)) (k + 1); rwa [Nat.zero_add] at this)
 have k1 := HK1.out.keep hgbb
 have b0 := k1.cell 0
 have b1 := k1.cell 1
 have b2 := k1.cell 2
 have f2 := k1.free 2
 simp only [List.getElem?_toArray, List.getElem?_cons_succ, List.getElem?_cons_zero] at b0 b1 b2
 clear hgrow hgbb k1 hown'
 by_cases hcc : cl = k + 1
 ·have hlk : l = k + 1 := by omega
  subst hcc
  subst hlk
  have HDN : Hid (L.mail.drop (k + 1) = []) := Lib.hid (List.eq_nil_of_length_eq_zero (by rw [HDL.out]; omega))
  go_wp2_with (at_builtin; refine step_app (by rfl) (.tmp 12) (.tmp 17) 31 (by rfl) w1.heap.size 59 i0 _ 40 Tryz.underlying31 hi' hz0 hz1 hz2 rfl (by decide) enc5m_len enc5m_one (.slice A' k c2') k (L.mail.take k) HTL.out (by rfl) HOW.out HGB.out.size (some ⟨gl, 0, none⟩) _ _ [] (by rfl) (by simp) (Rd_nil _ _) (by unfold maxLen; omega) (by omega) ?_)
  intro A3 c3 wc hown' hgrow
  try simp only [Nat.add_sub_cancel, Nat.sub_self, Nat.add_zero, List.append_nil] at hown' ⊢
  have hera : L.mail.take k ++ L.mail.drop (k + 1) = L.mail.eraseIdx k := (List.eraseIdx_eq_take_drop_succ ..).symm
  have hown3 := hown'
  rw [show flatE enc5m (L.mail.take k) = flatE enc5m (L.mail.take k ++ L.mail.drop (k + 1)) by rw [HDN.out, List.append_nil]] at hown3
  rw [hera] at hown3
  have HO3 := Lib.hid hown3
  clear hown3
  have hown2 : Hid (wc.ownsRow w1.heap.size 59 5 (.slice A3 k c3) k (flatE enc5m (L.mail.eraseIdx k))) := Lib.hid (by rw [← hera]; rw [hera]; exact HO3.out)
  have hqm : Hid ((L.mail.eraseIdx k).length = k) := Lib.hid (by rw [← hera, List.length_append, HTL.out, HDL.out]; first | omega | exact HQ.out)
  have hgc : Gr w1 wc := HGB.out.grown hgrow HGB.out.size (fun t ht => by
   rcases own_new HOW.out with h1 | ⟨g', h1, h2⟩
   ·rw [h1] at ht; cases ht
   ·rw [h1] at ht; injection ht with ht; subst ht; exact h2)
  have HGC := Lib.hid hgc
  have k1 := HK1.out.keep hgc
  have HK1c := Lib.hid k1
  have f2 := k1.free 2
  have b2 := k1.cell 2
  simp only [List.getElem?_toArray, List.getElem?_cons_succ, List.getElem?_cons_zero] at b2
  clear hown' hgrow hgc k1 b0 b1 hera
  go_upto_region 4 with fail
  generalize hWd : World.setCell wc _ _ = wd
  obtain ⟨kd, cd⟩ := put1of3 HK1c.out hWd
  have k2 : Blk wd (g + 1) _ _ := (cd.block (g + 1) (HK2.out.keep HGC.out).lt (by simp)).trans (HK2.out.keep HGC.out)
  have HK2d := Lib.hid k2
  have HCD := Lib.hid cd
  have b0 := kd.cell 0
  have b1 := kd.cell 1
  have b2 := kd.cell 2
  have f0 := k2.free 0
  have f1 := k2.free 1
  have f2 := k2.free 2
  have d0 := k2.cell 0
  have d1 := k2.cell 1
  have d2 := k2.cell 2
  simp only [List.getElem?_toArray, List.getElem?_cons_succ, List.getElem?_cons_zero] at b0 b1 b2 d0 d1 d2
  clear hWd kd cd k2
  go_wp2_with fail
  generalize hW : World.setCell (World.setCell (World.setCell wd _ _) _ _) _ _ = W
  obtain ⟨kW, cW⟩ := put33 HK2d.out hW
  have u0 := kW.cell 0
  have u1 := kW.cell 1
  have u2 := kW.cell 2
  refine bodyPost_ret (v := .agg #[.slice As n cs, .slice At m ct, .slice A3 k c3]) ?_ ?_ ?_
  ·simp [results, Tryz.results64, go_sem, u0, u1, u2]
  ·rfl
  ·rw [← HM.out]
   have hcW : Ch [g, g + 1] wc W := (HCD.out.mono (T := [g, g + 1]) (by simp)).trans cW (fun t ht => Or.inl (by simp at ht ⊢; exact Or.inr ht))
   have hS := HS.out
   have hS1 := HS1.out
   have hgW : Gr w W := hcW.up (HG.out.trans HGC.out) (fun t ht => by simp at ht; omega)
   have hoW : W.ownsRow w1.heap.size 59 5 (.slice A3 k c3) k (flatE enc5m (L.mail.eraseIdx k)) := owns_ch hown2.out hcW (fun x hx hm => by
    rcases own_new hown2.out with h1 | ⟨g', h1, h2⟩
    ·rw [h1] at hx; cases hx
    ·rw [h1] at hx
     injection hx with hx
     simp at hm
     omega)
   have hlb : (Value.slice A3 k c3).ownBlock = L.lv.ownBlock ∨ (Value.slice A3 k c3).ownBlock = none ∨ ∃ x, (Value.slice A3 k c3).ownBlock = some x ∧ w.heap.size ≤ x := by
    rcases own_new hown2.out with h1 | ⟨g', h1, h2⟩
    ·exact Or.inr (Or.inl h1)
    ·exact Or.inr (Or.inr ⟨g', h1, by omega⟩)
   refine ⟨{ L with mail := L.mail.eraseIdx k, lv := .slice A3 k c3 }, by unfold LN.v; dsimp only; rw [HSH.out.sv, HSH.out.tv], ⟨Ch.of hgW, blk_lv hlb⟩, HH.out.letters _ _ (Ch.of hgW) (by rw [hqm.out]; exact own_low hoW (Nat.le_trans HLO.out HG.out.size)) hlb, rfl⟩
 ·have hcc1 : (cl : Int) ≠ (k : Int) + 1 := by omega
  have hcc2 : ¬ cl - (k + 1) = 0 := by omega
  go_wp2_with (at_builtin; refine step_app (by rfl) (.tmp 12) (.tmp 17) 31 (by rfl) w1.heap.size 59 i0 _ 40 Tryz.underlying31 hi' hz0 hz1 hz2 rfl (by decide) enc5m_len enc5m_one (.slice A' k c2') k (L.mail.take k) HTL.out (by rfl) HOW.out HGB.out.size (some ⟨gl, (k + 1) * 5, none⟩) (l - (k + 1)) _ (L.mail.drop (k + 1)) (by rfl) HDL.out HTD.out (by unfold maxLen; omega) (by omega) ?_)
  intro A3 c3 wc hown' hgrow
  try simp only [Nat.add_sub_cancel, Nat.sub_self, Nat.add_zero, List.append_nil] at hown' ⊢
  have hera : L.mail.take k ++ L.mail.drop (k + 1) = L.mail.eraseIdx k := (List.eraseIdx_eq_take_drop_succ ..).symm
  obtain ⟨q, hq⟩ : ∃ q, k + (l - (k + 1)) = q := ⟨_, rfl⟩
  rw [hq] at hown' ⊢
  have HQ := Lib.hid hq
  have HO3 := Lib.hid hown'
  clear hq
  have hown2 : Hid (wc.ownsRow w1.heap.size 59 5 (.slice A3 q c3) q (flatE enc5m (L.mail.eraseIdx k))) := Lib.hid (by rw [← hera]; exact HO3.out)
  have hqm : Hid ((L.mail.eraseIdx k).length = q) := Lib.hid (by rw [← hera, List.length_append, HTL.out, HDL.out]; first | omega | exact HQ.out)
  have hgc : Gr w1 wc := HGB.out.grown hgrow HGB.out.size (fun t ht => by
   rcases own_new HOW.out with h1 | ⟨g', h1, h2⟩
   ·rw [h1] at ht; cases ht
   ·rw [h1] at ht; injection ht with ht; subst ht; exact h2)
  have HGC := Lib.hid hgc
  have k1 := HK1.out.keep hgc
  have HK1c := Lib.hid k1
  have f2 := k1.free 2
  have b2 := k1.cell 2
  simp only [List.getElem?_toArray, List.getElem?_cons_succ, List.getElem?_cons_zero] at b2
  clear hown' hgrow hgc k1 b0 b1 hera
  go_upto_region 4 with fail
  generalize hWd : World.setCell wc _ _ = wd
  obtain ⟨kd, cd⟩ := put1of3 HK1c.out hWd
  have k2 : Blk wd (g + 1) _ _ := (cd.block (g + 1) (HK2.out.keep HGC.out).lt (by simp)).trans (HK2.out.keep HGC.out)
  have HK2d := Lib.hid k2
  have HCD := Lib.hid cd
  have b0 := kd.cell 0
  have b1 := kd.cell 1
  have b2 := kd.cell 2
  have f0 := k2.free 0
  have f1 := k2.free 1
  have f2 := k2.free 2
  have d0 := k2.cell 0
  have d1 := k2.cell 1
  have d2 := k2.cell 2
  simp only [List.getElem?_toArray, List.getElem?_cons_succ, List.getElem?_cons_zero] at b0 b1 b2 d0 d1 d2
  clear hWd kd cd k2
  go_wp2_with fail
  generalize hW : World.setCell (World.setCell (World.setCell wd _ _) _ _) _ _ = W
  obtain ⟨kW, cW⟩ := put33 HK2d.out hW
  have u0 := kW.cell 0
  have u1 := kW.cell 1
  have u2 := kW.cell 2
  refine bodyPost_ret (v := .agg #[.slice As n cs, .slice At m ct, .slice A3 q c3]) ?_ ?_ ?_
  ·simp [results, Tryz.results64, go_sem, u0, u1, u2]
  ·rfl
  ·rw [← HM.out]
   have hcW : Ch [g, g + 1] wc W := (HCD.out.mono (T := [g, g + 1]) (by simp)).trans cW (fun t ht => Or.inl (by simp at ht ⊢; exact Or.inr ht))
   have hS := HS.out
   have hS1 := HS1.out
   have hgW : Gr w W := hcW.up (HG.out.trans HGC.out) (fun t ht => by simp at ht; omega)
   have hoW : W.ownsRow w1.heap.size 59 5 (.slice A3 q c3) q (flatE enc5m (L.mail.eraseIdx k)) := owns_ch hown2.out hcW (fun x hx hm => by
    rcases own_new hown2.out with h1 | ⟨g', h1, h2⟩
    ·rw [h1] at hx; cases hx
    ·rw [h1] at hx
     injection hx with hx
     simp at hm
     omega)
   have hlb : (Value.slice A3 q c3).ownBlock = L.lv.ownBlock ∨ (Value.slice A3 q c3).ownBlock = none ∨ ∃ x, (Value.slice A3 q c3).ownBlock = some x ∧ w.heap.size ≤ x := by
    rcases own_new hown2.out with h1 | ⟨g', h1, h2⟩
    ·exact Or.inr (Or.inl h1)
    ·exact Or.inr (Or.inr ⟨g', h1, by omega⟩)
   refine ⟨{ L with mail := L.mail.eraseIdx k, lv := .slice A3 q c3 }, by unfold LN.v; dsimp only; rw [HSH.out.sv, HSH.out.tv], ⟨Ch.of hgW, blk_lv hlb⟩, HH.out.letters _ _ (Ch.of hgW) (by rw [hqm.out]; exact own_low hoW (Nat.le_trans HLO.out HG.out.size)) hlb, rfl⟩

set_option maxRecDepth 100000
set_option maxHeartbeats 80000000

def EndX (S : List Nat) (w : World) (X : XN) (er : Int) (e : Ending) (w' : World) : Prop := ∃ L', e = .returned (.tuple #[L'.v, .int .i64 er]) ∧ XAt S w' L' ∧ L'.era = X ∧ Gr w w'
structure Out5 (S : List Nat) (w : World) (g : Nat) (L' : LN) (wr : World) : Prop where
 ow : XOw S w wr L'
 far : g ∉ blkR L'.rows
 low : w.heap.size ≤ g
 b2 : Blk wr g 33 #[.slice none 0 0, .slice none 0 0, .slice none 0 0]
section
variable {S : List Nat} {w wr w' : World} {L L' : LN} {g : Nat} {X : XN}
theorem Out5.keep (h : Out5 S w g L' wr) (hg : Gr wr w') : Out5 S w g L' w' := ⟨h.ow.keep hg, h.far, h.low, h.b2.keep hg⟩
theorem Out5.step (h : Out5 S w g L' wr) {e : Ending} (hs : StepX S w wr L' X e w') : ∃ L'', e = .returned L''.v ∧ Out5 S w g L'' w' ∧ L''.era = X ∧ XFr L' wr L'' w' := by
 obtain ⟨L'', he, hf, ho, hera⟩ := hs
 have a := hf.stay h.b2 h.far
 exact ⟨L'', he, ⟨ho, a.2, h.low, a.1⟩, hera, hf⟩
theorem Out5.side (h : Out5 S w g L' wr) {T : List Nat} (hc : Ch T wr w') (hT : ∀ t ∈ T, w.heap.size ≤ t ∧ t ∉ blkR L'.rows ∧ t ≠ g ∧ ∃ ty cs, Blk wr t ty cs ∧ ty ≠ 61) : Out5 S w g L' w' :=
 ⟨⟨h.ow.rws.beside hc (fun t ht => (hT t ht).2.1), fun x hx => (h.ow.parts x hx).ch hc (fun t ht => (hT t ht).2.2.2), h.ow.up hc (fun t ht => (hT t ht).1)⟩, h.far, h.low, (hc.block g h.b2.lt (fun hm => (hT g hm).2.2.1 rfl)).trans h.b2⟩
theorem Out5.put (h : Out5 S w g L' wr) {a : Nat} {s s' : LS} (hs : L'.sites[a]? = some s) (hm : s'.mv = s.mv ∧ s'.minds = s.minds) {q c : Nat} (hv : L'.sv = .slice (some ⟨q, 0, none⟩) L'.sites.length c)
 (hW : ((wr.setCell ⟨q, a * 3, none⟩ (.int .i64 s'.stock)).setCell ⟨q, a * 3 + 1, none⟩ (.bool s'.down)).setCell ⟨q, a * 3 + 2, none⟩ s'.mv = w') : Out5 S w g { L' with sites := L'.sites.set a s' } w' ∧ XFr L' wr { L' with sites := L'.sites.set a s' } w' := by
 obtain ⟨ho, hc, hq⟩ := h.ow.putSite hs hm hv hW
 have hf : XFr L' wr { L' with sites := L'.sites.set a s' } w' := XFr.site hs hm.1 (hc.mono (fun x hx => by rw [List.mem_singleton.1 hx]; exact hq))
 have a := hf.stay h.b2 h.far
 exact ⟨⟨ho, a.2, h.low, a.1⟩, hf⟩
theorem Out5.done {As At Al : Option Addr} {n m l cs ct cl : Nat} {er : Int} (h : Out5 S w g L' wr) (hS : ∀ t ∈ S, t < w.heap.size) (hera : L'.era = X) (hs : Shp L' As At Al n m l cs ct cl) (hW : ((wr.setCell ⟨g, 0, none⟩ (.slice As n cs)).setCell ⟨g, 1, none⟩ (.slice At m ct)).setCell ⟨g, 2, none⟩ (.slice Al l cl) = w') : EndX S w X er (.returned (.tuple #[.agg #[.slice As n cs, .slice At m ct, .slice Al l cl], .int .i64 er])) w' := by
 obtain ⟨-, cW⟩ := put33 h.b2 hW
 have ho : XOw S w w' L' := h.ow.aside h.b2 h.low cW
 exact ⟨L', by rw [hs.v], ho.at hS, hera, ho.gr⟩
theorem Out5.start {wc : World} (hc : XOw S w w' L' ∧ (∀ t ∈ blkR L'.rows, wc.heap.size ≤ t) ∧ Gr wc w') (hl : w.heap.size ≤ g) (hb : Blk wc g 33 #[.slice none 0 0, .slice none 0 0, .slice none 0 0]) : Out5 S w g L' w' :=
 ⟨hc.1, fun hm => by have := hc.2.1 g hm; have := hb.lt; omega, hl, hb.keep hc.2.2⟩
theorem EndX.err {As At Al : Option Addr} {n m l cs ct cl : Nat} {er : Int} (h : XAt S w L) (hg : Gr w w') (hX : X = L.era) (hs : Shp L As At Al n m l cs ct cl) : EndX S w X er (.returned (.tuple #[.agg #[.slice As n cs, .slice At m ct, .slice Al l cl], .int .i64 er])) w' := ⟨L, by rw [hs.v], h.gr hg, hX.symm, hg⟩
theorem xcopyV {As At Al : Option Addr} {n m l cs ct cl : Nat} {w0 : World} (h : XAt S w0 L) (hg0 : Gr w0 w) (hl : XLe L.era) (hs : Shp L As At Al n m l cs ct cl) :
 Calls Tryz.prog 59 #[.agg #[.slice As n cs, .slice At m ct, .slice Al l cl]] w fun e w' => ∃ L', e = .returned L'.v ∧ XOw S w0 w' L' ∧ (∀ g ∈ blkR L'.rows, w.heap.size ≤ g) ∧ L'.era = L.era ∧ Gr w w' := by
 rw [← hs.v]
 exact xcopy_any S w0 w L h hg0 hl
theorem xhandleV {As At Al : Option Addr} {n m l cs ct cl : Nat} {w0 : World} (h : XOw S w0 w L) (hl : XLe L.era) (hr : XRg L.era) (hs : Shp L As At Al n m l cs ct cl) (f : Int) (a : Nat) (kd : Int) (k : Nat) (ch : Int) (ha : a < n) (hk : k < m) (hkd : 1 ≤ kd ∧ kd ≤ 7) (hch : -1099511627776 ≤ ch ∧ ch ≤ 1099511627776) :
 Calls Tryz.prog 65 #[.agg #[.slice As n cs, .slice At m ct, .slice Al l cl], .agg #[.int .i64 f, .int .i64 (a : Int), .int .i64 kd, .int .i64 ((k : Int) + 1), .int .i64 ch]] w (StepX S w0 w L (xHandle L.era (f, (a : Int), kd, (k : Int) + 1, ch))) := by
 rw [← hs.v]
 exact xhandle_any S w0 w L h hl hr f a kd k ch (by rw [hs.n]; exact ha) (by rw [hs.m]; exact hk) hkd hch
theorem xErrL_of {As At Al : Option Addr} {n m l cs ct cl : Nat} (hs : Shp L As At Al n m l cs ct cl) (i : Int) : xErrL L.era i = if 0 ≤ i ∧ i < (l : Int) then 0 else 3 := by
 unfold xErrL
 rw [lens_era.2.2, hs.l]
theorem xErrS_of {As At Al : Option Addr} {n m l cs ct cl : Nat} (hs : Shp L As At Al n m l cs ct cl) (i : Int) : xErrS L.era i = if 0 ≤ i ∧ i < (n : Int) then 0 else 3 := by
 unfold xErrS
 rw [lens_era.1, hs.n]
theorem xErrD_of {As At Al : Option Addr} {n m l cs ct cl : Nat} (hs : Shp L As At Al n m l cs ct cl) {k : Nat} {s : LS} (hk : L.sites[k]? = some s) : xErrD L.era (k : Int) = if s.down then 7 else 0 := by
 have hlt := (List.getElem?_eq_some_iff.1 hk).1
 rw [hs.n] at hlt
 have h1 : xErrS L.era (k : Int) = 0 := by rw [xErrS_of hs, if_pos (by omega)]
 unfold xErrD
 rw [h1, if_neg (by simp), era_site hk]
 rfl
theorem xErrU_of {As At Al : Option Addr} {n m l cs ct cl : Nat} (hs : Shp L As At Al n m l cs ct cl) {k : Nat} {s : LS} (hk : L.sites[k]? = some s) : xErrU L.era (k : Int) = if s.down then 0 else 7 := by
 have hlt := (List.getElem?_eq_some_iff.1 hk).1
 rw [hs.n] at hlt
 have h1 : xErrS L.era (k : Int) = 0 := by rw [xErrS_of hs, if_pos (by omega)]
 unfold xErrU
 rw [h1, if_neg (by simp), era_site hk]
 rfl
theorem xErr_out {As At Al : Option Addr} {n m l cs ct cl : Nat} (hs : Shp L As At Al n m l cs ct cl) {i : Int} (h : ¬ (0 ≤ i ∧ i < (n : Int))) : xErrD L.era i = 3 ∧ xErrU L.era i = 3 := by
 have h1 := xErrS_of hs i
 rw [if_neg h] at h1
 unfold xErrD xErrU
 rw [h1]
 exact ⟨rfl, rfl⟩
end

end Go.Proofs.YtnoeiocbmhkmeaaGreat
