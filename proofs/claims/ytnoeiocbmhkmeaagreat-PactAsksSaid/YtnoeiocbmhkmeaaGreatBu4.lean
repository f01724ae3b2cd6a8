/- Layer 5: letters are sent. -/
import Derived.Test.YtnoeiocbmhkmeaaGreatBu3
import Derived.Deep.AppendLies
import Derived.Deep.Upon
namespace Go.Proofs.YtnoeiocbmhkmeaaGreat
open Go.RowKit
set_option linter.unusedSimpArgs false
set_option maxRecDepth 100000
set_option maxHeartbeats 80000000

section
variable {P : Program} {w : World} {ops : Array Oper} {o : Oper} {a : Act} {Q : Exit → Act → World → Prop} {Kq : Act → World → Prop} {E : Prop}
theorem held_nothing (hg : o.guard = none) (s x : Operand) (t : TypeId) (hop : o.op = Op.call { callee := Callee.builtin Builtin.append, args := #[s, x], argTypes := #[t, t] }) (e : TypeId) (i : TypeInfo) (ht : P.underlying t = some (.slice e)) (hi : P.info? e = some i)
 (base : Option Addr) (sLen sCap : Nat) (hle : sLen ≤ sCap) (xv : Value) (hs : a.eval s = .slice base sLen sCap) (hx : a.eval x = xv) (hsrc : Src P i.size t xv 0 [] w) (hK : Kq (a.put o.dst (.slice base sLen sCap)) w) :
 if Region.wanted o (yielded ops a.tmps) = true then Oper.wp P o a w Kq Q else E := by
 have hw : Region.wanted o (yielded ops a.tmps) = true := by simp [Region.wanted, hg]
 rw [if_pos hw]
 have hrun := run_append_nothing w t t o.type e i ht hi base sLen sCap hle xv hsrc
 unfold Oper.wp
 simp [execOp, hop, resolve, invoke, builtin, hs, hx, hrun, Result.andThen]
 exact hK
end
theorem end0p {P : Program} {fn : Func} {R : Ending → World → Prop} {a : Act} {w : World} (hr : fn.results = #[]) (hd : a.defers = []) (hR : R (.returned (.tuple #[])) w) : bodyPost P fn R .normal a w :=
 bodyPost_end (v := .tuple #[]) (by simp [results, hr]) hd hR
def ownB (N : Nx) : List Nat := blks (netIt N) ++ (N.sv.ownBlock.toList ++ N.lv.ownBlock.toList)
theorem NetR.own {B : Nat} {w : World} {N : Nx} (h : NetR B w N) : ∀ g ∈ ownB N, B ≤ g ∧ g < w.heap.size := fun g hg => by
 unfold ownB at hg
 rcases List.mem_append.1 hg with hg | hg
 ·have := h.its.lt hg; omega
 ·rcases List.mem_append.1 hg with hg | hg
  ·exact h.sites.lt g (by simpa using hg)
  ·exact h.mail.lt g (by simpa using hg)
theorem NetR.newMail {B : Nat} {w w6 : World} {N : Nx} {lv' : Value} {ml' : List Ml} (h : NetR B w N) (hgrow : w.grownBy w6 N.lv.ownBlock) (hown : w6.ownsRow B 59 5 lv' ml'.length (flatE enc5m ml'))
 (hat : lv'.ownBlock = N.lv.ownBlock ∨ ∀ g, lv'.ownBlock = some g → w.heap.size ≤ g) :
 Blk w6 N.p 68 #[N.sv, N.lv, .int .i64 N.begun] ∧ NetR B (w6.setCell ⟨N.p, 1, none⟩ lv') { N with mail := ml', lv := lv' } ∧ Ch (ownB N) w (w6.setCell ⟨N.p, 1, none⟩ lv') ∧ (∀ g ∈ ownB { N with mail := ml', lv := lv' }, g ∈ ownB N ∨ w.heap.size ≤ g) := by
 have i6 := h.its.aside hgrow (fun it hm => (h.away it hm).2)
 have hmp : ((N.p, Ds.cells 68 #[N.sv, N.lv, .int .i64 N.begun]) : Nat × Ds) ∈ netIt N := by unfold netIt; exact List.mem_cons_self
 have hb6 : Blk w6 N.p 68 #[N.sv, N.lv, .int .i64 N.begun] := i6.at (D := .cells _ _) hmp
 have haw : ∀ it ∈ netIt N, lv'.ownBlock ≠ some it.1 := fun it hm e => by
  rcases hat with h1 | h1
  ·exact (h.away it hm).2 (h1.symm.trans e)
  ·have h2 := h1 _ e
   have h3 := (h.its.lt (mem_blks hm)).1
   omega
 have i7 : Its B (w6.setCell ⟨N.p, 1, none⟩ lv') (netIt { N with mail := ml', lv := lv' }) := by
  have i6' : Its B w6 ([] ++ [(N.p, .cells 68 #[N.sv, N.lv, .int .i64 N.begun])] ++ N.sites.flatMap siteIt) := by
   unfold netIt at i6; simpa using i6
  have := i6'.turn (D' := .cells 68 #[N.sv, lv', .int .i64 N.begun]) ((Gb.refl N.p w6).put 1 _) (hb6.put 1 _)
  unfold netIt
  simpa using this
 have hsz := World.grownBy.size hgrow
 have hle := h.le
 have hpB := h.its.lt (mem_blks hmp)
 refine ⟨hb6, ⟨i7, ?_, ?_, ?_, fun it hm => ?_, by simp [World.setCell]; omega⟩, ?_, ?_⟩
 ·exact ownsRow_setCell_other (a := ⟨N.p, 1, none⟩) (h.sites.kept hgrow h.spot) (h.away _ hmp).1 _
 ·exact ownsRow_setCell_other (a := ⟨N.p, 1, none⟩) hown (haw _ hmp) _
 ·show N.sv.ownBlock = none ∨ N.sv.ownBlock ≠ lv'.ownBlock
  rcases h.spot with h1 | h1
  ·exact Or.inl h1
  ·rcases hat with h2 | h2
   ·exact Or.inr (by rw [h2]; exact h1)
   ·cases hs : N.sv.ownBlock with
    | none => exact Or.inl rfl
    | some g =>
      refine Or.inr (fun e => ?_)
      have h3 := h2 g e.symm
      have h4 := (h.sites.lt g hs).2
      omega
 ·have hm2 : it.1 ∈ blks (netIt N) := by
   have := mem_blks hm
   unfold netIt at this ⊢
   simpa [blks] using this
  obtain ⟨jt, hj, ej⟩ := List.mem_map.1 hm2
  exact ⟨fun e => (h.away jt hj).1 (e.trans (by rw [← ej])), fun e => haw jt hj (e.trans (by rw [← ej]))⟩
 ·have h1 : Ch (ownB N) w w6 := ⟨hgrow.os, hgrow.tape, hgrow.output, hgrow.size, fun g hg hs => World.grownBy.block hgrow g hg (fun e => hs (by unfold ownB; simp [← e]))⟩
  exact h1.set (p := ⟨N.p, 1, none⟩) (by unfold ownB; exact List.mem_append_left _ (mem_blks hmp)) _
 ·intro g hg
  have e : blks (netIt { N with mail := ml', lv := lv' }) = blks (netIt N) := by unfold netIt blks; simp
  unfold ownB at hg ⊢
  rw [e] at hg
  rcases List.mem_append.1 hg with hg | hg
  ·exact Or.inl (List.mem_append_left _ hg)
  ·rcases List.mem_append.1 hg with hg | hg
   ·exact Or.inl (List.mem_append_right _ (List.mem_append_left _ hg))
   ·have hg : lv'.ownBlock = some g := by simpa using hg
    rcases hat with h1 | h1
    ·exact Or.inl (List.mem_append_right _ (List.mem_append_right _ (by rw [← h1, hg]; simp)))
    ·exact Or.inr (h1 g hg)

structure NetTo (B : Nat) (w : World) (N N' : Nx) (w' : World) : Prop where
 net : NetR B w' N'
 ch : Ch (ownB N) w w'
 own : ∀ g ∈ ownB N', g ∈ ownB N ∨ w.heap.size ≤ g
 p : N'.p = N.p
 sv : N'.sv = N.sv
theorem NetTo.pre {B : Nat} {w w1 w2 : World} {N N' : Nx} (h : NetTo B w1 N N' w2) (hg : Gr w w1) : NetTo B w N N' w2 :=
 ⟨h.net, (Ch.of (S := ownB N) hg).trans h.ch (fun _ hm => Or.inl hm), fun g hm => (h.own g hm).imp id (fun hs => Nat.le_trans hg.size hs), h.p, h.sv⟩
theorem NetTo.post {B : Nat} {w w1 w2 : World} {N N' : Nx} (h : NetTo B w N N' w1) (hg : Gr w1 w2) : NetTo B w N N' w2 :=
 ⟨h.net.keep hg, h.ch.gr hg, h.own, h.p, h.sv⟩
theorem NetTo.trans {B : Nat} {w w1 w2 : World} {N N1 N2 : Nx} (h : NetTo B w N N1 w1) (k : NetTo B w1 N1 N2 w2) : NetTo B w N N2 w2 :=
 ⟨k.net, h.ch.trans k.ch h.own, fun g hm => by
   rcases k.own g hm with h1 | h1
   ·exact h.own g h1
   ·exact Or.inr (Nat.le_trans h.ch.size h1), k.p.trans h.p, k.sv.trans h.sv⟩
theorem sendAdd {B : Nat} {w1 w6 : World} {N : Nx} {A1 : Option Addr} {q c1 K g' cap' : Nat} {ls : List Ml} (h : NetR B w1 N) (hq : N.mail.length = q) (hkl : (ls.take K).length = K) (hlv : N.lv = .slice A1 q c1)
 (hown : w6.ownsRow B 59 5 (.slice (some ⟨g', 0, none⟩) (q + K) cap') (q + K) (flatE enc5m N.mail ++ flatE enc5m (ls.take K))) (hgrow : w1.grownBy w6 (Value.slice A1 q c1).ownBlock) (hat : (Value.slice A1 q c1).ownBlock = some g' ∨ g' = w1.heap.size) :
 Blk w6 N.p 68 #[N.sv, N.lv, .int .i64 N.begun] ∧ NetTo B w1 N { N with mail := N.mail ++ ls.take K, lv := .slice (some ⟨g', 0, none⟩) (q + K) cap' } (w6.setCell ⟨N.p, 1, none⟩ (.slice (some ⟨g', 0, none⟩) (q + K) cap')) := by
 have h1 := h.newMail (lv' := .slice (some ⟨g', 0, none⟩) (q + K) cap') (ml' := N.mail ++ ls.take K) (by rw [hlv]; exact hgrow) (by rw [List.length_append, hq, hkl, flatE_app]; exact hown) (by
  rw [hlv]
  rcases hat with h1 | h1
  ·exact Or.inl h1.symm
  ·exact Or.inr (fun g e => by simp [Value.ownBlock] at e; omega))
 exact ⟨h1.1, h1.2.1, h1.2.2.1, h1.2.2.2, rfl, rfl⟩
def sentL (N : Nx) (ls : List Ml) : List Ml := ls.take (1024 - N.mail.length)

theorem sendB_any {B : Nat} {N : Nx} (A : Option Addr) (m c : Nat) (ls : List Ml) (w : World) (h : NetR B w N) (hm : ls.length = m) (hl : m ≤ 100000) (hmc : m ≤ c) (hN : N.mail.length ≤ 1024) (hr : Rd 5 enc5m w A ls) :
 Calls Tryz.prog 46 #[.pointer (some ⟨N.p, 0, none⟩), .slice A m c] w fun e w' => e = .returned (.tuple #[]) ∧ ∃ lv', NetTo B w N { N with mail := N.mail ++ sentL N ls, lv := lv' } w' := by
 have n1 := h.blk.cell 1
 obtain ⟨A1, c1, e1, hr1, -⟩ : ∃ A c, N.lv = .slice A N.mail.length c ∧ N.mail.length ≤ c ∧ True := by
  obtain ⟨A, c, e, hc, -, -⟩ := own_row enc5m_len rfl h.mail
  exact ⟨A, c, e, hc, trivial⟩
 have f1 : w.frozen? ⟨N.p, 1, none⟩ = false := h.blk.free 1
 simp only [List.getElem?_toArray, List.getElem?_cons_succ, List.getElem?_cons_zero] at n1
 rw [e1] at n1
 have HL := Lib.hid e1
 have HH := Lib.hid h
 have HM := Lib.hid hm
 have HR := Lib.hid hr
 have hdr := (Gr.refl w).drew
 have n1d := hdr.keep n1
 have HS : Hid (sentL N ls = ls.take (1024 - N.mail.length)) := Lib.hid rfl
 obtain ⟨i0, hi, hz0, hz1, hz2⟩ := info_parts Tryz.infoPtL
 obtain ⟨q, hq⟩ : ∃ q, N.mail.length = q := ⟨_, rfl⟩
 rw [hq] at HL HS hN hr1 n1 n1d
 have HQ := Lib.hid hq
 obtain ⟨r, hr'⟩ : ∃ r, 1024 - q = r := ⟨_, rfl⟩
 have hri : 1024 - (q : Int) = (r : Int) := by omega
 have hqr : q + r = 1024 := by omega
 have HRR := Lib.hid hr'
 clear e1 h hm hr hq hr'
 go_enter Tryz.func46, Tryz.ntmps46
 go_upto_region 1 with fail
 try rw [hri]
 clear hri
 have HFIN : Hid (∀ (k : Nat), ls.take k = ls.take r → ∀ w6 lv', NetTo B w N { N with mail := N.mail ++ ls.take k, lv := lv' } w6 → ∃ lv', NetTo B w N { N with mail := N.mail ++ sentL N ls, lv := lv' } w6) := Lib.hid (fun k hk w6 lv' hto => ⟨lv', by rw [hk, ← HRR.out, ← HS.out] at hto; exact hto⟩)
 by_cases hmr : m < r
 ·have hmi : (m : Int) < (r : Int) := by omega
  have HZm : Hid (ls.take m = ls.take r) := Lib.hid (by rw [List.take_of_length_le (by rw [HM.out]; exact Nat.le_refl _), List.take_of_length_le (by rw [HM.out]; omega)])
  cases A with
  | none =>
    obtain rfl : m = 0 := by
     have h1 := HM.out
     have h2 := HR.out
     cases ls with
     | nil => simpa using h1.symm
     | cons x r =>
       obtain ⟨b, off, e, -⟩ := h2 0 x rfl
       cases e
    have HZ := HZm
    refine wp_region_held_drew (S := (fun _ => True)) ?_ ?_ (fun hHeld => ?_)
    ·kernel_rfl
    ·((try dsimp only); (try trivial))
    refine ti 0 (some 11) rfl rfl ?_; try simp only [Act.put, lA, lB, lC]
    refine ti 1 (some 12) rfl rfl ?_; try simp only [Act.put, lA, lB, lC]
    refine ti 2 (some 13) rfl rfl ?_; try simp only [Act.put, lA, lB, lC]
    refine ti 3 (some 14) rfl rfl ?_; try simp only [Act.put, lA, lB, lC]
    refine ti 5 (some 16) rfl rfl ?_; try simp only [Act.put, lA, lB, lC]
    refine ti 6 (some 17) rfl rfl ?_; try simp only [Act.put, lA, lB, lC]
    refine ti 7 (some 18) rfl rfl ?_; try simp only [Act.put, lA, lB, lC]
    refine ti 8 (some 19) rfl rfl ?_; try simp only [Act.put, lA, lB, lC]
    refine ti 9 (some 20) rfl rfl ?_; try simp only [Act.put, lA, lB, lC]
    refine ti 10 (some 21) rfl rfl ?_; try simp only [Act.put, lA, lB, lC]
    refine tr [4] (.cons rfl (fun K hK => ?_) .nil)
    go_simp
    refine hK.out _ _ ?_ (fun hHeld => ?_)
    ·((try dsimp only); (try trivial))
    clear hK K; try simp only [Act.put, lA, lB, lC]
    refine tr [11] (.cons rfl (fun K hK => ?_) .nil)
    first | (refine held_nothing (by rfl) (.tmp 15) (.tmp 21) 31 (by rfl) 59 i0 Tryz.underlying31 hi A1 q c1 hr1 (.slice none 0 c) (by rfl) (by rfl) (Src.ofNil _ Tryz.underlying31 c) ?_)
    refine hK.out _ _ ?_ (fun hHeld => ?_)
    ·((try dsimp only); (try trivial))
    clear hK K; try simp only [Act.put, lA, lB, lC]
    refine ti 12 (some 23) rfl rfl ?_; try simp only [Act.put, lA, lB, lC]
    refine ti 13 (some 24) rfl rfl ?_; try simp only [Act.put, lA, lB, lC]
    refine tr [14] (.cons rfl (fun K hK => ?_) .nil)
    go_simp
    refine hK.out _ _ ?_ (fun hHeld => ?_)
    ·((try dsimp only); (try trivial))
    clear hK K; try simp only [Act.put, lA, lB, lC]
    refine wpAnyH_done ?_ ?_ _
    ·kernel_rfl
    rotate_left
    all_goals
     refine end0p (by rfl) (by rfl) ⟨rfl, HFIN.out 0 HZ.out _ (.slice A1 q c1) ?_⟩
     have h1 := HH.out.newMail (w6 := w) (lv' := .slice A1 q c1) (ml' := N.mail ++ ls.take 0) ⟨rfl, rfl, rfl, Nat.le_refl _, fun _ _ _ => rfl⟩ (by rw [List.take_zero, List.append_nil, ← HL.out]; exact HH.out.mail) (Or.inl (by rw [HL.out]))
     exact NetTo.post ⟨h1.2.1, h1.2.2.1, h1.2.2.2, rfl, rfl⟩ (Gr.refl _).drew
  | some a =>
    by_cases hm0 : m = 0
    ·subst hm0
     have HZ := HZm
     refine wp_region_held_drew (S := (fun _ => True)) ?_ ?_ (fun hHeld => ?_)
     ·kernel_rfl
     ·((try dsimp only); (try trivial))
     refine ti 0 (some 11) rfl rfl ?_; try simp only [Act.put, lA, lB, lC]
     refine ti 1 (some 12) rfl rfl ?_; try simp only [Act.put, lA, lB, lC]
     refine ti 2 (some 13) rfl rfl ?_; try simp only [Act.put, lA, lB, lC]
     refine ti 3 (some 14) rfl rfl ?_; try simp only [Act.put, lA, lB, lC]
     refine ti 5 (some 16) rfl rfl ?_; try simp only [Act.put, lA, lB, lC]
     refine ti 6 (some 17) rfl rfl ?_; try simp only [Act.put, lA, lB, lC]
     refine ti 7 (some 18) rfl rfl ?_; try simp only [Act.put, lA, lB, lC]
     refine ti 8 (some 19) rfl rfl ?_; try simp only [Act.put, lA, lB, lC]
     refine ti 9 (some 20) rfl rfl ?_; try simp only [Act.put, lA, lB, lC]
     refine ti 10 (some 21) rfl rfl ?_; try simp only [Act.put, lA, lB, lC]
     refine tr [4] (.cons rfl (fun K hK => ?_) .nil)
     go_simp
     refine hK.out _ _ ?_ (fun hHeld => ?_)
     ·((try dsimp only); (try trivial))
     clear hK K; try simp only [Act.put, lA, lB, lC]
     refine tr [11] (.cons rfl (fun K hK => ?_) .nil)
     first | (refine held_nothing (by rfl) (.tmp 15) (.tmp 21) 31 (by rfl) 59 i0 Tryz.underlying31 hi A1 q c1 hr1 (.slice (some a) 0 c) (by rfl) (by rfl) (Src.ofSlice _ Tryz.underlying31 a 0 c [] (by simp) (by simp) (by simp)) ?_)
     refine hK.out _ _ ?_ (fun hHeld => ?_)
     ·((try dsimp only); (try trivial))
     clear hK K; try simp only [Act.put, lA, lB, lC]
     refine ti 12 (some 23) rfl rfl ?_; try simp only [Act.put, lA, lB, lC]
     refine ti 13 (some 24) rfl rfl ?_; try simp only [Act.put, lA, lB, lC]
     refine tr [14] (.cons rfl (fun K hK => ?_) .nil)
     go_simp
     refine hK.out _ _ ?_ (fun hHeld => ?_)
     ·((try dsimp only); (try trivial))
     clear hK K; try simp only [Act.put, lA, lB, lC]
     refine wpAnyH_done ?_ ?_ _
     ·kernel_rfl
     rotate_left
     all_goals
      refine end0p (by rfl) (by rfl) ⟨rfl, HFIN.out 0 HZ.out _ (.slice A1 q c1) ?_⟩
      have h1 := HH.out.newMail (w6 := w) (lv' := .slice A1 q c1) (ml' := N.mail ++ ls.take 0) ⟨rfl, rfl, rfl, Nat.le_refl _, fun _ _ _ => rfl⟩ (by rw [List.take_zero, List.append_nil, ← HL.out]; exact HH.out.mail) (Or.inl (by rw [HL.out]))
      exact NetTo.post ⟨h1.2.1, h1.2.2.1, h1.2.2.2, rfl, rfl⟩ (Gr.refl _).drew
    ·have HZ := HZm
     have HKL : Hid ((ls.take m).length = m) := Lib.hid (by rw [List.length_take, HM.out]; omega)
     have HHd := Lib.hid (HH.out.keep hdr)
     have HOW : Hid (w.drew.ownsRow B 59 5 (.slice A1 q c1) q (flatE enc5m N.mail)) := Lib.hid (by have h1 := HHd.out.mail; rw [HL.out, HQ.out] at h1; exact h1)
     have HNW := Lib.hid (Rd_news enc5m_len (by decide) (Rd_take (HR.out.keep hdr) m))
     refine wp_region_held_drew (S := (fun _ => True)) ?_ ?_ (fun hHeld => ?_)
     ·kernel_rfl
     ·((try dsimp only); (try trivial))
     refine ti 0 (some 11) rfl rfl ?_; try simp only [Act.put, lA, lB, lC]
     refine ti 1 (some 12) rfl rfl ?_; try simp only [Act.put, lA, lB, lC]
     refine ti 2 (some 13) rfl rfl ?_; try simp only [Act.put, lA, lB, lC]
     refine ti 3 (some 14) rfl rfl ?_; try simp only [Act.put, lA, lB, lC]
     refine ti 5 (some 16) rfl rfl ?_; try simp only [Act.put, lA, lB, lC]
     refine ti 6 (some 17) rfl rfl ?_; try simp only [Act.put, lA, lB, lC]
     refine ti 7 (some 18) rfl rfl ?_; try simp only [Act.put, lA, lB, lC]
     refine ti 8 (some 19) rfl rfl ?_; try simp only [Act.put, lA, lB, lC]
     refine ti 9 (some 20) rfl rfl ?_; try simp only [Act.put, lA, lB, lC]
     refine ti 10 (some 21) rfl rfl ?_; try simp only [Act.put, lA, lB, lC]
     refine tr [4] (.cons rfl (fun K hK => ?_) .nil)
     go_simp
     refine hK.out _ _ ?_ (fun hHeld => ?_)
     ·((try dsimp only); (try trivial))
     clear hK K; try simp only [Act.put, lA, lB, lC]
     refine tr [11] (.cons rfl (fun K hK => ?_) .nil)
     first | (refine step_append_lies _ (by rfl) (.tmp 15) (.tmp 21) 31 (by rfl) B 59 i0 _ 5 40 Tryz.underlying31 hi hz0 hz1 hz2 rfl (by decide) (.slice A1 q c1) q (flatE enc5m N.mail) (by rfl) HOW.out a m c (flatE enc5m (ls.take m)) (by rfl) (by rw [flatE_len enc5m_len, HKL.out]) HNW.out (oneCell_flat enc5m_one _) (by omega) (by unfold maxLen; omega) (by omega) HHd.out.le _ rfl ?_; intro g' cap' w6 hown' hgrow hat _; have HAD := sendAdd HHd.out HQ.out HKL.out HL.out hown' hgrow hat; have d8 := HAD.1.cell 1; have d9 := HAD.1.free 1; have HF := Lib.hid HAD.2; clear HAD hown' hgrow hat)
     refine hK.out _ _ ?_ (fun hHeld => ?_)
     ·((try dsimp only); (try trivial))
     clear hK K; try simp only [Act.put, lA, lB, lC]
     refine ti 12 (some 23) rfl rfl ?_; try simp only [Act.put, lA, lB, lC]
     refine ti 13 (some 24) rfl rfl ?_; try simp only [Act.put, lA, lB, lC]
     refine tr [14] (.cons rfl (fun K hK => ?_) .nil)
     go_simp
     refine hK.out _ _ ?_ (fun hHeld => ?_)
     ·((try dsimp only); (try trivial))
     clear hK K; try simp only [Act.put, lA, lB, lC]
     refine wpAnyH_done ?_ ?_ _
     ·kernel_rfl
     rotate_left
     all_goals
      refine end0p (by rfl) (by rfl) ⟨rfl, HFIN.out m HZ.out _ (.slice (some ⟨g', 0, none⟩) (q + m) cap') ?_⟩
      exact NetTo.pre HF.out hdr
 ·have hmi : ¬ (m : Int) < (r : Int) := by omega
  have HZr : Hid (ls.take r = ls.take r) := Lib.hid rfl
  cases A with
  | none =>
    obtain rfl : m = 0 := by
     have h1 := HM.out
     have h2 := HR.out
     cases ls with
     | nil => simpa using h1.symm
     | cons x r =>
       obtain ⟨b, off, e, -⟩ := h2 0 x rfl
       cases e
    obtain rfl : r = 0 := by omega
    have HZ := HZr
    refine wp_region_held_drew (S := (fun _ => True)) ?_ ?_ (fun hHeld => ?_)
    ·kernel_rfl
    ·((try dsimp only); (try trivial))
    refine ti 0 (some 11) rfl rfl ?_; try simp only [Act.put, lA, lB, lC]
    refine ti 1 (some 12) rfl rfl ?_; try simp only [Act.put, lA, lB, lC]
    refine ti 2 (some 13) rfl rfl ?_; try simp only [Act.put, lA, lB, lC]
    refine ti 3 (some 14) rfl rfl ?_; try simp only [Act.put, lA, lB, lC]
    refine ti 5 (some 16) rfl rfl ?_; try simp only [Act.put, lA, lB, lC]
    refine ti 6 (some 17) rfl rfl ?_; try simp only [Act.put, lA, lB, lC]
    refine ti 7 (some 18) rfl rfl ?_; try simp only [Act.put, lA, lB, lC]
    refine ti 8 (some 19) rfl rfl ?_; try simp only [Act.put, lA, lB, lC]
    refine ti 9 (some 20) rfl rfl ?_; try simp only [Act.put, lA, lB, lC]
    refine ti 10 (some 21) rfl rfl ?_; try simp only [Act.put, lA, lB, lC]
    refine tr [4] (.cons rfl (fun K hK => ?_) .nil)
    go_simp
    refine hK.out _ _ ?_ (fun hHeld => ?_)
    ·((try dsimp only); (try trivial))
    clear hK K; try simp only [Act.put, lA, lB, lC]
    refine tr [11] (.cons rfl (fun K hK => ?_) .nil)
    first | (refine held_nothing (by rfl) (.tmp 15) (.tmp 21) 31 (by rfl) 59 i0 Tryz.underlying31 hi A1 q c1 hr1 (.slice none 0 c) (by rfl) (by rfl) (Src.ofNil _ Tryz.underlying31 c) ?_)
    refine hK.out _ _ ?_ (fun hHeld => ?_)
    ·((try dsimp only); (try trivial))
    clear hK K; try simp only [Act.put, lA, lB, lC]
    refine ti 12 (some 23) rfl rfl ?_; try simp only [Act.put, lA, lB, lC]
    refine ti 13 (some 24) rfl rfl ?_; try simp only [Act.put, lA, lB, lC]
    refine tr [14] (.cons rfl (fun K hK => ?_) .nil)
    go_simp
    refine hK.out _ _ ?_ (fun hHeld => ?_)
    ·((try dsimp only); (try trivial))
    clear hK K; try simp only [Act.put, lA, lB, lC]
    refine wpAnyH_done ?_ ?_ _
    ·kernel_rfl
    rotate_left
    all_goals
     refine end0p (by rfl) (by rfl) ⟨rfl, HFIN.out 0 HZ.out _ (.slice A1 q c1) ?_⟩
     have h1 := HH.out.newMail (w6 := w) (lv' := .slice A1 q c1) (ml' := N.mail ++ ls.take 0) ⟨rfl, rfl, rfl, Nat.le_refl _, fun _ _ _ => rfl⟩ (by rw [List.take_zero, List.append_nil, ← HL.out]; exact HH.out.mail) (Or.inl (by rw [HL.out]))
     exact NetTo.post ⟨h1.2.1, h1.2.2.1, h1.2.2.2, rfl, rfl⟩ (Gr.refl _).drew
  | some a =>
    by_cases hm0 : r = 0
    ·have HZ : Hid (ls.take 0 = ls.take r) := Lib.hid (by rw [hm0])
     have hrc : r ≤ c := by omega
     have HSR : Hid (∀ W, Src Tryz.prog i0.size 31 (.slice (some a) r c) 0 [] W) := Lib.hid (fun W => by rw [hm0]; exact Src.ofSlice W Tryz.underlying31 a 0 c [] (by simp) (by simp) (by simp))
     clear hm0
     refine wp_region_held_drew (S := (fun _ => True)) ?_ ?_ (fun hHeld => ?_)
     ·kernel_rfl
     ·((try dsimp only); (try trivial))
     refine ti 0 (some 11) rfl rfl ?_; try simp only [Act.put, lA, lB, lC]
     refine ti 1 (some 12) rfl rfl ?_; try simp only [Act.put, lA, lB, lC]
     refine ti 2 (some 13) rfl rfl ?_; try simp only [Act.put, lA, lB, lC]
     refine ti 3 (some 14) rfl rfl ?_; try simp only [Act.put, lA, lB, lC]
     refine ti 5 (some 16) rfl rfl ?_; try simp only [Act.put, lA, lB, lC]
     refine ti 6 (some 17) rfl rfl ?_; try simp only [Act.put, lA, lB, lC]
     refine ti 7 (some 18) rfl rfl ?_; try simp only [Act.put, lA, lB, lC]
     refine ti 8 (some 19) rfl rfl ?_; try simp only [Act.put, lA, lB, lC]
     refine ti 9 (some 20) rfl rfl ?_; try simp only [Act.put, lA, lB, lC]
     refine ti 10 (some 21) rfl rfl ?_; try simp only [Act.put, lA, lB, lC]
     refine tr [4] (.cons rfl (fun K hK => ?_) .nil)
     go_simp
     refine hK.out _ _ ?_ (fun hHeld => ?_)
     ·((try dsimp only); (try trivial))
     clear hK K; try simp only [Act.put, lA, lB, lC]
     refine tr [11] (.cons rfl (fun K hK => ?_) .nil)
     first | (refine held_nothing (by rfl) (.tmp 15) (.tmp 21) 31 (by rfl) 59 i0 Tryz.underlying31 hi A1 q c1 hr1 (.slice (some a) r c) (by rfl) (by rfl) (HSR.out _) ?_)
     refine hK.out _ _ ?_ (fun hHeld => ?_)
     ·((try dsimp only); (try trivial))
     clear hK K; try simp only [Act.put, lA, lB, lC]
     refine ti 12 (some 23) rfl rfl ?_; try simp only [Act.put, lA, lB, lC]
     refine ti 13 (some 24) rfl rfl ?_; try simp only [Act.put, lA, lB, lC]
     refine tr [14] (.cons rfl (fun K hK => ?_) .nil)
     go_simp
     refine hK.out _ _ ?_ (fun hHeld => ?_)
     ·((try dsimp only); (try trivial))
     clear hK K; try simp only [Act.put, lA, lB, lC]
     refine wpAnyH_done ?_ ?_ _
     ·kernel_rfl
     rotate_left
     all_goals
      refine end0p (by rfl) (by rfl) ⟨rfl, HFIN.out 0 HZ.out _ (.slice A1 q c1) ?_⟩
      have h1 := HH.out.newMail (w6 := w) (lv' := .slice A1 q c1) (ml' := N.mail ++ ls.take 0) ⟨rfl, rfl, rfl, Nat.le_refl _, fun _ _ _ => rfl⟩ (by rw [List.take_zero, List.append_nil, ← HL.out]; exact HH.out.mail) (Or.inl (by rw [HL.out]))
      exact NetTo.post ⟨h1.2.1, h1.2.2.1, h1.2.2.2, rfl, rfl⟩ (Gr.refl _).drew
    ·have HZ := HZr
     have hrc : r ≤ c := by omega
     have hle5 : q + r ≤ 1024 := by omega
     clear hqr
     have HKL : Hid ((ls.take r).length = r) := Lib.hid (by rw [List.length_take, HM.out]; omega)
     have HHd := Lib.hid (HH.out.keep hdr)
     have HOW : Hid (w.drew.ownsRow B 59 5 (.slice A1 q c1) q (flatE enc5m N.mail)) := Lib.hid (by have h1 := HHd.out.mail; rw [HL.out, HQ.out] at h1; exact h1)
     have HNW := Lib.hid (Rd_news enc5m_len (by decide) (Rd_take (HR.out.keep hdr) r))
     refine wp_region_held_drew (S := (fun _ => True)) ?_ ?_ (fun hHeld => ?_)
     ·kernel_rfl
     ·((try dsimp only); (try trivial))
     refine ti 0 (some 11) rfl rfl ?_; try simp only [Act.put, lA, lB, lC]
     refine ti 1 (some 12) rfl rfl ?_; try simp only [Act.put, lA, lB, lC]
     refine ti 2 (some 13) rfl rfl ?_; try simp only [Act.put, lA, lB, lC]
     refine ti 3 (some 14) rfl rfl ?_; try simp only [Act.put, lA, lB, lC]
     refine ti 5 (some 16) rfl rfl ?_; try simp only [Act.put, lA, lB, lC]
     refine ti 6 (some 17) rfl rfl ?_; try simp only [Act.put, lA, lB, lC]
     refine ti 7 (some 18) rfl rfl ?_; try simp only [Act.put, lA, lB, lC]
     refine ti 8 (some 19) rfl rfl ?_; try simp only [Act.put, lA, lB, lC]
     refine ti 9 (some 20) rfl rfl ?_; try simp only [Act.put, lA, lB, lC]
     refine ti 10 (some 21) rfl rfl ?_; try simp only [Act.put, lA, lB, lC]
     refine tr [4] (.cons rfl (fun K hK => ?_) .nil)
     go_simp
     refine hK.out _ _ ?_ (fun hHeld => ?_)
     ·((try dsimp only); (try trivial))
     clear hK K; try simp only [Act.put, lA, lB, lC]
     refine tr [11] (.cons rfl (fun K hK => ?_) .nil)
     first | (refine step_append_lies _ (by rfl) (.tmp 15) (.tmp 21) 31 (by rfl) B 59 i0 _ 5 40 Tryz.underlying31 hi hz0 hz1 hz2 rfl (by decide) (.slice A1 q c1) q (flatE enc5m N.mail) (by rfl) HOW.out a r c (flatE enc5m (ls.take r)) (by rfl) (by rw [flatE_len enc5m_len, HKL.out]) HNW.out (oneCell_flat enc5m_one _) (by omega) (by unfold maxLen; omega) (by omega) HHd.out.le _ rfl ?_; intro g' cap' w6 hown' hgrow hat _; have HAD := sendAdd HHd.out HQ.out HKL.out HL.out hown' hgrow hat; have d8 := HAD.1.cell 1; have d9 := HAD.1.free 1; have HF := Lib.hid HAD.2; clear HAD hown' hgrow hat)
     refine hK.out _ _ ?_ (fun hHeld => ?_)
     ·((try dsimp only); (try trivial))
     clear hK K; try simp only [Act.put, lA, lB, lC]
     refine ti 12 (some 23) rfl rfl ?_; try simp only [Act.put, lA, lB, lC]
     refine ti 13 (some 24) rfl rfl ?_; try simp only [Act.put, lA, lB, lC]
     refine tr [14] (.cons rfl (fun K hK => ?_) .nil)
     go_simp
     refine hK.out _ _ ?_ (fun hHeld => ?_)
     ·((try dsimp only); (try trivial))
     clear hK K; try simp only [Act.put, lA, lB, lC]
     refine wpAnyH_done ?_ ?_ _
     ·kernel_rfl
     rotate_left
     all_goals
      refine end0p (by rfl) (by rfl) ⟨rfl, HFIN.out r HZ.out _ (.slice (some ⟨g', 0, none⟩) (q + r) cap') ?_⟩
      exact NetTo.pre HF.out hdr

theorem send5_any {B : Nat} {N : Nx} (A : Option Addr) (m c : Nat) (ls : List Ml) (w : World) (h : NetR B w N) (hm : ls.length = m) (hl : m ≤ 1024) (hmc : m ≤ c) (hN : N.mail.length ≤ 1024) (hr : Rd 5 enc5m w A ls) :
 Calls Tryz.prog 46 #[.pointer (some ⟨N.p, 0, none⟩), .slice A m c] w fun e w' => e = .returned (.tuple #[]) ∧ ∃ lv', NetTo B w N { N with mail := N.mail ++ sentL N ls, lv := lv' } w' := sendB_any A m c ls w h hm (by omega) hmc hN hr

end Go.Proofs.YtnoeiocbmhkmeaaGreat
