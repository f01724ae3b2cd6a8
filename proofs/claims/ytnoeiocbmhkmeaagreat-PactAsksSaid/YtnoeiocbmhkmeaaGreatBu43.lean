/- Layer 5: a net and a reference at their start. -/
import Derived.Test.YtnoeiocbmhkmeaaGreatBu42
import Derived.Test.YtnoeiocbmhkmeaaGreatBu39
namespace Go.Proofs.YtnoeiocbmhkmeaaGreat
open Go.RowKit
set_option linter.unusedSimpArgs false
set_option maxRecDepth 100000
set_option maxHeartbeats 80000000

def RNewQ (l : List Int) (w : World) (e : Ending) (w' : World) : Prop :=
 (okStocks l = false ∧ e = .returned (.tuple #[nil3, .int .i64 2]) ∧ Gr w w') ∨
 (okStocks l = true ∧ ∃ A c, (l.length ≤ c ∧ c ≤ maxLen) ∧ e = .returned (.tuple #[.agg #[.slice A l.length c, .slice none 0 0, .slice none 0 0], .int .i64 0]) ∧ Rd 3 encR0 w' A l ∧ (∀ a, A = some a → w.heap.size ≤ a.block) ∧ Gr w w')
theorem rNewQ_any (A : Option Addr) (n c : Nat) (l : List Int) (w : World) (hn : l.length = n) (hl : n ≤ 9223372036854775807) (hp : Ints w A l) : Calls Tryz.prog 10 #[.slice A n c] w (RNewQ l w) := by
 have HN := Lib.hid hn
 have HP := Lib.hid hp
 by_cases hb : n < 1 ∨ 8 < n
 ·have HR := Lib.hid (okStocks_no (l := l) (fun h => by have := h.1; have := h.2.1; omega))
  clear hn hp
  rcases hb with hb | hb
  all_goals
   go_enter Tryz.func10, Tryz.ntmps10
   go_upto_region 1 with fail
   generalize hW1 : World.alloc w _ = w1
   have hg1 : Gr w w1 := by rw [← hW1]; exact (Gr.refl w).alloc _
   have hB1 : Blk w1 w.heap.size 33 #[.slice none 0 0, .slice none 0 0, .slice none 0 0] := by rw [← hW1]; exact Blk.new w _ _ rfl
   obtain ⟨T, hT⟩ : ∃ T, w.heap.size = T := ⟨_, rfl⟩
   rw [hT] at hB1 ⊢
   have f0 := hB1.free 0
   have f1 := hB1.free 1
   have f2 := hB1.free 2
   have c0 : w1.cell? ⟨T, 0, none⟩ = some (.slice none 0 0) := hB1.cell 0
   have c1 : w1.cell? ⟨T, 1, none⟩ = some (.slice none 0 0) := hB1.cell 1
   have c2 : w1.cell? ⟨T, 2, none⟩ = some (.slice none 0 0) := hB1.cell 2
   have HB1 := Lib.hid hB1
   have HT := Lib.hid hT
   clear hW1 hB1 hT
   go_wp2_with fail
   obtain ⟨hB2, hg2⟩ := put3 (x := .slice none 0 0) (y := .slice none 0 0) (z := .slice none 0 0) HB1.out (by rw [HT.out]; exact Nat.le_refl _) hg1
   generalize World.setCell _ _ _ = w2 at hB2 hg2 ⊢
   have u0 : w2.cell? ⟨T, 0, none⟩ = some (.slice none 0 0) := hB2.cell 0
   have u1 : w2.cell? ⟨T, 1, none⟩ = some (.slice none 0 0) := hB2.cell 1
   have u2 : w2.cell? ⟨T, 2, none⟩ = some (.slice none 0 0) := hB2.cell 2
   refine bodyPost_ret (v := .tuple #[nil3, .int .i64 2]) ?_ rfl (Or.inl ⟨HR.out, rfl, hg2⟩)
   simp [results, Tryz.results10, go_sem, u0, u1, u2, nil3]
 ·have hn1 : 1 ≤ n := by omega
  have hn8 : n ≤ 8 := by omega
  obtain ⟨i0, hi, hz0, hz1, hz2⟩ := info_parts Tryz.infoPtQ
  have HI := Lib.hid (And.intro hi (And.intro hz0 (And.intro hz1 hz2)))
  clear hn hp hb hi hz0 hz1 hz2
  go_enter Tryz.func10, Tryz.ntmps10
  go_upto_region 1 with fail
  generalize hW1 : World.alloc w _ = w1
  have hg1 : Gr w w1 := by rw [← hW1]; exact (Gr.refl w).alloc _
  have hB1 : Blk w1 w.heap.size 33 #[.slice none 0 0, .slice none 0 0, .slice none 0 0] := by rw [← hW1]; exact Blk.new w _ _ rfl
  obtain ⟨T, hT⟩ : ∃ T, w.heap.size = T := ⟨_, rfl⟩
  rw [hT] at hB1 ⊢
  have HB1 := Lib.hid hB1
  have HT := Lib.hid hT
  clear hW1 hB1 hT
  go_upto_region 4 with fail
  generalize hW2 : World.alloc w1 _ = w2
  have hg2 : Gr w1 w2 := by rw [← hW2]; exact (Gr.refl w1).alloc _
  have hB2 : Blk w2 w1.heap.size 33 #[.slice none 0 0, .slice none 0 0, .slice none 0 0] := by rw [← hW2]; exact Blk.new w1 _ _ rfl
  have hTS := HB1.out.lt
  obtain ⟨S, hS⟩ : ∃ S, w1.heap.size = S := ⟨_, rfl⟩
  rw [hS] at hB2 hTS ⊢
  have HS : Hid (T < S ∧ S < w2.heap.size ∧ w.heap.size ≤ T) := Lib.hid ⟨hTS, hB2.lt, by rw [HT.out]; exact Nat.le_refl _⟩
  have HB2 : Hid (Blk w2 S 33 #[.slice none 0 0, .slice none 0 0, .slice none 0 0]) := Lib.hid hB2
  have HB12 := Lib.hid (HB1.out.keep hg2)
  have hgr2 := hg1.trans hg2
  clear hW2 hB2 hTS hS hg1 hg2
  go_wp2_with fail
  go_loopw [5] (fun z wr => ∃ (k : Nat) (B0 : Option Addr) (c0 : Nat), k ≤ n ∧ z = .int .i64 (k : Int) ∧ Hid (Blk wr T 33 #[.slice none 0 0, .slice none 0 0, .slice none 0 0]) ∧ Hid (Blk wr S 33 #[.slice B0 k c0, .slice none 0 0, .slice none 0 0]) ∧ Hid (wr.ownsRow (S + 1) 73 3 (.slice B0 k c0) k (flatE encR0 (l.take k))) ∧ Hid (∀ x ∈ l.take k, 0 ≤ x ∧ x ≤ 1099511627776) ∧ Gr w wr) (fun z _ => n - (intOf z).toNat)
  case atStart => exact ⟨0, none, 0, Nat.zero_le _, rfl, HB12, HB2, Lib.hid (World.ownsRow_nil _ _ _ _), Lib.hid (fun x h => by simp at h), hgr2⟩
  case round =>
   obtain ⟨k, B0, c0, hk, rfl, hbT, hbS, hown, hval, hgr⟩ := hrel
   clear HB12 HB2 HB1
   by_cases hlt : k < n
   ·obtain ⟨b, off, rfl, hc0⟩ := Ints_at (HP.out.keep hgr) (i := k) (by rw [HN.out]; exact hlt)
    have hxk : l[k]? = some (l.getD k 0) := getD_of 0 (by rw [HN.out]; exact hlt)
    generalize l.getD k 0 = x at hc0 hxk
    have hki : (k : Int) < (n : Int) := by omega
    by_cases hx : x < 0 ∨ 1099511627776 < x
    ·have HR := Lib.hid (okStocks_no (l := l) (fun h => by have := h.2.2 x (List.mem_of_getElem? hxk); omega))
     have f0 := hbT.out.free 0
     have f1 := hbT.out.free 1
     have f2 := hbT.out.free 2
     have c0 : wr.cell? ⟨T, 0, none⟩ = some (.slice none 0 0) := hbT.out.cell 0
     have c1 : wr.cell? ⟨T, 1, none⟩ = some (.slice none 0 0) := hbT.out.cell 1
     have c2 : wr.cell? ⟨T, 2, none⟩ = some (.slice none 0 0) := hbT.out.cell 2
     clear hxk
     rcases hx with hx | hx
     all_goals
      go_wp2_with fail
      obtain ⟨hB2, hg2⟩ := put3 (x := .slice none 0 0) (y := .slice none 0 0) (z := .slice none 0 0) hbT.out HS.out.2.2 hgr
      generalize World.setCell _ _ _ = w2 at hB2 hg2 ⊢
      have u0 : w2.cell? ⟨T, 0, none⟩ = some (.slice none 0 0) := hB2.cell 0
      have u1 : w2.cell? ⟨T, 1, none⟩ = some (.slice none 0 0) := hB2.cell 1
      have u2 : w2.cell? ⟨T, 2, none⟩ = some (.slice none 0 0) := hB2.cell 2
      refine bodyPost_ret (v := .tuple #[nil3, .int .i64 2]) ?_ rfl (Or.inl ⟨HR.out, rfl, hg2⟩)
      simp [results, Tryz.results10, go_sem, u0, u1, u2, nil3]
    ·have hx1 : ¬ x < 0 := by omega
     have hx2 : ¬ 1099511627776 < x := by omega
     have HXK := Lib.hid hxk
     have HVX : Hid (∀ y ∈ l.take (k + 1), 0 ≤ y ∧ y ≤ 1099511627776) := Lib.hid (fun y hy => by
      rw [List.take_add_one, HXK.out, Option.toList_some, List.mem_append, List.mem_singleton] at hy
      rcases hy with hy | rfl
      ·exact hval.out y hy
      ·omega)
     have s0 : wr.cell? ⟨S, 0, none⟩ = some (.slice B0 k c0) := hbS.out.cell 0
     have fS : wr.frozen? ⟨S, 0, none⟩ = false := hbS.out.free 0
     obtain ⟨hi, hz0, hz1, hz2⟩ := HI.out
     clear hx hxk
     go_wp2_with (at_builtin; refine wpList_append_own _ rfl _ _ 29 rfl (S + 1) 73 i0 _ 3 40 Tryz.underlying29 hi hz0 hz1 hz2 rfl (by decide) _ _ _ rfl (hown.out.alloc _) ⟨wr.heap.size, 0, none⟩ 1 1 (encR0 x) rfl rfl ?a1 ?a2 ?a3 ?a4 ?a5 ?_)
     case a1 =>
      intro t u ht
      first
      | (rw [Addr.add_lit]; exact alloc_new rfl (by rw [Nat.zero_add]; simpa [encR0] using ht))
      | simpa [encR0] using ht
     case a2 => exact fun u hu => encR0_one _ u hu
     case a3 => unfold maxLen; omega
     case a4 => omega
     case a5 => have := hbS.out.lt; omega
     intro v' w10 hown' hgrow _
     have hal := hgr.alloc (.cells #[.int .i64 x, .bool false, .slice none 0 0] 73)
     have ho3 := hown.out.alloc (.cells #[.int .i64 x, .bool false, .slice none 0 0] 73)
     have hgf : Gr w w10 := Below.grown hal hgrow hal.size (fun t ht => by have := (ho3.lt t ht).1; have := HS.out; omega)
     have hal2 := (Gr.refl wr).alloc (.cells #[.int .i64 x, .bool false, .slice none 0 0] 73)
     have hb10 := (hbS.out.keep hal2).grown hgrow (fun e => by have := (ho3.lt S e.symm).1; omega)
     have hbT10 := (hbT.out.keep hal2).grown hgrow (fun e => by have := (ho3.lt T e.symm).1; have := HS.out; omega)
     have hlen : (l.take (k + 1)).length = k + 1 := by rw [List.length_take, HN.out]; omega
     have hown5 : w10.ownsRow (S + 1) 73 3 v' (k + 1) (flatE encR0 (l.take (k + 1))) := by
      rw [List.take_add_one, HXK.out, Option.toList_some, flatE_app]; simpa [flatE] using hown'
     obtain ⟨A8, c8, rfl, -, -, -⟩ := own_row encR0_len hlen hown5
     have fS10 : w10.frozen? ⟨S, 0, none⟩ = false := hb10.free 0
     have s10 : w10.cell? ⟨S, 0, none⟩ = some (.slice B0 k c0) := hb10.cell 0
     have hne : ∀ g, (Value.slice A8 (k + 1) c8).ownBlock = some g → S < g := fun g hg => (hown5.lt g hg).1
     have HF : Hid (Blk (w10.setCell ⟨S, 0, none⟩ (.slice A8 (k + 1) c8)) S 33 #[.slice A8 (k + 1) c8, .slice none 0 0, .slice none 0 0] ∧ Blk (w10.setCell ⟨S, 0, none⟩ (.slice A8 (k + 1) c8)) T 33 #[.slice none 0 0, .slice none 0 0, .slice none 0 0] ∧ (w10.setCell ⟨S, 0, none⟩ (.slice A8 (k + 1) c8)).ownsRow (S + 1) 73 3 (.slice A8 (k + 1) c8) (k + 1) (flatE encR0 (l.take (k + 1))) ∧ Gr w (w10.setCell ⟨S, 0, none⟩ (.slice A8 (k + 1) c8))) := Lib.hid
      ⟨by simpa using hb10.put 0 (.slice A8 (k + 1) c8), hbT10.grown ((Gb.refl S w10).put 0 _) (fun e => by injection e with e; have := HS.out; omega), ownsRow_setCell_other (a := ⟨S, 0, none⟩) hown5 (fun e => by have := hne S e; omega) _, hgf.setCell (p := ⟨S, 0, none⟩) (by have := HS.out; show w.heap.size ≤ S; omega) _⟩
     clear hi hz0 hz1 hz2 hown' hgrow hal ho3 hown5 hlen hgf hal2 hb10 hbT10 s0 fS hne
     go_wp2_with fail
     go_roundw
     case rel => exact ⟨k + 1, A8, c8, by omega, by go_num, Lib.hid HF.out.2.1, Lib.hid HF.out.1, Lib.hid HF.out.2.2.1, HVX, HF.out.2.2.2⟩
     case measure => simp [intOf]; omega
   ·obtain rfl : k = n := by omega
    have htk : l.take k = l := List.take_of_length_le (by rw [HN.out]; exact Nat.le_refl _)
    rw [htk] at hown hval
    have HR : Hid (okStocks l = true) := Lib.hid ((okStocks_iff l).2 ⟨by rw [HN.out]; exact hn1, by rw [HN.out]; exact hn8, hval.out⟩)
    have s0 : wr.cell? ⟨S, 0, none⟩ = some (.slice B0 k c0) := hbS.out.cell 0
    have s1 : wr.cell? ⟨S, 1, none⟩ = some (.slice none 0 0) := hbS.out.cell 1
    have s2 : wr.cell? ⟨S, 2, none⟩ = some (.slice none 0 0) := hbS.out.cell 2
    have f0 := hbT.out.free 0
    have f1 := hbT.out.free 1
    have f2 := hbT.out.free 2
    have c0' : wr.cell? ⟨T, 0, none⟩ = some (.slice none 0 0) := hbT.out.cell 0
    have c1' : wr.cell? ⟨T, 1, none⟩ = some (.slice none 0 0) := hbT.out.cell 1
    have c2' : wr.cell? ⟨T, 2, none⟩ = some (.slice none 0 0) := hbT.out.cell 2
    have HCB : Hid (l.length ≤ c0 ∧ c0 ≤ maxLen) := Lib.hid (by
     rw [HN.out]
     rcases hown.out.2 with ⟨h1, h2⟩ | ⟨g, cap, cur, h1, _, _, h3, h4, _⟩
     ·injection h1 with _ _ h5
      unfold maxLen
      omega
     ·injection h1 with _ _ h5
      rw [h5]
      exact ⟨h3, h4⟩)
    clear htk hval
    go_wp2_with fail
    obtain ⟨hB2, hg2⟩ := put3 (x := .slice B0 k c0) (y := .slice none 0 0) (z := .slice none 0 0) hbT.out HS.out.2.2 hgr
    have hrd : Rd 3 encR0 (((wr.setCell ⟨T, 0, none⟩ (.slice B0 k c0)).setCell ⟨T, 1, none⟩ (.slice none 0 0)).setCell ⟨T, 2, none⟩ (.slice none 0 0)) B0 l := by
     have hne : ∀ g, (Value.slice B0 k c0).ownBlock = some g → S < g := fun g hg => (hown.out.lt g hg).1
     have h3 := ownsRow_setCell_other (a := ⟨T, 0, none⟩) hown.out (fun e => by have := hne T e; have := HS.out; omega) (.slice B0 k c0)
     have h4 := ownsRow_setCell_other (a := ⟨T, 1, none⟩) h3 (fun e => by have := hne T e; have := HS.out; omega) (.slice none 0 0)
     have h5 := ownsRow_setCell_other (a := ⟨T, 2, none⟩) h4 (fun e => by have := hne T e; have := HS.out; omega) (.slice none 0 0)
     obtain ⟨A6, c6, e', -, h6, -⟩ := own_row encR0_len HN.out h5
     injection e' with e3 _ _
     rw [← e3] at h6
     exact h6
    have hnew : ∀ a, B0 = some a → w.heap.size ≤ a.block := fun a ha => by
     rcases hown.out.2 with ⟨h1, -⟩ | ⟨g, cap, cur, h1, h2, -⟩
     ·rw [ha] at h1; cases h1
     ·rw [ha] at h1
      injection h1 with h1
      injection h1 with h1
      rw [h1]
      have := HS.out
      dsimp only
      omega
    generalize World.setCell _ _ _ = w2 at hB2 hg2 hrd ⊢
    have u0 : w2.cell? ⟨T, 0, none⟩ = some (.slice B0 k c0) := hB2.cell 0
    have u1 : w2.cell? ⟨T, 1, none⟩ = some (.slice none 0 0) := hB2.cell 1
    have u2 : w2.cell? ⟨T, 2, none⟩ = some (.slice none 0 0) := hB2.cell 2
    refine bodyPost_ret (v := .tuple #[.agg #[.slice B0 k c0, .slice none 0 0, .slice none 0 0], .int .i64 0]) ?_ rfl (Or.inr ⟨HR.out, B0, c0, HCB.out, by rw [HN.out], hrd, hnew, hg2⟩)
    simp [results, Tryz.results10, go_sem, u0, u1, u2]

theorem two_start {D : Nat} {S0 : List Nat} {w2 w3 : World} {N : Nx} {tl : List Int} {A : Option Addr} {k c : Nat} (hN : NetR D w2 N) (hnz : nzN N = newN tl) (hok : okStocks tl = true) (hk : tl.length = k) (hc : k ≤ c ∧ c ≤ maxLen) (hrd : Rd 3 encR0 w3 A tl) (hnew : ∀ a, A = some a → w2.heap.size ≤ a.block) (h0S : ∀ t ∈ S0, t < w2.heap.size) :
 ∃ L : LN, L.v = .agg #[.slice A k c, .slice none 0 0, .slice none 0 0] ∧ Two (nzN N) L.era ∧ XAt (S0 ++ ownB N) w3 L := by
 refine ⟨⟨tl.map (fun x => ⟨x, false, [], .slice none 0 0⟩), [], [], .slice A k c, .slice none 0 0, .slice none 0 0⟩, rfl, ?_, fun W hW => ?_⟩
 ·rw [hnz]
  have e : LN.era ⟨tl.map (fun x => (⟨x, false, [], .slice none 0 0⟩ : LS)), [], [], .slice A k c, .slice none 0 0, .slice none 0 0⟩ = xNew tl := by
   unfold LN.era xNew
   dsimp only
   rw [List.map_map]
   rfl
  rw [e]
  exact two_new hok
 ·have h0 : ∀ {α : Type} (q : Nat) (enc : α → List Value), RdV q enc W (.slice none 0 0) ([] : List α) := fun q enc => ⟨none, 0, rfl, Nat.le_refl _, Nat.zero_le _, Rd_nil _ _⟩
  refine ⟨⟨A, c, by rw [List.length_map, hk], by rw [List.length_map, hk]; exact hc.1, hc.2, fun i x hx => ?_⟩, h0 4 encLT, h0 5 enc5m, fun s hs => ?_, fun t ht => (by cases ht), fun t ht => (by cases ht)⟩
  ·rw [List.getElem?_map] at hx
   obtain ⟨y, hy, rfl⟩ := Option.map_eq_some_iff.1 hx
   obtain ⟨b, off, e, hcl⟩ := hrd i y hy
   refine ⟨b, off, e, fun j v hv => ?_⟩
   have h1 := hcl j v hv
   have hb := hnew _ e
   exact (World.cell?_of_block (hW.block b (cell_lt5 h1) (fun hm => by
    dsimp only at hb
    rcases List.mem_append.1 hm with hm | hm
    ·have := h0S b hm; omega
    ·have := (hN.own b hm).2; omega))).trans h1
  ·obtain ⟨x, -, rfl⟩ := List.mem_map.1 hs
   exact h0 3 encMi

set_option maxRecDepth 100000
set_option maxHeartbeats 80000000

theorem AcOk.keep5 {w w' : World} {a : Ac} (h : AcOk w a) (hg : Gr w w') : AcOk w' a := ⟨h.ik, h.is, h.ino, ⟨h.parts.le, h.parts.max, h.parts.nil, h.parts.len, h.parts.rd.keep hg, h.parts.small⟩⟩
theorem cell_ch5 {S : List Nat} {w w' : World} {g o : Nat} {v : Value} (hc : Ch S w w') (h : w.cell? ⟨g, o, none⟩ = some v) (hn : g ∉ S) : w'.cell? ⟨g, o, none⟩ = some v := (World.cell?_of_block (hc.block g (cell_lt5 h) hn)).trans h
theorem ch3 (w : World) (q : Nat) (a b c : Value) : Ch [q] w (((w.setCell ⟨q, 0, none⟩ a).setCell ⟨q, 1, none⟩ b).setCell ⟨q, 2, none⟩ c) := ((Ch.refl.set (p := ⟨q, 0, none⟩) (by simp) _).set (p := ⟨q, 1, none⟩) (by simp) _).set (p := ⟨q, 2, none⟩) (by simp) _
structure RunSt (w : World) (B g q p : Nat) (N : Nx) (L : LN) (W : World) : Prop where
 net : NetR B W N
 p5 : N.p = p
 two : Two (nzN N) L.era
 xat : XAt ([g, q] ++ ownB N) W L
 box : Blk W g 33 #[L.sv, L.tv, L.lv]
 far : g ∉ ownB N ∧ q ∉ ownB N ∧ q ≠ g
 gr : Gr w W
 new : w.heap.size ≤ g ∧ w.heap.size ≤ q
 bq : Blk W q 33 #[.slice none 0 0, .slice none 0 0, .slice none 0 0]
section
variable {w : World} {B g q p : Nat} {N N' : Nx} {L L' : LN} {W W' W'' : World}
theorem RunSt.keep (h : RunSt w B g q p N L W) (hg : Gr W W') : RunSt w B g q p N L W' := ⟨h.net.keep hg, h.p5, h.two, h.xat.gr hg, h.box.keep hg, h.far, h.gr.trans hg, h.new, h.bq.keep hg⟩
theorem RunSt.act (h : RunSt w B g q p N L W) (hB : w.heap.size ≤ B) (hto : NetTo B W N N' W') (ht : Two (nzN N') L'.era) (hx : XAt ([g, q] ++ ownB N') W' L') : Gr w W' ∧ Blk W' g 33 #[L.sv, L.tv, L.lv] ∧ ∀ W3, ((W'.setCell ⟨g, 0, none⟩ L'.sv).setCell ⟨g, 1, none⟩ L'.tv).setCell ⟨g, 2, none⟩ L'.lv = W3 → RunSt w B g q p N' L' W3 := by
 have hk : Blk W' g _ _ := (hto.ch.block g h.box.lt h.far.1).trans h.box
 have hq : Blk W' q _ _ := (hto.ch.block q h.bq.lt h.far.2.1).trans h.bq
 have hf : g ∉ ownB N' := fun hm => (hto.own g hm).elim h.far.1 (fun e => by have := h.box.lt; omega)
 have hf2 : q ∉ ownB N' := fun hm => (hto.own q hm).elim h.far.2.1 (fun e => by have := h.bq.lt; omega)
 have hgw : Gr w W' := hto.ch.up h.gr (fun t ht => by have := (h.net.own t ht).1; omega)
 refine ⟨hgw, hk, fun W3 hW => ?_⟩
 obtain ⟨k3, c3⟩ := put33 hk hW
 exact ⟨hto.net.turn2 c3 (fun t ht hm => hf (by rw [List.mem_singleton.1 hm] at ht; exact ht)), by rw [hto.p]; exact h.p5, ht, hx.ch (c3.mono (fun t ht => by rw [List.mem_singleton.1 ht]; simp)) (fun t ht => Or.inl ht), k3, ⟨hf, hf2, h.far.2.2⟩, c3.up hgw (fun t ht => by rw [List.mem_singleton.1 ht]; exact h.new.1), h.new, (c3.block q hq.lt (fun hm => h.far.2.2 (List.mem_singleton.1 hm))).trans hq⟩
end
def RunP (w : World) (e : Ending) (w' : World) : Prop := ∃ B N L, e = .returned (.tuple #[.pointer (some ⟨N.p, 0, none⟩), L.v]) ∧ NetR B w' N ∧ Two (nzN N) L.era ∧ XAt (ownB N) w' L ∧ Gr w w' ∧ w.heap.size ≤ B
theorem run5_any (A : Option Addr) (n c : Nat) (l : List Int) (AA : Option Addr) (an ac : Nat) (acts : List Ac) (most : Int) (w : World) (hn : l.length = n) (hl : n ≤ 9223372036854775807) (hp : Ints w A l) (han : acts.length = an) (hans : an ≤ 9223372036854775807) (har : Rd 4 encA w AA acts) (hok : ∀ a ∈ acts, AcOk w a) :
 Calls Tryz.prog 14 #[.slice A n c, .slice AA an ac, .int .i64 most] w (RunP w) := by
 have HAN := Lib.hid han
 have HAR := Lib.hid har
 have HOK := Lib.hid hok
 have HTA0 := Lib.hid (And.intro hn (And.intro hl hp))
 clear hn hl hp han har hok
 go_enter Tryz.func14, Tryz.ntmps14
 go_upto_region 1 with fail
 generalize hW0 : World.alloc w _ = w0
 obtain ⟨gr, hgr⟩ : ∃ gr, w.heap.size = gr := ⟨_, rfl⟩
 have kr : Blk w0 gr 33 #[.slice none 0 0, .slice none 0 0, .slice none 0 0] := by rw [← hW0]; exact Blk.new _ _ _ hgr
 have hg0 : Gr w w0 := by rw [← hW0]; exact (Gr.refl w).alloc _
 rw [hgr]
 have HKR := Lib.hid kr
 have HG0 := Lib.hid hg0
 have HGR := Lib.hid hgr
 have HTA := Lib.hid (tame5_any A n c l w0 HTA0.out.1 HTA0.out.2.1 (HTA0.out.2.2.keep hg0))
 clear hW0 hgr kr hg0
 go_wp2_with fail
 refine HTA.out.mono ?_
 rintro e w1 ⟨tl, k, A1, c1, rfl, hlen, hk1, hk5, hval, hrow, hg1⟩
 obtain ⟨g, cap, e1⟩ : ∃ g cap, Value.slice A1 k c1 = .slice (some ⟨g, 0, none⟩) k cap := by
  rcases hrow.2 with ⟨-, h2⟩ | ⟨g, cap, cur, h1, h2, h3, -⟩
  ·omega
  ·exact ⟨g, cap, h1⟩
 rw [e1] at hrow ⊢
 have hst : okStocks tl = true := (okStocks_iff tl).2 ⟨by omega, by omega, hval⟩
 have HLT := Lib.hid hlen
 have hrd : Ints w1 (some ⟨g, 0, none⟩) tl := Rd_of_owns enc1p_len hlen hrow
 have HST := Lib.hid hst
 have HRD := Lib.hid hrd
 have HG1 := Lib.hid hg1
 clear hlen hval hrow e1 hst hrd hg1
 go_wp2_with fail
 refine (New_any (some ⟨g, 0, none⟩) k cap tl w1 HLT.out (by omega) HRD.out).mono ?_
 rintro e w2 (⟨hno, -⟩ | ⟨-, N, rfl, hnet, hnl, hml, hbg, hg2⟩)
 ·rw [HST.out] at hno; cases hno
 have HNZ := Lib.hid (newN_of hnl hml hbg)
 have HNET := Lib.hid hnet
 have HG2 := Lib.hid hg2
 obtain ⟨B, hB⟩ : ∃ B, w1.heap.size = B := ⟨_, rfl⟩
 have HBE := Lib.hid hB
 rw [hB] at HNET
 obtain ⟨p, hpp⟩ : ∃ p, N.p = p := ⟨_, rfl⟩
 have HPP := Lib.hid hpp
 rw [hpp]
 have HR2 : Hid (Ints w2 (some ⟨g, 0, none⟩) tl) := Lib.hid (HRD.out.keep hg2)
 clear hnet hnl hml hbg hg2 hB hpp
 go_wp2_with fail
 refine (rNewQ_any (some ⟨g, 0, none⟩) k cap tl w2 HLT.out (by omega) HR2.out).mono ?_
 rintro e w3 (⟨hno, -⟩ | ⟨-, A3, c3, hcb, rfl, hrd3, hnew3, hg3⟩)
 ·rw [HST.out] at hno; cases hno
 rw [HLT.out] at hcb ⊢
 obtain ⟨L0, hv0, htw, hxa⟩ := two_start (S0 := [gr]) HNET.out HNZ.out HST.out HLT.out hcb hrd3 hnew3 (fun t ht => by rw [List.mem_singleton.1 ht]; have := HKR.out.lt; have := HG1.out.size; have := HG2.out.size; omega)
 have HV0 := Lib.hid hv0
 have HTW := Lib.hid htw
 have HXA := Lib.hid hxa
 have HG3 := Lib.hid hg3
 have hal := (Gr.refl w3).alloc (.cells #[.slice none 0 0, .slice none 0 0, .slice none 0 0] 33)
 clear hcb hrd3 hnew3 hg3 hv0 htw hxa
 go_upto_region 4 with fail
 generalize hW4 : World.alloc w3 _ = w4
 obtain ⟨gx, hgx⟩ : ∃ gx, w3.heap.size = gx := ⟨_, rfl⟩
 have kx : Blk w4 gx 33 #[.slice A3 k c3, .slice none 0 0, .slice none 0 0] := by rw [← hW4]; exact Blk.new _ _ _ hgx
 have hg4 : Gr w3 w4 := by rw [← hW4]; exact (Gr.refl w3).alloc _
 rw [hgx]
 have HBB : Hid (w.heap.size ≤ B ∧ gr < B) := Lib.hid (by have := HBE.out; have := HG0.out.size; have := HG1.out.size; have := HKR.out.lt; omega)
 have HRS : Hid (RunSt w B gx gr p N L0 w4) := Lib.hid (by
  have e := HV0.out
  unfold LN.v at e
  injection e with e
  have hs3 := (HNET.out.keep HG3.out)
  have h1 := HG1.out.size
  have h2 := HG2.out.size
  have h3 := HG3.out.size
  have h4 := HKR.out.lt
  have h5 := HG0.out.size
  refine ⟨hs3.keep hg4, HPP.out, HTW.out, ?_, by rw [e]; exact kx, ⟨fun hm => by have := (hs3.own gx hm).2; omega, fun hm => by have := (hs3.own gr hm).1; have := HBB.out.2; omega, by omega⟩, HG0.out.trans (HG1.out.trans (HG2.out.trans (HG3.out.trans hg4))), by have := HGR.out; omega, (((HKR.out.keep HG1.out).keep HG2.out).keep HG3.out).keep hg4⟩
  exact HXA.out.ch (Ch.of hg4) (fun t ht => by
   simp only [List.cons_append, List.nil_append, List.mem_cons] at ht ⊢
   rcases ht with rfl | rfl | ht
   ·exact Or.inr (by omega)
   ·exact Or.inl (Or.inl rfl)
   ·exact Or.inl (Or.inr ht)))
 clear hal hW4 hgx kx hg4
 go_wp2_with fail
 go_loopw [13, 14] (fun v z wr => ∃ (i : Nat) (N : Nx) (L : LN), i ≤ an ∧ v = .bool true ∧ z = .int .i64 (i : Int) ∧ Hid (RunSt w B gx gr p N L wr)) (fun _ z _ => an - (intOf z).toNat)
 case atStart => exact ⟨0, N, L0, Nat.zero_le _, rfl, rfl, HRS⟩
 case round =>
  obtain ⟨i, N1, L, hi, rfl, rfl, HR⟩ := hrel
  clear HRS
  obtain ⟨As, At, Al, n5, m5, l5, cs, ct, cl, hsh⟩ := HR.out.xat.rd.shp
  have HSH := Lib.hid hsh
  have hbx := HR.out.box
  rw [hsh.sv, hsh.tv, hsh.lv] at hbx
  have b0 := hbx.cell 0
  have b1 := hbx.cell 1
  have b2 := hbx.cell 2
  simp only [List.getElem?_toArray, List.getElem?_cons_succ, List.getElem?_cons_zero] at b0 b1 b2
  have HBX := Lib.hid hbx
  clear hsh hbx
  by_cases hlt : i < an ∧ (i : Int) < most
  ·have hlt1 := hlt.1
   have him := hlt.2
   have hii : (i : Int) < (an : Int) := by omega
   have hi0 : (0 : Int) ≤ (i : Int) := by omega
   clear hlt
   have hai : ∃ a, acts[i]? = some a := ⟨_, List.getElem?_eq_getElem (by rw [HAN.out]; exact hlt1)⟩
   obtain ⟨a, hai⟩ := hai
   obtain ⟨ba, oa, rfl, hcl⟩ := HAR.out i a hai
   have HAI := Lib.hid hai
   have HAC : Hid (∀ W, Gr w W → W.cell? ⟨ba, oa + i * 4, none⟩ = some (.int .i64 a.kd) ∧ W.cell? ⟨ba, oa + i * 4 + 1, none⟩ = some (.int .i64 a.st) ∧ W.cell? ⟨ba, oa + i * 4 + 2, none⟩ = some (.int .i64 a.nn) ∧ W.cell? ⟨ba, oa + i * 4 + 3, none⟩ = some (.slice a.A a.n a.c)) := Lib.hid (fun W hW => ⟨hW.keep (hcl 0 _ rfl), hW.keep (hcl 1 _ rfl), hW.keep (hcl 2 _ rfl), hW.keep (hcl 3 _ rfl)⟩)
   have hbl : ba ∉ [gx] := fun hm => by
    have h9 := cell_lt5 (hcl 0 _ rfl)
    have h8 := HR.out.new.1
    have h7 := List.mem_singleton.1 hm
    dsimp only at h9
    omega
   have HBL := Lib.hid hbl
   have HDO : Hid (∀ W, Gr wr W → Calls Tryz.prog 11 #[.pointer (some ⟨p, 0, none⟩), .agg #[.slice As n5 cs, .slice At m5 ct, .slice Al l5 cl], .agg #[.int .i64 a.kd, .int .i64 a.st, .int .i64 a.nn, .slice a.A a.n a.c]] W (DoP B [gx, gr] W N1)) := Lib.hid (fun W hg => by
    have hr := HR.out.keep hg
    have := do5_any (S0 := [gx, gr]) L a hr.net (fun t ht => by
     simp only [List.mem_cons, List.not_mem_nil, or_false] at ht
     rcases ht with rfl | rfl
     ·exact hr.box.lt
     ·exact hr.bq.lt) hr.two hr.xat ((HOK.out a (List.mem_of_getElem? HAI.out)).keep5 hr.gr)
    rw [HSH.out.v, hr.p5] at this
    exact this)
   have hgd : Gr wr wr.drew := (Gr.refl wr).drew
   have b0d := hgd.keep b0
   have b1d := hgd.keep b1
   have b2d := hgd.keep b2
   obtain ⟨a0, a1, a2, a3⟩ := HAC.out wr HR.out.gr
   clear hai hcl hbl
   go_wp2_with fail
   refine wp_region_held_drew (S := (fun W' => W'.cell? ⟨ba, oa + i * 4, none⟩ = some (.int .i64 a.kd) ∧ W'.cell? ⟨ba, oa + i * 4 + 1, none⟩ = some (.int .i64 a.st) ∧ W'.cell? ⟨ba, oa + i * 4 + 2, none⟩ = some (.int .i64 a.nn) ∧ W'.cell? ⟨ba, oa + i * 4 + 3, none⟩ = some (.slice a.A a.n a.c))) ?_ ?_ (fun hHeld => ?_)
   ·kernel_rfl
   ·((try dsimp only); (first | exact hHeld | exact HS5.out | exact HAC.out _ (HR.out.gr.trans hgd) | exact HS3.out _ _ _))
   refine ti 0 (some 48) rfl rfl ?_; try simp only [Act.put, lA, lB, lC]
   refine ti 2 (some 50) rfl rfl ?_; try simp only [Act.put, lA, lB, lC]
   refine ti 3 (some 51) rfl rfl ?_; try simp only [Act.put, lA, lB, lC]
   refine ti 4 (some 52) rfl rfl ?_; try simp only [Act.put, lA, lB, lC]
   refine ti 5 (some 53) rfl rfl ?_; try simp only [Act.put, lA, lB, lC]
   refine tr [1] (.cons rfl (fun K hK => ?_) .nil)
   go_simp
   refine hK.out _ _ ?_ (fun hHeld => ?_)
   ·((try dsimp only); (first | exact hHeld | exact HS5.out | exact HAC.out _ (HR.out.gr.trans hgd) | exact HS3.out _ _ _))
   clear hK K; try simp only [Act.put, lA, lB, lC]
   refine tr [6] (.cons rfl (fun K hK => ?_) .nil)
   go_simp
   first | (go_at_call 11; (with_reducible refine (HDO.out _ hgd).mono ?_); rintro e w5 ⟨N', L', rfl, hto, htw, hx5⟩; have hac := RunSt.act (HR.out.keep hgd) HBB.out.1 hto htw hx5; obtain ⟨As', At', Al', n', m', l', cs', ct', cl', hsh'⟩ := hx5.rd.shp; rw [hsh'.v]; have HSH' := Lib.hid hsh'; have HACT := Lib.hid hac; have hk5 := hac.2.1; rw [HSH.out.sv, HSH.out.tv, HSH.out.lv] at hk5; have y0 := hk5.cell 0; have y1 := hk5.cell 1; have y2 := hk5.cell 2; have z0 := hk5.free 0; have z1 := hk5.free 1; have z2 := hk5.free 2; simp only [List.getElem?_toArray, List.getElem?_cons_succ, List.getElem?_cons_zero] at y0 y1 y2; have HS5 := Lib.hid (HAC.out w5 hac.1); have HS3 := Lib.hid (fun a b c => (And.intro (cell_ch5 (ch3 w5 gx a b c) HS5.out.1 HBL.out) (And.intro (cell_ch5 (ch3 w5 gx a b c) HS5.out.2.1 HBL.out) (And.intro (cell_ch5 (ch3 w5 gx a b c) HS5.out.2.2.1 HBL.out) (cell_ch5 (ch3 w5 gx a b c) HS5.out.2.2.2 HBL.out))))); clear hto htw hx5 hsh' hac hk5)
   refine hK.out _ _ ?_ (fun hHeld => ?_)
   ·((try dsimp only); (first | exact hHeld | exact HS5.out | exact HAC.out _ (HR.out.gr.trans hgd) | exact HS3.out _ _ _))
   clear hK K; try simp only [Act.put, lA, lB, lC]
   refine ti 7 (some 47) rfl rfl ?_; try simp only [Act.put, lA, lB, lC]
   refine ti 8 (some 55) rfl rfl ?_; try simp only [Act.put, lA, lB, lC]
   refine ti 9 (some 56) rfl rfl ?_; try simp only [Act.put, lA, lB, lC]
   refine tr [10] (.cons rfl (fun K hK => ?_) .nil)
   go_simp
   refine hK.out _ _ ?_ (fun hHeld => ?_)
   ·((try dsimp only); (first | exact hHeld | exact HS5.out | exact HAC.out _ (HR.out.gr.trans hgd) | exact HS3.out _ _ _))
   clear hK K; try simp only [Act.put, lA, lB, lC]
   refine ti 11 (some 13) rfl rfl ?_; try simp only [Act.put, lA, lB, lC]
   refine wpAnyH_done ?_ ?_ _
   ·kernel_rfl
   rotate_left
   generalize hW6 : World.setCell (World.setCell (World.setCell w5 _ _) _ _) _ _ = w6
   clear hHeld b0 b1 b2 b0d b1d b2d a0 a1 a2 a3 y0 y1 y2 z0 z1 z2
   go_wp2_with fail
   go_roundw
   case rel => exact ⟨i + 1, N', L', by omega, rfl, by go_num, Lib.hid (HACT.out.2.2 w6 (by rw [HSH'.out.sv, HSH'.out.tv, HSH'.out.lv]; exact hW6))⟩
   case measure => simp [intOf]; omega
  ·have hq0 := HR.out.bq.cell 0
   have hq1 := HR.out.bq.cell 1
   have hq2 := HR.out.bq.cell 2
   simp only [List.getElem?_toArray, List.getElem?_cons_succ, List.getElem?_cons_zero] at hq0 hq1 hq2
   have hgd : Gr wr wr.drew := (Gr.refl wr).drew
   have b0d := hgd.keep b0
   have b1d := hgd.keep b1
   have b2d := hgd.keep b2
   have kd := HR.out.bq.keep hgd
   have HKD := Lib.hid kd
   have f0 := kd.free 0
   have f1 := kd.free 1
   have f2 := kd.free 2
   have d0 := kd.cell 0
   have d1 := kd.cell 1
   have d2 := kd.cell 2
   simp only [List.getElem?_toArray, List.getElem?_cons_succ, List.getElem?_cons_zero] at d0 d1 d2
   have HEND : Hid (∀ W, World.drew (((wr.setCell ⟨gr, 0, none⟩ (.slice As n5 cs)).setCell ⟨gr, 1, none⟩ (.slice At m5 ct)).setCell ⟨gr, 2, none⟩ (.slice Al l5 cl)) = W → RunP w (.returned (.tuple #[.pointer (some ⟨p, 0, none⟩), .agg #[.slice As n5 cs, .slice At m5 ct, .slice Al l5 cl]])) W ∧ Blk W gr 33 #[.slice As n5 cs, .slice At m5 ct, .slice Al l5 cl]) := Lib.hid (fun W hW => by
    obtain ⟨w3, hw3⟩ : ∃ w3, ((wr.setCell ⟨gr, 0, none⟩ (.slice As n5 cs)).setCell ⟨gr, 1, none⟩ (.slice At m5 ct)).setCell ⟨gr, 2, none⟩ (.slice Al l5 cl) = w3 := ⟨_, rfl⟩
    obtain ⟨k3, c3⟩ := put33 HR.out.bq hw3
    rw [hw3] at hW
    have hg : Gr w3 W := by rw [← hW]; exact (Gr.refl w3).drew
    have hr := HR.out
    refine ⟨⟨B, N1, L, by rw [HSH.out.v, hr.p5], (hr.net.turn2 c3 (fun t ht hm => hr.far.2.1 (by rw [List.mem_singleton.1 hm] at ht; exact ht))).keep hg, hr.two, (hr.xat.ch (c3.mono (fun t ht => by rw [List.mem_singleton.1 ht]; simp)) (fun t ht => Or.inl (List.mem_append_right _ ht))).gr hg, (c3.up hr.gr (fun t ht => by rw [List.mem_singleton.1 ht]; exact hr.new.2)).trans hg, HBB.out.1⟩, k3.keep hg⟩)
   have hz0 := HR.out.bq.free 0
   have hz1 := HR.out.bq.free 1
   have hz2 := HR.out.bq.free 2
   clear kd
   by_cases hla : i < an
   ·have hii : (i : Int) < (an : Int) := by omega
    have him : ¬ (i : Int) < most := fun h => hlt ⟨hla, h⟩
    clear hlt
    go_wp2_with fail
    refine wp_region_held_drew (S := (fun _ => True)) ?_ ?_ (fun hHeld => ?_)
    ·kernel_rfl
    ·((try dsimp only); all_goals trivial)
    refine ti 0 (some 60) rfl rfl ?_; try simp only [Act.put, lA, lB, lC]
    refine ti 2 (some 6) rfl rfl ?_; try simp only [Act.put, lA, lB, lC]
    refine tr [1] (.cons rfl (fun K hK => ?_) .nil)
    go_simp
    refine hK.out _ _ ?_ (fun hHeld => ?_)
    ·((try dsimp only); all_goals trivial)
    clear hK K; try simp only [Act.put, lA, lB, lC]
    refine tr [3] (.cons rfl (fun K hK => ?_) .nil)
    go_simp
    refine hK.out _ _ ?_ (fun hHeld => ?_)
    ·((try dsimp only); all_goals trivial)
    clear hK K; try simp only [Act.put, lA, lB, lC]
    refine wpAnyH_done ?_ ?_ _
    ·kernel_rfl
    rotate_left
    all_goals
     generalize hW : World.drew (World.setCell (World.setCell (World.setCell wr _ _) _ _) _ _) = W
     obtain ⟨r1, k5⟩ := HEND.out W hW
     have HR1 := Lib.hid r1
     have u0 := k5.cell 0
     have u1 := k5.cell 1
     have u2 := k5.cell 2
     clear hHeld b0 b1 b2 b0d b1d b2d f0 f1 f2 d0 d1 d2 hz0 hz1 hz2 hq0 hq1 hq2 hW k5 r1
     go_wp2_with fail
     refine bodyPost_ret (v := .tuple #[.pointer (some ⟨p, 0, none⟩), .agg #[.slice As n5 cs, .slice At m5 ct, .slice Al l5 cl]]) ?_ ?_ ?_
     ·simp [results, Tryz.results14, go_sem, u0, u1, u2]
     ·rfl
     ·exact HR1.out
   ·have hii : ¬ (i : Int) < (an : Int) := by omega
    clear hlt
    go_wp2_with fail
    refine wp_region_held_drew (S := (fun _ => True)) ?_ ?_ (fun hHeld => ?_)
    ·kernel_rfl
    ·((try dsimp only); all_goals trivial)
    refine ti 0 (some 60) rfl rfl ?_; try simp only [Act.put, lA, lB, lC]
    refine ti 2 (some 6) rfl rfl ?_; try simp only [Act.put, lA, lB, lC]
    refine tr [1] (.cons rfl (fun K hK => ?_) .nil)
    go_simp
    refine hK.out _ _ ?_ (fun hHeld => ?_)
    ·((try dsimp only); all_goals trivial)
    clear hK K; try simp only [Act.put, lA, lB, lC]
    refine tr [3] (.cons rfl (fun K hK => ?_) .nil)
    go_simp
    refine hK.out _ _ ?_ (fun hHeld => ?_)
    ·((try dsimp only); all_goals trivial)
    clear hK K; try simp only [Act.put, lA, lB, lC]
    refine wpAnyH_done ?_ ?_ _
    ·kernel_rfl
    rotate_left
    all_goals
     generalize hW : World.drew (World.setCell (World.setCell (World.setCell wr _ _) _ _) _ _) = W
     obtain ⟨r1, k5⟩ := HEND.out W hW
     have HR1 := Lib.hid r1
     have u0 := k5.cell 0
     have u1 := k5.cell 1
     have u2 := k5.cell 2
     clear hHeld b0 b1 b2 b0d b1d b2d f0 f1 f2 d0 d1 d2 hz0 hz1 hz2 hq0 hq1 hq2 hW k5 r1
     go_wp2_with fail
     refine bodyPost_ret (v := .tuple #[.pointer (some ⟨p, 0, none⟩), .agg #[.slice As n5 cs, .slice At m5 ct, .slice Al l5 cl]]) ?_ ?_ ?_
     ·simp [results, Tryz.results14, go_sem, u0, u1, u2]
     ·rfl
     ·exact HR1.out

set_option maxRecDepth 100000
set_option maxHeartbeats 80000000

theorem lawLong_any (A : Option Addr) (n c : Nat) (l : List Int) (AA : Option Addr) (an ac : Nat) (acts : List Ac) (w : World) (hn : l.length = n) (hl : n ≤ 9223372036854775807) (hp : Ints w A l) (han : acts.length = an) (_hac : an ≤ ac) (_ham : ac ≤ 9223372036854775807) (har : Rd 4 encA w AA acts) (hok : ∀ a ∈ acts, AcOk w a) :
 Calls Tryz.prog 4 #[.slice A n c, .slice AA an ac] w fun e w' => e = .returned (.bool true) ∧ Gr w w' := by
 have HRU := Lib.hid (run5_any A n c l AA an ac acts 400 w hn hl hp han (by omega) har hok)
 have HAW := Lib.hid (fun W => awake5_any W)
 clear hn hl hp han har hok
 go_enter Tryz.func4, Tryz.ntmps4
 go_wp2_with fail
 refine HRU.out.mono ?_
 rintro e w1 ⟨B, N, L, rfl, hnet, htw, hxa, hg1, -⟩
 obtain ⟨As, At, Al, n5, m5, l5, cs, ct, cl, hsh⟩ := hxa.rd.shp
 have HNET := Lib.hid hnet
 have HTW := Lib.hid htw
 have HXA := Lib.hid hxa
 have HG1 := Lib.hid hg1
 have HSH := Lib.hid hsh
 rw [hsh.v]
 have hal := (Gr.refl w1).alloc (.cells #[.slice none 0 0, .slice none 0 0, .slice none 0 0] 33)
 clear hnet htw hxa hg1 hsh
 go_upto_region 2 with fail
 generalize hW2 : World.alloc w1 _ = w2
 obtain ⟨gx, hgx⟩ : ∃ gx, w1.heap.size = gx := ⟨_, rfl⟩
 have kx : Blk w2 gx 33 #[.slice As n5 cs, .slice At m5 ct, .slice Al l5 cl] := by rw [← hW2]; exact Blk.new _ _ _ hgx
 have hg2 : Gr w1 w2 := by rw [← hW2]; exact (Gr.refl w1).alloc _
 rw [hgx]
 have b0 := kx.cell 0
 have b1 := kx.cell 1
 have b2 := kx.cell 2
 simp only [List.getElem?_toArray, List.getElem?_cons_succ, List.getElem?_cons_zero] at b0 b1 b2
 have HSW : Hid (Calls Tryz.prog 12 #[.pointer (some ⟨N.p, 0, none⟩), .agg #[.slice As n5 cs, .slice At m5 ct, .slice Al l5 cl]] w2 fun e w' => e = .returned (.bool true) ∧ Gr w2 w') := Lib.hid (by
  have := shows5_any L (HNET.out.keep hg2) HTW.out (HXA.out.gr hg2).rd
  rw [HSH.out.v] at this
  exact this)
 have HG2 := Lib.hid (HG1.out.trans hg2)
 clear hal hW2 hgx kx hg2
 go_wp2_with fail
 refine HSW.out.mono ?_
 rintro e w3 ⟨rfl, hg3⟩
 have HG3 := Lib.hid (HG2.out.trans hg3)
 clear hg3 b0 b1 b2
 go_wp2_with fail
 refine (HAW.out _).mono ?_
 rintro e w4 ⟨rfl, hg4⟩
 go_wp2_with fail
 go_ret
 exact ⟨rfl, HG3.out.trans hg4⟩

end Go.Proofs.YtnoeiocbmhkmeaaGreat
