/- Layer 5: the reference's New. -/
import Derived.Test.YtnoeiocbmhkmeaaPtAO
namespace Go.Proofs.Ytnoeiocbmhkmeaa
open Go.RowKit
set_option linter.unusedSimpArgs false

/-- A new site of the reference. -/
def encR0 (x : Int) : List Value := [.int .i64 x, .bool false, .slice none 0 0]
theorem encR0_len (x : Int) : (encR0 x).length = 3 := rfl
theorem encR0_one (x : Int) : ∀ u ∈ encR0 x, u.oneCell' = true := by intro u hu; simp [encR0] at hu; rcases hu with rfl | rfl | rfl <;> rfl
theorem Try.infoPtQ : (Try.prog.info? 73).map (fun i => (i.zero, i.size, i.bytes)) = some (some (.agg #[.int .i64 0, .bool false, .slice none 0 0]), 3, 40) := by kernel_rfl
def nil3 : Value := .agg #[.slice none 0 0, .slice none 0 0, .slice none 0 0]
theorem put3 {w w0 : World} {T : Nat} {t : TypeId} {a b c x y z : Value} (h : Blk w T t #[a, b, c]) (hT : w0.heap.size ≤ T) (hg : Gr w0 w) :
    Blk (((w.setCell ⟨T, 0, none⟩ x).setCell ⟨T, 1, none⟩ y).setCell ⟨T, 2, none⟩ z) T t #[x, y, z] ∧ Gr w0 (((w.setCell ⟨T, 0, none⟩ x).setCell ⟨T, 1, none⟩ y).setCell ⟨T, 2, none⟩ z) := by
  refine ⟨?_, ((hg.setCell (p := ⟨T, 0, none⟩) hT x).setCell (p := ⟨T, 1, none⟩) hT y).setCell (p := ⟨T, 2, none⟩) hT z⟩
  have h1 := ((h.put 0 x).put 1 y).put 2 z
  simpa using h1
/-- What the reference's New answers. -/
def RNewP (l : List Int) (w : World) (e : Ending) (w' : World) : Prop :=
  (okStocks l = false ∧ e = .returned (.tuple #[nil3, .int .i64 2]) ∧ Gr w w') ∨
  (okStocks l = true ∧ ∃ A c, e = .returned (.tuple #[.agg #[.slice A l.length c, .slice none 0 0, .slice none 0 0], .int .i64 0]) ∧ Rd 3 encR0 w' A l ∧ (∀ a, A = some a → w.heap.size ≤ a.block) ∧ Gr w w')
set_option maxRecDepth 100000 in
set_option maxHeartbeats 8000000 in
theorem rNew_any (A : Option Addr) (n c : Nat) (l : List Int) (w : World) (hn : l.length = n) (hl : n ≤ 9223372036854775807) (hp : Ints w A l) : Calls Try.prog 11 #[.slice A n c] w (RNewP l w) := by
  have HN := Lib.hid hn
  have HP := Lib.hid hp
  by_cases hb : n < 1 ∨ 8 < n
  · have HR := Lib.hid (okStocks_no (l := l) (fun h => by have := h.1; have := h.2.1; omega))
    clear hn hp
    rcases hb with hb | hb
    all_goals
      go_enter Try.func11, Try.ntmps11
      go_upto_region 1 with fail
      generalize hW1 : World.alloc w _ = w1
      have hg1 : Gr w w1 := by rw [← hW1]; exact (Gr.refl w).alloc _
      have hB1 : Blk w1 w.heap.size 32 #[.slice none 0 0, .slice none 0 0, .slice none 0 0] := by rw [← hW1]; exact Blk.new w _ _ rfl
      obtain ⟨T, hT⟩ : ∃ T, w.heap.size = T := ⟨_, rfl⟩
      rw [hT] at hB1 ⊢
      have f0 := hB1.free 0
      have f1 := hB1.free 1
      have f2 := hB1.free 2
      have c0 : w1.cell? ⟨T, 0, none⟩ = some (.slice none 0 0) := hB1.cell 0
      have c1 : w1.cell? ⟨T, 1, none⟩ = some (.slice none 0 0) := hB1.cell 1
      have c2 : w1.cell? ⟨T, 2, none⟩ = some (.slice none 0 0) := hB1.cell 2
      have HB1 := Lib.hid hB1
      have HT := Lib.hid hT
      clear hW1 hB1 hT
      go_wp2_with fail
      obtain ⟨hB2, hg2⟩ := put3 (x := .slice none 0 0) (y := .slice none 0 0) (z := .slice none 0 0) HB1.out (by rw [HT.out]; exact Nat.le_refl _) hg1
      generalize World.setCell _ _ _ = w2 at hB2 hg2 ⊢
      have u0 : w2.cell? ⟨T, 0, none⟩ = some (.slice none 0 0) := hB2.cell 0
      have u1 : w2.cell? ⟨T, 1, none⟩ = some (.slice none 0 0) := hB2.cell 1
      have u2 : w2.cell? ⟨T, 2, none⟩ = some (.slice none 0 0) := hB2.cell 2
      refine bodyPost_ret (v := .tuple #[nil3, .int .i64 2]) ?_ rfl (Or.inl ⟨HR.out, rfl, hg2⟩)
      simp [results, Try.results11, go_sem, u0, u1, u2, nil3]
  · have hn1 : 1 ≤ n := by omega
    have hn8 : n ≤ 8 := by omega
    obtain ⟨i0, hi, hz0, hz1, hz2⟩ := info_parts Try.infoPtQ
    have HI := Lib.hid (And.intro hi (And.intro hz0 (And.intro hz1 hz2)))
    clear hn hp hb hi hz0 hz1 hz2
    go_enter Try.func11, Try.ntmps11
    go_upto_region 1 with fail
    generalize hW1 : World.alloc w _ = w1
    have hg1 : Gr w w1 := by rw [← hW1]; exact (Gr.refl w).alloc _
    have hB1 : Blk w1 w.heap.size 32 #[.slice none 0 0, .slice none 0 0, .slice none 0 0] := by rw [← hW1]; exact Blk.new w _ _ rfl
    obtain ⟨T, hT⟩ : ∃ T, w.heap.size = T := ⟨_, rfl⟩
    rw [hT] at hB1 ⊢
    have HB1 := Lib.hid hB1
    have HT := Lib.hid hT
    clear hW1 hB1 hT
    go_upto_region 4 with fail
    generalize hW2 : World.alloc w1 _ = w2
    have hg2 : Gr w1 w2 := by rw [← hW2]; exact (Gr.refl w1).alloc _
    have hB2 : Blk w2 w1.heap.size 32 #[.slice none 0 0, .slice none 0 0, .slice none 0 0] := by rw [← hW2]; exact Blk.new w1 _ _ rfl
    have hTS := HB1.out.lt
    obtain ⟨S, hS⟩ : ∃ S, w1.heap.size = S := ⟨_, rfl⟩
    rw [hS] at hB2 hTS ⊢
    have HS : Hid (T < S ∧ S < w2.heap.size ∧ w.heap.size ≤ T) := Lib.hid ⟨hTS, hB2.lt, by rw [HT.out]; exact Nat.le_refl _⟩
    have HB2 : Hid (Blk w2 S 32 #[.slice none 0 0, .slice none 0 0, .slice none 0 0]) := Lib.hid hB2
    have HB12 := Lib.hid (HB1.out.keep hg2)
    have hgr2 := hg1.trans hg2
    clear hW2 hB2 hTS hS hg1 hg2
    go_wp2_with fail
    go_loopw [5] (fun z wr => ∃ (k : Nat) (B0 : Option Addr) (c0 : Nat), k ≤ n ∧ z = .int .i64 (k : Int) ∧ Hid (Blk wr T 32 #[.slice none 0 0, .slice none 0 0, .slice none 0 0]) ∧ Hid (Blk wr S 32 #[.slice B0 k c0, .slice none 0 0, .slice none 0 0]) ∧ Hid (wr.ownsRow (S + 1) 73 3 (.slice B0 k c0) k (flatE encR0 (l.take k))) ∧ Hid (∀ x ∈ l.take k, 0 ≤ x ∧ x ≤ 1099511627776) ∧ Gr w wr) (fun z _ => n - (intOf z).toNat)
    case atStart => exact ⟨0, none, 0, Nat.zero_le _, rfl, HB12, HB2, Lib.hid (World.ownsRow_nil _ _ _ _), Lib.hid (fun x h => by simp at h), hgr2⟩
    case round =>
      obtain ⟨k, B0, c0, hk, rfl, hbT, hbS, hown, hval, hgr⟩ := hrel
      clear HB12 HB2 HB1
      by_cases hlt : k < n
      · obtain ⟨b, off, rfl, hc0⟩ := Ints_at (HP.out.keep hgr) (i := k) (by rw [HN.out]; exact hlt)
        have hxk : l[k]? = some (l.getD k 0) := getD_of 0 (by rw [HN.out]; exact hlt)
        generalize l.getD k 0 = x at hc0 hxk
        have hki : (k : Int) < (n : Int) := by omega
        by_cases hx : x < 0 ∨ 1099511627776 < x
        · have HR := Lib.hid (okStocks_no (l := l) (fun h => by have := h.2.2 x (List.mem_of_getElem? hxk); omega))
          have f0 := hbT.out.free 0
          have f1 := hbT.out.free 1
          have f2 := hbT.out.free 2
          have c0 : wr.cell? ⟨T, 0, none⟩ = some (.slice none 0 0) := hbT.out.cell 0
          have c1 : wr.cell? ⟨T, 1, none⟩ = some (.slice none 0 0) := hbT.out.cell 1
          have c2 : wr.cell? ⟨T, 2, none⟩ = some (.slice none 0 0) := hbT.out.cell 2
          clear hxk
          rcases hx with hx | hx
          all_goals
            go_wp2_with fail
            obtain ⟨hB2, hg2⟩ := put3 (x := .slice none 0 0) (y := .slice none 0 0) (z := .slice none 0 0) hbT.out HS.out.2.2 hgr
            generalize World.setCell _ _ _ = w2 at hB2 hg2 ⊢
            have u0 : w2.cell? ⟨T, 0, none⟩ = some (.slice none 0 0) := hB2.cell 0
            have u1 : w2.cell? ⟨T, 1, none⟩ = some (.slice none 0 0) := hB2.cell 1
            have u2 : w2.cell? ⟨T, 2, none⟩ = some (.slice none 0 0) := hB2.cell 2
            refine bodyPost_ret (v := .tuple #[nil3, .int .i64 2]) ?_ rfl (Or.inl ⟨HR.out, rfl, hg2⟩)
            simp [results, Try.results11, go_sem, u0, u1, u2, nil3]
        · have hx1 : ¬ x < 0 := by omega
          have hx2 : ¬ 1099511627776 < x := by omega
          have HXK := Lib.hid hxk
          have HVX : Hid (∀ y ∈ l.take (k + 1), 0 ≤ y ∧ y ≤ 1099511627776) := Lib.hid (fun y hy => by
            rw [List.take_add_one, HXK.out, Option.toList_some, List.mem_append, List.mem_singleton] at hy
            rcases hy with hy | rfl
            · exact hval.out y hy
            · omega)
          have s0 : wr.cell? ⟨S, 0, none⟩ = some (.slice B0 k c0) := hbS.out.cell 0
          have fS : wr.frozen? ⟨S, 0, none⟩ = false := hbS.out.free 0
          obtain ⟨hi, hz0, hz1, hz2⟩ := HI.out
          clear hx hxk
          go_wp2_with (at_builtin; refine wpList_append_own _ rfl _ _ 28 rfl (S + 1) 73 i0 _ 3 40 Try.underlying28 hi hz0 hz1 hz2 rfl (by decide) _ _ _ rfl (hown.out.alloc _) ⟨wr.heap.size, 0, none⟩ 1 1 (encR0 x) rfl rfl ?a1 ?a2 ?a3 ?a4 ?a5 ?_)
          case a1 =>
            intro t u ht
            first
            | (rw [Addr.add_lit]; exact alloc_new rfl (by rw [Nat.zero_add]; simpa [encR0] using ht))
            | simpa [encR0] using ht
          case a2 => exact fun u hu => encR0_one _ u hu
          case a3 => unfold maxLen; omega
          case a4 => omega
          case a5 => have := hbS.out.lt; omega
          intro v' w10 hown' hgrow _
          have hal := hgr.alloc (.cells #[.int .i64 x, .bool false, .slice none 0 0] 73)
          have ho3 := hown.out.alloc (.cells #[.int .i64 x, .bool false, .slice none 0 0] 73)
          have hgf : Gr w w10 := Below.grown hal hgrow hal.size (fun t ht => by have := (ho3.lt t ht).1; have := HS.out; omega)
          have hal2 := (Gr.refl wr).alloc (.cells #[.int .i64 x, .bool false, .slice none 0 0] 73)
          have hb10 := (hbS.out.keep hal2).grown hgrow (fun e => by have := (ho3.lt S e.symm).1; omega)
          have hbT10 := (hbT.out.keep hal2).grown hgrow (fun e => by have := (ho3.lt T e.symm).1; have := HS.out; omega)
          have hlen : (l.take (k + 1)).length = k + 1 := by rw [List.length_take, HN.out]; omega
          have hown5 : w10.ownsRow (S + 1) 73 3 v' (k + 1) (flatE encR0 (l.take (k + 1))) := by
            rw [List.take_add_one, HXK.out, Option.toList_some, flatE_app]; simpa [flatE] using hown'
          obtain ⟨A8, c8, rfl, -, -, -⟩ := own_row encR0_len hlen hown5
          have fS10 : w10.frozen? ⟨S, 0, none⟩ = false := hb10.free 0
          have s10 : w10.cell? ⟨S, 0, none⟩ = some (.slice B0 k c0) := hb10.cell 0
          have hne : ∀ g, (Value.slice A8 (k + 1) c8).ownBlock = some g → S < g := fun g hg => (hown5.lt g hg).1
          have HF : Hid (Blk (w10.setCell ⟨S, 0, none⟩ (.slice A8 (k + 1) c8)) S 32 #[.slice A8 (k + 1) c8, .slice none 0 0, .slice none 0 0] ∧ Blk (w10.setCell ⟨S, 0, none⟩ (.slice A8 (k + 1) c8)) T 32 #[.slice none 0 0, .slice none 0 0, .slice none 0 0] ∧ (w10.setCell ⟨S, 0, none⟩ (.slice A8 (k + 1) c8)).ownsRow (S + 1) 73 3 (.slice A8 (k + 1) c8) (k + 1) (flatE encR0 (l.take (k + 1))) ∧ Gr w (w10.setCell ⟨S, 0, none⟩ (.slice A8 (k + 1) c8))) := Lib.hid
            ⟨by simpa using hb10.put 0 (.slice A8 (k + 1) c8), hbT10.grown ((Gb.refl S w10).put 0 _) (fun e => by injection e with e; have := HS.out; omega), ownsRow_setCell_other (a := ⟨S, 0, none⟩) hown5 (fun e => by have := hne S e; omega) _, hgf.setCell (p := ⟨S, 0, none⟩) (by have := HS.out; show w.heap.size ≤ S; omega) _⟩
          clear hi hz0 hz1 hz2 hown' hgrow hal ho3 hown5 hlen hgf hal2 hb10 hbT10 s0 fS hne
          go_wp2_with fail
          go_roundw
          case rel => exact ⟨k + 1, A8, c8, by omega, by go_num, Lib.hid HF.out.2.1, Lib.hid HF.out.1, Lib.hid HF.out.2.2.1, HVX, HF.out.2.2.2⟩
          case measure => simp [intOf]; omega
      · obtain rfl : k = n := by omega
        have htk : l.take k = l := List.take_of_length_le (by rw [HN.out]; exact Nat.le_refl _)
        rw [htk] at hown hval
        have HR : Hid (okStocks l = true) := Lib.hid ((okStocks_iff l).2 ⟨by rw [HN.out]; exact hn1, by rw [HN.out]; exact hn8, hval.out⟩)
        have s0 : wr.cell? ⟨S, 0, none⟩ = some (.slice B0 k c0) := hbS.out.cell 0
        have s1 : wr.cell? ⟨S, 1, none⟩ = some (.slice none 0 0) := hbS.out.cell 1
        have s2 : wr.cell? ⟨S, 2, none⟩ = some (.slice none 0 0) := hbS.out.cell 2
        have f0 := hbT.out.free 0
        have f1 := hbT.out.free 1
        have f2 := hbT.out.free 2
        have c0' : wr.cell? ⟨T, 0, none⟩ = some (.slice none 0 0) := hbT.out.cell 0
        have c1' : wr.cell? ⟨T, 1, none⟩ = some (.slice none 0 0) := hbT.out.cell 1
        have c2' : wr.cell? ⟨T, 2, none⟩ = some (.slice none 0 0) := hbT.out.cell 2
        clear htk hval
        go_wp2_with fail
        obtain ⟨hB2, hg2⟩ := put3 (x := .slice B0 k c0) (y := .slice none 0 0) (z := .slice none 0 0) hbT.out HS.out.2.2 hgr
        have hrd : Rd 3 encR0 (((wr.setCell ⟨T, 0, none⟩ (.slice B0 k c0)).setCell ⟨T, 1, none⟩ (.slice none 0 0)).setCell ⟨T, 2, none⟩ (.slice none 0 0)) B0 l := by
          have hne : ∀ g, (Value.slice B0 k c0).ownBlock = some g → S < g := fun g hg => (hown.out.lt g hg).1
          have h3 := ownsRow_setCell_other (a := ⟨T, 0, none⟩) hown.out (fun e => by have := hne T e; have := HS.out; omega) (.slice B0 k c0)
          have h4 := ownsRow_setCell_other (a := ⟨T, 1, none⟩) h3 (fun e => by have := hne T e; have := HS.out; omega) (.slice none 0 0)
          have h5 := ownsRow_setCell_other (a := ⟨T, 2, none⟩) h4 (fun e => by have := hne T e; have := HS.out; omega) (.slice none 0 0)
          obtain ⟨A6, c6, e', -, h6, -⟩ := own_row encR0_len HN.out h5
          injection e' with e3 _ _
          rw [← e3] at h6
          exact h6
        have hnew : ∀ a, B0 = some a → w.heap.size ≤ a.block := fun a ha => by
          rcases hown.out.2 with ⟨h1, -⟩ | ⟨g, cap, cur, h1, h2, -⟩
          · rw [ha] at h1; cases h1
          · rw [ha] at h1
            injection h1 with h1
            injection h1 with h1
            rw [h1]
            have := HS.out
            dsimp only
            omega
        generalize World.setCell _ _ _ = w2 at hB2 hg2 hrd ⊢
        have u0 : w2.cell? ⟨T, 0, none⟩ = some (.slice B0 k c0) := hB2.cell 0
        have u1 : w2.cell? ⟨T, 1, none⟩ = some (.slice none 0 0) := hB2.cell 1
        have u2 : w2.cell? ⟨T, 2, none⟩ = some (.slice none 0 0) := hB2.cell 2
        refine bodyPost_ret (v := .tuple #[.agg #[.slice B0 k c0, .slice none 0 0, .slice none 0 0], .int .i64 0]) ?_ rfl (Or.inr ⟨HR.out, B0, c0, by rw [HN.out], hrd, hnew, hg2⟩)
        simp [results, Try.results11, go_sem, u0, u1, u2]

end Go.Proofs.Ytnoeiocbmhkmeaa
