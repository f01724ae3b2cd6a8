/- Layer 2: the bound out of the table. -/
import Derived.Test.YtobcdkjomehdkaaGreatBu50
namespace Go.Proofs.YtobcdkjomehdkaaGreat
open Go.RowKit
set_option linter.unusedSimpArgs false
set_option maxRecDepth 100000
set_option maxHeartbeats 80000000

theorem Tryz.infoInt : (Tryz.prog.info? 3).map (fun i => (i.zero, i.size, i.bytes)) = some (some (.int .i64 0), 1, 8) := by kernel_rfl
theorem Tryz.infoInts : (Tryz.prog.info? 25).map (fun i => (i.zero, i.size, i.bytes)) = some (some (.slice none 0 0), 1, 24) := by kernel_rfl

def CloneIPost (ns : List Int) (w : World) (e : Ending) (w' : World) : Prop :=
 ∃ g c, e = .returned (.slice (some ⟨g, 0, none⟩) ns.length c) ∧ ns.length ≤ c ∧ w.heap.size ≤ g ∧ w'.ownsRow w.heap.size 3 1 (.slice (some ⟨g, 0, none⟩) ns.length c) ns.length (flatE enc1 ns) ∧ Gr w w'

theorem cloneI_any (b off n c : Nat) (ns : List Int) (w : World) (hn : ns.length = n) (hl : n ≤ 512) (h0 : 1 ≤ n) (hp : Ints w (some ⟨b, off, none⟩) ns) :
 Calls Tryz.prog 65 #[.slice (some ⟨b, off, none⟩) n c] w (CloneIPost ns w) := by
 obtain ⟨i0, hi, hz0, hz1, hz2⟩ := info_parts Tryz.infoInt
 have q : ∀ (w : World) (a : Option Addr) (n c n' c' : Nat), (binOp .eql 25 (.slice a n c) (.slice none n' c')).run Tryz.prog w = .ok (.bool a.isNone) w := fun w a n c n' c' => Lib.run_eql_slice_nil w _ _ a n c n' c' Tryz.underlying25
 have HN := Lib.hid hn
 have HP := Lib.hid hp
 clear hn hp
 go_enter Tryz.func65, Tryz.ntmps65
 go_wp2_with (at_builtin; refine wpList_append_own _ rfl _ _ 25 rfl w.heap.size 3 i0 _ 1 8 Tryz.underlying25 hi hz0 hz1 hz2 rfl (by decide) _ _ _ rfl (World.ownsRow_made w #[] 0 (Nat.le_refl _) (Nat.zero_le _) (by simp)) ⟨b, off, none⟩ n c (flatE enc1 ns) rfl ?qc1 ?qc2 ?qc3 ?qc4 ?qc5 ?qc6 ?_)
 case qc1 => rw [flatE_len enc1_len, HN.out]
 case qc2 =>
  intro j u hj
  rw [Addr.add_lit]
  exact alloc_old (flatE_cells enc1_len (by decide) HP.out j u hj)
 case qc3 => exact oneCell_flat enc1_one ns
 case qc4 => unfold maxLen; omega
 case qc5 => omega
 case qc6 => simp
 intro v' w1 hown hgrow hnil
 have hown' : w1.ownsRow w.heap.size 3 1 v' n (flatE enc1 ns) := by simpa using hown
 have HO := Lib.hid hown'
 have HG := Lib.hid hgrow
 clear hown hgrow hnil hi hz0 hz1 hz2 q hown'
 go_wp2
 go_ret
 rcases HO.out.2 with ⟨_, hz⟩ | ⟨g, cap, cur, rfl, hg, _, hnc, _⟩
 ·omega
 ·refine ⟨g, cap, by rw [HN.out]; rfl, by rw [HN.out]; exact hnc, hg, by rw [HN.out]; exact HO.out, ?_⟩
  exact ((Below.refl _ w).alloc (Nat.le_refl _) _).grown HG.out (by simp) (by intro k hk; simp [Value.ownBlock] at hk; omega)

theorem len49 : Tryz.prog.arrayLen 127 = 49 := by kernel_rfl
theorem mk_lists (n : Nat) (hl : n ≤ 1048576) (w : World) : (Instr.makeSlice 61 (.int .i64 (n : Int)) (.int .i64 (n : Int))).run Tryz.prog w =
 .ok (.slice (some ⟨w.heap.size, 0, none⟩) n n) (w.alloc (.cells (madeCells #[.slice none 0 0] (n * 1)) 25)) := by
 obtain ⟨i0, hi, hz0, hz1, hz2⟩ := info_parts Tryz.infoInts
 have h := run_make (P := Tryz.prog) w 61 25 i0 _ Tryz.underlying61 hi hz0 .i64 .i64 (n : Int) (n : Int) (by omega) (by omega) (by rw [hz2]; omega) (by omega)
 rw [hz1] at h
 simp only [Int.toNat_natCast] at h
 exact h

def mstR (bs : List Bl) (H a : Nat) : List Int := (List.range (H + 1)).map (mst bs a)
def mstTb (bs : List Bl) (W H : Nat) : List (List Int) := (List.range (W + 1)).map (mstR bs H)
theorem mstR_len (bs : List Bl) (H a : Nat) : (mstR bs H a).length = H + 1 := by simp [mstR]
theorem mstTb_len (bs : List Bl) (W H : Nat) : (mstTb bs W H).length = W + 1 := by simp [mstTb]
theorem mstTb_row (bs : List Bl) (W H : Nat) {a : Nat} (h : a ≤ W) : (mstTb bs W H).getD a [] = mstR bs H a := by
 rw [List.getD_eq_getElem?_getD, List.getElem?_eq_getElem (by rw [mstTb_len]; omega)]
 simp [mstTb]
theorem TFull.ints {bs : List Bl} {W H g : Nat} {w : World} (h : TFull bs W H g w) {a : Nat} (ha : a ≤ W) (hW : W ≤ 48) (hH : H ≤ 48) : Ints w (some ⟨g, a * 49, none⟩) (mstR bs H a) := by
 obtain ⟨wt, ft, h1, h2⟩ := h
 refine Rd_of_cells enc1_len fun j u hu => ?_
 obtain ⟨x, hx, hxu⟩ := flatE_inv enc1_len (by decide) hu
 rw [Nat.div_one] at hx
 rw [Nat.mod_one] at hxu
 have hj : j ≤ H := by have := (List.getElem?_eq_some_iff.1 hx).1; rw [mstR_len] at this; omega
 have e : x = mst bs a j := by
  unfold mstR at hx
  rw [List.getElem?_map, List.getElem?_range (by omega)] at hx
  simpa using hx.symm
 have e2 : u = .int .i64 x := by simpa [enc1] using hxu.symm
 rw [e2, e, ← (h2 a j ha hj).1]
 exact h1.worth (by omega) (by omega)

def RowsOwn (w : World) (base g : Nat) (tb : List (List Int)) : Prop :=
 ∃ cs : Array Value, Blk w g 25 cs ∧ ∀ (i : Nat) (row : List Int), tb[i]? = some row → ∃ b c : Nat, cs[i]? = some (Value.slice (some ⟨b, 0, none⟩) row.length c) ∧ w.ownsRow base 3 1 (.slice (some ⟨b, 0, none⟩) row.length c) row.length (flatE enc1 row)
theorem owns_base {w : World} {base base' : Nat} {e : TypeId} {size n : Nat} {v : Value} {xs : List Value} (h : w.ownsRow base e size v n xs) (hb : base' ≤ base) : w.ownsRow base' e size v n xs :=
 ⟨h.1, h.2.imp (fun h => h) (fun ⟨g', cap, cur, e1, e2, r⟩ => ⟨g', cap, cur, e1, by omega, r⟩)⟩

def BoundPost (bs : List Bl) (W H : Nat) (w : World) (e : Ending) (w' : World) : Prop :=
 ∃ g, e = .returned (.slice (some ⟨g, 0, none⟩) (W + 1) (W + 1)) ∧ w.heap.size ≤ g ∧ RowsOwn w' w.heap.size g (mstTb bs W H) ∧ Gr w w'

theorem bound_any (bs : List Bl) (W H g : Nat) (w : World) (hW : W ≤ 48) (hH : H ≤ 48) (hT : TFull bs W H g w) :
 Calls Tryz.prog 38 #[.pointer (some ⟨g, 0, none⟩), .int .i64 (W : Int), .int .i64 (H : Int)] w (BoundPost bs W H w) := by
 have hmk := fun w => mk_lists (W + 1) (by omega) w
 push_cast at hmk
 have HT := Lib.hid hT
 clear hT
 go_enter Tryz.func38, Tryz.ntmps38
 go_wp2_with fail
 generalize hg0 : w.heap.size = gL
 have HG0 := Lib.hid hg0
 have hB0 : Blk (w.alloc (.cells (madeCells #[.slice none 0 0] (W + 1)) 25)) gL 25 (madeCells #[.slice none 0 0] (W + 1)) := by
  rw [← hg0]; exact heap_alloc_new w _
 clear hg0
 go_loopw [14] (fun i wr => ∃ (k : Nat) (cs : Array Value), k ≤ W + 1 ∧ i = .int .i64 k ∧ Hid (cs.size = W + 1) ∧ Blk wr gL 25 cs ∧ Hid (∀ a, a < k → ∃ b c, cs[a]? = some (.slice (some ⟨b, 0, none⟩) (H + 1) c) ∧ wr.ownsRow w.heap.size 3 1 (.slice (some ⟨b, 0, none⟩) (H + 1) c) (H + 1) (flatE enc1 (mstR bs H a))) ∧ Gr w wr) (fun i _ => W + 1 - (intOf i).toNat)
 case atStart => exact ⟨0, _, Nat.zero_le _, rfl, Lib.hid (by have := size_madeCells #[Value.slice none 0 0] (W + 1); simpa using this), hB0, Lib.hid (fun i h => absurd h (by omega)), (Gr.refl _).alloc _⟩
 case round =>
  clear hB0
  obtain ⟨k, cs, hk, rfl, hsz, hB, hdone, hg⟩ := hrel
  by_cases hlt : k < W + 1
  ·have hI := (HT.out.keep hg).ints (a := k) (by omega) hW hH
   have HC := Lib.hid (cloneI_any g (k * 49) (H + 1) 49 (mstR bs H k) wr (mstR_len bs H k) (by omega) (by omega) hI)
   have i1 : (0 : Int) ≤ (k : Int) := by omega
   have i2 : (k : Int) < 49 := by omega
   have hsl : ∀ w, (Instr.sliceAt 127 (.pointer (some ⟨g, k * 49, none⟩)) none (some (.int .i64 ((H : Int) + 1))) none).run Tryz.prog w = .ok (.slice (some ⟨g, k * 49, none⟩) (H + 1) 49) w := fun w => by
    have h := run_sliceAt_array_h (P := Tryz.prog) (w := w) (t := 127) (a := ⟨g, k * 49, none⟩) Tryz.underlying127 .i64 ((H : Int) + 1) (by omega) (by rw [len49]; omega)
    rw [h]; rfl
   clear hI
   have hlW : gL < wr.heap.size := hB.lt
   go_wp2_with fail
   refine HC.out.mono ?_
   rintro e w2 ⟨b, c, rfl, hc, hbs, hI2, hb⟩
   rw [mstR_len] at hc hI2 ⊢
   have hgs := hg.size
   replace hI2 := owns_base hI2 hgs
   have hB2 := hB.keep hb
   have hkc : k < cs.size := by have := hsz.out; omega
   have c0 : w2.cell? ⟨gL, k, none⟩ = some (cs[k]'hkc) := by rw [hB2.cell]; exact Array.getElem?_eq_getElem _
   have f0 := hB2.free k
   have HI2 := Lib.hid hI2
   have HB := Lib.hid hb
   generalize cs[k]'hkc = old at c0
   clear HC hI2 hb hsl
   go_wp2_with fail
   go_roundw
   case rel =>
    refine ⟨k + 1, _, by omega, by go_num, ?_, hB2.put k _, Lib.hid (fun a ha => ?_), (hg.trans HB.out).setCell (by have := HG0.out; show w.heap.size ≤ gL; omega) _⟩
    ·exact Lib.hid (by simp [hsz.out])
    ·have keepI : ∀ {ns : List Int} {b' c' : Nat}, w2.ownsRow w.heap.size 3 1 (.slice (some ⟨b', 0, none⟩) (H + 1) c') (H + 1) (flatE enc1 ns) → (w2.setCell ⟨gL, k, none⟩ (.slice (some ⟨b, 0, none⟩) (H + 1) c)).ownsRow w.heap.size 3 1 (.slice (some ⟨b', 0, none⟩) (H + 1) c') (H + 1) (flatE enc1 ns) := fun {ns b' c'} h =>
      ownsRow_setCell_other h (fun e => hB2.apart h (by decide) e.symm) _
     by_cases e : a = k
     ·subst e
      exact ⟨b, c, by rw [Array.getElem?_setIfInBounds_self_of_lt hkc], keepI HI2.out⟩
     ·obtain ⟨b', c', h1, h3⟩ := hdone.out a (by omega)
      exact ⟨b', c', by rw [Array.getElem?_setIfInBounds_ne (by omega)]; exact h1, keepI (owns_gr h3 HB.out)⟩
   case measure => simp [intOf]; omega
  ·have hkW : k = W + 1 := by omega
   have HK := Lib.hid hkW
   have HD := Lib.hid hdone.out
   clear hkW
   have hd : decide ((k : Int) < (W : Int) + 1) = false := decide_eq_false (by omega)
   go_wp2_with fail
   go_ret
   refine ⟨gL, rfl, by have := HG0.out; omega, ⟨cs, hB, fun i row hr => ?_⟩, hg⟩
   have hi : i < W + 1 := by have := (List.getElem?_eq_some_iff.1 hr).1; rwa [mstTb_len] at this
   obtain ⟨b, c, h1, h3⟩ := HD.out i (by have := HK.out; omega)
   have e : row = mstR bs H i := by
    have h4 := mstTb_row bs W H (a := i) (by omega)
    rw [List.getD_eq_getElem?_getD, hr] at h4
    exact h4
   subst e
   rw [mstR_len]
   exact ⟨b, c, h1, h3⟩

end Go.Proofs.YtobcdkjomehdkaaGreat
