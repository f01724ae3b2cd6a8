/- Layer 3: the polynomial with given roots. -/
import Derived.Test.YtobcdkjomehdkaaGreatBu43
import Derived.Laws.EntriesVeiled
import Derived.Deep.CutRange
import Derived.Test.YtobcdkjomehdkaaGreatBu28
import Derived.Test.YtobcdkjomehdkaaGreatBu42
import Derived.Test.YtobcdkjomehdkaaGreatBu19
import Derived.Test.YtobcdkjomehdkaaGreatBu20
import Derived.Test.YtobcdkjomehdkaaGreatBu23
namespace Go.Proofs.YtobcdkjomehdkaaGreat
open Go.RowKit
set_option linter.unusedSimpArgs false
set_option maxRecDepth 100000
set_option maxHeartbeats 80000000

theorem timesR_snoc (q : List G) (x r : G) : ∃ D l, D.length = q.length ∧ timesR q r = D ++ [l] ∧ timesR (q ++ [x]) r = D ++ [l + x] ++ [x * r] := by
 obtain ⟨M, l, e⟩ := snoc_of (q := g0 :: q.map (· * r)) (by simp)
 have hM : M.length = q.length := by have := congrArg List.length e; simp at this; omega
 refine ⟨List.zipWith (· + ·) q M, l, by simp [hM], ?_, ?_⟩
 ·unfold timesR
  rw [e, List.zipWith_append hM.symm]
  simp [gzero_add]
 ·unfold timesR
  rw [List.map_append, show g0 :: (q.map (· * r) ++ [x].map (· * r)) = (g0 :: q.map (· * r)) ++ [x * r] by simp, e, List.zipWith_append (by simp [hM]), List.zipWith_append hM.symm]
  simp [gzero_add, gadd_comm]
def tsL (q : List G) (r : G) (i : Nat) : List G := timesR (q.take i) r ++ List.replicate (q.length - i) g0
theorem tsL_len (q : List G) (r : G) {i : Nat} (h : i ≤ q.length) : (tsL q r i).length = q.length + 1 := by
 unfold tsL; rw [List.length_append, timesR_len, List.length_take, List.length_replicate]; omega
theorem tsL_zero (q : List G) (r : G) : tsL q r 0 = List.replicate (q.length + 1) g0 := by
 unfold tsL
 rw [List.take_zero, Nat.sub_zero, List.replicate_succ]
 simp [timesR, gadd_zero]
theorem tsL_all (q : List G) (r : G) : tsL q r q.length = timesR q r := by
 unfold tsL; rw [List.take_length, Nat.sub_self]; simp
theorem tsL_step (q : List G) (r : G) {i : Nat} (h : i < q.length) : ∃ l, (tsL q r i).getD i g0 = l ∧ ((tsL q r i).set i (l + q.getD i g0 * g1)).getD (i + 1) g0 = g0 ∧
 tsL q r (i + 1) = ((tsL q r i).set i (l + q.getD i g0 * g1)).set (i + 1) (g0 + q.getD i g0 * r) := by
 obtain ⟨D, l, h1, h2, h3⟩ := timesR_snoc (q.take i) (q.getD i g0) r
 have hD : D.length = i := by rw [h1, List.length_take]; omega
 have ht : q.take (i + 1) = q.take i ++ [q.getD i g0] := by rw [List.take_add_one, getD_of g0 h]; rfl
 have hr : List.replicate (q.length - i) g0 = g0 :: List.replicate (q.length - (i + 1)) g0 := by rw [show q.length - i = (q.length - (i + 1)) + 1 by omega, List.replicate_succ]
 have hset : (tsL q r i).set i (l + q.getD i g0 * g1) = D ++ (l + q.getD i g0) :: g0 :: List.replicate (q.length - (i + 1)) g0 := by
  unfold tsL
  rw [h2, hr, List.append_assoc, List.set_append_right _ _ (by omega), hD, Nat.sub_self, gmul_one]
  rfl
 refine ⟨l, ?_, ?_, ?_⟩
 ·unfold tsL
  rw [h2, List.append_assoc, getD_app_r (k := 0) (by omega)]; rfl
 ·rw [hset, getD_app_r (k := 1) (by omega)]; rfl
 ·rw [hset]
  unfold tsL
  rw [ht, h3, List.set_append_right _ _ (by omega), hD, show i + 1 - i = 1 by omega, gzero_add, List.append_assoc, List.append_assoc]
  rfl

structure Wst (rb tb T g n : Nat) (xs : List G) (w : World) : Prop where
 res : Blk w rb 139 #[.slice (some ⟨g, 0, none⟩) n n]
 tab : Blk w tb 140 #[.pointer (some ⟨T, 0, none⟩)]
 row : Row w g 0 xs
 tabs : Tabs T w
 len : xs.length = n
theorem Wst.keep {rb tb T g n : Nat} {xs : List G} {w w' : World} (h : Wst rb tb T g n xs w) (hg : Gr w w') : Wst rb tb T g n xs w' :=
 ⟨h.res.keep hg, h.tab.keep hg, h.row.keep hg, h.tabs.keep hg, h.len⟩
theorem Blk.gb {w w' : World} {g g' : Nat} {t : TypeId} {cs : Array Value} (h : Blk w g t cs) (hg : Gb g' w w') (hne : g ≠ g') : Blk w' g t cs :=
 (hg.block g h.lt (fun e => hne (by injection e))).trans h
theorem Wst.gb {rb tb T g n g' : Nat} {xs : List G} {w w' : World} (h : Wst rb tb T g n xs w) (hg : Gb g' w w') (h1 : rb ≠ g') (h2 : tb ≠ g') (h3 : g ≠ g') (h4 : T ≠ g') : Wst rb tb T g n xs w' :=
 ⟨h.res.gb hg h1, h.tab.gb hg h2, h.row.gb hg h3, h.tabs.gb hg h4, h.len⟩

theorem Rd.gbx {α : Type} {k : Nat} {enc : α → List Value} {w w' : World} {b off g : Nat} {xs : List α} (h : Rd k enc w (some ⟨b, off, none⟩) xs) (hg : Gb g w w') (hne : b ≠ g) : Rd k enc w' (some ⟨b, off, none⟩) xs := fun i x hx => by
 obtain ⟨b', o', e, hc⟩ := h i x hx
 obtain ⟨rfl, rfl⟩ : b = b' ∧ off = o' := by simpa using e
 exact ⟨b, off, rfl, fun j v hv => by have h1 := hc j v hv; exact (hg.cell (World.block_lt_of_cell? w _ h1) hne).trans h1⟩
theorem mult_any (rb tb T g n fb fc : Nat) (xs : List G) (r : G) (w : World) (h1n : 1 ≤ n) (hl : n ≤ 1000) (hTr : T ≠ rb) (hW : Wst rb tb T g n xs w) (hF : Byts w (some ⟨fb, 0, none⟩) [g1, r]) :
 Calls Tryz.prog 107 #[.slice (some ⟨fb, 0, none⟩) 2 fc, .pointer (some ⟨rb, 0, none⟩), .pointer (some ⟨tb, 0, none⟩)] w fun e w' => e = .returned (.tuple #[]) ∧ ∃ g', w.heap.size ≤ g' ∧ Wst rb tb T g' (n + 1) (timesR xs r) w' ∧ Gb rb w w' := by
 have hmk : ∀ w, (Instr.makeSlice 139 (.int .i64 ((n : Int) + 2 - 1)) (.int .i64 ((n : Int) + 2 - 1))).run Tryz.prog w = .ok (.slice (some ⟨w.heap.size, 0, none⟩) (n + 1) (n + 1)) (w.alloc (.cells (gcs (List.replicate (n + 1) g0)) 5)) := fun w => by
  have := mk_bytes (n + 1) (by omega) w
  rw [show (((n + 1 : Nat)) : Int) = (n : Int) + 2 - 1 by omega] at this
  exact this
 have c0 : w.cell? ⟨rb, 0, none⟩ = some (.slice (some ⟨g, 0, none⟩) n n) := hW.res.cell 0
 have j0 : IntKind.i64.wrap ((n : Int) + 2) = (n : Int) + 2 := IntWalk.i64_in _ (by omega)
 have HG0 := Lib.hid ((Gr.refl w).alloc (.cells (gcs (List.replicate (n + 1) g0)) 5))
 have HW0 := Lib.hid (hW.keep HG0.out)
 have HF0 := Lib.hid (hF.keep HG0.out)
 have HB0 := Lib.hid (BG.new w (List.replicate (n + 1) g0) rfl).row
 have HLT : Hid (rb < w.heap.size ∧ tb < w.heap.size ∧ g < w.heap.size ∧ T < w.heap.size ∧ fb < w.heap.size) := Lib.hid ⟨hW.res.lt, hW.tab.lt, hW.row.lt (by have := hW.len; omega), hW.tabs.lt, by
  obtain ⟨b', o', e', c1⟩ := Byts_at hF (i := 0) (by simp)
  obtain ⟨rfl, rfl⟩ : fb = b' ∧ 0 = o' := by simpa using e'
  exact World.block_lt_of_cell? w _ c1⟩
 have HTR := Lib.hid hTr
 have c0' := HG0.out.keep c0
 clear hW hF hTr
 go_enter Tryz.func107, Tryz.ntmps107
 go_wp2_with fail
 generalize World.alloc w _ = W0 at HG0 HW0 HF0 HB0 ⊢
 clear hmk c0 c0'
 generalize hS : w.heap.size = S at HB0 HLT ⊢
 have HS := Lib.hid hS
 clear hS
 obtain ⟨l1, l2, l3, l4, l5⟩ := HLT.out
 have hln := HW0.out.len
 have HLN := Lib.hid hln
 clear hln
 go_loopw [18] (fun z wr => ∃ i : Nat, i ≤ n ∧ z = .int .i64 i ∧ Hid (Row wr S 0 (tsL xs r i)) ∧ Hid (Gb S W0 wr)) (fun z _ => n - (intOf z).toNat)
 case atStart => exact ⟨0, Nat.zero_le _, rfl, by rw [tsL_zero, HLN.out]; exact HB0, Lib.hid (Gb.refl _ _)⟩
 case round =>
  obtain ⟨i, hi, rfl, hR, hG⟩ := hrel
  by_cases hlt : i < n
  ·have hix : i < xs.length := by have := HLN.out; omega
   have HWr := Lib.hid (HW0.out.gb hG.out (by omega) (by omega) (by omega) (by omega))
   obtain ⟨c1, -⟩ := HWr.out.row i hix
   rw [Nat.zero_add] at c1
   obtain ⟨l, e1, e2, e3⟩ := tsL_step xs r hix
   have E1 := Lib.hid e1
   have E2 := Lib.hid e2
   have E3 := Lib.hid e3
   clear e1 e2 e3
   generalize xs.getD i g0 = x at c1 E2 E3
   obtain ⟨wo, hwo⟩ : ∃ wo : World, wo = wr := ⟨_, rfl⟩
   go_wp2_with fail
   go_loopw [25] (fun z wx => ∃ j : Nat, j ≤ 2 ∧ z = .int .i64 j ∧ Hid (Row wx S 0 (if j = 0 then tsL xs r i else if j = 1 then (tsL xs r i).set i (l + x * g1) else tsL xs r (i + 1))) ∧ Hid (Gb S W0 wx)) (fun z _ => 2 - (intOf z).toNat)
   case atStart => exact ⟨0, by omega, rfl, hR, hG⟩
   case round =>
    clear hR hG HWr c1 hwo
    obtain ⟨j, hj, rfl, hR, hG⟩ := hrel
    have HWx := Lib.hid (HW0.out.gb hG.out (by omega) (by omega) (by omega) (by omega))
    have t1 : wr.cell? ⟨tb, 0, none⟩ = some (.pointer (some ⟨T, 0, none⟩)) := HWx.out.tab.cell 0
    have hjc : j = 0 ∨ j = 1 ∨ j = 2 := by omega
    rcases hjc with rfl | rfl | rfl
    ·obtain ⟨b0, o0, e0, f0⟩ := Byts_at (HF0.out.gbx hG.out (by omega)) (i := 0) (by simp)
     obtain ⟨rfl, rfl⟩ : fb = b0 ∧ 0 = o0 := by simpa using e0
     rw [if_pos rfl] at hR
     obtain ⟨r1, r2⟩ := hR.out i (by rw [tsL_len _ _ (by omega)]; omega)
     rw [E1.out, Nat.zero_add] at r1
     rw [Nat.zero_add] at r2
     have HPR := Lib.hid (fun W' (h : Gr wr W') => product_any T x g1 W' (HWx.out.tabs.keep h))
     have hx := xor8 l (x * g1)
     have h1 : (([g1, r] : List G).getD 0 g0) = g1 := rfl
     rw [h1, Nat.zero_add] at f0
     have j1 : IntKind.i64.wrap (i : Int) = (i : Int) := IntWalk.i64_in _ (by omega)
     have j2 : (0 : Int) ≤ (i : Int) := by omega
     have j3 : (i : Int) < (n : Int) + 1 := by omega
     clear e0 h1
     go_wp2_with fail
     go_region_law (first | (go_simp; go_at_call 108; refine (HPR.out _ (by first | exact (Gr.refl _).drew | exact Gr.refl _)).mono ?_; rintro e w2 ⟨rfl, hg1⟩; have r1' := hg1.keep r1; have t1' := hg1.keep t1; have r2' := (frozen_gr hg1 (World.block_lt_of_cell? _ _ r1)).trans r2))
     all_goals
      go_wp2_with fail
      go_roundw
      case rel =>
       have hgd : Gr wr w2 := by first | exact hg1 | exact (Gr.refl _).drew.trans hg1
       refine ⟨1, by omega, by go_num, Lib.hid ?_, Lib.hid ((hG.out.trans (Gb.of hgd S)).put (i) _)⟩
       rw [if_neg (by omega), if_pos rfl]
       have := (hR.out.keep hgd).put (k := i) (by rw [tsL_len _ _ (by omega)]; omega) (l + x * g1)
       rwa [Nat.zero_add] at this
      case measure => simp [intOf] <;> omega
    ·obtain ⟨b0, o0, e0, f0⟩ := Byts_at (HF0.out.gbx hG.out (by omega)) (i := 1) (by simp)
     obtain ⟨rfl, rfl⟩ : fb = b0 ∧ 0 = o0 := by simpa using e0
     rw [if_neg (by omega), if_pos rfl] at hR
     obtain ⟨r1, r2⟩ := hR.out (i + 1) (by rw [List.length_set, tsL_len _ _ (by omega)]; omega)
     rw [E2.out, Nat.zero_add] at r1
     rw [Nat.zero_add] at r2
     have HPR := Lib.hid (fun W' (h : Gr wr W') => product_any T x r W' (HWx.out.tabs.keep h))
     have hx := xor8 g0 (x * r)
     have h1 : (([g1, r] : List G).getD 1 g0) = r := rfl
     rw [h1, Nat.zero_add] at f0
     have j1 : IntKind.i64.wrap ((i : Int) + 1) = (i : Int) + 1 := IntWalk.i64_in _ (by omega)
     have j2 : (0 : Int) ≤ (i : Int) + 1 := by omega
     have j3 : (i : Int) + 1 < (n : Int) + 1 := by omega
     have j4 : (i : Int) < (n : Int) := by omega
     have j5 : ((i : Int) + 1).toNat = i + 1 := by omega
     clear e0 h1
     go_wp2_with fail
     go_region_law (first | (go_simp; go_at_call 108; refine (HPR.out _ (by first | exact (Gr.refl _).drew | exact Gr.refl _)).mono ?_; rintro e w2 ⟨rfl, hg1⟩; have r1' := hg1.keep r1; have t1' := hg1.keep t1; have r2' := (frozen_gr hg1 (World.block_lt_of_cell? _ _ r1)).trans r2))
     all_goals
      go_wp2_with fail
      go_roundw
      case rel =>
       have hgd : Gr wr w2 := by first | exact hg1 | exact (Gr.refl _).drew.trans hg1
       refine ⟨2, by omega, by go_num, Lib.hid ?_, Lib.hid ((hG.out.trans (Gb.of hgd S)).put (i + 1) _)⟩
       rw [if_neg (by omega), if_neg (by omega), E3.out]
       have := (hR.out.keep hgd).put (k := i + 1) (by rw [List.length_set, tsL_len _ _ (by omega)]; omega) (g0 + x * r)
       rwa [Nat.zero_add] at this
      case measure => simp [intOf] <;> omega
    ·rw [if_neg (by omega), if_neg (by omega)] at hR
     go_wp2_with fail
     go_roundw
     case rel => exact ⟨i + 1, by omega, by go_num, hR, hG⟩
     case measure => simp [intOf] <;> omega
  ·obtain rfl : i = n := by omega
   have HWr := Lib.hid (HW0.out.gb hG.out (by omega) (by omega) (by omega) (by omega))
   have HT : Hid (tsL xs r i = timesR xs r) := Lib.hid (by rw [← HLN.out, tsL_all])
   rw [HT.out] at hR
   have t1 : wr.cell? ⟨rb, 0, none⟩ = some (.slice (some ⟨g, 0, none⟩) i i) := HWr.out.res.cell 0
   have t2 := HWr.out.res.free 0
   have hRS := HWr.out.res.put 0 (.slice (some ⟨S, 0, none⟩) (i + 1) (i + 1))
   have HF : Hid (Wst rb tb T S (i + 1) (timesR xs r) (wr.setCell ⟨rb, 0, none⟩ (.slice (some ⟨S, 0, none⟩) (i + 1) (i + 1)))) := Lib.hid ⟨by simpa using hRS, (HWr.out.tab.other (by have := HWr.out.tab.differ HWr.out.res (by decide); exact this) _), (hR.out.gb ((Gb.refl rb _).put 0 _) (by omega)), (HWr.out.tabs.gb ((Gb.refl rb _).put 0 _) (by have := HTR.out; omega)), by rw [timesR_len, HLN.out]⟩
   have hgf := Lib.hid ((Gb.of (hG.out.gr HG0.out (by rw [HS.out]; exact Nat.le_refl _)) rb).put 0 (.slice (some ⟨S, 0, none⟩) (i + 1) (i + 1)))
   clear hRS
   go_wp2_with fail
   go_end0
   exact ⟨rfl, S, by rw [HS.out]; exact Nat.le_refl _, HF.out, hgf.out⟩

set_option maxRecDepth 100000
set_option maxHeartbeats 80000000

theorem rootsL_snoc (rs : List G) (r : G) : ∀ q : List G, rootsL q (rs ++ [r]) = timesR (rootsL q rs) r := by
 induction rs with
 | nil => intro q; rfl
 | cons s t ih => intro q; exact ih _

theorem withRoots_any (T : Nat) (A : Option Addr) (m mc : Nat) (rs : List G) (w : World) (hT : Tabs T w) (hm : rs.length = m) (hl : m ≤ 300) (hr : Byts w A rs) :
 Calls Tryz.prog 89 #[.pointer (some ⟨T, 0, none⟩), .slice A m mc] w fun e w' => ∃ g, e = .returned (.slice (some ⟨g, 0, none⟩) (m + 1) (m + 1)) ∧ w.heap.size ≤ g ∧ Row w' g 0 (rootP rs) ∧ Gr w w' := by
 have HT := Lib.hid hT
 have HR := Lib.hid hr
 have HM := Lib.hid hm
 have HTl := Lib.hid hT.lt
 clear hT hr hm
 go_enter Tryz.func89, Tryz.ntmps89
 go_upto_region 3 with fail
 have hb1 : Blk (((w.alloc (.cells #[.pointer (some ⟨T, 0, none⟩)] 140)).alloc (.cells #[.int .u8 1] 5)).alloc (.cells #[.slice (some ⟨w.heap.size + 1, 0, none⟩) 1 1] 139)) (w.heap.size + 1 + 1) 139 #[.slice (some ⟨w.heap.size + 1, 0, none⟩) 1 1] := Blk.new _ _ _ (by simp)
 have hb2 : Blk (((w.alloc (.cells #[.pointer (some ⟨T, 0, none⟩)] 140)).alloc (.cells #[.int .u8 1] 5)).alloc (.cells #[.slice (some ⟨w.heap.size + 1, 0, none⟩) 1 1] 139)) w.heap.size 140 #[.pointer (some ⟨T, 0, none⟩)] := ((Blk.new w _ _ rfl).alloc _).alloc _
 have hb3 : BG (((w.alloc (.cells #[.pointer (some ⟨T, 0, none⟩)] 140)).alloc (.cells #[.int .u8 1] 5)).alloc (.cells #[.slice (some ⟨w.heap.size + 1, 0, none⟩) 1 1] 139)) (w.heap.size + 1) [g1] := (Blk.new _ _ _ (by simp)).alloc _
 have hg0 : Gr w (((w.alloc (.cells #[.pointer (some ⟨T, 0, none⟩)] 140)).alloc (.cells #[.int .u8 1] 5)).alloc (.cells #[.slice (some ⟨w.heap.size + 1, 0, none⟩) 1 1] 139)) := (((Gr.refl w).alloc _).alloc _).alloc _
 have HW := Lib.hid (Wst.mk hb1 hb2 hb3.row (HT.out.keep hg0) rfl)
 have HG := Lib.hid hg0
 clear hb1 hb2 hb3 hg0
 generalize (((w.alloc _).alloc _).alloc _) = W0 at HW HG ⊢
 have HSZ := Lib.hid (Nat.le_refl w.heap.size)
 generalize hS : w.heap.size = S at HW HTl HSZ ⊢
 have HS := Lib.hid hS
 clear hS
 go_wp2_with fail
 go_loopw [13] (fun z wr => ∃ k g : Nat, k ≤ m ∧ z = .int .i64 k ∧ S ≤ g ∧ Hid (Wst (S + 1 + 1) S T g (k + 1) (rootP (rs.take k)) wr) ∧ Hid (Gr w wr)) (fun z _ => m - (intOf z).toNat)
 case atStart => exact ⟨0, S + 1, Nat.zero_le _, rfl, by omega, HW, HG⟩
 case round =>
  obtain ⟨k, g, hk, rfl, hgS, hW, hG⟩ := hrel
  by_cases hlt : k < m
  ·have hkl : k < rs.length := by have := HM.out; omega
   obtain ⟨b, off, rfl, c0⟩ := Byts_at (HR.out.keep hG.out) hkl
   have HST : Hid (rootP (rs.take (k + 1)) = timesR (rootP (rs.take k)) (rs.getD k g0)) := Lib.hid (by
    unfold rootP
    rw [List.take_add_one, getD_of g0 hkl]
    exact rootsL_snoc _ _ _)
   generalize rs.getD k g0 = r at c0 HST
   have HF := Lib.hid (BG.new wr [g1, r] rfl).pts
   have hga : Gr wr (wr.alloc (.cells (gcs [g1, r]) 5)) := (Gr.refl wr).alloc _
   have HWA := Lib.hid (hW.out.keep hga)
   have HGA := Lib.hid (hG.out.trans hga)
   clear hga
   have HMU := Lib.hid (mult_any (S + 1 + 1) S T g (k + 1) wr.heap.size 2 (rootP (rs.take k)) r _ (by omega) (by omega) (by have := HTl.out; omega) HWA.out HF.out)
   go_wp2_with fail
   refine HMU.out.mono ?_
   rintro e w2 ⟨rfl, g', hg', hW', hGb⟩
   have HW2 := Lib.hid hW'
   have HG2 : Hid (Gr w w2) := Lib.hid (hGb.gr HGA.out (by rw [HS.out]; omega))
   have hsz : S ≤ g' := by have := HGA.out.size; have := HS.out; omega
   clear hW' hGb
   go_wp2_with fail
   go_roundw
   case rel => exact ⟨k + 1, g', by omega, by go_num, hsz, by rw [HST.out]; exact HW2, HG2⟩
   case measure => simp [intOf] <;> omega
  ·obtain rfl : k = m := by omega
   have t1 : wr.cell? ⟨S + 1 + 1, 0, none⟩ = some (.slice (some ⟨g, 0, none⟩) (k + 1) (k + 1)) := hW.out.res.cell 0
   have HF : Hid (rs.take k = rs) := Lib.hid (List.take_of_length_le (by have := HM.out; omega))
   rw [HF.out] at hW
   go_wp2_with fail
   go_ret
   exact ⟨g, rfl, by rw [HS.out]; exact hgS, hW.out.row, hG.out⟩

set_option maxRecDepth 100000
set_option maxHeartbeats 80000000

def dvL (d : List G) : List G → Nat → List G
 | xs, 0 => xs
 | xs, i + 1 => let ys := dvL d xs i; ys.take i ++ addL (ys.drop i) (ys.getD i g0) d
theorem dvL_succ (d xs : List G) (i : Nat) : dvL d xs (i + 1) = (dvL d xs i).take i ++ addL ((dvL d xs i).drop i) ((dvL d xs i).getD i g0) d := rfl
theorem dvL_len (d xs : List G) : ∀ i, (dvL d xs i).length = xs.length
 | 0 => rfl
 | i + 1 => by
   have := dvL_len d xs i
   simp only [dvL, List.length_append, addL_len, List.length_take, List.length_drop]; omega
def chkL (s : List G) (p : Nat) : List G := (dvL (rootP ((List.range p).map gp)) (s ++ List.replicate p g0) s.length).drop s.length

theorem len255 : Tryz.prog.arrayLen 169 = 255 := by kernel_rfl
theorem powers_rd {T : Nat} {w : World} {p : Nat} (h : Tabs T w) (hp : p ≤ 255) : Byts w (some ⟨T, 0, none⟩) ((List.range p).map gp) := fun i x hx => by
 have hi : i < p := by have := (List.getElem?_eq_some_iff.1 hx).1; simpa using this
 rw [List.getElem?_map, List.getElem?_range hi] at hx
 obtain rfl := Option.some.inj hx
 refine ⟨_, 0, rfl, fun j v hv => ?_⟩
 have hj : j = 0 := by have := (List.getElem?_eq_some_iff.1 hv).1; rw [encG_len] at this; omega
 subst hj
 obtain rfl := Option.some.inj hv
 rw [Nat.zero_add, Nat.mul_one, Nat.add_zero]
 exact h.1 i (by omega)
theorem check_any (T : Nat) (s : ByteArray) (p : Nat) (w : World) (hT : Tabs T w) (hs : s.size ≤ 300) (hp : p ≤ 64) :
 Calls Tryz.prog 69 #[.pointer (some ⟨T, 0, none⟩), .string s, .int .i64 (p : Int)] w fun e w' => ∃ A c, e = .returned (.slice A p c) ∧ Byts w' A (chkL (gs s) p) ∧ Gr w w' := by
 have HT := Lib.hid hT
 have HTl := Lib.hid hT.lt
 clear hT
 have hsl : ∀ w, (Instr.sliceAt 169 (.pointer (some ⟨T, 0, none⟩)) none (some (.int .i64 (p : Int))) none).run Tryz.prog w = .ok (.slice (some ⟨T, 0, none⟩) p 255) w := fun w => by
  have h := run_sliceAt_array_h (P := Tryz.prog) (w := w) (t := 169) (a := ⟨T, 0, none⟩) Tryz.underlying169 .i64 (p : Int) (by omega) (by rw [len255]; omega)
  rw [h]; rfl
 have HPW : Hid (Byts w (some ⟨T, 0, none⟩) ((List.range p).map gp)) := Lib.hid (powers_rd HT.out (by omega))
 go_enter Tryz.func69, Tryz.ntmps69
 go_wp2_with fail
 refine (withRoots_any T (some ⟨T, 0, none⟩) p 255 ((List.range p).map gp) w HT.out (by simp) (by omega) HPW.out).mono ?_
 rintro e w1 ⟨gd, rfl, hd1, hd2, hg1⟩
 have HT1 := Lib.hid (HT.out.keep hg1)
 have HD1 := Lib.hid hd2
 have hg1' := Lib.hid hg1
 have hgd : gd < w1.heap.size := hd2.lt (by rw [rootP_len]; simp)
 have HDL : Hid ((rootP ((List.range p).map gp)).length = p + 1) := Lib.hid (by rw [rootP_len]; simp)
 have hcv := conv_bytes s w1
 have hcap : s.size ≤ grownCap w1 s.size 0 5 := grownCap_ge w1 _ _ _
 obtain ⟨g, c, w2, hap, hr2, hg2, hg2', hcc⟩ := app_zeros s p (grownCap w1 s.size 0 5) w1.drew hs hp hcap
 have HR2 := Lib.hid hr2
 have hg3 : Gr w1 w2 := (Gr.refl w1).drew.trans hg2
 have HG2 := Lib.hid hg3
 have hgg : w1.heap.size ≤ g := hg2'
 have HSZ := Lib.hid hg1.size
 clear hd2 hg1 hg2 hg3 hg2' hr2 hsl
 go_wp2_with (first | (simp only [hcv]) | (at_builtin; refine Lib.wpList_append_run _ rfl _ _ _ _ rfl _ _ rfl rfl _ _ (hap _) ?_))
 clear hap hcv hcap
 obtain ⟨n, hn⟩ : ∃ n, s.size = n := ⟨_, rfl⟩
 have HN := Lib.hid hn
 rw [hn] at hs hcc ⊢
 have HG0 : Hid (Gr w w2) := Lib.hid (by have := HG2.out; exact hg1'.out.trans this)
 go_loopw [23] (fun z wr => ∃ i : Nat, i ≤ n ∧ z = .int .i64 i ∧ Hid (Row wr g 0 (dvL (rootP ((List.range p).map gp)) (gs s ++ List.replicate p g0) i)) ∧ Hid (Gr w1 wr)) (fun z _ => n - (intOf z).toNat)
 case atStart => exact ⟨0, Nat.zero_le _, rfl, HR2, HG2⟩
 case round =>
  obtain ⟨i, hi, rfl, hRw, hG⟩ := hrel
  have hln : (dvL (rootP ((List.range p).map gp)) (gs s ++ List.replicate p g0) i).length = n + p := by
   rw [dvL_len, List.length_append, gs_len, List.length_replicate, HN.out]
  by_cases hlt : i < n
  ·have HST := Lib.hid (dvL_succ (rootP ((List.range p).map gp)) (gs s ++ List.replicate p g0) i)
   generalize dvL (rootP ((List.range p).map gp)) (gs s ++ List.replicate p g0) i = xs at hRw hln HST
   obtain ⟨r1, r2⟩ := hRw.out i (by omega)
   rw [Nat.zero_add] at r1 r2
   have hRd : Row wr g i (xs.drop i) := by have := hRw.out.drop i; rwa [Nat.zero_add] at this
   have HADD := Lib.hid (fun W' (h : Gr wr W') (mc cc : Nat) => add_any T g i (n + p - i) cc (xs.drop i) (xs.getD i g0) (some ⟨gd, 0, none⟩) (p + 1) mc (rootP ((List.range p).map gp)) W' (HT1.out.keep (hG.out.trans h)) (by have := HT1.out.lt; omega) (hRd.keep h) (by rw [List.length_drop, hln]) ⟨(HD1.out.keep (hG.out.trans h)).pts, fun _ b o e => by obtain ⟨rfl, -⟩ : gd = b ∧ 0 = o := (by simpa using e); omega⟩ HDL.out (by omega) (by omega))
   have HTK : Hid (Row wr g 0 (xs.take i)) := Lib.hid (fun k hk => by
    have hk' : k < i := by simp at hk; omega
    have := hRw.out k (by omega)
    rw [List.getD_eq_getElem?_getD, List.getElem?_take, if_pos hk', ← List.getD_eq_getElem?_getD]
    exact this)
   have HXL := Lib.hid hln
   generalize xs.getD i g0 = f at r1 HADD HST
   clear hRd hln
   have hi0 : (0 : Int) ≤ (i : Int) := by omega
   have hi1 : (i : Int) ≤ (n : Int) + (p : Int) := by omega
   have hi2 : (i : Int) < (n : Int) + (p : Int) := by omega
   have hci : ¬ (c = i) := by omega
   go_wp2_with fail
   go_region_law (go_simp; go_at_call 90; refine (HADD.out _ (by first | exact (Gr.refl _).drew | exact Gr.refl _) _ _).mono ?_; rintro e w4 ⟨rfl, hA, hGb, -, hFr⟩)
   all_goals
    go_wp2_with fail
    go_roundw
    case rel =>
     have hgd' : Gr wr wr.drew := (Gr.refl _).drew
     refine ⟨i + 1, by omega, by go_num, Lib.hid ?_, Lib.hid ?_⟩
     ·rw [HST.out]
      have hF := hFr (xs.take i) (by rw [List.length_take]; exact Nat.min_le_left _ _) (by first | exact HTK.out.keep hgd' | exact HTK.out)
      intro k hk
      have hk' : k < n + p := by have := hk; rw [List.length_append, addL_len, List.length_take, List.length_drop, HXL.out] at this; omega
      by_cases hki : k < i
      ·have := hF k (by rw [List.length_take, HXL.out]; omega)
       rw [List.getD_eq_getElem?_getD, List.getElem?_append_left (by rw [List.length_take, HXL.out]; omega), ← List.getD_eq_getElem?_getD]
       exact this
      ·have := hA (k - i) (by rw [addL_len, List.length_drop, HXL.out]; omega)
       rw [List.getD_eq_getElem?_getD, List.getElem?_append_right (by rw [List.length_take, HXL.out]; omega), ← List.getD_eq_getElem?_getD, List.length_take, HXL.out, show min i (n + p) = i by omega]
       rw [show i + (k - i) = 0 + k by omega] at this
       exact this
     ·first
      | exact Gb.gr (hG.out.trans hgd') hGb hgg
      | exact Gb.gr hG.out hGb hgg
    case measure => simp [intOf] <;> omega
  ·have hie : i = n := by omega
   have hlt' : ¬ ((i : Int) < (n : Int)) := by omega
   rw [hie] at hRw
   have hn1 : (n : Int) ≤ (n : Int) + (p : Int) := by omega
   have hgf := hg1'.out.trans hG.out
   have hrd := hRw.out.drop n
   rw [Nat.zero_add] at hrd
   have hln' : (dvL (rootP ((List.range p).map gp)) (gs s ++ List.replicate p g0) n).length = n + p := by rw [dvL_len, List.length_append, gs_len, List.length_replicate, HN.out]
   have HCK : Hid ((dvL (rootP ((List.range p).map gp)) (gs s ++ List.replicate p g0) n).drop n = chkL (gs s) p) := Lib.hid (by unfold chkL; rw [gs_len, HN.out])
   rw [HCK.out] at hrd
   have hlc : (chkL (gs s) p).length = p := by rw [← HCK.out, List.length_drop, hln']; omega
   have HRD := Lib.hid hrd
   have HGF := Lib.hid hgf
   clear hrd hgf hln' hln
   have hnp : n + p - n = p := by omega
   by_cases hcn : c = n
   ·have hp0 : p = 0 := by omega
    go_wp2_with fail
    try rw [Exit.noGoto_ret]
    go_ret
    refine ⟨_, ⟨_, by first | rfl | rw [hnp] | (subst hp0; rfl)⟩, fun i x hx => ?_, HGF.out⟩
    have := (List.getElem?_eq_some_iff.1 hx).1
    first | omega | (rw [hp0] at this; rw [hp0] at hlc; omega) | (subst hp0; omega)
   ·go_wp2_with fail
    try rw [Exit.noGoto_ret]
    go_ret
    exact ⟨_, ⟨_, by first | rfl | rw [hnp]⟩, HRD.out.pts, HGF.out⟩
set_option maxRecDepth 100000
set_option maxHeartbeats 80000000

def u8 (x : G) : UInt8 := UInt8.ofNat x.v
theorem u8_nat (x : G) : (u8 x).toNat = x.v := by
 have := x.lt
 unfold u8
 rw [UInt8.toNat_ofNat']
 omega
def txt (xs : List G) : ByteArray := ⟨(xs.map u8).toArray⟩
theorem txt_size (xs : List G) : (txt xs).size = xs.length := by simp [txt, ByteArray.size]
theorem back_any (A : Option Addr) (n c : Nat) (xs : List G) (hn : xs.length = n) (w : World) (hA : Byts w A xs) : (convert 139 9 (.slice A n c)).run Tryz.prog w = .ok (.string (txt xs)) w := by
 cases xs with
 | nil =>
   obtain rfl : n = 0 := by simpa using hn.symm
   cases A with
   | none =>
     rw [run_convert_bytes_string w 139 9 5 none 0 c Tryz.underlying139 Tryz.underlying5 Tryz.underlying9]
     rfl
   | some a => exact run_convert_bytes_back (P := Tryz.prog) w 139 9 5 a c [] Tryz.underlying139 Tryz.underlying5 Tryz.underlying9 (fun j hj => by simp at hj)
 | cons x r =>
   obtain ⟨b, o, rfl, c0⟩ := Byts_at hA (i := 0) (by simp)
   have h := run_convert_bytes_back (P := Tryz.prog) w 139 9 5 ⟨b, o, none⟩ c ((x :: r).map u8) Tryz.underlying139 Tryz.underlying5 Tryz.underlying9 (fun j hj => by
    have hj' : j < (x :: r).length := by simpa using hj
    obtain ⟨b', o', e, cj⟩ := Byts_at hA hj'
    obtain ⟨rfl, rfl⟩ : b = b' ∧ o = o' := by simpa using e
    rw [Addr.add_lit, cj, List.getElem_map, u8_nat, List.getD_eq_getElem?_getD, List.getElem?_eq_getElem hj']
    rfl)
   rw [List.length_map, hn] at h
   exact h
def encL (s : ByteArray) (p : Nat) : ByteArray := s ++ txt (chkL (gs s) p)
theorem chkL_len (s : List G) (p : Nat) : (chkL s p).length = p := by
 unfold chkL; rw [List.length_drop, dvL_len, List.length_append, List.length_replicate]; omega
theorem Encode_yes (s : ByteArray) (p : Nat) (w : World) (hr : okB ((s.size : Int) + p) (p : Int) = true) :
 Calls Tryz.prog 40 #[.string s, .int .i64 (p : Int)] w fun e w' => e = .returned (.tuple #[.string (encL s p), .int .i64 0]) ∧ Gr w w' := by
 have HV := Lib.hid (fun W' => areValid_any ((s.size : Int) + p) (p : Int) W' true hr)
 have hb := (okB_iff _ _).1 hr
 have hs : s.size ≤ 255 := by omega
 have hp : p ≤ 64 := by omega
 clear hr
 go_enter Tryz.func40, Tryz.ntmps40
 go_wp2_with fail
 refine (HV.out _).mono ?_
 rintro e w1 ⟨rfl, rfl⟩
 go_wp2_with fail
 refine (newTables_any _).mono ?_
 rintro e w2 ⟨T, rfl, -, hT, hg2⟩
 go_wp2_with fail
 refine (check_any T s p w2 hT (by omega) hp).mono ?_
 rintro e w3 ⟨A, c, rfl, hA, hg3⟩
 have hcv := back_any A p c (chkL (gs s) p) (chkL_len _ _) w3 hA
 have hts : (txt (chkL (gs s) p)).size = p := by rw [txt_size, chkL_len]
 have hno : ¬ (9223372036854775807 < s.size + p) := by omega
 have hno2 : s.size + p ≤ 9223372036854775807 := by omega
 go_wp2_with (simp only [hcv])
 go_ret2
 exact ⟨rfl, hg2.trans hg3⟩
set_option maxRecDepth 100000
set_option maxHeartbeats 80000000

theorem fo_enc : encL ⟨#[97]⟩ 0 = ⟨#[97]⟩ := by decide +kernel
def foJ : List Jb := [(0, 2, 2)]
theorem fo_one : SchedP 1 foJ [(0, 0, 0, 2)] where
 few := by decide
 ok := by intro x hx; simp at hx; subst hx; simp [okS, jbA, foJ]
 apart := by simp
 done := by
  intro j hj
  have : j = 0 := by simp [foJ] at hj; omega
  subst this; decide
theorem fo_jobs : ∀ j ∈ foJ, 0 ≤ j.1 ∧ j.1 < j.2.1 ∧ j.2.1 ≤ 1048576 := by intro j hj; simp [foJ] at hj; subst hj; decide
theorem fo_plan {w w' : World} {e : Ending} (h : PlanP 1 foJ w e w') : ∃ A k c, e = .returned (.tuple #[.agg #[.bool true, .slice A k c, .slice none 0 0, .slice none 0 0], .int .i64 0]) ∧ Gr w w' := by
 rcases h with ⟨h, -⟩ | ⟨-, v, rfl, h⟩
 ·exact absurd h (by decide)
 ·rcases h with ⟨C, k, cc, sl, e, -, -, -, -, hg⟩ | ⟨JA, jc, SA, sc, J, S, e, -, -, h3, -, hg⟩
  ·injection e with e
   subst e
   exact ⟨C, k, cc, rfl, hg⟩
  ·exact (dual (n := 1) fo_jobs fo_one h3).elim

theorem four_any (w : World) : Calls Tryz.prog 19 #[] w fun e w' => e = .returned (.bool true) ∧ Gr w w' := by
 go_enter Tryz.func19, Tryz.ntmps19
 go_wp2_with fail
 generalize hW : World.alloc w _ = W
 have hgW : Gr w W := by rw [← hW]; exact (Gr.refl _).alloc _
 have hB : Tris W (some ⟨w.heap.size, 0, none⟩) foJ := by
  rw [← hW]
  exact Rd_lit enc3_len (Blk.new w _ _ rfl) rfl
 generalize w.heap.size = D at hB ⊢
 have HB := Lib.hid hB
 clear hW hB
 refine (planB_any 1 (some ⟨D, 0, none⟩) 1 1 foJ W rfl (by omega) HB.out).mono ?_
 intro e w1 hp
 obtain ⟨A, k, c, rfl, hg1⟩ := fo_plan hp
 have hgr1 := hgW.trans hg1
 clear hp
 go_upto_region 2 with fail
 generalize hW2 : World.alloc w1 _ = w2
 have hg2 : Gr w1 w2 := by rw [← hW2]; exact (Gr.refl w1).alloc _
 have hZ : Blk w2 w1.heap.size 54 #[.bool true, .slice A k c, .slice none 0 0, .slice none 0 0] := by rw [← hW2]; exact heap_alloc_new w1 _
 generalize w1.heap.size = Z at hZ ⊢
 have HZ := Lib.hid hZ
 have hgr2 := hgr1.trans hg2
 clear hW2 hZ hg1 hg2 hgr1 hgW
 have HE := Lib.hid (Encode_yes ⟨#[97]⟩ 0 w2 (by decide))
 rw [fo_enc] at HE
 go_wp2_with fail
 refine HE.out.mono ?_
 rintro e w3 ⟨rfl, hg3⟩
 have z0 := (HZ.out.keep hg3).cell 0
 have hgr3 := hgr2.trans hg3
 clear hgr2 HZ HE
 go_wp2_with fail
 refine (two_any _).mono ?_
 rintro e w4 ⟨rfl, hg4⟩
 go_wp2_with fail
 go_ret
 exact ⟨rfl, hgr3.trans hg4⟩

set_option maxRecDepth 100000
set_option maxHeartbeats 80000000

theorem five_any (w : World) : Calls Tryz.prog 7 #[] w fun e w' => e = .returned (.bool true) ∧ Gr w w' := by
 go_enter Tryz.func7, Tryz.ntmps7
 go_wp2_with fail
 generalize hW : World.alloc w _ = W
 have hgW : Gr w W := by rw [← hW]; exact (Gr.refl _).alloc _
 have hB : Ints W (some ⟨w.heap.size, 0, none⟩) [3] := by
  rw [← hW]
  exact Rd_lit (enc := enc1) (fun _ => rfl) (Blk.new w #[.int .i64 3] 3 rfl) rfl
 generalize w.heap.size = D at hB ⊢
 have HB := Lib.hid hB
 clear hW hB
 refine (New_any (some ⟨D, 0, none⟩) 1 1 [3] W rfl (by omega) HB.out).mono ?_
 rintro e w1 (⟨hno, -⟩ | ⟨-, N, rfl, hnet, hnl, hml, hbg, hg2⟩)
 ·exact absurd hno (by decide)
 have hnz := newN_of hnl hml hbg
 have e1 : stockN N 0 = 3 := by rw [← stockN_nz, hnz]; rfl
 have e2 : refS N 0 = 0 := by rw [← refS_nz, hnz]; rfl
 have e3 : settledN N = true := by rw [← settledN_nz, hnz]; rfl
 have HST := Lib.hid (Stock_any hnet 0)
 rw [e1, e2] at HST
 have HSE := Lib.hid (Settled_any hnet (by rw [← nz_len, hnz]; decide))
 rw [e3] at HSE
 generalize N.p = p at HST HSE ⊢
 have HG := Lib.hid (hgW.trans hg2)
 clear hnet hnl hml hbg hg2 hnz e1 e2 e3 hgW HB
 go_wp2_with fail
 refine HST.out.mono ?_
 rintro e w2 ⟨rfl, rfl⟩
 go_wp2_with fail
 refine HSE.out.mono ?_
 rintro e w3 ⟨rfl, rfl⟩
 go_wp2_with fail
 refine (four_any _).mono ?_
 rintro e w4 ⟨rfl, hg4⟩
 have HF := Lib.hid (HG.out.trans hg4)
 clear hg4
 go_wp2_with fail
 go_ret
 exact ⟨rfl, HF.out⟩

set_option maxRecDepth 100000
set_option maxHeartbeats 80000000

theorem cell_lt2 {w : World} {g o : Nat} {v : Value} (h : w.cell? ⟨g, o, none⟩ = some v) : g < w.heap.size := Classical.byContradiction fun hge => by
 have h1 : w.heap[g]? = none := Array.getElem?_eq_none (by omega)
 simp [World.cell?, h1] at h
theorem cell_ch2 {S : List Nat} {w w' : World} {g o : Nat} {v : Value} (hc : Ch S w w') (h : w.cell? ⟨g, o, none⟩ = some v) (hn : g ∉ S) : w'.cell? ⟨g, o, none⟩ = some v :=
 (World.cell?_of_block (hc.block g (cell_lt2 h) hn)).trans h
theorem begin_two {B : Nat} {V W : World} {N : Nx} {own : List Int} {all : List (List Mv)} (h : NetR B V N) (hf : Sf (nzN N) own all) (ha : all.length ≤ 30) {q : Nat} (hq : q < N.sites.length) {s x : Int} (h1 : 1 ≤ s) (h2 : s < (N.sites.length : Int)) (hx : 1 ≤ x) (hx2 : x ≤ 1099511627776) (hW : Gr (V.alloc (.cells #[.int .i64 0, .int .i64 (-x), .int .i64 s, .int .i64 x] 42)) W) :
 Calls Tryz.prog 10 #[.pointer (some ⟨N.p, 0, none⟩), .int .i64 (q : Int), .slice (some ⟨V.heap.size, 0, none⟩) 2 2] W fun e w' => e = .returned (.tuple #[.int .i64 ((all.length : Int) + 1), .int .i64 0]) ∧ ∃ N1, NetTo B V N N1 w' ∧ Sf (nzN N1) own (all ++ [mv2 s x]) := by
 have hg : Gr V W := ((Gr.refl V).alloc _).trans hW
 have hb : Blk W V.heap.size 42 #[.int .i64 0, .int .i64 (-x), .int .i64 s, .int .i64 x] := Blk.keep (w := V.alloc _) (heap_alloc_new V _) hW
 have hbl : V.heap.size < W.heap.size := hb.lt
 have h8 := hf.cm.ok.hi
 rw [nz_len] at h8
 refine (Begin_all (q : Int) _ 2 2 (mv2 s x) _ (h.keep hg) hf.cm.ok rfl (by omega) (fun X hX => ?_) (fun p hp => ?_)).mono ?_
 ·have hbX : Blk X V.heap.size 42 #[.int .i64 0, .int .i64 (-x), .int .i64 s, .int .i64 x] := (hX.block V.heap.size hbl (fun hm => by have := (h.own _ hm).2; omega)).trans hb
  exact Rd_lit enc2_len hbX rfl
 ·unfold mv2 at hp
  simp only [List.mem_cons, List.not_mem_nil, or_false] at hp
  rcases hp with rfl | rfl
  ·unfold I64; dsimp only; omega
  ·unfold I64; dsimp only; omega
 ·rintro e w' ⟨rfl, N1, hnz, hto⟩
  obtain ⟨hE, hT, hS⟩ := beg_two hf ha hq h1 h2 hx hx2
  rw [hE, hT]
  exact ⟨rfl, N1, hto.pre hg, hS N1 hnz⟩

end Go.Proofs.YtobcdkjomehdkaaGreat
