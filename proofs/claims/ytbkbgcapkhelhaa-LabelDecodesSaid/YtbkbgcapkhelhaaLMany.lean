/- Layer 3: the polynomial with given roots. -/
import Derived.Test.YtbkbgcapkhelhaaLRoots
namespace Go.Proofs.Ytbkbgcapkhelhaa
open Go.RowKit
set_option linter.unusedSimpArgs false

theorem timesR_snoc (q : List G) (x r : G) : ∃ D l, D.length = q.length ∧ timesR q r = D ++ [l] ∧ timesR (q ++ [x]) r = D ++ [l + x] ++ [x * r] := by
  obtain ⟨M, l, e⟩ := snoc_of (q := g0 :: q.map (· * r)) (by simp)
  have hM : M.length = q.length := by have := congrArg List.length e; simp at this; omega
  refine ⟨List.zipWith (· + ·) q M, l, by simp [hM], ?_, ?_⟩
  · unfold timesR
    rw [e, List.zipWith_append hM.symm]
    simp [gzero_add]
  · unfold timesR
    rw [List.map_append, show g0 :: (q.map (· * r) ++ [x].map (· * r)) = (g0 :: q.map (· * r)) ++ [x * r] by simp, e, List.zipWith_append (by simp [hM]), List.zipWith_append hM.symm]
    simp [gzero_add, gadd_comm]
def tsL (q : List G) (r : G) (i : Nat) : List G := timesR (q.take i) r ++ List.replicate (q.length - i) g0
theorem tsL_len (q : List G) (r : G) {i : Nat} (h : i ≤ q.length) : (tsL q r i).length = q.length + 1 := by
  unfold tsL; rw [List.length_append, timesR_len, List.length_take, List.length_replicate]; omega
theorem tsL_zero (q : List G) (r : G) : tsL q r 0 = List.replicate (q.length + 1) g0 := by
  unfold tsL
  rw [List.take_zero, Nat.sub_zero, List.replicate_succ]
  simp [timesR, gadd_zero]
theorem tsL_all (q : List G) (r : G) : tsL q r q.length = timesR q r := by
  unfold tsL; rw [List.take_length, Nat.sub_self]; simp
theorem tsL_step (q : List G) (r : G) {i : Nat} (h : i < q.length) : ∃ l, (tsL q r i).getD i g0 = l ∧ ((tsL q r i).set i (l + q.getD i g0 * g1)).getD (i + 1) g0 = g0 ∧
    tsL q r (i + 1) = ((tsL q r i).set i (l + q.getD i g0 * g1)).set (i + 1) (g0 + q.getD i g0 * r) := by
  obtain ⟨D, l, h1, h2, h3⟩ := timesR_snoc (q.take i) (q.getD i g0) r
  have hD : D.length = i := by rw [h1, List.length_take]; omega
  have ht : q.take (i + 1) = q.take i ++ [q.getD i g0] := by rw [List.take_add_one, getD_of g0 h]; rfl
  have hr : List.replicate (q.length - i) g0 = g0 :: List.replicate (q.length - (i + 1)) g0 := by rw [show q.length - i = (q.length - (i + 1)) + 1 by omega, List.replicate_succ]
  have hset : (tsL q r i).set i (l + q.getD i g0 * g1) = D ++ (l + q.getD i g0) :: g0 :: List.replicate (q.length - (i + 1)) g0 := by
    unfold tsL
    rw [h2, hr, List.append_assoc, List.set_append_right _ _ (by omega), hD, Nat.sub_self, gmul_one]
    rfl
  refine ⟨l, ?_, ?_, ?_⟩
  · unfold tsL
    rw [h2, List.append_assoc, getD_app_r (k := 0) (by omega)]; rfl
  · rw [hset, getD_app_r (k := 1) (by omega)]; rfl
  · rw [hset]
    unfold tsL
    rw [ht, h3, List.set_append_right _ _ (by omega), hD, show i + 1 - i = 1 by omega, gzero_add, List.append_assoc, List.append_assoc]
    rfl

theorem Blk.differ {w : World} {g g' : Nat} {t t' : TypeId} {cs cs' : Array Value} (h : Blk w g t cs) (h' : Blk w g' t' cs') (hne : t ≠ t') : g ≠ g' := fun e => by
  subst e
  have := (show w.heap[g]? = some _ from h).symm.trans (show w.heap[g]? = some _ from h')
  injection this with this
  injection this with _ h2
  exact hne h2
/-- The polynomial in the making, and the tables. -/
structure Wst (rb tb T g n : Nat) (xs : List G) (w : World) : Prop where
  res : Blk w rb 40 #[.slice (some ⟨g, 0, none⟩) n n]
  tab : Blk w tb 62 #[.pointer (some ⟨T, 0, none⟩)]
  row : Row w g 0 xs
  tabs : Tabs T w
  len : xs.length = n
theorem Wst.keep {rb tb T g n : Nat} {xs : List G} {w w' : World} (h : Wst rb tb T g n xs w) (hg : Gr w w') : Wst rb tb T g n xs w' :=
  ⟨h.res.keep hg, h.tab.keep hg, h.row.keep hg, h.tabs.keep hg, h.len⟩
theorem Blk.gb {w w' : World} {g g' : Nat} {t : TypeId} {cs : Array Value} (h : Blk w g t cs) (hg : Gb g' w w') (hne : g ≠ g') : Blk w' g t cs :=
  (hg.block g h.lt (fun e => hne (by injection e))).trans h
theorem Wst.gb {rb tb T g n g' : Nat} {xs : List G} {w w' : World} (h : Wst rb tb T g n xs w) (hg : Gb g' w w') (h1 : rb ≠ g') (h2 : tb ≠ g') (h3 : g ≠ g') (h4 : T ≠ g') : Wst rb tb T g n xs w' :=
  ⟨h.res.gb hg h1, h.tab.gb hg h2, h.row.gb hg h3, h.tabs.gb hg h4, h.len⟩

theorem Rd.gbx {α : Type} {k : Nat} {enc : α → List Value} {w w' : World} {b off g : Nat} {xs : List α} (h : Rd k enc w (some ⟨b, off, none⟩) xs) (hg : Gb g w w') (hne : b ≠ g) : Rd k enc w' (some ⟨b, off, none⟩) xs := fun i x hx => by
  obtain ⟨b', o', e, hc⟩ := h i x hx
  obtain ⟨rfl, rfl⟩ : b = b' ∧ off = o' := by simpa using e
  exact ⟨b, off, rfl, fun j v hv => by have h1 := hc j v hv; exact (hg.cell (World.block_lt_of_cell? w _ h1) hne).trans h1⟩
set_option maxRecDepth 100000 in
set_option maxHeartbeats 2000000 in
theorem mult_any (rb tb T g n fb fc : Nat) (xs : List G) (r : G) (w : World) (h1n : 1 ≤ n) (hl : n ≤ 1000) (hTr : T ≠ rb) (hW : Wst rb tb T g n xs w) (hF : Byts w (some ⟨fb, 0, none⟩) [g1, r]) :
    Calls Try.prog 65 #[.slice (some ⟨fb, 0, none⟩) 2 fc, .pointer (some ⟨rb, 0, none⟩), .pointer (some ⟨tb, 0, none⟩)] w fun e w' => e = .returned (.tuple #[]) ∧ ∃ g', w.heap.size ≤ g' ∧ Wst rb tb T g' (n + 1) (timesR xs r) w' ∧ Gb rb w w' := by
  have hmk : ∀ w, (Instr.makeSlice 40 (.int .i64 ((n : Int) + 2 - 1)) (.int .i64 ((n : Int) + 2 - 1))).run Try.prog w = .ok (.slice (some ⟨w.heap.size, 0, none⟩) (n + 1) (n + 1)) (w.alloc (.cells (gcs (List.replicate (n + 1) g0)) 5)) := fun w => by
    have := mk_bytes (n + 1) (by omega) w
    rw [show (((n + 1 : Nat)) : Int) = (n : Int) + 2 - 1 by omega] at this
    exact this
  have c0 : w.cell? ⟨rb, 0, none⟩ = some (.slice (some ⟨g, 0, none⟩) n n) := hW.res.cell 0
  have j0 : IntKind.i64.wrap ((n : Int) + 2) = (n : Int) + 2 := IntWalk.i64_in _ (by omega)
  have HG0 := Lib.hid ((Gr.refl w).alloc (.cells (gcs (List.replicate (n + 1) g0)) 5))
  have HW0 := Lib.hid (hW.keep HG0.out)
  have HF0 := Lib.hid (hF.keep HG0.out)
  have HB0 := Lib.hid (BG.new w (List.replicate (n + 1) g0) rfl).row
  have HLT : Hid (rb < w.heap.size ∧ tb < w.heap.size ∧ g < w.heap.size ∧ T < w.heap.size ∧ fb < w.heap.size) := Lib.hid ⟨hW.res.lt, hW.tab.lt, hW.row.lt (by have := hW.len; omega), hW.tabs.lt, by
    obtain ⟨b', o', e', c1⟩ := Byts_at hF (i := 0) (by simp)
    obtain ⟨rfl, rfl⟩ : fb = b' ∧ 0 = o' := by simpa using e'
    exact World.block_lt_of_cell? w _ c1⟩
  have HTR := Lib.hid hTr
  have c0' := HG0.out.keep c0
  clear hW hF hTr
  go_enter Try.func65, Try.ntmps65
  go_wp2_with fail
  generalize World.alloc w _ = W0 at HG0 HW0 HF0 HB0 ⊢
  clear hmk c0 c0'
  generalize hS : w.heap.size = S at HB0 HLT ⊢
  have HS := Lib.hid hS
  clear hS
  obtain ⟨l1, l2, l3, l4, l5⟩ := HLT.out
  have hln := HW0.out.len
  have HLN := Lib.hid hln
  clear hln
  go_loopw [18] (fun z wr => ∃ i : Nat, i ≤ n ∧ z = .int .i64 i ∧ Hid (Row wr S 0 (tsL xs r i)) ∧ Hid (Gb S W0 wr)) (fun z _ => n - (intOf z).toNat)
  case atStart => exact ⟨0, Nat.zero_le _, rfl, by rw [tsL_zero, HLN.out]; exact HB0, Lib.hid (Gb.refl _ _)⟩
  case round =>
    obtain ⟨i, hi, rfl, hR, hG⟩ := hrel
    by_cases hlt : i < n
    · have hix : i < xs.length := by have := HLN.out; omega
      have HWr := Lib.hid (HW0.out.gb hG.out (by omega) (by omega) (by omega) (by omega))
      obtain ⟨c1, -⟩ := HWr.out.row i hix
      rw [Nat.zero_add] at c1
      obtain ⟨l, e1, e2, e3⟩ := tsL_step xs r hix
      have E1 := Lib.hid e1
      have E2 := Lib.hid e2
      have E3 := Lib.hid e3
      clear e1 e2 e3
      generalize xs.getD i g0 = x at c1 E2 E3
      obtain ⟨wo, hwo⟩ : ∃ wo : World, wo = wr := ⟨_, rfl⟩
      go_wp2_with fail
      go_loopw [25] (fun z wx => ∃ j : Nat, j ≤ 2 ∧ z = .int .i64 j ∧ Hid (Row wx S 0 (if j = 0 then tsL xs r i else if j = 1 then (tsL xs r i).set i (l + x * g1) else tsL xs r (i + 1))) ∧ Hid (Gb S W0 wx)) (fun z _ => 2 - (intOf z).toNat)
      case atStart => exact ⟨0, by omega, rfl, hR, hG⟩
      case round =>
        clear hR hG HWr c1 hwo
        obtain ⟨j, hj, rfl, hR, hG⟩ := hrel
        have HWx := Lib.hid (HW0.out.gb hG.out (by omega) (by omega) (by omega) (by omega))
        have t1 : wr.cell? ⟨tb, 0, none⟩ = some (.pointer (some ⟨T, 0, none⟩)) := HWx.out.tab.cell 0
        have hjc : j = 0 ∨ j = 1 ∨ j = 2 := by omega
        rcases hjc with rfl | rfl | rfl
        · obtain ⟨b0, o0, e0, f0⟩ := Byts_at (HF0.out.gbx hG.out (by omega)) (i := 0) (by simp)
          obtain ⟨rfl, rfl⟩ : fb = b0 ∧ 0 = o0 := by simpa using e0
          rw [if_pos rfl] at hR
          obtain ⟨r1, r2⟩ := hR.out i (by rw [tsL_len _ _ (by omega)]; omega)
          rw [E1.out, Nat.zero_add] at r1
          rw [Nat.zero_add] at r2
          have HPR := Lib.hid (fun W' (h : Gr wr W') => product_any T x g1 W' (HWx.out.tabs.keep h))
          have hx := xor8 l (x * g1)
          have h1 : (([g1, r] : List G).getD 0 g0) = g1 := rfl
          rw [h1, Nat.zero_add] at f0
          have j1 : IntKind.i64.wrap (i : Int) = (i : Int) := IntWalk.i64_in _ (by omega)
          have j2 : (0 : Int) ≤ (i : Int) := by omega
          have j3 : (i : Int) < (n : Int) + 1 := by omega
          clear e0 h1
          go_wp2_with fail
          go_region_law (first | (go_simp; go_at_call 66; refine (HPR.out _ (by first | exact (Gr.refl _).drew | exact Gr.refl _)).mono ?_; rintro e w2 ⟨rfl, hg1⟩; have r1' := hg1.keep r1; have t1' := hg1.keep t1; have r2' := (frozen_gr hg1 (World.block_lt_of_cell? _ _ r1)).trans r2))
          all_goals
            go_wp2_with fail
            go_roundw
            case rel =>
              have hgd : Gr wr w2 := by first | exact hg1 | exact (Gr.refl _).drew.trans hg1
              refine ⟨1, by omega, by go_num, Lib.hid ?_, Lib.hid ((hG.out.trans (Gb.of hgd S)).put (i) _)⟩
              rw [if_neg (by omega), if_pos rfl]
              have := (hR.out.keep hgd).put (k := i) (by rw [tsL_len _ _ (by omega)]; omega) (l + x * g1)
              rwa [Nat.zero_add] at this
            case measure => simp [intOf] <;> omega
        · obtain ⟨b0, o0, e0, f0⟩ := Byts_at (HF0.out.gbx hG.out (by omega)) (i := 1) (by simp)
          obtain ⟨rfl, rfl⟩ : fb = b0 ∧ 0 = o0 := by simpa using e0
          rw [if_neg (by omega), if_pos rfl] at hR
          obtain ⟨r1, r2⟩ := hR.out (i + 1) (by rw [List.length_set, tsL_len _ _ (by omega)]; omega)
          rw [E2.out, Nat.zero_add] at r1
          rw [Nat.zero_add] at r2
          have HPR := Lib.hid (fun W' (h : Gr wr W') => product_any T x r W' (HWx.out.tabs.keep h))
          have hx := xor8 g0 (x * r)
          have h1 : (([g1, r] : List G).getD 1 g0) = r := rfl
          rw [h1, Nat.zero_add] at f0
          have j1 : IntKind.i64.wrap ((i : Int) + 1) = (i : Int) + 1 := IntWalk.i64_in _ (by omega)
          have j2 : (0 : Int) ≤ (i : Int) + 1 := by omega
          have j3 : (i : Int) + 1 < (n : Int) + 1 := by omega
          have j4 : (i : Int) < (n : Int) := by omega
          have j5 : ((i : Int) + 1).toNat = i + 1 := by omega
          clear e0 h1
          go_wp2_with fail
          go_region_law (first | (go_simp; go_at_call 66; refine (HPR.out _ (by first | exact (Gr.refl _).drew | exact Gr.refl _)).mono ?_; rintro e w2 ⟨rfl, hg1⟩; have r1' := hg1.keep r1; have t1' := hg1.keep t1; have r2' := (frozen_gr hg1 (World.block_lt_of_cell? _ _ r1)).trans r2))
          all_goals
            go_wp2_with fail
            go_roundw
            case rel =>
              have hgd : Gr wr w2 := by first | exact hg1 | exact (Gr.refl _).drew.trans hg1
              refine ⟨2, by omega, by go_num, Lib.hid ?_, Lib.hid ((hG.out.trans (Gb.of hgd S)).put (i + 1) _)⟩
              rw [if_neg (by omega), if_neg (by omega), E3.out]
              have := (hR.out.keep hgd).put (k := i + 1) (by rw [List.length_set, tsL_len _ _ (by omega)]; omega) (g0 + x * r)
              rwa [Nat.zero_add] at this
            case measure => simp [intOf] <;> omega
        · rw [if_neg (by omega), if_neg (by omega)] at hR
          go_wp2_with fail
          go_roundw
          case rel => exact ⟨i + 1, by omega, by go_num, hR, hG⟩
          case measure => simp [intOf] <;> omega
    · obtain rfl : i = n := by omega
      have HWr := Lib.hid (HW0.out.gb hG.out (by omega) (by omega) (by omega) (by omega))
      have HT : Hid (tsL xs r i = timesR xs r) := Lib.hid (by rw [← HLN.out, tsL_all])
      rw [HT.out] at hR
      have t1 : wr.cell? ⟨rb, 0, none⟩ = some (.slice (some ⟨g, 0, none⟩) i i) := HWr.out.res.cell 0
      have t2 := HWr.out.res.free 0
      have hRS := HWr.out.res.put 0 (.slice (some ⟨S, 0, none⟩) (i + 1) (i + 1))
      have HF : Hid (Wst rb tb T S (i + 1) (timesR xs r) (wr.setCell ⟨rb, 0, none⟩ (.slice (some ⟨S, 0, none⟩) (i + 1) (i + 1)))) := Lib.hid ⟨by simpa using hRS, (HWr.out.tab.other (by have := HWr.out.tab.differ HWr.out.res (by decide); exact this) _), (hR.out.gb ((Gb.refl rb _).put 0 _) (by omega)), (HWr.out.tabs.gb ((Gb.refl rb _).put 0 _) (by have := HTR.out; omega)), by rw [timesR_len, HLN.out]⟩
      have hgf := Lib.hid ((Gb.of (hG.out.gr HG0.out (by rw [HS.out]; exact Nat.le_refl _)) rb).put 0 (.slice (some ⟨S, 0, none⟩) (i + 1) (i + 1)))
      clear hRS
      go_wp2_with fail
      go_end0
      exact ⟨rfl, S, by rw [HS.out]; exact Nat.le_refl _, HF.out, hgf.out⟩

end Go.Proofs.Ytbkbgcapkhelhaa
