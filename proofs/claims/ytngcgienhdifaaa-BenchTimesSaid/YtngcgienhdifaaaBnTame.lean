/- Layer 4: the law's tame. -/
import Derived.Test.YtngcgienhdifaaaBnLaw
import Derived.Deep.CutRange
import Derived.StillTailTactics
namespace Go.Proofs.Ytngcgienhdifaaa
open Go.RowKit
set_option linter.unusedSimpArgs false

/-- the laws' remainder of any number by a positive one -/
def modL (x n : Int) : Int := wrap64 ((IntKind.u64.wrap x).tmod n)

theorem modL_le {x n : Int} (h1 : 0 < n) (h2 : n ≤ 9223372036854775807) : 0 ≤ modL x n ∧ modL x n < n := by
  have hx : 0 ≤ IntKind.u64.wrap x := by
    simp only [IntKind.wrap, IntKind.signed]
    first | (exact Int.emod_nonneg _ (by decide)) | omega
  have e : (IntKind.u64.wrap x).tmod n = (IntKind.u64.wrap x) % n := Int.tmod_eq_emod_of_nonneg hx
  have a := Int.emod_nonneg (IntKind.u64.wrap x) (by omega : n ≠ 0)
  have b := Int.emod_lt_of_pos (IntKind.u64.wrap x) h1
  unfold modL
  rw [e, show wrap64 (IntKind.u64.wrap x % n) = IntKind.u64.wrap x % n from IntWalk.wrap64_in _ (by omega)]
  exact ⟨a, b⟩

set_option maxRecDepth 100000 in
theorem mod4_any (x n : Int) (w : World) (h1 : 0 < n) (h2 : n ≤ 9223372036854775807) :
    Calls Try.prog 27 #[.int .i64 x, .int .i64 n] w fun e w' => e = .returned (.int .i64 (modL x n)) ∧ w' = w := by
  have e0 : IntKind.u64.wrap n = n := by
    simp only [IntKind.wrap, IntKind.signed]
    first | (exact Int.emod_eq_of_lt (by omega) (by simp [IntKind.bits]; omega)) | omega
  have e1 : (n == 0) = false := by simp; omega
  go_enter Try.func27, Try.ntmps27
  go_wp2_with fail
  go_ret
  exact ⟨rfl, rfl⟩


/-- A job made valid. -/
def tmJ (q : Jb) : Jb := if okJ q = true then q else (modL q.1 12, modL q.1 12 + 1 + modL q.2.1 9, 1 + modL q.2.2 6)
theorem tmJ_ok (q : Jb) : okJ (tmJ q) = true := by
  unfold tmJ
  split
  · assumption
  · have h1 := modL_le (x := q.1) (n := 12) (by omega) (by omega)
    have h2 := modL_le (x := q.2.1) (n := 9) (by omega) (by omega)
    have h3 := modL_le (x := q.2.2) (n := 6) (by omega) (by omega)
    unfold okJ
    exact decide_eq_true (by dsimp only; omega)
/-- A number of benches made valid. -/
def tmB (B : Int) : Int := if 1 ≤ B ∧ B ≤ 8 then B else 1 + modL B 8
theorem tmB_ok (B : Int) : 1 ≤ tmB B ∧ tmB B ≤ 8 := by
  unfold tmB
  have := modL_le (x := B) (n := 8) (by omega) (by omega)
  split <;> omega
/-- Jobs made valid. -/
def tmL4 (most : Nat) (l : List Jb) : List Jb := (l.take most).map tmJ
theorem tm_task {B : Int} {most : Nat} {l : List Jb} (h : most ≤ 32) : okT (tmB B) (tmL4 most l) = true := by
  unfold okT
  have := tmB_ok B
  rw [decide_eq_true this.1, decide_eq_true this.2, decide_eq_true (by unfold tmL4; rw [List.length_map, List.length_take]; omega)]
  simp only [Bool.true_and, List.all_eq_true]
  intro x hx
  obtain ⟨q, -, rfl⟩ := List.mem_map.1 hx
  exact tmJ_ok q

theorem ret_tm {a b : Int} {v : Value} (h : a = b) : Ending.returned (.tuple #[.int .i64 b, v]) = .returned (.tuple #[.int .i64 a, v]) := by rw [h]
set_option maxRecDepth 100000 in
set_option maxHeartbeats 16000000 in
theorem tame_any (B : Int) (most : Nat) (hmost : most ≤ 32) (A : Option Addr) (n c : Nat) (l : List Jb) (w : World) (k0 : Nat) (hk0 : (tmL4 most l).length = k0) (hn : l.length = n) (_hl : n ≤ 9223372036854775807) (hp : Tris w A l) :
    Calls Try.prog 25 #[.int .i64 B, .slice A n c, .int .i64 (most : Int)] w fun e w' => ∃ A' c', e = .returned (.tuple #[.int .i64 (tmB B), .slice A' k0 c']) ∧ Tris w' A' (tmL4 most l) ∧ (A' = none → c' = 0) ∧ k0 ≤ c' ∧ Gr w w' := by
  obtain ⟨i0, hi, hz0, hz1, hz2⟩ := info_parts Try.infoBnJ
  have HI := Lib.hid (And.intro hi (And.intro hz0 (And.intro hz1 hz2)))
  have hke : k0 = min n most := by rw [← hk0]; unfold tmL4; rw [List.length_map, List.length_take]; omega
  have HK := Lib.hid hk0
  have HN := Lib.hid hn
  have HP := Lib.hid hp
  have HB : Hid ((1 ≤ B ∧ B ≤ 8 ∧ tmB B = B) ∨ ((B < 1 ∨ 8 < B) ∧ tmB B = 1 + modL B 8)) := Lib.hid (by
    unfold tmB
    by_cases h : 1 ≤ B ∧ B ≤ 8
    · exact Or.inl ⟨h.1, h.2, if_pos h⟩
    · exact Or.inr ⟨by omega, if_neg h⟩)
  clear hk0 hn hp hi hz0 hz1 hz2
  go_enter Try.func25, Try.ntmps25
  go_wp2_with fail
  go_loopw [8, 9] (fun q z wr => ∃ (k : Nat) (A8 : Option Addr) (c8 : Nat), k ≤ n ∧ k ≤ most ∧ z = .int .i64 (k : Int) ∧ q = .slice A8 k c8 ∧ Hid (wr.ownsRow w.heap.size 50 3 (.slice A8 k c8) k (flatE enc3 ((l.take k).map tmJ))) ∧ Gr w wr) (fun _ z _ => n - (intOf z).toNat)
  case atStart => exact ⟨0, none, 0, Nat.zero_le _, Nat.zero_le _, rfl, rfl, Lib.hid (World.ownsRow_nil w _ _ _), Gr.refl _⟩
  case round =>
    obtain ⟨k, A8, c8, hkn, hkm, rfl, rfl, hown, hgr⟩ := hrel
    by_cases hlt : k < n ∧ k < most
    · obtain ⟨h1, h2⟩ := hlt
      have hi1 : (k : Int) < (n : Int) := by omega
      have hi2 : (k : Int) < (most : Int) := by omega
      have hkl : k < l.length := by rw [HN.out]; exact h1
      obtain ⟨b, off, rfl, x0, x1, x2⟩ := Tris_at (HP.out.keep hgr) (i := k) hkl
      have HQ : Hid (flatE enc3 ((l.take (k + 1)).map tmJ) = flatE enc3 ((l.take k).map tmJ) ++ enc3 (tmJ (l.getD k (0, 0, 0)))) := Lib.hid (by rw [take_snoc l (0, 0, 0) k hkl, List.map_append, flatE_app]; simp [flatE])
      generalize l.getD k (0, 0, 0) = q at x0 x1 x2 HQ
      have hd1 : decide ((k : Int) < (n : Int)) = true := decide_eq_true hi1
      have hd2 : decide ((k : Int) < (most : Int)) = true := decide_eq_true hi2
      go_upto_region 6 with fail
      generalize hW1 : World.alloc wr _ = w1
      have hg1 : Gr wr w1 := by rw [← hW1]; exact (Gr.refl wr).alloc _
      have hZ : Blk w1 wr.heap.size 50 #[.int .i64 q.1, .int .i64 q.2.1, .int .i64 q.2.2] := by rw [← hW1]; exact heap_alloc_new wr _
      have hOT : (Value.slice A8 k c8).ownBlock ≠ some wr.heap.size := fun e => Nat.lt_irrefl _ ((hown.out.lt _ e).2)
      have hTle : w.heap.size ≤ wr.heap.size := hgr.size
      generalize wr.heap.size = T at hZ hOT hTle ⊢
      have HOT := Lib.hid hOT
      have HO1 := Lib.hid (owns_gr hown.out hg1)
      have HZ1 := Lib.hid hZ
      have hgr1 := hgr.trans hg1
      have p0 := hZ.cell 0
      have p1 := hZ.cell 1
      have p2 := hZ.cell 2
      obtain ⟨r2, hr2⟩ : ∃ r, okJ q = r := ⟨_, rfl⟩
      have HJ := Lib.hid (rJob_any q w1 r2 hr2)
      have HR2 := Lib.hid hr2
      clear hW1 hZ hOT hg1 x0 x1 x2 hown hgr hr2 hkl
      go_wp2_with fail
      refine HJ.out.mono ?_
      rintro e w3 ⟨rfl, hg3⟩
      have HZ3 := Lib.hid (HZ1.out.keep hg3)
      have HO3 := Lib.hid (owns_gr HO1.out hg3)
      have hgr3 := hgr1.trans hg3
      clear HJ HZ1 HO1 hgr1 hg3 p0 p1 p2
      go_upto_if 28 with fail
      go_cut [] from 29 to 45 (fun wx => Hid (Blk wx T 50 #[.int .i64 (tmJ q).1, .int .i64 (tmJ q).2.1, .int .i64 (tmJ q).2.2]) ∧ Hid (Gr w wx) ∧ Hid (wx.ownsRow w.heap.size 50 3 (.slice A8 k c8) k (flatE enc3 ((l.take k).map tmJ))))
      case first =>
        cases r2 with
        | false =>
          have HF : Hid (tmJ q = (modL q.1 12, modL q.1 12 + 1 + modL q.2.1 9, 1 + modL q.2.2 6)) := Lib.hid (by unfold tmJ; rw [if_neg (by rw [HR2.out]; simp)])
          obtain ⟨a, b_, c_⟩ := q
          have p0 := HZ3.out.cell 0
          have f0 := HZ3.out.free 0
          have hM1 := modL_le (x := a) (n := 12) (by omega) (by omega)
          have hM2 := modL_le (x := b_) (n := 9) (by omega) (by omega)
          have hM3 := modL_le (x := c_) (n := 6) (by omega) (by omega)
          have HC1 := Lib.hid (fun W => mod4_any a 12 W (by omega) (by omega))
          have HC2 := Lib.hid (fun W => mod4_any b_ 9 W (by omega) (by omega))
          have HC3 := Lib.hid (fun W => mod4_any c_ 6 W (by omega) (by omega))
          dsimp only at HZ3 HF p0 f0
          generalize modL a 12 = m1 at HF hM1 HC1
          generalize modL b_ 9 = m2 at HF hM2 HC2
          generalize modL c_ 6 = m3 at HF hM3 HC3
          go_wp2_with fail
          refine (HC1.out _).mono ?_
          rintro e w4 ⟨rfl, rfl⟩
          go_upto_region 8 with fail
          have HZ4 : Hid (Blk (w4.setCell ⟨T, 0, none⟩ (.int .i64 m1)) T 50 #[.int .i64 m1, .int .i64 b_, .int .i64 c_]) := Lib.hid (HZ3.out.put 0 (.int .i64 m1))
          have HO4 := Lib.hid (ownsRow_setCell_other (a := ⟨T, 0, none⟩) HO3.out HOT.out (.int .i64 m1))
          have hgr4 : Gr w (w4.setCell ⟨T, 0, none⟩ (.int .i64 m1)) := hgr3.setCell hTle _
          clear p0 f0
          generalize w4.setCell _ _ = w5 at HZ4 HO4 hgr4 ⊢
          have p0 := HZ4.out.cell 0
          have p1 := HZ4.out.cell 1
          have f1 := HZ4.out.free 1
          have w1e : IntKind.i64.wrap (m1 + 1) = m1 + 1 := IntWalk.i64_in _ (by omega)
          have w2e : IntKind.i64.wrap (m1 + 1 + m2) = m1 + 1 + m2 := IntWalk.i64_in _ (by omega)
          have w3e : IntKind.i64.wrap (1 + m3) = 1 + m3 := IntWalk.i64_in _ (by omega)
          go_wp2_with fail
          go_still_tail 8, (by kernel_rfl)
          refine wpStill_step (fun K hK => ?_)
          go_simp
          refine ⟨_, HC2.out _, hK _ ?_⟩
          clear hK K
          repeat still_step
          try refine wpStill_nil ?_
          change wpList _ _ _ _ _ w5.drew
          have HZ5 := Lib.hid (HZ4.out.keep (Gr.refl w5).drew)
          have HO5 := Lib.hid (owns_gr HO4.out (Gr.refl w5).drew)
          have hgr5 := hgr4.drew
          clear p0 p1 f1 HZ4 HO4 hgr4
          generalize w5.drew = w6 at HZ5 HO5 hgr5 ⊢
          have p1 := HZ5.out.cell 1
          have f1 := HZ5.out.free 1
          go_upto_region 9 with fail
          have HZ6 : Hid (Blk (w6.setCell ⟨T, 1, none⟩ (.int .i64 (m1 + 1 + m2))) T 50 #[.int .i64 m1, .int .i64 (m1 + 1 + m2), .int .i64 c_]) := Lib.hid (HZ5.out.put 1 (.int .i64 (m1 + 1 + m2)))
          have HO6 := Lib.hid (ownsRow_setCell_other (a := ⟨T, 1, none⟩) HO5.out HOT.out (.int .i64 (m1 + 1 + m2)))
          have hgr6 : Gr w (w6.setCell ⟨T, 1, none⟩ (.int .i64 (m1 + 1 + m2))) := hgr5.setCell hTle _
          clear p1 f1 HZ5 HO5 hgr5
          generalize w6.setCell _ _ = w7 at HZ6 HO6 hgr6 ⊢
          have p2 := HZ6.out.cell 2
          have f2 := HZ6.out.free 2
          go_wp2_with fail
          refine (HC3.out _).mono ?_
          rintro e w8 ⟨rfl, rfl⟩
          go_wp2_with fail
          go_meet
          rw [HF.out]
          exact ⟨Lib.hid (HZ6.out.put 2 (.int .i64 (1 + m3))), Lib.hid (hgr6.setCell hTle _), Lib.hid (ownsRow_setCell_other (a := ⟨T, 2, none⟩) HO6.out HOT.out (.int .i64 (1 + m3)))⟩
        | true =>
          have HF : Hid (tmJ q = q) := Lib.hid (by unfold tmJ; rw [if_pos HR2.out])
          go_wp2_with fail
          go_meet
          rw [HF.out]
          exact ⟨HZ3, Lib.hid hgr3, HO3⟩
      case rest =>
        obtain ⟨HZ4, HG4, HO4⟩ := hcut
        clear HZ3 HO3 hgr3 HR2
        have p0 := HZ4.out.cell 0
        have p1 := HZ4.out.cell 1
        have p2 := HZ4.out.cell 2
        generalize tmJ q = q' at HZ4 p0 p1 p2 HQ
        obtain ⟨hi, hz0, hz1, hz2⟩ := HI.out
        have hgc := HG4.out
        go_wp2_with (at_builtin; refine wpList_append_own _ rfl _ _ 22 rfl w.heap.size 50 i0 _ 3 24 Try.underlying22 hi hz0 hz1 hz2 rfl (by decide) _ _ _ rfl (HO4.out.alloc _) ⟨wc.heap.size, 0, none⟩ 1 1 (enc3 q') rfl rfl ?a1 ?a2 ?a3 ?a4 ?a5 ?_)
        case a1 =>
          intro t u ht
          rw [Addr.add_lit]
          exact alloc_new rfl (by rw [Nat.zero_add]; simpa [enc3] using ht)
        case a2 => exact fun u hu => enc3_one _ u hu
        case a3 => unfold maxLen; omega
        case a4 => omega
        case a5 => have := hgc.size; simp; omega
        intro v' w4 hown' hgrow _
        have hal := hgc.alloc (.cells #[.int .i64 q'.1, .int .i64 q'.2.1, .int .i64 q'.2.2] 50)
        have ho3 := HO4.out.alloc (.cells #[.int .i64 q'.1, .int .i64 q'.2.1, .int .i64 q'.2.2] 50)
        have hgf : Gr w w4 := Below.grown hal hgrow hal.size (fun t ht => (ho3.lt t ht).1)
        have hown5 : w4.ownsRow w.heap.size 50 3 v' (k + 1) (flatE enc3 ((l.take (k + 1)).map tmJ)) := by rw [HQ.out, List.map_take]; exact hown'
        obtain ⟨A9, c9, rfl, -, -, -⟩ := own_row enc3_len (xs := (l.take (k + 1)).map tmJ) (by rw [List.length_map, List.length_take, HN.out]; omega) hown5
        have HO5 := Lib.hid hown5
        clear hi hz0 hz1 hz2 hown' hgrow hal ho3 hown5 HO4 HZ4 HG4 hgc p0 p1 p2
        go_wp2_with fail
        go_roundw
        case rel => exact ⟨k + 1, A9, c9, by omega, by omega, by go_num, rfl, HO5, hgf⟩
        case measure => simp [intOf]; omega
    · have hkk : k = k0 := by omega
      have HL : Hid ((l.take k).map tmJ = tmL4 most l) := Lib.hid (by
        unfold tmL4
        congr 1
        by_cases e : k = most
        · rw [e]
        · rw [List.take_of_length_le (by rw [HN.out]; omega), List.take_of_length_le (by rw [HN.out]; omega)])
      rw [HL.out] at hown
      obtain ⟨A5, c5, he5, g1, g2, g3⟩ := own_row enc3_len (HK.out.trans hkk.symm) hown.out
      cases he5
      have HGG := Lib.hid (And.intro g1 (And.intro g2 g3))
      have hv : (¬ k < n ∧ decide ((k : Int) < (n : Int)) = false) ∨ ((k < n ∧ decide ((k : Int) < (n : Int)) = true) ∧ decide ((k : Int) < (most : Int)) = false ∧ ¬ k < most ∧ decide (k < most) = false) := by
        by_cases e : k < n
        · exact Or.inr ⟨⟨e, decide_eq_true (by omega)⟩, decide_eq_false (by omega), by omega, decide_eq_false (by omega)⟩
        · exact Or.inl ⟨e, decide_eq_false (by omega)⟩
      subst hkk
      clear hlt g1 g2 g3 hown hke
      rcases hv with ⟨d1, d2⟩ | ⟨⟨d1, d2⟩, d3, d4, d5⟩
      all_goals
        rcases HB.out with ⟨b1, b2, b3⟩ | ⟨b1 | b1, b3⟩
        · have HB3 := Lib.hid b3
          clear b3
          go_wp2_with fail
          refine bodyPost_ret (v := .tuple #[.int .i64 B, .slice A8 k c8]) ?_ ?_ ?_
          · simp [results, Try.results25, go_sem]
          · rfl
          · exact ⟨_, _, ret_tm HB3.out, HGG.out.2.1, HGG.out.2.2, HGG.out.1, hgr⟩
        all_goals
          have HBM := Lib.hid (mod4_any B 8 wr (by omega) (by omega))
          have hMB := modL_le (x := B) (n := 8) (by omega) (by omega)
          have HB3 := Lib.hid b3
          clear b3
          generalize modL B 8 = mb at HBM hMB HB3
          have w4e : IntKind.i64.wrap (1 + mb) = 1 + mb := IntWalk.i64_in _ (by omega)
          go_wp2_with fail
          refine HBM.out.mono ?_
          rintro e w4 ⟨rfl, rfl⟩
          go_wp2_with fail
          refine bodyPost_ret (v := .tuple #[.int .i64 (1 + mb), .slice A8 k c8]) ?_ ?_ ?_
          · simp [results, Try.results25, go_sem]
          · rfl
          · exact ⟨_, _, ret_tm HB3.out, HGG.out.2.1, HGG.out.2.2, HGG.out.1, hgr⟩

end Go.Proofs.Ytngcgienhdifaaa
