/- The law CarveTurns as a walk. -/
import Derived.Test.YtcojionipffanabCAll
namespace Go.Proofs.Ytcojionipffanab
open Go.RowKit
set_option linter.unusedSimpArgs false

theorem tr_ok {bs : List Bl} (h : ∀ b ∈ bs, blB b = true) : ∀ b ∈ bs.reverse.map trB, blB b = true := fun b hb => by
  obtain ⟨c, hc, rfl⟩ := List.mem_map.1 hb
  have := (blB_iff _).1 (h c (List.mem_reverse.1 hc))
  exact (blB_iff _).2 (by dsimp only [trB]; omega)
theorem tr_step {bs : List Bl} {n j : Nat} (hn : bs.length = n) (hj : j < n) : (bs.reverse.take (n - (j + 1))).map trB ++ [trB (bl bs j)] = (bs.reverse.take (n - j)).map trB := by
  have hl : n - (j + 1) < bs.reverse.length := by rw [List.length_reverse]; omega
  rw [show n - j = n - (j + 1) + 1 by omega, List.take_add_one, getD_of (0, 0, 0) hl, Option.toList_some, List.map_append]
  congr 1
  have e : bs.reverse.getD (n - (j + 1)) (0, 0, 0) = bl bs j := by
    unfold bl
    rw [List.getD_eq_getElem?_getD, List.getD_eq_getElem?_getD, List.getElem?_reverse (by omega), show bs.length - 1 - (n - (j + 1)) = j by omega]
  rw [e]; rfl

set_option maxRecDepth 100000 in
set_option maxHeartbeats 4000000 in
theorem lawTurns_any (W0 H0 : Int) (A : Option Addr) (n c : Nat) (bs : List Bl) (w : World) (hn : bs.length = n) (hl : n ≤ 9223372036854775807) (_hc : n ≤ c) (_h0 : A = none → c = 0) (hp : Tris w A bs) :
    Calls Try.prog 7 #[.agg #[.int .i64 W0, .int .i64 H0, .slice A n c]] w fun e w' => e = .returned (.bool true) ∧ Gr w w' := by
  have HTM := Lib.hid (fun W' (g : Gr w W') => tame_any W0 H0 A n c bs 20 W' (by omega) (by omega) hn hl (hp.keep g))
  obtain ⟨W, H, e1, e2, hW, hH, h16, hbl⟩ := tame_task 20 (by omega) (by omega) W0 H0 bs
  rw [show ((20 : Nat) : Int) = 20 from rfl] at e1 e2
  rw [e1, e2] at HTM
  generalize tameL bs = qs at HTM h16 hbl
  obtain ⟨q, hq⟩ : ∃ q, qs.length = q := ⟨_, rfl⟩
  have HQ := Lib.hid hq
  rw [hq] at h16
  have HT := Lib.hid (task_ok (W := W) (H := H) (by omega) (by omega) (by omega) hbl)
  have HT2 := Lib.hid (task_ok (W := H) (H := W) (bs := qs.reverse.map trB) (by omega) (by omega) (by simp; omega) (tr_ok hbl))
  have HTR := Lib.hid (mst_tr qs W H)
  have HNN := Lib.hid (mst_nonneg qs W H)
  clear hn hl hp hq hbl e1 e2
  go_enter Try.func7, Try.ntmps7
  go_wp2_with fail
  generalize hW1 : World.alloc w _ = W1
  obtain ⟨hg, k1, k2, k3⟩ := task_box hW1
  clear hW1
  go_wp2_with fail
  refine (HTM.out _ hg).mono ?_
  rintro e w1 ⟨A1, c1, rfl, hc1, hT1, h01, -, hg1⟩
  rw [HQ.out]
  rw [HQ.out] at hc1
  replace hg := hg.trans hg1
  clear k1 k2 k3 hg1
  have HT1 := Lib.hid hT1
  clear hT1
  go_wp2_with fail
  obtain ⟨w2, hw2⟩ : ∃ w2, w1.alloc (.cells #[.int .i64 (W : Int), .int .i64 (H : Int), .slice A1 q c1] 24) = w2 := ⟨_, rfl⟩
  have hB2 : Blk w2 w1.heap.size 24 #[.int .i64 (W : Int), .int .i64 (H : Int), .slice A1 q c1] := by rw [← hw2]; exact Blk.new _ _ _ rfl
  have hg2 : Gr w1 w2 := by rw [← hw2]; exact (Gr.refl _).alloc _
  have hs2 : w2.heap.size = w1.heap.size + 1 := by rw [← hw2]; simp
  rw [hw2]
  replace hg := hg.trans hg2
  have HT2' := Lib.hid (HT1.out.keep hg2)
  have HB2 := Lib.hid hB2
  have HK := Lib.hid (Ot.start (x := H) (y := W) (Gr.refl w2) hs2)
  have HIB := Lib.hid (info_parts Try.infoBl)
  clear hw2 hg2 hs2 hB2 HT1 HTM
  generalize hS : w1.heap.size = S at HK HB2 ⊢
  generalize w2.alloc _ = W0' at HK ⊢
  clear hS
  go_loopw [5] (fun z wr => ∃ (j : Nat) (v : Value), j ≤ q ∧ z = .int .i64 ((j : Int) - 1) ∧ Hid (Ot w2 (S + 1) H W v ((qs.reverse.take (q - j)).map trB) wr)) (fun z _ => (intOf z + 1).toNat)
  case atStart => exact ⟨q, _, Nat.le_refl _, rfl, by rw [Nat.sub_self]; exact HK⟩
  case round =>
    obtain ⟨j, v, hj, rfl, hK⟩ := hrel
    have o1 : wr.cell? ⟨S, 0, none⟩ = some (.int .i64 (W : Int)) := (HB2.out.keep hK.out.gr).cell 0
    have o2 : wr.cell? ⟨S, 1, none⟩ = some (.int .i64 (H : Int)) := (HB2.out.keep hK.out.gr).cell 1
    have o3 : wr.cell? ⟨S, 2, none⟩ = some (.slice A1 q c1) := (HB2.out.keep hK.out.gr).cell 2
    cases j with
    | succ m =>
      rw [show (((m + 1 : Nat) : Int) - 1) = (m : Int) by omega]
      have t1 : (0 : Int) ≤ (m : Int) := by omega
      obtain ⟨⟨b0, b1, b2⟩, f0, f1, f2⟩ := hK.out.cells
      obtain ⟨bb, boff, rfl, q0, q1, q2⟩ := Tris_at (HT2'.out.keep hK.out.gr) (show m < qs.length by have := HQ.out; omega)
      rw [bl_getD] at q0 q1 q2
      have HX := Lib.hid (tr_step (j := m) HQ.out (by omega))
      generalize bl qs m = p at q0 q1 q2 HX
      have hK' := hK.out.keep ((Gr.refl wr).alloc (.cells #[.int .i64 p.1, .int .i64 p.2.1, .int .i64 p.2.2] 49))
      obtain ⟨⟨b0, b1, b2⟩, f0, f1, f2⟩ := hK'.cells
      obtain ⟨l, hl⟩ : ∃ l, (qs.reverse.take (q - (m + 1))).map trB = l := ⟨_, rfl⟩
      have hlen : l.length ≤ 16 := by rw [← hl]; simp; omega
      rw [hl] at hK' HX
      have hrow := hK'.row.alloc (.cells #[.int .i64 p.2.1, .int .i64 p.1, .int .i64 p.2.2] 49)
      have hsz := hK'.gr.size
      obtain ⟨i0, hi, hz0, hz1, hz2⟩ := HIB.out
      clear hl
      go_wp2_with (at_builtin; refine wpList_append_own _ rfl _ _ 22 rfl w2.heap.size 49 i0 _ 3 24 Try.underlying22 hi hz0 hz1 hz2 rfl (by decide) _ _ _ rfl hrow ⟨wr.heap.size + 1, 0, none⟩ 1 1 (enc3 (trB p)) rfl rfl ?a1 ?a2 ?a3 ?a4 ?a5 ?_)
      case a1 =>
        intro t u ht
        rw [Addr.add_lit]
        exact alloc_new (by simp) (by rw [Nat.zero_add]; simpa [enc3, trB] using ht)
      case a2 => exact fun u hu => enc3_one _ u hu
      case a3 => unfold maxLen; omega
      case a4 => omega
      case a5 => simp at hsz ⊢; omega
      intro v' w4 hown' hgrow _
      have hk2 := hK'.keep ((Gr.refl _).alloc (.cells #[.int .i64 p.2.1, .int .i64 p.1, .int .i64 p.2.2] 49))
      have hbk := hk2.out.grown hgrow (hk2.out.apart hk2.row (by decide))
      obtain ⟨A5, c5, rfl, -, -, -⟩ := own_row enc3_len (xs := l ++ [trB p]) (n := l.length + 1) (by simp) (by rw [flatE_snoc]; exact hown')
      have HK5 := Lib.hid (hk2.more hgrow hown')
      rw [HX.out] at HK5
      clear b0 b1 b2 f0 f1 f2 q0 q1 q2
      have z2 := hbk.free 2
      have y2 : w4.cell? ⟨S + 1, 2, none⟩ = some v := hbk.cell 2
      clear hk2 hbk hown' hgrow hrow hK' hi hz0 hz1 hz2
      go_wp2_with fail
      go_roundw
      case rel => exact ⟨m, _, by omega, rfl, HK5⟩
      case measure => simp [intOf] <;> omega
    | zero =>
      rw [show (((0 : Nat) : Int) - 1) = -1 by omega]
      rw [Nat.sub_zero, show (qs.reverse.take q) = qs.reverse by rw [List.take_of_length_le (by rw [List.length_reverse, HQ.out]; omega)]] at hK
      have hlr : (qs.reverse.map trB).length = q := by rw [List.length_map, List.length_reverse, HQ.out]
      have hrow := hK.out.row
      rw [hlr] at hrow
      obtain ⟨A5, c5, rfl, -, hrd, -⟩ := own_row enc3_len hlr hrow
      have HL := Lib.hid hlr
      have HR := Lib.hid hrd
      obtain ⟨⟨b0, b1, b2⟩, f0, f1, f2⟩ := hK.out.cells
      have hgr := hg.trans hK.out.gr
      have HT3 := Lib.hid (HT2'.out.keep hK.out.gr)
      clear hlr hrow hrd hg
      go_wp2_with fail
      refine (best_any W H A1 q c1 qs _ HQ.out (by omega) HT3.out HT.out).mono ?_
      rintro e w5 ⟨rfl, hg5⟩
      have hv := HNN.out
      rw [← HTR.out] at hv ⊢
      generalize hvv : mst (qs.reverse.map trB) H W = v5 at hv ⊢
      have HV := Lib.hid hvv
      clear hvv
      have b0' := hg5.keep b0
      have b1' := hg5.keep b1
      have b2' := hg5.keep b2
      have HR5 := Lib.hid (HR.out.keep hg5)
      have d1 : decide (0 ≤ v5) = true := decide_eq_true hv
      have d2 : (v5 == v5) = true := by simp
      go_wp2_with fail
      refine (best_any H W A5 q c5 _ _ HL.out (by omega) HR5.out HT2.out).mono ?_
      rintro e w6 ⟨rfl, hg6⟩
      rw [HV.out]
      go_wp2_with fail
      refine (cawake_any _).mono ?_
      rintro e w7 ⟨rfl, hg7⟩
      go_wp2_with fail
      try rw [Exit.noGoto_ret]
      go_ret
      exact ⟨rfl, ((hgr.trans hg5).trans hg6).trans hg7⟩

end Go.Proofs.Ytcojionipffanab
