/- Layer 5: letters to the sites of parts. -/
import Derived.Test.YtnoeiocbmhkmeaaPtW
namespace Go.Proofs.Ytnoeiocbmhkmeaa
open Go.RowKit
set_option linter.unusedSimpArgs false

def wrM (s : Sx) (k tx : Int) (p : Mv) : Ml := (s.num, p.1, k, tx, if k = 1 then p.2 else 0)
def wrL (s : Sx) (k tx : Int) (ps : List Mv) : List Ml := ps.map (wrM s k tx)
theorem wrL_take {s : Sx} {k tx : Int} {ps : List Mv} {i : Nat} {p : Mv} (h : ps[i]? = some p) : flatE enc5m (wrL s k tx (ps.take (i + 1))) = flatE enc5m (wrL s k tx (ps.take i)) ++ enc5m (wrM s k tx p) := by
  unfold wrL
  rw [List.take_add_one, h, Option.toList_some, List.map_append, flatE_app]
  simp [flatE]

set_option maxRecDepth 100000 in
set_option maxHeartbeats 8000000 in
theorem write5_any {B : Nat} {s : Sx} (k tx : Int) (A : Option Addr) (n c : Nat) (ps : List Mv) (w : World) (h : Its B w (siteIt s)) (hn : ps.length = n) (hl : n ≤ 512) (hp : Pts w A ps) :
    Calls Try.prog 57 #[.pointer (some ⟨s.p, 0, none⟩), .int .i64 k, .int .i64 tx, .slice A n c] w (LetP (wrL s k tx ps) w) := by
  have HN := Lib.hid hn
  have HP := Lib.hid hp
  have HC := Lib.hid h.sCells.1
  obtain ⟨i0, hi, hz0, hz1, hz2⟩ := info_parts Try.infoPtL
  have HI := Lib.hid (And.intro hi (And.intro hz0 (And.intro hz1 hz2)))
  have HWN := Lib.hid (fun p => show wrM s k tx p = (s.num, p.1, k, tx, if k = 1 then p.2 else 0) from rfl)
  have HWL := Lib.hid (fun i p (hp : ps[i]? = some p) => wrL_take (s := s) (k := k) (tx := tx) hp)
  have HWX : Hid (∀ i, (wrL s k tx (ps.take i)).length = min i n) := Lib.hid (fun i => by unfold wrL; rw [List.length_map, List.length_take, hn])
  clear hn hp h hi hz0 hz1 hz2
  go_enter Try.func57, Try.ntmps57
  go_wp2_with fail
  go_loopw [9, 15] (fun q z wr => ∃ (i : Nat) (A9 : Option Addr) (c9 : Nat), i ≤ n ∧ z = .int .i64 (i : Int) ∧ q = .slice A9 i c9 ∧ Hid (wr.ownsRow w.heap.size 87 5 (.slice A9 i c9) i (flatE enc5m (wrL s k tx (ps.take i)))) ∧ Gr w wr) (fun _ z _ => n - (intOf z).toNat)
  case atStart => exact ⟨0, none, 0, Nat.zero_le _, rfl, rfl, Lib.hid (World.ownsRow_nil _ _ _ _), Gr.refl _⟩
  case round =>
    obtain ⟨i, A9, c9, hin, rfl, rfl, hown, hgr⟩ := hrel
    by_cases hlt : i < n
    · obtain ⟨b, off, rfl, x0, x1⟩ := Pts_at (HP.out.keep hgr) (k := i) (by rw [HN.out]; exact hlt)
      have hpk : ps[i]? = some (ps.getD i (0, 0)) := getD_of (0, 0) (by rw [HN.out]; exact hlt)
      have HQ := Lib.hid (HWL.out i _ hpk)
      generalize ps.getD i (0, 0) = p at *
      obtain ⟨p1, p2⟩ := p
      dsimp only at x0 x1 HQ
      have hki : (i : Int) < (n : Int) := by omega
      clear hpk
      go_upto_region 5 with fail
      generalize hW : World.alloc wr _ = w5
      obtain ⟨hgW, k0, k1⟩ := box2q hW
      generalize wr.heap.size = Z at k0 k1 ⊢
      have HO5 := Lib.hid (owns_gr hown.out hgW)
      have hg5 := hgr.trans hgW
      have s0 := hg5.keep HC.out
      clear hW hgW hown hgr x0 x1
      refine wp_region_held_drew (S := (fun W' => W'.cell? ⟨s.p, 0, none⟩ = some (.int .i64 s.num) ∧ W'.cell? ⟨Z, 0, none⟩ = some (.int .i64 p1))) ?_ ?_ (fun hHeld => ?_)
      · kernel_rfl
      · ((try dsimp only); ((try go_split_ands); (repeat' apply And.intro) <;> (repeat (first | assumption | (exact Gr.refl _) | (refine Gr.drew ?_) | (refine Gr.alloc ?_ _) | (refine alloc_old ?_) | (refine Gr.keep (by assumption) ?_) | (refine Gr.trans ?_ (by assumption))))))
      refine take_in (i := 0) (v := ?_) (d := (some 19)) rfl rfl ?_ ?_ ?_ ?_ ?_ ?_ ?_ ?_
      rotate_left
      · kernel_rfl
      · kernel_rfl
      · kernel_rfl
      · (intro _ _ _ hq; exact hq)
      · rfl
      · (intro _w hSw; (try dsimp only at hSw); go_simp; try with_reducible rfl)
      · assumption
      try simp only [Act.put, List.setIfInBounds_toArray, List.set_cons_zero, List.set_cons_succ]
      refine take_in (i := 1) (v := ?_) (d := (some 20)) rfl rfl ?_ ?_ ?_ ?_ ?_ ?_ ?_ ?_
      rotate_left
      · kernel_rfl
      · kernel_rfl
      · kernel_rfl
      · (intro _ _ _ hq; exact hq)
      · rfl
      · (intro _w hSw; (try dsimp only at hSw); go_simp; try with_reducible rfl)
      · assumption
      try simp only [Act.put, List.setIfInBounds_toArray, List.set_cons_zero, List.set_cons_succ]
      refine take_in (i := 2) (v := ?_) (d := (some 21)) rfl rfl ?_ ?_ ?_ ?_ ?_ ?_ ?_ ?_
      rotate_left
      · kernel_rfl
      · kernel_rfl
      · kernel_rfl
      · (intro _ _ _ hq; exact hq)
      · rfl
      · (intro _w hSw; (try dsimp only at hSw); go_simp; try with_reducible rfl)
      · assumption
      try simp only [Act.put, List.setIfInBounds_toArray, List.set_cons_zero, List.set_cons_succ]
      refine take_in (i := 3) (v := ?_) (d := (some 22)) rfl rfl ?_ ?_ ?_ ?_ ?_ ?_ ?_ ?_
      rotate_left
      · kernel_rfl
      · kernel_rfl
      · kernel_rfl
      · (intro _ _ _ hq; exact hq)
      · rfl
      · (intro _w hSw; (try dsimp only at hSw); go_simp; try with_reducible rfl)
      · assumption
      try simp only [Act.put, List.setIfInBounds_toArray, List.set_cons_zero, List.set_cons_succ]
      refine take_in (i := 4) (v := ?_) (d := (some 23)) rfl rfl ?_ ?_ ?_ ?_ ?_ ?_ ?_ ?_
      rotate_left
      · kernel_rfl
      · kernel_rfl
      · kernel_rfl
      · (intro _ _ _ hq; exact hq)
      · rfl
      · (intro _w hSw; (try dsimp only at hSw); go_simp; try with_reducible rfl)
      · assumption
      try simp only [Act.put, List.setIfInBounds_toArray, List.set_cons_zero, List.set_cons_succ]
      refine take_in (i := 5) (v := ?_) (d := (some 24)) rfl rfl ?_ ?_ ?_ ?_ ?_ ?_ ?_ ?_
      rotate_left
      · kernel_rfl
      · kernel_rfl
      · kernel_rfl
      · (intro _ _ _ hq; exact hq)
      · rfl
      · (intro _w hSw; (try dsimp only at hSw); go_simp; try with_reducible rfl)
      · assumption
      try simp only [Act.put, List.setIfInBounds_toArray, List.set_cons_zero, List.set_cons_succ]
      refine take_in (i := 6) (v := ?_) (d := (some 25)) rfl rfl ?_ ?_ ?_ ?_ ?_ ?_ ?_ ?_
      rotate_left
      · kernel_rfl
      · kernel_rfl
      · kernel_rfl
      · (intro _ _ _ hq; exact hq)
      · rfl
      · (intro _w hSw; (try dsimp only at hSw); go_simp; try with_reducible rfl)
      · assumption
      try simp only [Act.put, List.setIfInBounds_toArray, List.set_cons_zero, List.set_cons_succ]
      refine take_in (i := 7) (v := ?_) (d := (some 26)) rfl rfl ?_ ?_ ?_ ?_ ?_ ?_ ?_ ?_
      rotate_left
      · kernel_rfl
      · kernel_rfl
      · kernel_rfl
      · (intro _ _ _ hq; exact hq)
      · rfl
      · (intro _w hSw; (try dsimp only at hSw); go_simp; try with_reducible rfl)
      · assumption
      try simp only [Act.put, List.setIfInBounds_toArray, List.set_cons_zero, List.set_cons_succ]
      refine take_in (i := 8) (v := ?_) (d := (some 27)) rfl rfl ?_ ?_ ?_ ?_ ?_ ?_ ?_ ?_
      rotate_left
      · kernel_rfl
      · kernel_rfl
      · kernel_rfl
      · (intro _ _ _ hq; exact hq)
      · rfl
      · (intro _w hSw; (try dsimp only at hSw); go_simp; try with_reducible rfl)
      · assumption
      try simp only [Act.put, List.setIfInBounds_toArray, List.set_cons_zero, List.set_cons_succ]
      refine wpAnyH_ready (rs := [9]) ?_ ?_ ?_
      · kernel_rfl
      · simp
      refine (AllReadyH.cons rfl (fun K hK => ?_) AllReadyH.nil)
      go_simp
      refine hK.out _ _ ?_ (fun hHeld => ?_)
      · ((try dsimp only); ((try go_split_ands); (repeat' apply And.intro) <;> (repeat (first | assumption | (exact Gr.refl _) | (refine Gr.drew ?_) | (refine Gr.alloc ?_ _) | (refine alloc_old ?_) | (refine Gr.keep (by assumption) ?_) | (refine Gr.trans ?_ (by assumption))))))
      clear hK K
      try simp only [Act.put, List.setIfInBounds_toArray, List.set_cons_zero, List.set_cons_succ]
      refine wpAnyH_ready (rs := [10]) ?_ ?_ ?_
      · kernel_rfl
      · simp
      refine (AllReadyH.cons rfl (fun K hK => ?_) AllReadyH.nil)
      go_simp
      refine hK.out _ _ ?_ (fun hHeld => ?_)
      · ((try dsimp only); ((try go_split_ands); (repeat' apply And.intro) <;> (repeat (first | assumption | (exact Gr.refl _) | (refine Gr.drew ?_) | (refine Gr.alloc ?_ _) | (refine alloc_old ?_) | (refine Gr.keep (by assumption) ?_) | (refine Gr.trans ?_ (by assumption))))))
      clear hK K
      try simp only [Act.put, List.setIfInBounds_toArray, List.set_cons_zero, List.set_cons_succ]
      refine wpAnyH_done ?_ ?_ _
      · kernel_rfl
      rotate_left
      all_goals
        have hgA : Gr w5 (w5.alloc (.cells #[.int .i64 s.num, .int .i64 p1, .int .i64 k, .int .i64 tx, .int .i64 0] 87)).drew := ((Gr.refl w5).alloc _).drew
        have hbA : Blk (w5.alloc (.cells #[.int .i64 s.num, .int .i64 p1, .int .i64 k, .int .i64 tx, .int .i64 0] 87)).drew w5.heap.size 87 #[.int .i64 s.num, .int .i64 p1, .int .i64 k, .int .i64 tx, .int .i64 0] := Blk.keep (w := w5.alloc _) (heap_alloc_new w5 _) (Gr.refl _).drew
        have hle := hg5.size
        have hle5 := Nat.le_refl w5.heap.size
        generalize World.drew _ = w6 at hgA hbA ⊢
        have x1 := hgA.keep k1
        have HO6 : Hid (∀ W, Gr w5 W → W.ownsRow w.heap.size 87 5 (.slice A9 i c9) i (flatE enc5m (wrL s k tx (ps.take i)))) := Lib.hid (fun W hW => owns_gr HO5.out hW)
        obtain ⟨T, hT⟩ : ∃ T, w5.heap.size = T := ⟨_, rfl⟩
        rw [hT] at hbA hle hle5 ⊢
        have f4 := hbA.free 4
        have e4 : w6.cell? ⟨T, 4, none⟩ = some (.int .i64 0) := hbA.cell 4
        have HB6 := Lib.hid hbA
        have HT := Lib.hid hT
        have HW := Lib.hid (HWN.out (p1, p2))
        clear hHeld k0 k1 HO5 hbA hT
        have key : ∃ (x5 : Int) (W : World), (wrM s k tx (p1, p2)) = (s.num, p1, k, tx, x5) ∧ (if k = 1 then w6.setCell ⟨T, 4, none⟩ (.int .i64 p2) else w6) = W ∧ Gr w5 W ∧ Blk W T 87 #[.int .i64 s.num, .int .i64 p1, .int .i64 k, .int .i64 tx, .int .i64 x5] := by
          by_cases h1 : k = 1
          · exact ⟨p2, _, by rw [HW.out, if_pos h1], if_pos h1, hgA.setCell (p := ⟨T, 4, none⟩) (by rw [HT.out]; exact Nat.le_refl _) _, HB6.out.put 4 _⟩
          · exact ⟨0, _, by rw [HW.out, if_neg h1], if_neg h1, hgA, HB6.out⟩
        obtain ⟨x5, W, hm, hW, hgW, hbW⟩ := key
        have HK := Lib.hid hm
        have HGW := Lib.hid hgW
        have HBW := Lib.hid hbW
        clear hm hgW hbW
        have hks : k = 1 ∨ k ≠ 1 := by omega
        rcases hks with rfl | h1
        · rw [if_pos rfl] at hW
          go_upto_region 8 with fail
          try rw [hW]
          clear hW f4 e4 x1
          have d0 : W.cell? ⟨T, 0, none⟩ = some (.int .i64 s.num) := HBW.out.cell 0
          have d1 : W.cell? ⟨T, 1, none⟩ = some (.int .i64 p1) := HBW.out.cell 1
          have d2 : W.cell? ⟨T, 2, none⟩ = some (.int .i64 1) := HBW.out.cell 2
          have d3 : W.cell? ⟨T, 3, none⟩ = some (.int .i64 tx) := HBW.out.cell 3
          have d4 : W.cell? ⟨T, 4, none⟩ = some (.int .i64 x5) := HBW.out.cell 4
          have HO7 := Lib.hid (HO6.out W HGW.out)
          have hgrW := hg5.trans HGW.out
          obtain ⟨hi, hz0, hz1, hz2⟩ := HI.out
          go_wp2_with go_loud (at_builtin; refine wpList_append_own _ rfl _ _ 30 rfl w.heap.size 87 i0 _ 5 40 Try.underlying30 hi hz0 hz1 hz2 rfl (by decide) _ _ _ rfl (HO7.out.alloc _) ⟨W.heap.size, 0, none⟩ 1 1 (enc5m (s.num, p1, 1, tx, x5)) rfl rfl ?a1 ?a2 ?a3 ?a4 ?a5 ?_)
          case a1 =>
            intro t u ht
            first
            | (rw [Addr.add_lit]; exact alloc_new rfl (by rw [Nat.zero_add]; simpa [enc5m] using ht))
            | simpa [enc5m] using ht
          case a2 => exact fun u hu => enc5m_one _ u hu
          case a3 => unfold maxLen; omega
          case a4 => omega
          case a5 => have := hgrW.size; simp; omega
          intro v' w10 hown' hgrow _
          have hal := hgrW.alloc (.cells #[.int .i64 s.num, .int .i64 p1, .int .i64 1, .int .i64 tx, .int .i64 x5] 87)
          have ho3 := HO7.out.alloc (.cells #[.int .i64 s.num, .int .i64 p1, .int .i64 1, .int .i64 tx, .int .i64 x5] 87)
          have hgf : Gr w w10 := Below.grown hal hgrow hal.size (fun t ht => (ho3.lt t ht).1)
          have hlen : (wrL s 1 tx (ps.take (i + 1))).length = i + 1 := (HWX.out (i + 1)).trans (Nat.min_eq_left (by omega))
          have hown5 : w10.ownsRow w.heap.size 87 5 v' (i + 1) (flatE enc5m (wrL s 1 tx (ps.take (i + 1)))) := by
            rw [HQ.out, HK.out]; exact hown'
          obtain ⟨A8, c8, rfl, -, -, -⟩ := own_row enc5m_len hlen hown5
          have HO8 := Lib.hid hown5
          clear hi hz0 hz1 hz2 hown' hgrow hal ho3 hown5 hlen hgrW HO7 d0 d1 d2 d3 d4
          go_wp2_with fail
          go_roundw
          case rel => exact ⟨i + 1, A8, c8, by omega, by go_num, rfl, HO8, hgf⟩
          case measure => simp [intOf]; omega
        · rw [if_neg h1] at hW
          go_upto_region 8 with fail
          try rw [hW]
          clear hW f4 e4 x1
          have d0 : W.cell? ⟨T, 0, none⟩ = some (.int .i64 s.num) := HBW.out.cell 0
          have d1 : W.cell? ⟨T, 1, none⟩ = some (.int .i64 p1) := HBW.out.cell 1
          have d2 : W.cell? ⟨T, 2, none⟩ = some (.int .i64 k) := HBW.out.cell 2
          have d3 : W.cell? ⟨T, 3, none⟩ = some (.int .i64 tx) := HBW.out.cell 3
          have d4 : W.cell? ⟨T, 4, none⟩ = some (.int .i64 x5) := HBW.out.cell 4
          have HO7 := Lib.hid (HO6.out W HGW.out)
          have hgrW := hg5.trans HGW.out
          obtain ⟨hi, hz0, hz1, hz2⟩ := HI.out
          go_wp2_with (at_builtin; refine wpList_append_own _ rfl _ _ 30 rfl w.heap.size 87 i0 _ 5 40 Try.underlying30 hi hz0 hz1 hz2 rfl (by decide) _ _ _ rfl (HO7.out.alloc _) ⟨W.heap.size, 0, none⟩ 1 1 (enc5m (s.num, p1, k, tx, x5)) rfl rfl ?a1 ?a2 ?a3 ?a4 ?a5 ?_)
          case a1 =>
            intro t u ht
            first
            | (rw [Addr.add_lit]; exact alloc_new rfl (by rw [Nat.zero_add]; simpa [enc5m] using ht))
            | simpa [enc5m] using ht
          case a2 => exact fun u hu => enc5m_one _ u hu
          case a3 => unfold maxLen; omega
          case a4 => omega
          case a5 => have := hgrW.size; simp; omega
          intro v' w10 hown' hgrow _
          have hal := hgrW.alloc (.cells #[.int .i64 s.num, .int .i64 p1, .int .i64 k, .int .i64 tx, .int .i64 x5] 87)
          have ho3 := HO7.out.alloc (.cells #[.int .i64 s.num, .int .i64 p1, .int .i64 k, .int .i64 tx, .int .i64 x5] 87)
          have hgf : Gr w w10 := Below.grown hal hgrow hal.size (fun t ht => (ho3.lt t ht).1)
          have hlen : (wrL s k tx (ps.take (i + 1))).length = i + 1 := (HWX.out (i + 1)).trans (Nat.min_eq_left (by omega))
          have hown5 : w10.ownsRow w.heap.size 87 5 v' (i + 1) (flatE enc5m (wrL s k tx (ps.take (i + 1)))) := by
            rw [HQ.out, HK.out]; exact hown'
          obtain ⟨A8, c8, rfl, -, -, -⟩ := own_row enc5m_len hlen hown5
          have HO8 := Lib.hid hown5
          clear hi hz0 hz1 hz2 hown' hgrow hal ho3 hown5 hlen hgrW HO7 d0 d1 d2 d3 d4
          go_wp2_with fail
          go_roundw
          case rel => exact ⟨i + 1, A8, c8, by omega, by go_num, rfl, HO8, hgf⟩
          case measure => simp [intOf]; omega
    · obtain rfl : i = n := by omega
      have htk : ps.take i = ps := List.take_of_length_le (by rw [HN.out]; exact Nat.le_refl _)
      have HLE : Hid ((wrL s k tx ps).length = i) := Lib.hid (by unfold wrL; rw [List.length_map, HN.out])
      rw [htk] at hown
      clear htk
      go_wp2_with fail
      go_ret
      obtain ⟨A7, c7, e, h1, h2, -⟩ := own_row enc5m_len HLE.out hown.out
      injection e with e1 _ e2
      exact ⟨A9, c9, by rw [HLE.out]; rfl, by rw [e1]; exact h2, hgr, by rw [HLE.out, e2]; exact h1⟩

end Go.Proofs.Ytnoeiocbmhkmeaa
