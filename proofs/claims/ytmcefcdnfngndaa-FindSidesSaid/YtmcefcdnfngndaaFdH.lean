/- Layer 7: Find, walked. -/
import Derived.Test.YtmcefcdnfngndaaFdG
namespace Go.Proofs.Ytmcefcdnfngndaa
open Go.RowKit Go.Shelf
attribute [local go_sem] Oper.semAt_some
set_option linter.unusedSimpArgs false

set_option maxRecDepth 1000000 in
set_option maxHeartbeats 8000000 in
theorem find_any (s p : ByteArray) (n c d : Nat) (o : List Nat) (A B : Option Addr) (w : World) (hX : Idx s n o A c B d w) :
    Calls Try.prog 19 #[.agg #[.string s, .slice A n c, .slice B n d], .string p] w fun e w' => ∃ A' c', e = .returned (.slice A' (occN (bts s) (bts p)) c') ∧ w'.ownsRow w.heap.size 3 1 (.slice A' (occN (bts s) (bts p)) c') (occN (bts s) (bts p)) (flatE enc1 (nI (occL (bts s) (bts p)))) ∧ Gr w w' := by
  have HX := Lib.hid hX
  have HOC := Lib.hid (fun W (hW : Gr w W) => occurrences_any s p n c d o A B W (hX.keep hW) w.heap.size (fun b off e hn => by
    obtain ⟨b', off', e', hc⟩ := hX.atO (i := 0) hn
    rw [e] at e'
    obtain ⟨rfl, rfl⟩ : b = b' ∧ off = off' := by simpa using e'
    exact World.block_lt_of_cell? w _ hc))
  have hnb : n ≤ 4096 := hX.le
  obtain ⟨i0, hi, hz0, hz1, hz2⟩ := info_parts Try.infoFdI
  clear hX
  refine (callsIn_wide (n := 3)).1 ?_
  refine callsIn_of_wp_marks Try.func19 rfl trivial ?_ rfl
  simp only [Try.ntmps19, List.size_toArray, List.length_cons, List.length_nil, Nat.reduceAdd, Nat.reduceSub, Array.replicate_succ, Array.replicate_zero, List.push_toArray, List.append_toArray, List.nil_append, List.cons_append]
  gi_wp2
  generalize hW1 : World.alloc _ _ = w1
  have hg1 : Gr w w1 := by rw [← hW1]; exact (((Gr.refl w).alloc _).alloc _).alloc _
  obtain ⟨X, hXX⟩ : ∃ X, w.heap.size = X := ⟨_, rfl⟩
  have hBO : Blk w1 (X + 1 + 1) 23 #[.slice (some ⟨X + 1, 0, none⟩) 0 0] := by
    rw [← hW1, ← hXX]
    exact Blk.new ((w.alloc _).alloc _) _ _ (by show (Array.push (Array.push _ _) _).size = _; rw [Array.size_push, Array.size_push])
  have hown1 : w1.ownsRow X 3 1 (.slice (some ⟨X + 1, 0, none⟩) 0 0) 0 [] := by
    have h := (World.ownsRow_lit (base := X) (e := 3) (size := 1) (w.alloc (.cells #[.string s, .slice A n c, .slice B n d] 25)) #[] 0 (by rw [← hXX]; show _ ≤ (Array.push _ _).size; rw [Array.size_push]; omega) (by unfold maxLen; omega) rfl).alloc (.cells #[.slice (some ⟨X + 1, 0, none⟩) 0 0] 23)
    have e1 : (w.alloc (.cells #[.string s, .slice A n c, .slice B n d] 25)).heap.size = X + 1 := by show (Array.push _ _).size = _; rw [Array.size_push, hXX]
    rw [e1] at h
    rw [← hW1, hXX]
    exact h
  have HO1 := Lib.hid (HOC.out w1 hg1)
  rw [hXX]
  clear hW1 HOC
  refine ⟨trivial, (callsIn_wide.2 HO1.out).mono ?_⟩
  rintro e w2 ⟨Bs, fr, t, A', c', rfl, hP, hbs, hsl, hlt, hg2⟩
  have HP := Lib.hid hP
  have htop := hP.top
  rw [HX.out.olen] at htop
  have hzl : (nI ((o.drop fr).take (t - fr))).length = t - fr := by rw [nI_len, List.length_take, List.length_drop, HX.out.olen]; omega
  obtain ⟨zs, hzs⟩ : ∃ zs, nI ((o.drop fr).take (t - fr)) = zs := ⟨_, rfl⟩
  rw [hzs] at hsl hzl
  rw [hXX] at hsl
  have HZS := Lib.hid hzs
  rw [← hzl] at hbs
  have hzb : zs.length ≤ 4096 := by omega
  have hB2 : Below X w w2 := by rw [← hXX]; exact hg1.trans hg2
  have hXs : X ≤ w2.heap.size := by rw [← hXX]; exact hB2.size
  have bO : Boxed w2 (X + 1 + 1) 23 (.slice (some ⟨X + 1, 0, none⟩) 0 0) := hBO.keep hg2
  have hown2 := owns_gr hown1 hg2
  clear hP hzs hBO hown1 HO1
  gi_wp2
  refine wpIn_rangeFunc_ownG rfl (by omega) (gf := 55) (lb := #[.pointer (some ⟨Bs, 0, none⟩)]) rfl trivial (enters_of Try.func55 (by kernel_rfl) rfl)
    (iter_stops 2 (by omega) Bs X A' c' zs (by omega) w2 hlt hXs hbs hsl) belowK_t (belowK_b hXs) (Below.refl _ _) (fun _ => rfl)
    (fun pre W => (∃ v, Boxed W (X + 1 + 1) 23 v ∧ W.ownsRow X 3 1 v pre.length (pre.map (Value.int .i64)) ∧ True) ∧ Below X w W)
    (fun _ _ _ => False)
    (OwnFrom.and (Own.from (holdsRow_own X (X + 1 + 1) 23 3 1 (fun pre : List Int => pre.length) (fun pre : List Int => pre.map (Value.int .i64)) (fun _ _ => True)) _) (ownFrom_below (Nat.le_of_eq hXX.symm) hXs))
    (fun _ _ _ _ _ hs _ _ => hs)
    ⟨⟨_, bO, hown2, trivial⟩, hB2⟩
    (fun x => { tmps := #[.agg #[.string s, .slice A n c, .slice B n d], .string p, .pointer (some ⟨X, 0, none⟩), undef, .slice none 0 0, .pointer (some ⟨X + 1 + 1, 0, none⟩), .int .i64 x, .slice (some ⟨X + 1, 0, none⟩) 0 0, .agg #[.string s, .slice A n c, .slice B n d], .string p, .func (.func 55) #[] #[.pointer (some ⟨Bs, 0, none⟩)], .int .i64 x, undef, undef, undef, undef, undef, undef, undef], defers := [] }) ?assign ?body ?done ?stop
  case assign =>
    intro l x W K hK
    gi_wp2
    exact hK
  case body =>
    rintro l pre x W ⟨⟨v, hv, hrow, -⟩, hB⟩ hlt
    have hc := hv.cell
    gi_wp2_with (gi_at_builtin; refine wpListIn_append_own _ rfl _ _ 23 rfl X 3 i0 (.int .i64 0) 1 8 Try.underlying23 hi hz0 hz1 hz2 rfl (by decide) _ _ _ rfl (hrow.alloc _) ⟨W.heap.size, 0, none⟩ 1 1 [.int .i64 x] rfl rfl (cell_one_new _ _ _) (by simp [Value.oneCell']) (by unfold maxLen; omega) (by omega) (by have := hB.size; simp; omega) ?_; intro v' w1 hown' hgrow _; obtain ⟨g', cap', rfl⟩ := ownsRow_succ hown'; obtain ⟨hv1, hv2, hr2, hk2, hb2⟩ := hv.appended (by decide) hrow (by have := hB.size; omega) (by omega) hown' hgrow; have hc1 := hv1.cell; have hf1 := hv1.frozen)
    exact ⟨hk2.from _, hb2, ⟨_, hv2, by simpa using hr2, trivial⟩, hB.trans hb2⟩
  case done =>
    rintro D ys W hD rfl ⟨⟨v, hv, hrow, -⟩, hB⟩ hK
    have hc := hv.cell
    have HSR := Lib.hid (sort_any X v ys.length ys W rfl (by omega) hrow (by have := hB.size; omega))
    have HVL : Hid ((occN (bts s) (bts p)) = ys.length ∧ ys.mergeSort (fun x y => decide (x ≤ y)) = nI (occL (bts s) (bts p))) := Lib.hid (by
      have hpm := place_perm HX.out.ord HP.out
      refine ⟨?_, by rw [← HZS.out]; exact sorted_occ hpm⟩
      rw [← occL_len, ← hpm.length_eq, ← HZS.out, nI_len])
    have hnB := own_not hrow (D := X + 1 + 1) (show W.heap[X + 1 + 1]? = _ from hv) (fun cs e => by injection e with _ e2; exact absurd e2 (by decide))
    have hnD := own_not hrow hK (fun cs e => by cases e)
    gi_wp2
    refine ⟨trivial, (callsIn_wide.2 HSR.out).mono ?_⟩
    rintro e w5 ⟨rfl, hrow5, hb5, hk5⟩
    have hK5 := hk5 D _ hK hnD
    have hv5 : Boxed w5 (X + 1 + 1) 23 v := hk5 _ _ hv hnB
    have hc5 := hv5.cell
    clear HSR hc
    gi_wp2
    refine ⟨by simp, .inl ⟨_, _, rfl, run_takeDeferred hK5, ?_⟩⟩
    rw [HVL.out.2, enc1_map, ← HVL.out.1] at hrow5
    obtain ⟨A7, c7, rfl, -⟩ := own_row enc1_len (by rw [nI_len, occL_len]) hrow5
    exact ⟨_, results_tmp rfl _ _ _, A7, c7, rfl, by rw [hXX]; exact ownsRow_putObj hrow5 _ hK5 rfl, (by show Below w.heap.size w _; rw [hXX]; exact (hB.trans hb5).trans (belowK_b (w := w2) hXs w5 D _ _ hD hK5 rfl rfl))⟩
  case stop =>
    rintro D c pre W _ _ h _
    exact h.elim

end Go.Proofs.Ytmcefcdnfngndaa
