/- Separate. -/
import Derived.Test.YthleajmamkihaaaMeeting
namespace Go.Proofs.Ythleajmamkihaaa
open Go.RowKit
set_option linter.unusedSimpArgs false

theorem chainL_memb (ps : List (Int × Int)) : ∀ x ∈ chainL ps, x ∈ ps := by
  have h : ∀ (ps st : List (Int × Int)), ∀ x ∈ chainR st ps, x ∈ st ∨ x ∈ ps := by
    intro ps
    induction ps with
    | nil => intro st x hx; exact .inl hx
    | cons p ps ih =>
      intro st x hx
      unfold chainR at hx
      rcases ih _ x hx with h | h
      · rcases List.mem_cons.1 h with rfl | h
        · exact .inr (List.mem_cons_self ..)
        · exact .inl (popR_mem p st x h)
      · exact .inr (List.mem_cons_of_mem _ h)
  intro x hx
  unfold chainL at hx
  rcases h ps [] x (List.mem_reverse.1 hx) with h | h
  · simp at h
  · exact h
theorem cornersL_mem (ps : List (Int × Int)) : ∀ x ∈ cornersL ps, x ∈ ps := by
  intro x hx
  unfold cornersL at hx
  split at hx
  · exact sdL_mem ps x hx
  · rcases List.mem_append.1 hx with h | h
    · exact sdL_mem ps x (chainL_memb _ x (List.dropLast_subset _ h))
    · exact sdL_mem ps x (List.mem_reverse.1 (chainL_memb _ x (List.dropLast_subset _ h)))
theorem cornersL_co {ps : List (Int × Int)} (h : Cos ps) : Cos (cornersL ps) := Cos_all fun p hp => all_Cos h p (cornersL_mem ps p hp)
theorem cornersL_len (ps : List (Int × Int)) (h : 1 ≤ ps.length) : 1 ≤ (cornersL ps).length ∧ (cornersL ps).length ≤ 2 * ps.length := by
  have h1 := sdL_pos ps h
  have h2 := sdL_len ps
  unfold cornersL
  split
  · omega
  · have h3 := chainL_two (sdL ps) (by omega)
    have h4 := chainL_le (sdL ps)
    have h5 := chainL_le (sdL ps).reverse
    rw [List.length_reverse] at h5
    rw [List.length_append, List.length_dropLast, List.length_dropLast]
    omega

def sepV (H1 H2 : List (Int × Int)) : Value :=
  match lineL H1 H2 with
  | some t => apartV false 0 0 0 t.1 t.2.1 t.2.2
  | none => apartV true (sharedL H1 H2).1 (sharedL H1 H2).2.1 (sharedL H1 H2).2.2 0 0 0

set_option maxRecDepth 100000 in
set_option maxHeartbeats 4000000 in
theorem Separate_yes (A B : Option Addr) (n c n' c' : Nat) (ps qs : List (Int × Int)) (w : World) (hn : ps.length = n) (hn' : qs.length = n') (h1 : 1 ≤ n) (h1' : 1 ≤ n') (hl : n ≤ 512) (hl' : n' ≤ 512)
    (hp : Pts w A ps) (hq : Pts w B qs) (hv : (ps.all fun p => vld p.1 p.2) = true) (hv' : (qs.all fun p => vld p.1 p.2) = true) :
    Calls Try.prog 28 #[.slice A n c, .slice B n' c'] w fun e w' => e = .returned (.tuple #[sepV (cornersL ps) (cornersL qs), .int .i64 0]) ∧ Gr w w' := by
  have HN := Lib.hid hn
  have HN' := Lib.hid hn'
  have HP := Lib.hid hp
  have HQ := Lib.hid hq
  have HV := Lib.hid hv
  have HV' := Lib.hid hv'
  have HL1 := Lib.hid (cornersL_len ps (by omega))
  have HL2 := Lib.hid (cornersL_len qs (by omega))
  have HC1 := Lib.hid (cornersL_co (Cos_of hv))
  have HC2 := Lib.hid (cornersL_co (Cos_of hv'))
  have HT : Hid ((decide (1 ≤ n ∧ n ≤ 512) && ps.all fun p => vld p.1 p.2) = true) := Lib.hid (by rw [hv]; simp; omega)
  have HT' : Hid ((decide (1 ≤ n' ∧ n' ≤ 512) && qs.all fun p => vld p.1 p.2) = true) := Lib.hid (by rw [hv']; simp; omega)
  clear hn hn' hp hq hv hv'
  generalize hSV : sepV (cornersL ps) (cornersL qs) = SV
  have HSV : Hid (SV = match lineL (cornersL ps) (cornersL qs) with
    | some t => apartV false 0 0 0 t.1 t.2.1 t.2.2
    | none => apartV true (sharedL (cornersL ps) (cornersL qs)).1 (sharedL (cornersL ps) (cornersL qs)).2.1 (sharedL (cornersL ps) (cornersL qs)).2.2 0 0 0) := Lib.hid hSV.symm
  clear hSV
  go_enter Try.func28, Try.ntmps28
  go_wp2_with fail
  generalize hW : World.alloc w _ = W
  have hgW : Gr w W := by rw [← hW]; exact (Gr.refl _).alloc _
  have hBk : Blk W w.heap.size 69 #[.bool false, .int .i64 0, .int .i64 0, .int .i64 0, .int .i64 0, .int .i64 0, .int .i64 0] := by rw [← hW]; exact heap_alloc_new w _
  clear hW
  have HB := Lib.hid hBk
  clear hBk
  refine (isSet_any A n c ps _ HN.out (by omega) (HP.out.keep hgW) _ HT.out).mono ?_
  rintro e w1 ⟨rfl, hg⟩
  go_wp2_with fail
  refine (isSet_any B n' c' qs _ HN'.out (by omega) (HQ.out.keep (hgW.trans hg)) _ HT'.out).mono ?_
  rintro e w2 ⟨rfl, hb⟩
  replace hg := hg.trans hb
  clear hb
  go_wp2_with fail
  refine (corners_any A n c ps _ HN.out (by omega) (by omega) (HP.out.keep (hgW.trans hg)) (Cos_of HV.out)).mono ?_
  rintro e w3 ⟨g1, c1, rfl, hc1, -, hO1, hb⟩
  replace hg := hg.trans hb
  clear hb
  have HO1 := Lib.hid hO1.pts
  clear hO1
  go_wp2_with fail
  refine (corners_any B n' c' qs _ HN'.out (by omega) (by omega) (HQ.out.keep (hgW.trans hg)) (Cos_of HV'.out)).mono ?_
  rintro e w4 ⟨g2, c2, rfl, hc2, -, hO2, hb⟩
  replace hg := hg.trans hb
  have HO1 := Lib.hid (HO1.out.keep hb)
  have HO2 := Lib.hid hO2.pts
  clear hO2 hb
  obtain ⟨m1, hm1⟩ : ∃ m, (cornersL ps).length = m := ⟨_, rfl⟩
  obtain ⟨m2, hm2⟩ : ∃ m, (cornersL qs).length = m := ⟨_, rfl⟩
  have hlm1 : 1 ≤ m1 ∧ m1 ≤ 1024 := by have := HL1.out; have := HN.out; omega
  have hlm2 : 1 ≤ m2 ∧ m2 ≤ 1024 := by have := HL2.out; have := HN'.out; omega
  rw [hm1] at hc1 ⊢
  rw [hm2] at hc2 ⊢
  generalize cornersL ps = H1 at hm1 HO1 HC1 HSV ⊢
  generalize cornersL qs = H2 at hm2 HO2 HC2 HSV ⊢
  have HM1 := Lib.hid hm1
  have HM2 := Lib.hid hm2
  clear hm1 hm2 HL1 HL2 HT HT' HV HV' HP HQ
  go_wp2_with fail
  refine (line_any g1 m1 c1 g2 m2 c2 H1 H2 _ HM1.out HM2.out (by omega) (by omega) (by omega) (by omega) hc1 hc2 HO1.out HO2.out HC1.out HC2.out).mono ?_
  rintro e w5 ⟨rfl, hb⟩
  replace hg := hg.trans hb
  rcases hline : lineL H1 H2 with _ | ⟨u, v, t⟩
  · rw [hline] at HSV
    simp only [lineV, apartV]
    go_wp2_with fail
    generalize hW : World.alloc w5 _ = W2
    have hgW2 : Gr w5 W2 := by rw [← hW]; exact (Gr.refl _).alloc _
    clear hW
    refine (shared_any _ _ m1 c1 m2 c2 H1 H2 _ HM1.out HM2.out (by omega) (by omega) (HO1.out.keep (hb.trans hgW2)) (HO2.out.keep (hb.trans hgW2)) HC1.out HC2.out).mono ?_
    rintro e w6 ⟨rfl, hb6⟩
    replace hg := (hg.trans hgW2).trans hb6
    generalize sharedL H1 H2 = m at HSV ⊢
    obtain ⟨px, py, pd⟩ := m
    simp only [placeV]
    obtain ⟨⟨r0, r1, r2, r3, r4, r5, r6⟩, z0, z1, z2, z3, z4, z5, z6⟩ := Blk7 ((HB.out.keep hg).keep ((Gr.refl _).alloc (.cells #[.int .i64 px, .int .i64 py, .int .i64 pd] 96)))
    go_wp2_with fail
    refine bodyPost_ret (v := .tuple #[apartV true px py pd 0 0 0, .int .i64 0]) ?_ rfl ⟨by rw [HSV.out], ?_⟩
    · simp [results, Try.results28, r0, r1, r2, r3, r4, r5, r6, go_sem, apartV]
    · exact Gr.set7 ((hgW.trans hg).alloc _) (Nat.le_refl _)
  · rw [hline] at HSV
    simp only [lineV, apartV]
    obtain ⟨⟨r0, r1, r2, r3, r4, r5, r6⟩, z0, z1, z2, z3, z4, z5, z6⟩ := Blk7 ((HB.out.keep hg).keep ((Gr.refl _).alloc (.cells #[.bool false, .int .i64 0, .int .i64 0, .int .i64 0, .int .i64 u, .int .i64 v, .int .i64 t] 69)))
    go_wp2_with fail
    refine bodyPost_ret (v := .tuple #[apartV false 0 0 0 u v t, .int .i64 0]) ?_ rfl ⟨by rw [HSV.out], ?_⟩
    · simp [results, Try.results28, r0, r1, r2, r3, r4, r5, r6, go_sem, apartV]
    · exact Gr.set7 ((hgW.trans hg).alloc _) (Nat.le_refl _)

set_option maxRecDepth 100000 in
set_option maxHeartbeats 4000000 in
theorem Separate_no (A B : Option Addr) (n c n' c' : Nat) (ps qs : List (Int × Int)) (w : World) (hn : ps.length = n) (hn' : qs.length = n') (hl : n ≤ 281474976710656) (hl' : n' ≤ 281474976710656)
    (hp : Pts w A ps) (hq : Pts w B qs) (h : ((decide (1 ≤ n ∧ n ≤ 512) && ps.all fun p => vld p.1 p.2) && (decide (1 ≤ n' ∧ n' ≤ 512) && qs.all fun p => vld p.1 p.2)) = false) :
    Calls Try.prog 28 #[.slice A n c, .slice B n' c'] w fun e w' => e = .returned (.tuple #[apartV false 0 0 0 0 0 0, .int .i64 2]) ∧ Gr w w' := by
  have HN := Lib.hid hn
  have HN' := Lib.hid hn'
  have HP := Lib.hid hp
  have HQ := Lib.hid hq
  clear hn hn' hp hq
  rcases ha : (decide (1 ≤ n ∧ n ≤ 512) && ps.all fun p => vld p.1 p.2) with _ | _
  · have HT := Lib.hid ha
    clear ha h
    go_enter Try.func28, Try.ntmps28
    go_wp2_with fail
    generalize hW : World.alloc w _ = W
    have hgW : Gr w W := by rw [← hW]; exact (Gr.refl _).alloc _
    have hBk : Blk W w.heap.size 69 #[.bool false, .int .i64 0, .int .i64 0, .int .i64 0, .int .i64 0, .int .i64 0, .int .i64 0] := by rw [← hW]; exact heap_alloc_new w _
    clear hW
    have HB := Lib.hid hBk
    clear hBk
    refine (isSet_any A n c ps _ HN.out (by omega) (HP.out.keep hgW) _ HT.out).mono ?_
    rintro e w1 ⟨rfl, hg⟩
    obtain ⟨⟨r0, r1, r2, r3, r4, r5, r6⟩, z0, z1, z2, z3, z4, z5, z6⟩ := Blk7 (HB.out.keep hg)
    go_wp2_with fail
    refine bodyPost_ret (v := .tuple #[apartV false 0 0 0 0 0 0, .int .i64 2]) ?_ rfl ⟨rfl, ?_⟩
    · simp [results, Try.results28, r0, r1, r2, r3, r4, r5, r6, go_sem, apartV]
    · exact Gr.set7 (hgW.trans hg) (Nat.le_refl _)
  · have HT := Lib.hid ha
    have HT' := Lib.hid (show (decide (1 ≤ n' ∧ n' ≤ 512) && qs.all fun p => vld p.1 p.2) = false by rw [ha] at h; exact h)
    clear ha h
    go_enter Try.func28, Try.ntmps28
    go_wp2_with fail
    generalize hW : World.alloc w _ = W
    have hgW : Gr w W := by rw [← hW]; exact (Gr.refl _).alloc _
    have hBk : Blk W w.heap.size 69 #[.bool false, .int .i64 0, .int .i64 0, .int .i64 0, .int .i64 0, .int .i64 0, .int .i64 0] := by rw [← hW]; exact heap_alloc_new w _
    clear hW
    have HB := Lib.hid hBk
    clear hBk
    refine (isSet_any A n c ps _ HN.out (by omega) (HP.out.keep hgW) _ HT.out).mono ?_
    rintro e w1 ⟨rfl, hg⟩
    go_wp2_with fail
    refine (isSet_any B n' c' qs _ HN'.out (by omega) (HQ.out.keep (hgW.trans hg)) _ HT'.out).mono ?_
    rintro e w2 ⟨rfl, hb⟩
    replace hg := hg.trans hb
    obtain ⟨⟨r0, r1, r2, r3, r4, r5, r6⟩, z0, z1, z2, z3, z4, z5, z6⟩ := Blk7 (HB.out.keep hg)
    go_wp2_with fail
    refine bodyPost_ret (v := .tuple #[apartV false 0 0 0 0 0 0, .int .i64 2]) ?_ rfl ⟨rfl, ?_⟩
    · simp [results, Try.results28, r0, r1, r2, r3, r4, r5, r6, go_sem, apartV]
    · exact Gr.set7 (hgW.trans hg) (Nat.le_refl _)

end Go.Proofs.Ythleajmamkihaaa
