/- Layer 3: label's check. -/
import Derived.Test.YtbkbgcapkhelhaaLApp
import Derived.Test.YtbkbgcapkhelhaaLWith
namespace Go.Proofs.Ytbkbgcapkhelhaa
open Go.RowKit
set_option linter.unusedSimpArgs false

/-- The rest of the division: one step at place i. -/
def dvL (d : List G) : List G → Nat → List G
  | xs, 0 => xs
  | xs, i + 1 => let ys := dvL d xs i; ys.take i ++ addL (ys.drop i) (ys.getD i g0) d
theorem dvL_succ (d xs : List G) (i : Nat) : dvL d xs (i + 1) = (dvL d xs i).take i ++ addL ((dvL d xs i).drop i) ((dvL d xs i).getD i g0) d := rfl
theorem dvL_len (d xs : List G) : ∀ i, (dvL d xs i).length = xs.length
  | 0 => rfl
  | i + 1 => by
    have := dvL_len d xs i
    simp only [dvL, List.length_append, addL_len, List.length_take, List.length_drop]; omega
def chkL (s : List G) (p : Nat) : List G := (dvL (rootP ((List.range p).map gp)) (s ++ List.replicate p g0) s.length).drop s.length

theorem len255 : Try.prog.arrayLen 79 = 255 := by kernel_rfl
theorem powers_rd {T : Nat} {w : World} {p : Nat} (h : Tabs T w) (hp : p ≤ 255) : Byts w (some ⟨T, 0, none⟩) ((List.range p).map gp) := fun i x hx => by
  have hi : i < p := by have := (List.getElem?_eq_some_iff.1 hx).1; simpa using this
  rw [List.getElem?_map, List.getElem?_range hi] at hx
  obtain rfl := Option.some.inj hx
  refine ⟨_, 0, rfl, fun j v hv => ?_⟩
  have hj : j = 0 := by have := (List.getElem?_eq_some_iff.1 hv).1; rw [encG_len] at this; omega
  subst hj
  obtain rfl := Option.some.inj hv
  rw [Nat.zero_add, Nat.mul_one, Nat.add_zero]
  exact h.1 i (by omega)
set_option maxRecDepth 100000 in
set_option maxHeartbeats 4000000 in
theorem check_any (T : Nat) (s : ByteArray) (p : Nat) (w : World) (hT : Tabs T w) (hs : s.size ≤ 300) (hp : p ≤ 64) :
    Calls Try.prog 37 #[.pointer (some ⟨T, 0, none⟩), .string s, .int .i64 (p : Int)] w fun e w' => ∃ A c, e = .returned (.slice A p c) ∧ Byts w' A (chkL (gs s) p) ∧ Gr w w' := by
  have HT := Lib.hid hT
  have HTl := Lib.hid hT.lt
  clear hT
  have hsl : ∀ w, (Instr.sliceAt 79 (.pointer (some ⟨T, 0, none⟩)) none (some (.int .i64 (p : Int))) none).run Try.prog w = .ok (.slice (some ⟨T, 0, none⟩) p 255) w := fun w => by
    have h := run_sliceAt_array_h (P := Try.prog) (w := w) (t := 79) (a := ⟨T, 0, none⟩) Try.underlying79 .i64 (p : Int) (by omega) (by rw [len255]; omega)
    rw [h]; rfl
  have HPW : Hid (Byts w (some ⟨T, 0, none⟩) ((List.range p).map gp)) := Lib.hid (powers_rd HT.out (by omega))
  go_enter Try.func37, Try.ntmps37
  go_wp2_with fail
  refine (withRoots_any T (some ⟨T, 0, none⟩) p 255 ((List.range p).map gp) w HT.out (by simp) (by omega) HPW.out).mono ?_
  rintro e w1 ⟨gd, rfl, hd1, hd2, hg1⟩
  have HT1 := Lib.hid (HT.out.keep hg1)
  have HD1 := Lib.hid hd2
  have hg1' := Lib.hid hg1
  have hgd : gd < w1.heap.size := hd2.lt (by rw [rootP_len]; simp)
  have HDL : Hid ((rootP ((List.range p).map gp)).length = p + 1) := Lib.hid (by rw [rootP_len]; simp)
  have hcv := conv_bytes s w1
  have hcap : s.size ≤ grownCap w1 s.size 0 5 := grownCap_ge w1 _ _ _
  obtain ⟨g, c, w2, hap, hr2, hg2, hg2', hcc⟩ := app_zeros s p (grownCap w1 s.size 0 5) w1.drew hs hp hcap
  have HR2 := Lib.hid hr2
  have hg3 : Gr w1 w2 := (Gr.refl w1).drew.trans hg2
  have HG2 := Lib.hid hg3
  have hgg : w1.heap.size ≤ g := hg2'
  have HSZ := Lib.hid hg1.size
  clear hd2 hg1 hg2 hg3 hg2' hr2 hsl
  go_wp2_with (first | (simp only [hcv]) | (at_builtin; refine Lib.wpList_append_run _ rfl _ _ _ _ rfl _ _ rfl rfl _ _ (hap _) ?_))
  clear hap hcv hcap
  obtain ⟨n, hn⟩ : ∃ n, s.size = n := ⟨_, rfl⟩
  have HN := Lib.hid hn
  rw [hn] at hs hcc ⊢
  have HG0 : Hid (Gr w w2) := Lib.hid (by have := HG2.out; exact hg1'.out.trans this)
  go_loopw [23] (fun z wr => ∃ i : Nat, i ≤ n ∧ z = .int .i64 i ∧ Hid (Row wr g 0 (dvL (rootP ((List.range p).map gp)) (gs s ++ List.replicate p g0) i)) ∧ Hid (Gr w1 wr)) (fun z _ => n - (intOf z).toNat)
  case atStart => exact ⟨0, Nat.zero_le _, rfl, HR2, HG2⟩
  case round =>
    obtain ⟨i, hi, rfl, hRw, hG⟩ := hrel
    have hln : (dvL (rootP ((List.range p).map gp)) (gs s ++ List.replicate p g0) i).length = n + p := by
      rw [dvL_len, List.length_append, gs_len, List.length_replicate, HN.out]
    by_cases hlt : i < n
    · have HST := Lib.hid (dvL_succ (rootP ((List.range p).map gp)) (gs s ++ List.replicate p g0) i)
      generalize dvL (rootP ((List.range p).map gp)) (gs s ++ List.replicate p g0) i = xs at hRw hln HST
      obtain ⟨r1, r2⟩ := hRw.out i (by omega)
      rw [Nat.zero_add] at r1 r2
      have hRd : Row wr g i (xs.drop i) := by have := hRw.out.drop i; rwa [Nat.zero_add] at this
      have HADD := Lib.hid (fun W' (h : Gr wr W') (mc cc : Nat) => add_any T g i (n + p - i) cc (xs.drop i) (xs.getD i g0) (some ⟨gd, 0, none⟩) (p + 1) mc (rootP ((List.range p).map gp)) W' (HT1.out.keep (hG.out.trans h)) (by have := HT1.out.lt; omega) (hRd.keep h) (by rw [List.length_drop, hln]) ⟨(HD1.out.keep (hG.out.trans h)).pts, fun _ b o e => by obtain ⟨rfl, -⟩ : gd = b ∧ 0 = o := (by simpa using e); omega⟩ HDL.out (by omega) (by omega))
      have HTK : Hid (Row wr g 0 (xs.take i)) := Lib.hid (fun k hk => by
        have hk' : k < i := by simp at hk; omega
        have := hRw.out k (by omega)
        rw [List.getD_eq_getElem?_getD, List.getElem?_take, if_pos hk', ← List.getD_eq_getElem?_getD]
        exact this)
      have HXL := Lib.hid hln
      generalize xs.getD i g0 = f at r1 HADD HST
      clear hRd hln
      have hi0 : (0 : Int) ≤ (i : Int) := by omega
      have hi1 : (i : Int) ≤ (n : Int) + (p : Int) := by omega
      have hi2 : (i : Int) < (n : Int) + (p : Int) := by omega
      have hci : ¬ (c = i) := by omega
      go_wp2_with fail
      go_region_law (go_simp; go_at_call 53; refine (HADD.out _ (by first | exact (Gr.refl _).drew | exact Gr.refl _) _ _).mono ?_; rintro e w4 ⟨rfl, hA, hGb, -, hFr⟩)
      all_goals
        go_wp2_with fail
        go_roundw
        case rel =>
          have hgd' : Gr wr wr.drew := (Gr.refl _).drew
          refine ⟨i + 1, by omega, by go_num, Lib.hid ?_, Lib.hid ?_⟩
          · rw [HST.out]
            have hF := hFr (xs.take i) (by rw [List.length_take]; exact Nat.min_le_left _ _) (by first | exact HTK.out.keep hgd' | exact HTK.out)
            intro k hk
            have hk' : k < n + p := by have := hk; rw [List.length_append, addL_len, List.length_take, List.length_drop, HXL.out] at this; omega
            by_cases hki : k < i
            · have := hF k (by rw [List.length_take, HXL.out]; omega)
              rw [List.getD_eq_getElem?_getD, List.getElem?_append_left (by rw [List.length_take, HXL.out]; omega), ← List.getD_eq_getElem?_getD]
              exact this
            · have := hA (k - i) (by rw [addL_len, List.length_drop, HXL.out]; omega)
              rw [List.getD_eq_getElem?_getD, List.getElem?_append_right (by rw [List.length_take, HXL.out]; omega), ← List.getD_eq_getElem?_getD, List.length_take, HXL.out, show min i (n + p) = i by omega]
              rw [show i + (k - i) = 0 + k by omega] at this
              exact this
          · first
            | exact Gb.gr (hG.out.trans hgd') hGb hgg
            | exact Gb.gr hG.out hGb hgg
        case measure => simp [intOf] <;> omega
    · have hie : i = n := by omega
      have hlt' : ¬ ((i : Int) < (n : Int)) := by omega
      rw [hie] at hRw
      have hn1 : (n : Int) ≤ (n : Int) + (p : Int) := by omega
      have hgf := hg1'.out.trans hG.out
      have hrd := hRw.out.drop n
      rw [Nat.zero_add] at hrd
      have hln' : (dvL (rootP ((List.range p).map gp)) (gs s ++ List.replicate p g0) n).length = n + p := by rw [dvL_len, List.length_append, gs_len, List.length_replicate, HN.out]
      have HCK : Hid ((dvL (rootP ((List.range p).map gp)) (gs s ++ List.replicate p g0) n).drop n = chkL (gs s) p) := Lib.hid (by unfold chkL; rw [gs_len, HN.out])
      rw [HCK.out] at hrd
      have hlc : (chkL (gs s) p).length = p := by rw [← HCK.out, List.length_drop, hln']; omega
      have HRD := Lib.hid hrd
      have HGF := Lib.hid hgf
      clear hrd hgf hln' hln
      have hnp : n + p - n = p := by omega
      by_cases hcn : c = n
      · have hp0 : p = 0 := by omega
        go_wp2_with fail
        try rw [Exit.noGoto_ret]
        go_ret
        refine ⟨_, ⟨_, by first | rfl | rw [hnp] | (subst hp0; rfl)⟩, fun i x hx => ?_, HGF.out⟩
        have := (List.getElem?_eq_some_iff.1 hx).1
        first | omega | (rw [hp0] at this; rw [hp0] at hlc; omega) | (subst hp0; omega)
      · go_wp2_with fail
        try rw [Exit.noGoto_ret]
        go_ret
        exact ⟨_, ⟨_, by first | rfl | rw [hnp]⟩, HRD.out.pts, HGF.out⟩
end Go.Proofs.Ytbkbgcapkhelhaa
