/- Layer 3: withRoots.
Layer 3: label's check.
Layer 3: label.Encode. -/
import Derived.Test.YtpnkpejnahhajaaGreatBc5
import Derived.Laws.EntriesVeiled
import Derived.Deep.CutRange
import Derived.Test.YtpnkpejnahhajaaGreatBc4
namespace Go.Proofs.YtpnkpejnahhajaaGreat
open Go.RowKit
set_option linter.unusedSimpArgs false

theorem rootsL_snoc (rs : List G) (r : G) : ∀ q : List G, rootsL q (rs ++ [r]) = timesR (rootsL q rs) r := by
  induction rs with
  | nil => intro q; rfl
  | cons s t ih => intro q; exact ih _

set_option maxRecDepth 100000 in
set_option maxHeartbeats 2000000 in
theorem withRoots_any (T : Nat) (A : Option Addr) (m mc : Nat) (rs : List G) (w : World) (hT : Tabs T w) (hm : rs.length = m) (hl : m ≤ 300) (hr : Byts w A rs) :
    Calls Tryz.prog 94 #[.pointer (some ⟨T, 0, none⟩), .slice A m mc] w fun e w' => ∃ g, e = .returned (.slice (some ⟨g, 0, none⟩) (m + 1) (m + 1)) ∧ w.heap.size ≤ g ∧ Row w' g 0 (rootP rs) ∧ Gr w w' := by
  have HT := Lib.hid hT
  have HR := Lib.hid hr
  have HM := Lib.hid hm
  have HTl := Lib.hid hT.lt
  clear hT hr hm
  go_enter Tryz.func94, Tryz.ntmps94
  go_upto_region 3 with fail
  have hb1 : Blk (((w.alloc (.cells #[.pointer (some ⟨T, 0, none⟩)] 123)).alloc (.cells #[.int .u8 1] 5)).alloc (.cells #[.slice (some ⟨w.heap.size + 1, 0, none⟩) 1 1] 59)) (w.heap.size + 1 + 1) 59 #[.slice (some ⟨w.heap.size + 1, 0, none⟩) 1 1] := Blk.new _ _ _ (by simp)
  have hb2 : Blk (((w.alloc (.cells #[.pointer (some ⟨T, 0, none⟩)] 123)).alloc (.cells #[.int .u8 1] 5)).alloc (.cells #[.slice (some ⟨w.heap.size + 1, 0, none⟩) 1 1] 59)) w.heap.size 123 #[.pointer (some ⟨T, 0, none⟩)] := ((Blk.new w _ _ rfl).alloc _).alloc _
  have hb3 : BG (((w.alloc (.cells #[.pointer (some ⟨T, 0, none⟩)] 123)).alloc (.cells #[.int .u8 1] 5)).alloc (.cells #[.slice (some ⟨w.heap.size + 1, 0, none⟩) 1 1] 59)) (w.heap.size + 1) [g1] := (Blk.new _ _ _ (by simp)).alloc _
  have hg0 : Gr w (((w.alloc (.cells #[.pointer (some ⟨T, 0, none⟩)] 123)).alloc (.cells #[.int .u8 1] 5)).alloc (.cells #[.slice (some ⟨w.heap.size + 1, 0, none⟩) 1 1] 59)) := (((Gr.refl w).alloc _).alloc _).alloc _
  have HW := Lib.hid (Wst.mk hb1 hb2 hb3.row (HT.out.keep hg0) rfl)
  have HG := Lib.hid hg0
  clear hb1 hb2 hb3 hg0
  generalize (((w.alloc _).alloc _).alloc _) = W0 at HW HG ⊢
  have HSZ := Lib.hid (Nat.le_refl w.heap.size)
  generalize hS : w.heap.size = S at HW HTl HSZ ⊢
  have HS := Lib.hid hS
  clear hS
  go_wp2_with fail
  go_loopw [13] (fun z wr => ∃ k g : Nat, k ≤ m ∧ z = .int .i64 k ∧ S ≤ g ∧ Hid (Wst (S + 1 + 1) S T g (k + 1) (rootP (rs.take k)) wr) ∧ Hid (Gr w wr)) (fun z _ => m - (intOf z).toNat)
  case atStart => exact ⟨0, S + 1, Nat.zero_le _, rfl, by omega, HW, HG⟩
  case round =>
    obtain ⟨k, g, hk, rfl, hgS, hW, hG⟩ := hrel
    by_cases hlt : k < m
    · have hkl : k < rs.length := by have := HM.out; omega
      obtain ⟨b, off, rfl, c0⟩ := Byts_at (HR.out.keep hG.out) hkl
      have HST : Hid (rootP (rs.take (k + 1)) = timesR (rootP (rs.take k)) (rs.getD k g0)) := Lib.hid (by
        unfold rootP
        rw [List.take_add_one, getD_of g0 hkl]
        exact rootsL_snoc _ _ _)
      generalize rs.getD k g0 = r at c0 HST
      have HF := Lib.hid (BG.new wr [g1, r] rfl).pts
      have hga : Gr wr (wr.alloc (.cells (gcs [g1, r]) 5)) := (Gr.refl wr).alloc _
      have HWA := Lib.hid (hW.out.keep hga)
      have HGA := Lib.hid (hG.out.trans hga)
      clear hga
      have HMU := Lib.hid (mult_any (S + 1 + 1) S T g (k + 1) wr.heap.size 2 (rootP (rs.take k)) r _ (by omega) (by omega) (by have := HTl.out; omega) HWA.out HF.out)
      go_wp2_with fail
      refine HMU.out.mono ?_
      rintro e w2 ⟨rfl, g', hg', hW', hGb⟩
      have HW2 := Lib.hid hW'
      have HG2 : Hid (Gr w w2) := Lib.hid (hGb.gr HGA.out (by rw [HS.out]; omega))
      have hsz : S ≤ g' := by have := HGA.out.size; have := HS.out; omega
      clear hW' hGb
      go_wp2_with fail
      go_roundw
      case rel => exact ⟨k + 1, g', by omega, by go_num, hsz, by rw [HST.out]; exact HW2, HG2⟩
      case measure => simp [intOf] <;> omega
    · obtain rfl : k = m := by omega
      have t1 : wr.cell? ⟨S + 1 + 1, 0, none⟩ = some (.slice (some ⟨g, 0, none⟩) (k + 1) (k + 1)) := hW.out.res.cell 0
      have HF : Hid (rs.take k = rs) := Lib.hid (List.take_of_length_le (by have := HM.out; omega))
      rw [HF.out] at hW
      go_wp2_with fail
      go_ret
      exact ⟨g, rfl, by rw [HS.out]; exact hgS, hW.out.row, hG.out⟩

end Go.Proofs.YtpnkpejnahhajaaGreat

namespace Go.Proofs.YtpnkpejnahhajaaGreat
open Go.RowKit
set_option linter.unusedSimpArgs false

/-- The rest of the division: one step at place i. -/
def dvL (d : List G) : List G → Nat → List G
  | xs, 0 => xs
  | xs, i + 1 => let ys := dvL d xs i; ys.take i ++ addL (ys.drop i) (ys.getD i g0) d
theorem dvL_succ (d xs : List G) (i : Nat) : dvL d xs (i + 1) = (dvL d xs i).take i ++ addL ((dvL d xs i).drop i) ((dvL d xs i).getD i g0) d := rfl
theorem dvL_len (d xs : List G) : ∀ i, (dvL d xs i).length = xs.length
  | 0 => rfl
  | i + 1 => by
    have := dvL_len d xs i
    simp only [dvL, List.length_append, addL_len, List.length_take, List.length_drop]; omega
def chkL (s : List G) (p : Nat) : List G := (dvL (rootP ((List.range p).map gp)) (s ++ List.replicate p g0) s.length).drop s.length

theorem len255 : Tryz.prog.arrayLen 172 = 255 := by kernel_rfl
theorem powers_rd {T : Nat} {w : World} {p : Nat} (h : Tabs T w) (hp : p ≤ 255) : Byts w (some ⟨T, 0, none⟩) ((List.range p).map gp) := fun i x hx => by
  have hi : i < p := by have := (List.getElem?_eq_some_iff.1 hx).1; simpa using this
  rw [List.getElem?_map, List.getElem?_range hi] at hx
  obtain rfl := Option.some.inj hx
  refine ⟨_, 0, rfl, fun j v hv => ?_⟩
  have hj : j = 0 := by have := (List.getElem?_eq_some_iff.1 hv).1; rw [encG_len] at this; omega
  subst hj
  obtain rfl := Option.some.inj hv
  rw [Nat.zero_add, Nat.mul_one, Nat.add_zero]
  exact h.1 i (by omega)
set_option maxRecDepth 100000 in
set_option maxHeartbeats 4000000 in
theorem check_any (T : Nat) (s : ByteArray) (p : Nat) (w : World) (hT : Tabs T w) (hs : s.size ≤ 300) (hp : p ≤ 64) :
    Calls Tryz.prog 57 #[.pointer (some ⟨T, 0, none⟩), .string s, .int .i64 (p : Int)] w fun e w' => ∃ A c, e = .returned (.slice A p c) ∧ Byts w' A (chkL (gs s) p) ∧ Gr w w' := by
  have HT := Lib.hid hT
  have HTl := Lib.hid hT.lt
  clear hT
  have hsl : ∀ w, (Instr.sliceAt 172 (.pointer (some ⟨T, 0, none⟩)) none (some (.int .i64 (p : Int))) none).run Tryz.prog w = .ok (.slice (some ⟨T, 0, none⟩) p 255) w := fun w => by
    have h := run_sliceAt_array_h (P := Tryz.prog) (w := w) (t := 172) (a := ⟨T, 0, none⟩) Tryz.underlying172 .i64 (p : Int) (by omega) (by rw [len255]; omega)
    rw [h]; rfl
  have HPW : Hid (Byts w (some ⟨T, 0, none⟩) ((List.range p).map gp)) := Lib.hid (powers_rd HT.out (by omega))
  go_enter Tryz.func57, Tryz.ntmps57
  go_wp2_with fail
  refine (withRoots_any T (some ⟨T, 0, none⟩) p 255 ((List.range p).map gp) w HT.out (by simp) (by omega) HPW.out).mono ?_
  rintro e w1 ⟨gd, rfl, hd1, hd2, hg1⟩
  have HT1 := Lib.hid (HT.out.keep hg1)
  have HD1 := Lib.hid hd2
  have hg1' := Lib.hid hg1
  have hgd : gd < w1.heap.size := hd2.lt (by rw [rootP_len]; simp)
  have HDL : Hid ((rootP ((List.range p).map gp)).length = p + 1) := Lib.hid (by rw [rootP_len]; simp)
  have hcv := conv_bytes s w1
  have hcap : s.size ≤ grownCap w1 s.size 0 5 := grownCap_ge w1 _ _ _
  obtain ⟨g, c, w2, hap, hr2, hg2, hg2', hcc⟩ := app_zeros s p (grownCap w1 s.size 0 5) w1.drew hs hp hcap
  have HR2 := Lib.hid hr2
  have hg3 : Gr w1 w2 := (Gr.refl w1).drew.trans hg2
  have HG2 := Lib.hid hg3
  have hgg : w1.heap.size ≤ g := hg2'
  have HSZ := Lib.hid hg1.size
  clear hd2 hg1 hg2 hg3 hg2' hr2 hsl
  go_wp2_with (first | (simp only [hcv]) | (at_builtin; refine Lib.wpList_append_run _ rfl _ _ _ _ rfl _ _ rfl rfl _ _ (hap _) ?_))
  clear hap hcv hcap
  obtain ⟨n, hn⟩ : ∃ n, s.size = n := ⟨_, rfl⟩
  have HN := Lib.hid hn
  rw [hn] at hs hcc ⊢
  have HG0 : Hid (Gr w w2) := Lib.hid (by have := HG2.out; exact hg1'.out.trans this)
  go_loopw [23] (fun z wr => ∃ i : Nat, i ≤ n ∧ z = .int .i64 i ∧ Hid (Row wr g 0 (dvL (rootP ((List.range p).map gp)) (gs s ++ List.replicate p g0) i)) ∧ Hid (Gr w1 wr)) (fun z _ => n - (intOf z).toNat)
  case atStart => exact ⟨0, Nat.zero_le _, rfl, HR2, HG2⟩
  case round =>
    obtain ⟨i, hi, rfl, hRw, hG⟩ := hrel
    have hln : (dvL (rootP ((List.range p).map gp)) (gs s ++ List.replicate p g0) i).length = n + p := by
      rw [dvL_len, List.length_append, gs_len, List.length_replicate, HN.out]
    by_cases hlt : i < n
    · have HST := Lib.hid (dvL_succ (rootP ((List.range p).map gp)) (gs s ++ List.replicate p g0) i)
      generalize dvL (rootP ((List.range p).map gp)) (gs s ++ List.replicate p g0) i = xs at hRw hln HST
      obtain ⟨r1, r2⟩ := hRw.out i (by omega)
      rw [Nat.zero_add] at r1 r2
      have hRd : Row wr g i (xs.drop i) := by have := hRw.out.drop i; rwa [Nat.zero_add] at this
      have HADD := Lib.hid (fun W' (h : Gr wr W') (mc cc : Nat) => add_any T g i (n + p - i) cc (xs.drop i) (xs.getD i g0) (some ⟨gd, 0, none⟩) (p + 1) mc (rootP ((List.range p).map gp)) W' (HT1.out.keep (hG.out.trans h)) (by have := HT1.out.lt; omega) (hRd.keep h) (by rw [List.length_drop, hln]) ⟨(HD1.out.keep (hG.out.trans h)).pts, fun _ b o e => by obtain ⟨rfl, -⟩ : gd = b ∧ 0 = o := (by simpa using e); omega⟩ HDL.out (by omega) (by omega))
      have HTK : Hid (Row wr g 0 (xs.take i)) := Lib.hid (fun k hk => by
        have hk' : k < i := by simp at hk; omega
        have := hRw.out k (by omega)
        rw [List.getD_eq_getElem?_getD, List.getElem?_take, if_pos hk', ← List.getD_eq_getElem?_getD]
        exact this)
      have HXL := Lib.hid hln
      generalize xs.getD i g0 = f at r1 HADD HST
      clear hRd hln
      have hi0 : (0 : Int) ≤ (i : Int) := by omega
      have hi1 : (i : Int) ≤ (n : Int) + (p : Int) := by omega
      have hi2 : (i : Int) < (n : Int) + (p : Int) := by omega
      have hci : ¬ (c = i) := by omega
      go_wp2_with fail
      go_region_law (go_simp; go_at_call 95; refine (HADD.out _ (by first | exact (Gr.refl _).drew | exact Gr.refl _) _ _).mono ?_; rintro e w4 ⟨rfl, hA, hGb, -, hFr⟩)
      all_goals
        go_wp2_with fail
        go_roundw
        case rel =>
          have hgd' : Gr wr wr.drew := (Gr.refl _).drew
          refine ⟨i + 1, by omega, by go_num, Lib.hid ?_, Lib.hid ?_⟩
          · rw [HST.out]
            have hF := hFr (xs.take i) (by rw [List.length_take]; exact Nat.min_le_left _ _) (by first | exact HTK.out.keep hgd' | exact HTK.out)
            intro k hk
            have hk' : k < n + p := by have := hk; rw [List.length_append, addL_len, List.length_take, List.length_drop, HXL.out] at this; omega
            by_cases hki : k < i
            · have := hF k (by rw [List.length_take, HXL.out]; omega)
              rw [List.getD_eq_getElem?_getD, List.getElem?_append_left (by rw [List.length_take, HXL.out]; omega), ← List.getD_eq_getElem?_getD]
              exact this
            · have := hA (k - i) (by rw [addL_len, List.length_drop, HXL.out]; omega)
              rw [List.getD_eq_getElem?_getD, List.getElem?_append_right (by rw [List.length_take, HXL.out]; omega), ← List.getD_eq_getElem?_getD, List.length_take, HXL.out, show min i (n + p) = i by omega]
              rw [show i + (k - i) = 0 + k by omega] at this
              exact this
          · first
            | exact Gb.gr (hG.out.trans hgd') hGb hgg
            | exact Gb.gr hG.out hGb hgg
        case measure => simp [intOf] <;> omega
    · have hie : i = n := by omega
      have hlt' : ¬ ((i : Int) < (n : Int)) := by omega
      rw [hie] at hRw
      have hn1 : (n : Int) ≤ (n : Int) + (p : Int) := by omega
      have hgf := hg1'.out.trans hG.out
      have hrd := hRw.out.drop n
      rw [Nat.zero_add] at hrd
      have hln' : (dvL (rootP ((List.range p).map gp)) (gs s ++ List.replicate p g0) n).length = n + p := by rw [dvL_len, List.length_append, gs_len, List.length_replicate, HN.out]
      have HCK : Hid ((dvL (rootP ((List.range p).map gp)) (gs s ++ List.replicate p g0) n).drop n = chkL (gs s) p) := Lib.hid (by unfold chkL; rw [gs_len, HN.out])
      rw [HCK.out] at hrd
      have hlc : (chkL (gs s) p).length = p := by rw [← HCK.out, List.length_drop, hln']; omega
      have HRD := Lib.hid hrd
      have HGF := Lib.hid hgf
      clear hrd hgf hln' hln
      have hnp : n + p - n = p := by omega
      by_cases hcn : c = n
      · have hp0 : p = 0 := by omega
        go_wp2_with fail
        try rw [Exit.noGoto_ret]
        go_ret
        refine ⟨_, ⟨_, by first | rfl | rw [hnp] | (subst hp0; rfl)⟩, fun i x hx => ?_, HGF.out⟩
        have := (List.getElem?_eq_some_iff.1 hx).1
        first | omega | (rw [hp0] at this; rw [hp0] at hlc; omega) | (subst hp0; omega)
      · go_wp2_with fail
        try rw [Exit.noGoto_ret]
        go_ret
        exact ⟨_, ⟨_, by first | rfl | rw [hnp]⟩, HRD.out.pts, HGF.out⟩
end Go.Proofs.YtpnkpejnahhajaaGreat

namespace Go.Proofs.YtpnkpejnahhajaaGreat
open Go.RowKit
set_option linter.unusedSimpArgs false

def u8 (x : G) : UInt8 := UInt8.ofNat x.v
theorem u8_nat (x : G) : (u8 x).toNat = x.v := by
  have := x.lt
  unfold u8
  rw [UInt8.toNat_ofNat']
  omega
def txt (xs : List G) : ByteArray := ⟨(xs.map u8).toArray⟩
theorem txt_size (xs : List G) : (txt xs).size = xs.length := by simp [txt, ByteArray.size]
theorem back_any (A : Option Addr) (n c : Nat) (xs : List G) (hn : xs.length = n) (w : World) (hA : Byts w A xs) : (convert 59 9 (.slice A n c)).run Tryz.prog w = .ok (.string (txt xs)) w := by
  cases xs with
  | nil =>
    obtain rfl : n = 0 := by simpa using hn.symm
    cases A with
    | none =>
      rw [run_convert_bytes_string w 59 9 5 none 0 c Tryz.underlying59 Tryz.underlying5 Tryz.underlying9]
      rfl
    | some a => exact run_convert_bytes_back (P := Tryz.prog) w 59 9 5 a c [] Tryz.underlying59 Tryz.underlying5 Tryz.underlying9 (fun j hj => by simp at hj)
  | cons x r =>
    obtain ⟨b, o, rfl, c0⟩ := Byts_at hA (i := 0) (by simp)
    have h := run_convert_bytes_back (P := Tryz.prog) w 59 9 5 ⟨b, o, none⟩ c ((x :: r).map u8) Tryz.underlying59 Tryz.underlying5 Tryz.underlying9 (fun j hj => by
      have hj' : j < (x :: r).length := by simpa using hj
      obtain ⟨b', o', e, cj⟩ := Byts_at hA hj'
      obtain ⟨rfl, rfl⟩ : b = b' ∧ o = o' := by simpa using e
      rw [Addr.add_lit, cj, List.getElem_map, u8_nat, List.getD_eq_getElem?_getD, List.getElem?_eq_getElem hj']
      rfl)
    rw [List.length_map, hn] at h
    exact h
def encL (s : ByteArray) (p : Nat) : ByteArray := s ++ txt (chkL (gs s) p)
theorem chkL_len (s : List G) (p : Nat) : (chkL s p).length = p := by
  unfold chkL; rw [List.length_drop, dvL_len, List.length_append, List.length_replicate]; omega
set_option maxRecDepth 100000 in
set_option maxHeartbeats 2000000 in
theorem Encode_yes (s : ByteArray) (p : Nat) (w : World) (hr : okB ((s.size : Int) + p) (p : Int) = true) :
    Calls Tryz.prog 24 #[.string s, .int .i64 (p : Int)] w fun e w' => e = .returned (.tuple #[.string (encL s p), .int .i64 0]) ∧ Gr w w' := by
  have HV := Lib.hid (fun W' => areValid_any ((s.size : Int) + p) (p : Int) W' true hr)
  have hb := (okB_iff _ _).1 hr
  have hs : s.size ≤ 255 := by omega
  have hp : p ≤ 64 := by omega
  clear hr
  go_enter Tryz.func24, Tryz.ntmps24
  go_wp2_with fail
  refine (HV.out _).mono ?_
  rintro e w1 ⟨rfl, rfl⟩
  go_wp2_with fail
  refine (newTables_any _).mono ?_
  rintro e w2 ⟨T, rfl, -, hT, hg2⟩
  go_wp2_with fail
  refine (check_any T s p w2 hT (by omega) hp).mono ?_
  rintro e w3 ⟨A, c, rfl, hA, hg3⟩
  have hcv := back_any A p c (chkL (gs s) p) (chkL_len _ _) w3 hA
  have hts : (txt (chkL (gs s) p)).size = p := by rw [txt_size, chkL_len]
  have hno : ¬ (9223372036854775807 < s.size + p) := by omega
  have hno2 : s.size + p ≤ 9223372036854775807 := by omega
  go_wp2_with (simp only [hcv])
  go_ret2
  exact ⟨rfl, hg2.trans hg3⟩
end Go.Proofs.YtpnkpejnahhajaaGreat
