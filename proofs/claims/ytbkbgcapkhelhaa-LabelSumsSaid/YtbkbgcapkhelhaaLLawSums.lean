/- The law LabelSums as a walk. -/
import Derived.Test.YtbkbgcapkhelhaaLLawApart
import Derived.Deep.RegionLaw
import Derived.Deep.CutRange
namespace Go.Proofs.Ytbkbgcapkhelhaa
open Go.RowKit
set_option linter.unusedSimpArgs false

theorem Row.take {w : World} {g off : Nat} {xs : List G} (h : Row w g off xs) (k : Nat) : Row w g off (xs.take k) := fun i hi => by
  have hi' : i < k ∧ i < xs.length := by rw [List.length_take] at hi; omega
  have := h i hi'.2
  rw [List.getD_eq_getElem?_getD, List.getElem?_take, if_pos hi'.1, ← List.getD_eq_getElem?_getD]
  exact this
theorem zip_take_succ (xs ys : List G) (j : Nat) (h1 : j < xs.length) (h2 : j < ys.length) : (List.zipWith (· + ·) xs ys).take (j + 1) = (List.zipWith (· + ·) xs ys).take j ++ [xs.getD j g0 + ys.getD j g0] := by
  have h3 : j < (List.zipWith (· + ·) xs ys).length := by rw [List.length_zipWith]; omega
  rw [List.take_add_one, getD_of g0 h3, Option.toList_some]
  congr 2
  rw [List.getD_eq_getElem?_getD, List.getElem?_zipWith, getD_of g0 h1, getD_of g0 h2]
  rfl
theorem map_take_succ (xs : List G) (k : G) (j : Nat) (h1 : j < xs.length) : (xs.map (· * k)).take (j + 1) = (xs.map (· * k)).take j ++ [xs.getD j g0 * k] := by
  rw [List.take_add_one, List.getElem?_map, getD_of g0 h1]
  rfl
theorem isB_txt (xs : List G) (p : Nat) : isB (gs (txt xs)) p = isB xs p := by rw [gs_txt]

set_option maxRecDepth 100000 in
set_option maxHeartbeats 8000000 in
theorem lawSums_any (s0 o0 : ByteArray) (p : Int) (by_ : G) (w : World) (_ : -9223372036854775808 ≤ p ∧ p ≤ 9223372036854775807) : Calls Try.prog 11 #[.string s0, .string o0, .int .i64 p, .int .u8 (by_.v : Int)] w fun e w' => e = .returned (.bool true) ∧ Gr w w' := by
  have HF := Lib.hid (fun W => fit_any s0 p 100 (by decide) (by decide) W)
  go_enter Try.func11, Try.ntmps11
  go_wp2_with fail
  refine (HF.out _).mono ?_
  rintro e w1 ⟨t, q, rfl, ht1, ht2, ht3, hq, rfl⟩
  clear HF
  go_wp2_with fail
  go_loop [1] (fun v => ∃ o : ByteArray, v = .string o) (fun v => match v with | .string o => t.size - o.size | _ => 0)
  case atStart => exact ⟨o0, rfl⟩
  case round =>
    obtain ⟨o, rfl⟩ := hrel
    by_cases hlt : o.size < t.size
    · have h1 : (t.extract o.size t.size).size = t.size - o.size := by rw [ByteArray.size_extract]; omega
      have hno : ¬ (9223372036854775807 < o.size + (t.extract o.size t.size).size) := by omega
      have hno2 : o.size + (t.extract o.size t.size).size ≤ 9223372036854775807 := by omega
      go_wp2_with fail
      go_round
      case rel => exact ⟨_, rfl⟩
      case measure => simp [ByteArray.size_append, ByteArray.size_extract]; omega
    · have hle : t.size ≤ o.size := by omega
      have hys := ex_size o t.size hle
      have HE1 := Lib.hid (fun W => Encode_yes t q W (okB_of ht1 ht3 hq))
      have HE2 : Hid (∀ W, Calls Try.prog 18 #[.string (o.extract 0 t.size), .int .i64 (q : Int)] W fun e w' => e = .returned (.tuple #[.string (encL (o.extract 0 t.size) q), .int .i64 0]) ∧ Gr W w') := Lib.hid (fun W => Encode_yes _ q W (by rw [hys]; exact okB_of ht1 ht3 hq))
      have hlt' : ¬ ((o.size : Int) < (t.size : Int)) := by omega
      go_wp2_with fail
      refine (HE1.out _).mono ?_
      rintro e w2 ⟨rfl, hg2⟩
      have ha1 := encL_size t q
      have ha2 := encL_size (o.extract 0 t.size) q
      rw [hys] at ha2
      have HB1 : Hid (isB (gs (encL t q)) q = true) := Lib.hid (by rw [gs_enc]; exact codeL_isB _ _)
      have HB2 : Hid (isB (gs (encL (o.extract 0 t.size) q)) q = true) := Lib.hid (by rw [gs_enc]; exact codeL_isB _ _)
      generalize encL t q = a at ha1 HB1 ⊢
      go_wp2_with fail
      refine (HE2.out _).mono ?_
      rintro e w3 ⟨rfl, hg3⟩
      have HG := Lib.hid (hg2.trans hg3)
      generalize o.extract 0 t.size = y at hys ha2 HB2 HE2 ⊢
      generalize encL y q = b at ha2 HB2 ⊢
      have HA1 := Lib.hid ha1
      have HA2 := Lib.hid ha2
      have hab : b.size = a.size := by omega
      have has : a.size ≤ 255 := by omega
      clear hys HE1 HE2 hle hlt hlt' hg2 hg3
      go_wp2_with fail
      have HAB := Lib.hid hab
      clear ha1 ha2 hab
      have hmk1 := mk_bytes a.size (by omega) w3.drew
      have hmk2 := mk_bytes a.size (by omega) (w3.drew.alloc (.cells (gcs (List.replicate a.size g0)) 5))
      have hmk3 := mk_bytes a.size (by omega) w3
      have hmk4 := mk_bytes a.size (by omega) (w3.alloc (.cells (gcs (List.replicate a.size g0)) 5))
      have hmk5 := mk_bytes a.size (by omega) (w3.alloc (.cells (gcs (List.replicate a.size g0)) 5)).drew
      go_cut [13, 14] from 76 to 81 (fun v1 v2 wx => ∃ g1 g2, v1 = .slice (some ⟨g1, 0, none⟩) a.size a.size ∧ v2 = .slice (some ⟨g2, 0, none⟩) a.size a.size ∧ g1 ≠ g2 ∧ w3.heap.size ≤ g1 ∧ w3.heap.size ≤ g2 ∧ Hid (BG wx g1 (List.replicate a.size g0)) ∧ Hid (BG wx g2 (List.replicate a.size g0)) ∧ Hid (Gr w3 wx))
      case first =>
        go_region_law (fail)
        all_goals
          go_wp2_with fail
          go_meet
          have hgA : BG ((w3.alloc (.cells (gcs (List.replicate a.size g0)) 5)).alloc (.cells (gcs (List.replicate a.size g0)) 5)).drew w3.heap.size (List.replicate a.size g0) := (BG.new w3 _ rfl).keep (((Gr.refl _).alloc _).drew)
          have hgB : BG ((w3.alloc (.cells (gcs (List.replicate a.size g0)) 5)).alloc (.cells (gcs (List.replicate a.size g0)) 5)).drew (w3.heap.size + 1) (List.replicate a.size g0) := (BG.new _ _ (by simp)).keep ((Gr.refl _).drew)
          have hgW : Gr w3 ((w3.alloc (.cells (gcs (List.replicate a.size g0)) 5)).alloc (.cells (gcs (List.replicate a.size g0)) 5)).drew := (((Gr.refl w3).alloc _).alloc _).drew
          first
          | exact ⟨w3.heap.size, w3.heap.size + 1, rfl, rfl, by omega, by omega, by omega, Lib.hid hgA, Lib.hid hgB, Lib.hid hgW⟩
          | exact ⟨w3.heap.size + 1, w3.heap.size, rfl, rfl, by omega, by omega, by omega, Lib.hid hgB, Lib.hid hgA, Lib.hid hgW⟩
      case rest =>
        obtain ⟨g1, g2, rfl, rfl, hne, hg1, hg2, HB1', HB2', HGC⟩ := hcut
        clear hmk1 hmk2 hmk3 hmk4 hmk5
        obtain ⟨A, hA⟩ : ∃ A, gs a = A := ⟨_, rfl⟩
        obtain ⟨B, hB⟩ : ∃ B, gs b = B := ⟨_, rfl⟩
        have hAl : A.length = a.size := by rw [← hA]; exact gs_len a
        have hBl : B.length = a.size := by rw [← hB, gs_len]; exact HAB.out
        have hzl : (List.zipWith (· + ·) A B).length = a.size := by rw [List.length_zipWith, hAl, hBl, Nat.min_self]
        have hml : (A.map (· * by_)).length = a.size := by rw [List.length_map, hAl]
        have HZ : Hid (isB (List.zipWith (· + ·) A B) q = true) := Lib.hid (sum_isB (hAl.trans hBl.symm) (by rw [← hA]; exact HB1.out) (by rw [← hB]; exact HB2.out))
        have HM : Hid (isB (A.map (· * by_)) q = true) := Lib.hid (times_isB by_ (by rw [← hA]; exact HB1.out))
        have HZS : Hid (∀ j, j < a.size → (List.zipWith (· + ·) A B).take (j + 1) = (List.zipWith (· + ·) A B).take j ++ [A.getD j g0 + B.getD j g0]) := Lib.hid (fun j hj => zip_take_succ A B j (by omega) (by omega))
        have HMS : Hid (∀ j, j < a.size → (A.map (· * by_)).take (j + 1) = (A.map (· * by_)).take j ++ [A.getD j g0 * by_]) := Lib.hid (fun j hj => map_take_succ A by_ j (by omega))
        have HZL := Lib.hid hzl
        have HML := Lib.hid hml
        have HAA := Lib.hid hA
        have HBB := Lib.hid hB
        generalize List.zipWith (· + ·) A B = Z at HZ HZS HZL
        generalize A.map (· * by_) = M at HM HMS HML
        clear hA hB hAl hBl hzl hml HB1 HB2
        go_wp2_with fail
        go_loopw [15] (fun z wr => ∃ j : Nat, j ≤ a.size ∧ z = .int .i64 j ∧ Hid (BG wr g1 (Z.take j ++ List.replicate (a.size - j) g0)) ∧ Hid (BG wr g2 (M.take j ++ List.replicate (a.size - j) g0)) ∧ Hid (Gr w3 wr)) (fun z _ => a.size - (intOf z).toNat)
        case atStart => exact ⟨0, Nat.zero_le _, rfl, by simpa using HB1', by simpa using HB2', HGC⟩
        case round =>
          obtain ⟨j, hj, rfl, hS, hT, hg⟩ := hrel
          by_cases hlt : j < a.size
          · have hjb : j < b.size := by have := HAB.out; omega
            have e1 : ((gs a).getD j g0).v = (a[j]'hlt).toNat := gs_at hlt
            have e2 : ((gs b).getD j g0).v = (b[j]'hjb).toNat := gs_at hjb
            rw [HAA.out] at e1
            rw [HBB.out] at e2
            have z1 := Lib.hid (HZS.out j hlt)
            have m1 := Lib.hid (HMS.out j hlt)
            generalize A.getD j g0 = x at e1 z1 m1
            generalize B.getD j g0 = y' at e2 z1
            have hx := xor8 x y'
            have e1' := e1.symm
            have e2' := e2.symm
            have s1 := Lib.hid (set_step (Z.take j) j a.size (x + y') (by rw [List.length_take, HZL.out]; omega) hlt)
            have s2 := Lib.hid (set_step (M.take j) j a.size (x * by_) (by rw [List.length_take, HML.out]; omega) hlt)
            have c1 := hS.out.at (i := j) (by rw [List.length_append, List.length_take, HZL.out, List.length_replicate]; omega)
            have c2 := hT.out.at (i := j) (by rw [List.length_append, List.length_take, HML.out, List.length_replicate]; omega)
            have f1 := hS.out.free j
            have f2 := hT.out.free j
            have HMU := Lib.hid (fun W => mul_g x by_ W)
            clear e1 e2
            go_wp2_with fail
            go_region_law (fail)
            all_goals
              have c2' := cell_other_drew (g := g1) (i := j) (u := .int .u8 ((x + y').v : Int)) c2 (Ne.symm hne)
              have f2' : ((wr.setCell ⟨g1, j, none⟩ (.int .u8 ((x + y').v : Int))).drew).frozen? ⟨g2, j, none⟩ = false := (frozen_put wr _ _ _).trans f2
              have hS2 : Hid (BG (wr.setCell ⟨g1, j, none⟩ (.int .u8 ((x + y').v : Int))).drew g1 (Z.take (j + 1) ++ List.replicate (a.size - (j + 1)) g0)) := Lib.hid (by
                rw [z1.out, ← s1.out]
                exact (hS.out.put j (x + y')).keep ((Gr.refl _).drew))
              have hT2 : Hid (BG (wr.setCell ⟨g1, j, none⟩ (.int .u8 ((x + y').v : Int))).drew g2 (M.take j ++ List.replicate (a.size - j) g0)) := Lib.hid ((hT.out.other (p := ⟨g1, j, none⟩) (Ne.symm hne) _).keep ((Gr.refl _).drew))
              have hg2 : Hid (Gr w3 (wr.setCell ⟨g1, j, none⟩ (.int .u8 ((x + y').v : Int))).drew) := Lib.hid ((hg.out.setCell (p := ⟨g1, j, none⟩) hg1 _).drew)
              generalize (wr.setCell ⟨g1, j, none⟩ (.int .u8 ((x + y').v : Int))).drew = wn at c2' f2' hS2 hT2 hg2 ⊢
              clear c1 c2 f1 f2
              go_wp2_with fail
              refine (HMU.out _).mono ?_
              rintro e w8 ⟨rfl, rfl⟩
              go_wp2_with fail
              go_roundw
              case rel => exact ⟨j + 1, by omega, by go_num, Lib.hid (hS2.out.other (p := ⟨g2, j, none⟩) hne _), Lib.hid (by rw [m1.out, ← s2.out]; exact hT2.out.put j (x * by_)), Lib.hid (hg2.out.setCell (p := ⟨g2, j, none⟩) (by assumption) _)⟩
              case measure => simp [intOf]; omega
          · have hja : j = a.size := by omega
            have hlt' : ¬ ((j : Int) < (a.size : Int)) := by omega
            rw [hja, Nat.sub_self, List.take_of_length_le (by rw [HZL.out]; exact Nat.le_refl _), List.replicate_zero, List.append_nil] at hS
            rw [hja, Nat.sub_self, List.take_of_length_le (by rw [HML.out]; exact Nat.le_refl _), List.replicate_zero, List.append_nil] at hT
            clear hja
            have hasz := HA1.out
            have HOK : Hid (okB (a.size : Int) (q : Int) = true) := Lib.hid ((okB_iff _ _).2 (by omega))
            have HI1 : Hid (∀ W, Calls Try.prog 23 #[.string (txt Z), .int .i64 (q : Int)] W fun e w' => e = .returned (.tuple #[.bool true, .int .i64 0]) ∧ Gr W w') := Lib.hid (fun W => by
              have h := Is_yes (txt Z) q W (by rw [txt_size, HZL.out]; exact HOK.out)
              rw [gs_txt, HZ.out] at h
              exact h)
            have HI2 : Hid (∀ W, Calls Try.prog 23 #[.string (txt M), .int .i64 (q : Int)] W fun e w' => e = .returned (.tuple #[.bool true, .int .i64 0]) ∧ Gr W w') := Lib.hid (fun W => by
              have h := Is_yes (txt M) q W (by rw [txt_size, HML.out]; exact HOK.out)
              rw [gs_txt, HM.out] at h
              exact h)
            have hzl := HZL.out
            have hze : encL (txt (Z.take t.size)) q = txt Z := by
              rw [← txt_code, gs_txt, code_only (by omega) (by omega) HZ.out]
            have HEZ : Hid (∀ W, Calls Try.prog 18 #[.string (txt (Z.take t.size)), .int .i64 (q : Int)] W fun e w' => e = .returned (.tuple #[.string (txt Z), .int .i64 0]) ∧ Gr W w') := Lib.hid (fun W => by
              have h := Encode_yes (txt (Z.take t.size)) q W (by rw [txt_size, List.length_take, show min t.size Z.length = t.size by omega]; exact okB_of ht1 ht3 hq)
              rw [hze] at h
              exact h)
            have hta : t.size ≤ a.size := by omega
            have hcz := fun W (hg : Gr wr W) => back_any (some ⟨g1, 0, none⟩) a.size a.size Z HZL.out W (hS.out.keep hg).pts
            have hcm := fun W (hg : Gr wr W) => back_any (some ⟨g2, 0, none⟩) a.size a.size M HML.out W (hT.out.keep hg).pts
            have hct := fun W (hg : Gr wr W) => back_any (some ⟨g1, 0, none⟩) t.size a.size (Z.take t.size) (by rw [List.length_take]; omega) W (Rd_take (hS.out.keep hg).pts t.size)
            have HCZ := Lib.hid hcz
            have HCM := Lib.hid hcm
            have HCT := Lib.hid hct
            clear hcz hcm hct hzl hze hasz
            have k1 := HCZ.out _ (Gr.refl _)
            go_wp2_with (simp only [k1])
            refine (HI1.out _).mono ?_
            rintro e w5 ⟨rfl, hg5⟩
            have k2 := HCM.out _ hg5
            clear k1
            go_wp2_with (simp only [k2])
            refine (HI2.out _).mono ?_
            rintro e w6 ⟨rfl, hg6⟩
            have k3 := HCT.out _ (hg5.trans hg6)
            clear k2
            go_wp2_with (simp only [k3])
            refine (HEZ.out _).mono ?_
            rintro e w7 ⟨rfl, hg7⟩
            have k4 := HCZ.out _ ((hg5.trans hg6).trans hg7)
            clear k3
            go_wp2_with (simp only [k4])
            refine (awake_any _).mono ?_
            rintro e w8 ⟨rfl, hg8⟩
            go_wp2_with fail
            try rw [Exit.noGoto_ret]
            go_ret
            exact ⟨rfl, ((((HG.out.trans hg.out).trans hg5).trans hg6).trans hg7).trans hg8⟩
end Go.Proofs.Ytbkbgcapkhelhaa
