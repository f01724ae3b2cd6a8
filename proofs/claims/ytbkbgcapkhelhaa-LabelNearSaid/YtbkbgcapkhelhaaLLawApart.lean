/- The law LabelApart as a walk. -/
import Derived.Test.YtbkbgcapkhelhaaLFit
namespace Go.Proofs.Ytbkbgcapkhelhaa
open Go.RowKit
set_option linter.unusedSimpArgs false

theorem gs_enc (t : ByteArray) (q : Nat) : gs (encL t q) = codeL (gs t) q := by rw [← txt_code, gs_txt]
theorem gs_inj {a b : ByteArray} (h : gs a = gs b) : a = b := by rw [← txt_gs a, h, txt_gs]
theorem encL_size (t : ByteArray) (q : Nat) : (encL t q).size = t.size + q := by rw [← gs_len, gs_enc, codeL_len', gs_len]
theorem okB_of {n q : Nat} (h1 : 1 ≤ n) (h2 : n + q ≤ 255) (h3 : q ≤ 64) : okB ((n : Int) + (q : Int)) (q : Int) = true := (okB_iff _ _).2 (by omega)

theorem list_ne {a b : ByteArray} (h : a ≠ b) : (a.toList == b.toList) = false := by
  rw [beq_eq_false_iff_ne]
  intro e
  rw [ByteArray.toList_eq, ByteArray.toList_eq] at e
  exact h (ByteArray.ext (Array.ext' e))
theorem list_ne' {a b : ByteArray} (h : a ≠ b) : (a.toList != b.toList) = true := by rw [bne, list_ne h]; rfl
set_option maxRecDepth 100000 in
set_option maxHeartbeats 4000000 in
theorem lawApart_any (s0 o0 : ByteArray) (p : Int) (w : World) (_ : -9223372036854775808 ≤ p ∧ p ≤ 9223372036854775807) : Calls Try.prog 10 #[.string s0, .string o0, .int .i64 p] w fun e w' => e = .returned (.bool true) ∧ Gr w w' := by
  have HF := Lib.hid (fun W => fit_any s0 p 100 (by decide) (by decide) W)
  go_enter Try.func10, Try.ntmps10
  go_wp2_with fail
  refine (HF.out _).mono ?_
  rintro e w1 ⟨t, q, rfl, ht1, ht2, ht3, hq, rfl⟩
  clear HF
  go_wp2_with fail
  go_loop [1] (fun v => ∃ o : ByteArray, v = .string o) (fun v => match v with | .string o => t.size - o.size | _ => 0)
  case atStart => exact ⟨o0, rfl⟩
  case round =>
    obtain ⟨o, rfl⟩ := hrel
    by_cases hlt : o.size < t.size
    · have h1 : (t.extract o.size t.size).size = t.size - o.size := by rw [ByteArray.size_extract]; omega
      have hno : ¬ (9223372036854775807 < o.size + (t.extract o.size t.size).size) := by omega
      have hno2 : o.size + (t.extract o.size t.size).size ≤ 9223372036854775807 := by omega
      go_wp2_with fail
      go_round
      case rel => exact ⟨_, rfl⟩
      case measure => simp [ByteArray.size_append, ByteArray.size_extract]; omega
    · have hle : t.size ≤ o.size := by omega
      have hys := ex_size o t.size hle
      have HE1 := Lib.hid (fun W => Encode_yes t q W (okB_of ht1 ht3 hq))
      have HE2 : Hid (∀ W, Calls Try.prog 18 #[.string (o.extract 0 t.size), .int .i64 (q : Int)] W fun e w' => e = .returned (.tuple #[.string (encL (o.extract 0 t.size) q), .int .i64 0]) ∧ Gr W w') := Lib.hid (fun W => Encode_yes _ q W (by rw [hys]; exact okB_of ht1 ht3 hq))
      have hlt' : ¬ ((o.size : Int) < (t.size : Int)) := by omega
      go_wp2_with fail
      refine (HE1.out _).mono ?_
      rintro e w2 ⟨rfl, hg2⟩
      have ha1 := encL_size t q
      have ha2 := encL_size (o.extract 0 t.size) q
      rw [hys] at ha2
      have HA3 := Lib.hid (gs_enc t q)
      have HA4 := Lib.hid (gs_enc (o.extract 0 t.size) q)
      generalize encL t q = a at ha1 HA3 ⊢
      go_wp2_with fail
      refine (HE2.out _).mono ?_
      rintro e w3 ⟨rfl, hg3⟩
      have HG := Lib.hid (hg2.trans hg3)
      generalize o.extract 0 t.size = y at hys ha2 HA4 HE2 ⊢
      generalize encL y q = b at ha2 HA4 ⊢
      have HYS := Lib.hid hys
      have HA1 := Lib.hid ha1
      have HA2 := Lib.hid ha2
      have hab : b.size = a.size := by omega
      clear hys HE1 HE2 hle hlt hlt' hg2 hg3
      go_wp2_with fail
      go_loopw [11, 12] (fun s z wr => ∃ j : Nat, j ≤ a.size ∧ z = .int .i64 j ∧ s = .int .i64 (cnt (difB (gs a) (gs b)) j : Int) ∧ Gr w3 wr) (fun _ z _ => a.size - (intOf z).toNat)
      case atStart => exact ⟨0, Nat.zero_le _, rfl, rfl, Gr.refl _⟩
      case round =>
        obtain ⟨j, hj, rfl, rfl, hg⟩ := hrel
        by_cases hlt : j < a.size
        · have h2 := Lib.hid (cnt_succ (difB (gs a) (gs b)) j)
          have hcb := cnt_le (difB (gs a) (gs b)) j
          have hjb : j < b.size := by omega
          have e1 : ((gs a).getD j g0).v = (a[j]'hlt).toNat := gs_at hlt
          have e2 : ((gs b).getD j g0).v = (b[j]'hjb).toNat := gs_at hjb
          have hdb : Hid (difB (gs a) (gs b) j = !decide ((gs b).getD j g0 = (gs a).getD j g0)) := Lib.hid rfl
          have ht := g_ne_test64 ((gs a).getD j g0) ((gs b).getD j g0)
          generalize (gs a).getD j g0 = x at e1 hdb ht
          generalize (gs b).getD j g0 = z at e2 hdb ht
          have e1' := e1.symm
          have e2' := e2.symm
          generalize cnt (difB (gs a) (gs b)) j = c at h2 hcb ⊢
          clear e1 e2
          rcases hd : decide (z = x) with _ | _
          · rw [hd] at ht hdb
            clear hd
            go_wp2_with fail
            go_quiet (fail)
            go_wp2_with fail
            go_roundw
            case rel => exact ⟨j + 1, by omega, by go_num, by rw [h2.out, hdb.out]; first | rfl | go_num, hg.drewN _⟩
            case measure => simp [intOf]; omega
          · rw [hd] at ht hdb
            clear hd
            go_wp2_with fail
            go_quiet (fail)
            go_wp2_with fail
            go_roundw
            case rel => exact ⟨j + 1, by omega, by go_num, by rw [h2.out, hdb.out]; first | rfl | go_num, hg.drewN _⟩
            case measure => simp [intOf]; omega
        · have hja : j = a.size := by omega
          have hlt' : ¬ ((j : Int) < (a.size : Int)) := by omega
          have HW : Hid ((t = y ∧ cnt (difB (gs a) (gs b)) j = 0) ∨ (t ≠ y ∧ q < cnt (difB (gs a) (gs b)) j)) := Lib.hid (by
            rw [hja]
            by_cases e : t = y
            · left
              refine ⟨e, ?_⟩
              have : gs b = gs a := by rw [HA3.out, HA4.out, e]
              rw [this]; exact cnt_same _ _
            · right
              refine ⟨e, ?_⟩
              have h3 := code_far (xs := gs t) (ys := gs y) (p := q) (by rw [gs_len, gs_len, HYS.out]) (by rw [gs_len]; omega) (fun h => e (gs_inj h))
              rw [HA3.out, HA4.out, HA1.out, ← gs_len t]; exact h3)
          have hcb := cnt_le (difB (gs a) (gs b)) j
          generalize cnt (difB (gs a) (gs b)) j = c at HW hcb ⊢
          clear hja
          rcases HW.out with ⟨rfl, rfl⟩ | ⟨hne, hqc⟩
          · clear HW
            go_wp2_with fail
            refine (awake_any _).mono ?_
            rintro e w8 ⟨rfl, hg8⟩
            go_wp2_with fail
            try rw [Exit.noGoto_ret]
            go_ret
            exact ⟨rfl, (HG.out.trans hg).trans hg8⟩
          · have hz1 := list_ne hne
            have hz2 := list_ne' hne
            have hqc' : (q : Int) < (c : Int) := by omega
            clear HW
            go_wp2_with fail
            refine (awake_any _).mono ?_
            rintro e w8 ⟨rfl, hg8⟩
            go_wp2_with fail
            try rw [Exit.noGoto_ret]
            go_ret
            exact ⟨rfl, (HG.out.trans hg).trans hg8⟩
end Go.Proofs.Ytbkbgcapkhelhaa
