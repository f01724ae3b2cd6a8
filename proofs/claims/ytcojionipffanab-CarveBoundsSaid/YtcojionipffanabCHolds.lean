/- Layer 2: holds and Check. -/
import Derived.Test.YtcojionipffanabCCheck
namespace Go.Proofs.Ytcojionipffanab
open Go.RowKit
set_option linter.unusedSimpArgs false

theorem Frm.len {W H : Nat} {tb : List (List Int)} (h : Frm W H tb) {i : Nat} (hi : i ≤ W) : (tb.getD i []).length = H + 1 := (h.2 i hi).1

set_option maxRecDepth 100000 in
set_option maxHeartbeats 2000000 in
theorem holds_any (W H : Nat) (hW : W ≤ 48) (hH : H ≤ 48) (BA TA : Option Addr) (bn bc tn tc : Nat) (bs : List Bl) (tb : List (List Int)) (w : World) (hbn : bs.length = bn) (hbl : bn ≤ 16) (hbs : ∀ b ∈ bs, blB b = true)
    (hF : Frm W H tb) (htn : W + 1 = tn) (hB : Tris w BA bs) (hT : RdRows w TA tb) (r : Bool) (hr : boundB bs tb W H = r) :
    Calls Try.prog 40 #[.slice BA bn bc, .slice TA tn tc] w fun e w' => e = .returned (.bool r) ∧ Gr w w' := by
  have HC := Lib.hid (fun w0 h0 W' (a : w0 ≤ W) (b : h0 ≤ H) (g : Gr w W') => least_any W H w0 h0 hW hH a b BA TA bn bc tn tc bs tb W' hbn hbl hbs hF htn (hB.keep g) (hT.keep g))
  have HF := Lib.hid hF
  have HT := Lib.hid hT
  have HR := Lib.hid hr
  have htl : tn ≤ 49 := by omega
  have HN := Lib.hid htn
  clear hF hT hB hbn hbs hr htn
  go_enter Try.func40, Try.ntmps40
  go_wp2_with fail
  go_loopw [11] (fun i wr => ∃ k : Nat, k ≤ tn ∧ i = .int .i64 k ∧ Hid (∀ x, x < k → ∀ h, h ≤ H → needT bs (at2 tb) x h ≤ at2 tb x h) ∧ Gr w wr) (fun i _ => tn - (intOf i).toNat)
  case atStart => exact ⟨0, Nat.zero_le _, rfl, Lib.hid (fun x hx => absurd hx (by omega)), Gr.refl _⟩
  case round =>
    obtain ⟨wo, rfl⟩ : ∃ wo : World, wo = wr := ⟨_, rfl⟩
    obtain ⟨k, hk, rfl, hall, hg⟩ := hrel
    by_cases hlt : k < tn
    · have hkW : k ≤ W := by have := HN.out; omega
      obtain ⟨b, off, b1, o1, c1, rfl, r1, -⟩ := (HT.out.keep hg).at HF.out (i := k) (k := 0) hkW (Nat.zero_le _)
      go_wp2_with fail
      go_loopw [18] (fun i wr => ∃ j : Nat, j ≤ H + 1 ∧ i = .int .i64 j ∧ Hid (∀ h, h < j → needT bs (at2 tb) k h ≤ at2 tb k h) ∧ Gr wo wr) (fun i _ => H + 1 - (intOf i).toNat)
      case atStart => exact ⟨0, Nat.zero_le _, rfl, Lib.hid (fun x hx => absurd hx (by omega)), Gr.refl _⟩
      case round =>
        obtain ⟨j, hj, rfl, hall2, hg2⟩ := hrel
        by_cases hlt2 : j < H + 1
        · have hv := (HT.out.keep (hg.trans hg2)).row HF.out hkW rfl ((hg2.keep r1)) (k := j) (by omega)
          have HL := Lib.hid (HC.out k j wr hkW (by omega) (hg.trans hg2))
          have HBAD : at2 tb k j < needT bs (at2 tb) k j → Hid (r = false) := fun h => Lib.hid (by
            rw [← HR.out]
            cases hb : boundB bs tb W H
            · rfl
            · have := (boundB_iff _ _ _ _).1 hb k j hkW (by omega); omega)
          have HOK : ¬at2 tb k j < needT bs (at2 tb) k j → Hid (∀ h, h < j + 1 → needT bs (at2 tb) k h ≤ at2 tb k h) := fun h => Lib.hid (fun x hx => by
            by_cases e : x = j
            · subst e; omega
            · exact hall2.out x (by omega))
          generalize at2 tb k j = v at hv HBAD HOK
          generalize needT bs (at2 tb) k j = q at HL HBAD HOK
          by_cases hvq : v < q
          · have HX := HBAD hvq
            have hd : decide (v < q) = true := decide_eq_true hvq
            clear HBAD HOK
            go_wp2_with fail
            refine HL.out.mono ?_
            rintro e w2 ⟨rfl, hb⟩
            go_wp2_with fail
            go_ret
            exact ⟨ret_bool HX.out.symm, (hg.trans hg2).trans hb⟩
          · have HX := HOK hvq
            have hd : decide (v < q) = false := decide_eq_false hvq
            clear HBAD HOK
            go_wp2_with fail
            refine HL.out.mono ?_
            rintro e w2 ⟨rfl, hb⟩
            go_wp2_with fail
            go_roundw
            case rel => exact ⟨j + 1, by omega, by go_num, HX, hg2.trans hb⟩
            case measure => simp [intOf]; omega
        · have HX : Hid (∀ x, x < k + 1 → ∀ h, h ≤ H → needT bs (at2 tb) x h ≤ at2 tb x h) := Lib.hid (fun x hx h hh => by
            by_cases e : x = k
            · subst e; exact hall2.out h (by omega)
            · exact hall.out x (by omega) h hh)
          go_wp2_with fail
          go_roundw
          case rel => exact ⟨k + 1, by omega, by go_num, HX, hg.trans hg2⟩
          case measure => simp [intOf]; omega
    · go_wp2_with fail
      go_ret
      exact ⟨ret_bool (by
        rw [← HR.out]
        exact ((boundB_iff _ _ _ _).2 (fun x h hx hh => hall.out x (by have := HN.out; omega) h hh)).symm), hg⟩

/-- What Check answers. -/
def checkL (W H : Int) (bs : List Bl) (tb : List (List Int)) : Int :=
  if taskB W H bs = true then (if (formB W.toNat H.toNat tb && boundB bs tb W.toNat H.toNat) = true then 0 else 21) else 2

set_option maxRecDepth 100000 in
set_option maxHeartbeats 2000000 in
theorem Check_any (W H : Int) (BA TA : Option Addr) (bn bc tn tc : Nat) (bs : List Bl) (tb : List (List Int)) (w : World) (hbn : bs.length = bn) (hbl : bn ≤ 281474976710656)
    (htn : tb.length = tn) (htl : tn ≤ 281474976710656) (hrl : ∀ row ∈ tb, row.length ≤ 281474976710656) (hB : Tris w BA bs) (hT : RdRows w TA tb) :
    Calls Try.prog 21 #[.int .i64 W, .int .i64 H, .slice BA bn bc, .slice TA tn tc] w fun e w' => e = .returned (.int .i64 (checkL W H bs tb)) ∧ Gr w w' := by
  rcases ht : taskB W H bs with _ | _
  · have HT := Lib.hid (isTask_any W H BA bn bc bs w hbn hbl hB _ ht)
    have HC : Hid (checkL W H bs tb = 2) := Lib.hid (by unfold checkL; rw [ht]; rfl)
    rw [HC.out]
    clear ht hbn htn hrl hB hT
    go_enter Try.func21, Try.ntmps21
    go_wp2_with fail
    refine HT.out.mono ?_
    rintro e w1 ⟨rfl, hb⟩
    go_wp2_with fail
    go_ret
    exact ⟨rfl, hb⟩
  · obtain ⟨⟨hW1, hW2⟩, ⟨hH1, hH2⟩, h16, hbs⟩ := (taskB_iff _ _ _).1 ht
    obtain ⟨W, rfl⟩ : ∃ n : Nat, W = n := ⟨W.toNat, by omega⟩
    obtain ⟨H, rfl⟩ : ∃ n : Nat, H = n := ⟨H.toNat, by omega⟩
    have HTT := Lib.hid (isTask_any W H BA bn bc bs w hbn hbl hB _ ht)
    obtain ⟨f, hf⟩ : ∃ f, formB W H tb = f := ⟨_, rfl⟩
    have HFF := Lib.hid (fun W' (g : Gr w W') => hasForm_any W H (by omega) (by omega) TA tn tc tb W' htn htl hrl (hT.keep g) f hf)
    rcases f with _ | _
    · have HC : Hid (checkL W H bs tb = 21) := Lib.hid (by unfold checkL; rw [ht, if_pos rfl]; simp [Int.toNat_natCast, hf])
      rw [HC.out]
      clear ht hf hbn htn hrl hB hT hbs
      go_enter Try.func21, Try.ntmps21
      go_wp2_with fail
      refine HTT.out.mono ?_
      rintro e w1 ⟨rfl, hb⟩
      go_wp2_with fail
      refine (HFF.out _ hb).mono ?_
      rintro e w2 ⟨rfl, hb2⟩
      go_wp2_with fail
      go_ret
      exact ⟨rfl, hb.trans hb2⟩
    · obtain ⟨r, hr⟩ : ∃ r, boundB bs tb W H = r := ⟨_, rfl⟩
      have hFr := (formB_iff _ _ _).1 hf
      have HH := Lib.hid (fun W' (g : Gr w W') => holds_any W H (by omega) (by omega) BA TA bn bc tn tc bs tb W' hbn (by omega) hbs hFr (by rw [← htn]; exact hFr.1.symm) (hB.keep g) (hT.keep g) r hr)
      have HC : Hid (checkL W H bs tb = if r = true then 0 else 21) := Lib.hid (by unfold checkL; rw [ht, if_pos rfl]; simp [Int.toNat_natCast, hf, hr])
      rw [HC.out]
      clear ht hf hr hbn htn hrl hB hT hbs hFr
      rcases r with _ | _
      all_goals
        go_enter Try.func21, Try.ntmps21
        go_wp2_with fail
        refine HTT.out.mono ?_
        rintro e w1 ⟨rfl, hb⟩
        go_wp2_with fail
        refine (HFF.out _ hb).mono ?_
        rintro e w2 ⟨rfl, hb2⟩
        go_wp2_with fail
        refine (HH.out _ (hb.trans hb2)).mono ?_
        rintro e w3 ⟨rfl, hb3⟩
        go_wp2_with fail
        go_ret
        exact ⟨rfl, (hb.trans hb2).trans hb3⟩

end Go.Proofs.Ytcojionipffanab
