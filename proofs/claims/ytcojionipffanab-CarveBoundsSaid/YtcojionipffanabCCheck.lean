/- Layer 2: Check. -/
import Derived.Test.YtcojionipffanabCTable
import Derived.Test.YtcojionipffanabCWorth
namespace Go.Proofs.Ytcojionipffanab
open Go.RowKit
set_option linter.unusedSimpArgs false

def rowB (H : Nat) (row : List Int) : Bool := decide (row.length = H + 1) && row.all numB
def formB (W H : Nat) (tb : List (List Int)) : Bool := decide (tb.length = W + 1) && tb.all (rowB H)
def boundB (bs : List Bl) (tb : List (List Int)) (W H : Nat) : Bool := (List.range (W + 1)).all fun w => (List.range (H + 1)).all fun h => decide (needT bs (at2 tb) w h ≤ at2 tb w h)
theorem boundB_iff (bs : List Bl) (tb : List (List Int)) (W H : Nat) : boundB bs tb W H = true ↔ BoundF bs (at2 tb) W H := by
  unfold boundB BoundF
  simp only [List.all_eq_true, List.mem_range, decide_eq_true_eq]
  exact ⟨fun h w k hw hk => h w (by omega) k (by omega), fun h w hw k hk => h w k (by omega) (by omega)⟩
theorem getD_mem {α : Type} {l : List α} {d : α} {i : Nat} (h : i < l.length) : l.getD i d ∈ l := List.mem_of_getElem? (getD_of d h)
theorem formB_iff (W H : Nat) (tb : List (List Int)) : formB W H tb = true ↔ Frm W H tb := by
  unfold formB Frm
  rw [Bool.and_eq_true, decide_eq_true_eq, List.all_eq_true]
  constructor
  · rintro ⟨h1, h2⟩
    refine ⟨h1, fun w hw => ?_⟩
    have h3 := h2 _ (getD_mem (d := []) (show w < tb.length by omega))
    unfold rowB at h3
    rw [Bool.and_eq_true, decide_eq_true_eq, List.all_eq_true] at h3
    exact ⟨h3.1, fun h hh => (numB_iff _).1 (h3.2 _ (getD_mem (by omega)))⟩
  · rintro ⟨h1, h2⟩
    refine ⟨h1, fun row hr => ?_⟩
    obtain ⟨i, hi, rfl⟩ := List.mem_iff_getElem.1 hr
    have e : tb.getD i [] = tb[i] := by rw [List.getD_eq_getElem?_getD, List.getElem?_eq_getElem hi]; rfl
    have h3 := h2 i (by omega)
    unfold at2 at h3
    rw [e] at h3
    unfold rowB
    rw [Bool.and_eq_true, decide_eq_true_eq, List.all_eq_true]
    refine ⟨h3.1, fun n hn => ?_⟩
    obtain ⟨k, hk, rfl⟩ := List.mem_iff_getElem.1 hn
    have h4 := h3.2 k (by omega)
    rw [List.getD_eq_getElem?_getD, List.getElem?_eq_getElem hk] at h4
    exact (numB_iff _).2 h4

/-- A slice of slices, one row of it. -/
theorem RdRows.get {w : World} {A : Option Addr} {tb : List (List Int)} (h : RdRows w A tb) {i : Nat} (hi : i < tb.length) :
    ∃ b off Ai ci, A = some ⟨b, off, none⟩ ∧ w.cell? ⟨b, off + i, none⟩ = some (.slice Ai (tb.getD i []).length ci) ∧ Ints w Ai (tb.getD i []) := h i _ (getD_of [] hi)

set_option maxRecDepth 100000 in
set_option maxHeartbeats 2000000 in
theorem hasForm_any (W H : Nat) (hW : W ≤ 48) (hH : H ≤ 48) (TA : Option Addr) (tn tc : Nat) (tb : List (List Int)) (w : World) (htn : tb.length = tn) (htl : tn ≤ 281474976710656) (hrl : ∀ row ∈ tb, row.length ≤ 281474976710656) (hT : RdRows w TA tb) (r : Bool) (hr : formB W H tb = r) :
    Calls Try.prog 39 #[.int .i64 (W : Int), .int .i64 (H : Int), .slice TA tn tc] w fun e w' => e = .returned (.bool r) ∧ Gr w w' := by
  by_cases hl : tn = W + 1
  · have HT := Lib.hid hT
    have HN := Lib.hid htn
    have HRL := Lib.hid hrl
    have HR : Hid (tb.all (rowB H) = r) := Lib.hid (by rw [← hr]; unfold formB; rw [htn]; simp [hl])
    have hne : ((tn : Int) != (W : Int) + 1) = false := by simp; omega
    have htl2 : tn ≤ 49 := by omega
    have HL := Lib.hid hl
    clear hT htn hr hrl hl
    go_enter Try.func39, Try.ntmps39
    go_wp2_with fail
    go_loopw [18] (fun i wr => ∃ k : Nat, k ≤ tn ∧ i = .int .i64 k ∧ Hid ((tb.take k).all (rowB H) = true) ∧ Gr w wr) (fun i _ => tn - (intOf i).toNat)
    case atStart => exact ⟨0, Nat.zero_le _, rfl, Lib.hid (by simp), Gr.refl _⟩
    case round =>
      obtain ⟨wo, rfl⟩ : ∃ wo : World, wo = wr := ⟨_, rfl⟩
      obtain ⟨k, hk, rfl, hall, hg⟩ := hrel
      by_cases hlt : k < tn
      · have hkl : k < tb.length := by have := HN.out; omega
        obtain ⟨b, off, Ai, ci, rfl, hc, hI⟩ := (HT.out.keep hg).get hkl
        have hrk := HRL.out _ (getD_mem (d := []) hkl)
        have HALL : rowB H (tb.getD k []) = false → Hid (r = false) := fun h => Lib.hid (by rw [← HR.out]; exact all_false (rowB H) tb [] k hkl h)
        have HNEXT : rowB H (tb.getD k []) = true → Hid ((tb.take (k + 1)).all (rowB H) = true) := fun h => Lib.hid (by rw [all_take_succ _ _ [] _ hkl, hall.out, h]; rfl)
        generalize tb.getD k [] = row at hc hI hrk HALL HNEXT
        obtain ⟨n, hn⟩ : ∃ n, row.length = n := ⟨_, rfl⟩
        rw [hn] at hc hrk
        have HI := Lib.hid hI
        have HRN := Lib.hid hn
        clear hI hn
        by_cases hm : n = H + 1
        · have hme : ((n : Int) != (H : Int) + 1) = false := by simp; omega
          have HM := Lib.hid hm
          have hnl : n ≤ 49 := by omega
          clear hm
          go_wp2_with fail
          go_loopw [29] (fun i wr => ∃ j : Nat, j ≤ n ∧ i = .int .i64 j ∧ Hid ((row.take j).all numB = true) ∧ Gr wo wr) (fun i _ => n - (intOf i).toNat)
          case atStart => exact ⟨0, Nat.zero_le _, rfl, Lib.hid (by simp), Gr.refl _⟩
          case round =>
            obtain ⟨j, hj, rfl, hall2, hg2⟩ := hrel
            by_cases hlt2 : j < n
            · have hjl : j < row.length := by have := HRN.out; omega
              obtain ⟨b', off', rfl, hv⟩ := Ints_at (HI.out.keep hg2) hjl
              have HBAD : numB (row.getD j 0) = false → Hid (r = false) := fun h => HALL (by unfold rowB; rw [all_false numB row 0 j hjl h]; simp)
              have HOK : numB (row.getD j 0) = true → Hid ((row.take (j + 1)).all numB = true) := fun h => Lib.hid (by rw [all_take_succ _ _ 0 _ hjl, hall2.out, h]; rfl)
              generalize row.getD j 0 = v at hv HBAD HOK
              by_cases hv1 : 0 ≤ v
              · by_cases hv2 : v ≤ 1099511627776
                · have HX := HOK (by simp [numB, hv1, hv2])
                  clear HBAD HOK
                  go_wp2_with fail
                  go_roundw
                  case rel => exact ⟨j + 1, by omega, by go_num, HX, hg2⟩
                  case measure => simp [intOf]; omega
                · have HX := HBAD (by simp [numB]; omega)
                  clear HBAD HOK
                  go_wp2_with fail
                  go_ret
                  exact ⟨ret_bool HX.out.symm, hg.trans hg2⟩
              · have HX := HBAD (by simp [numB]; omega)
                clear HBAD HOK
                go_wp2_with fail
                go_ret
                exact ⟨ret_bool HX.out.symm, hg.trans hg2⟩
            · have HX := HNEXT (by unfold rowB; have h := hall2.out; rw [List.take_of_length_le (by have := HRN.out; omega)] at h; rw [h, HRN.out, HM.out]; simp)
              clear HALL HNEXT
              go_wp2_with fail
              go_roundw
              case rel => exact ⟨k + 1, by omega, by go_num, HX, hg.trans hg2⟩
              case measure => simp [intOf]; omega
        · have hme : ((n : Int) != (H : Int) + 1) = true := by simp; omega
          have HX := HALL (by unfold rowB; rw [HRN.out]; simp [hm])
          clear HALL HNEXT hm
          go_wp2_with fail
          go_ret
          exact ⟨ret_bool HX.out.symm, hg⟩
      · go_wp2_with fail
        go_ret
        exact ⟨ret_bool (by have h := hall.out; rw [List.take_of_length_le (by have := HN.out; omega)] at h; rw [← HR.out]; exact h.symm), hg⟩
  · obtain rfl : r = false := by rw [← hr]; unfold formB; rw [htn]; simp [hl]
    have hne : ((tn : Int) != (W : Int) + 1) = true := by simp; omega
    clear hr hT htn hrl hl
    go_enter Try.func39, Try.ntmps39
    go_wp2_with fail
    go_ret
    exact ⟨rfl, Gr.refl _⟩

end Go.Proofs.Ytcojionipffanab
