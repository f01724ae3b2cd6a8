/- Layer 2: sides, blanks and tasks, as the program and as the reference say them. -/
import Derived.Test.YthleajmamkihaaaBase
import Derived.Test.YthleajmamkihaaaCMath
namespace Go.Proofs.Ythleajmamkihaaa
open Go.RowKit
set_option linter.unusedSimpArgs false

theorem isSide_any (n : Int) (w : World) (r : Bool) (hr : sideB n = r) : Calls Try.prog 37 #[.int .i64 n] w fun e w' => e = .returned (.bool r) ∧ w = w' := by
  subst hr
  go_enter Try.func37, Try.ntmps37
  go_wp2
  · have h : 1 ≤ n := by assumption
    go_ret
    exact ⟨ret_bool (by simp [sideB, h]), rfl⟩
  · have h : n < 1 := by assumption
    go_ret
    exact ⟨ret_bool (by simp [sideB]; omega), rfl⟩
def cutB (a n : Int) : Bool := decide (1 ≤ a) && decide (a < n)
theorem isCut_any (a n : Int) (w : World) (r : Bool) (hr : cutB a n = r) : Calls Try.prog 52 #[.int .i64 a, .int .i64 n] w fun e w' => e = .returned (.bool r) ∧ w = w' := by
  subst hr
  go_enter Try.func52, Try.ntmps52
  go_wp2
  · have h : 1 ≤ a := by assumption
    go_ret
    exact ⟨ret_bool (by simp [cutB, h]), rfl⟩
  · have h : a < 1 := by assumption
    go_ret
    exact ⟨ret_bool (by simp [cutB]; omega), rfl⟩
theorem fits_any (b : Bl) (w0 h : Int) (w : World) (r : Bool) (hr : fitsB b w0 h = r) : Calls Try.prog 50 #[.agg #[.int .i64 b.1, .int .i64 b.2.1, .int .i64 b.2.2], .int .i64 w0, .int .i64 h] w fun e w' => e = .returned (.bool r) ∧ Gr w w' := by
  subst hr
  obtain ⟨x, y, v⟩ := b
  dsimp only
  go_enter Try.func50, Try.ntmps50
  go_wp2
  · have h : x ≤ w0 := by assumption
    go_ret
    exact ⟨ret_bool (by simp [fitsB, h]), (Gr.refl _).alloc _⟩
  · have h : w0 < x := by assumption
    go_ret
    exact ⟨ret_bool (by simp [fitsB]; omega), (Gr.refl _).alloc _⟩
theorem bl_getD (bs : List Bl) (k : Nat) : bs.getD k (0, 0, 0) = bl bs k := rfl
theorem cell3 {w W : World} {t : TypeId} {a b c : Value} (hW : w.alloc (.cells #[a, b, c] t) = W) :
    Gr w W ∧ W.cell? ⟨w.heap.size, 0, none⟩ = some a ∧ W.cell? ⟨w.heap.size, 1, none⟩ = some b ∧ W.cell? ⟨w.heap.size, 2, none⟩ = some c := by
  subst hW
  exact ⟨(Gr.refl _).alloc _, alloc_new rfl rfl, alloc_new rfl rfl, alloc_new rfl rfl⟩

set_option maxHeartbeats 2000000 in
theorem isTask_any (W0 H0 : Int) (A : Option Addr) (n c : Nat) (bs : List Bl) (w : World) (hn : bs.length = n) (hl : n ≤ 281474976710656) (hp : Tris w A bs) (r : Bool) (hr : taskB W0 H0 bs = r) :
    Calls Try.prog 22 #[.int .i64 W0, .int .i64 H0, .slice A n c] w fun e w' => e = .returned (.bool r) ∧ Gr w w' := by
  rcases hw : sideB W0 with _ | _
  · obtain rfl : r = false := by rw [← hr]; simp [taskB, hw]
    have HS := Lib.hid hw
    clear hr hw hn hp
    go_enter Try.func22, Try.ntmps22
    go_wp2_with fail
    refine (isSide_any _ _ _ HS.out).mono ?_
    rintro e w1 ⟨rfl, rfl⟩
    go_wp2_with fail
    go_ret
    exact ⟨rfl, by (repeat (first | exact Gr.refl _ | assumption | (refine Gr.drew ?_) | (refine Gr.drewN ?_ _) | (refine Gr.alloc ?_ _) | (refine Gr.trans ?_ (by assumption))))⟩
  · rcases hh : sideB H0 with _ | _
    · obtain rfl : r = false := by rw [← hr]; simp [taskB, hh]
      have HS := Lib.hid hw
      have HS2 := Lib.hid hh
      clear hr hw hn hp hh
      go_enter Try.func22, Try.ntmps22
      go_wp2_with fail
      refine (isSide_any _ _ _ HS.out).mono ?_
      rintro e w1 ⟨rfl, rfl⟩
      go_wp2_with fail
      refine (isSide_any _ _ _ HS2.out).mono ?_
      rintro e w1 ⟨rfl, rfl⟩
      go_wp2_with fail
      go_ret
      exact ⟨rfl, by (repeat (first | exact Gr.refl _ | assumption | (refine Gr.drew ?_) | (refine Gr.drewN ?_ _) | (refine Gr.alloc ?_ _) | (refine Gr.trans ?_ (by assumption))))⟩
    · by_cases h16 : n ≤ 16
      · have HR : Hid (bs.all blB = r) := Lib.hid (by rw [← hr]; unfold taskB; rw [hw, hh, hn]; simp [h16])
        have HS := Lib.hid hw
        have HS2 := Lib.hid hh
        have HN := Lib.hid hn
        have HP := Lib.hid hp
        clear hr hw hh hn hp
        go_enter Try.func22, Try.ntmps22
        go_wp2_with fail
        refine (isSide_any _ _ _ HS.out).mono ?_
        rintro e w1 ⟨rfl, rfl⟩
        go_wp2_with fail
        refine (isSide_any _ _ _ HS2.out).mono ?_
        rintro e w1 ⟨rfl, rfl⟩
        go_wp2_with fail
        go_loopw [24] (fun i wr => ∃ k : Nat, k ≤ n ∧ i = .int .i64 k ∧ Hid ((bs.take k).all blB = true) ∧ Gr w wr) (fun i _ => n - (intOf i).toNat)
        case atStart => exact ⟨0, Nat.zero_le _, rfl, Lib.hid (by simp), by (repeat (first | exact Gr.refl _ | assumption | (refine Gr.drew ?_) | (refine Gr.drewN ?_ _) | (refine Gr.alloc ?_ _) | (refine Gr.trans ?_ (by assumption))))⟩
        case round =>
          obtain ⟨k, hk, rfl, hall, hg⟩ := hrel
          by_cases hlt : k < n
          · have hkl : k < bs.length := by have := HN.out; omega
            obtain ⟨b, off, rfl, h0, h1, h2⟩ := Tris_at (HP.out.keep hg) hkl
            have HALL : blB (bs.getD k (0, 0, 0)) = false → Hid (bs.all blB = false) := fun h => Lib.hid (all_false blB bs (0, 0, 0) k hkl h)
            have HNEXT : blB (bs.getD k (0, 0, 0)) = true → Hid ((bs.take (k + 1)).all blB = true) := fun h => Lib.hid (by rw [all_take_succ _ _ (0, 0, 0) _ hkl, hall.out, h]; rfl)
            generalize bs.getD k (0, 0, 0) = q at h0 h1 h2 HALL HNEXT
            obtain ⟨x, y, v⟩ := q
            dsimp only at h0 h1 h2
            rcases e1 : sideB x with _ | _
            · have HF : Hid (r = false) := Lib.hid (by rw [← HR.out]; exact (HALL (by simp [blB, e1])).out)
              have E1 := Lib.hid e1
              clear e1 HALL HNEXT
              go_wp2_with fail
              refine (isSide_any _ _ _ E1.out).mono ?_
              rintro e w1 ⟨rfl, rfl⟩
              go_wp2_with fail
              go_ret
              exact ⟨ret_bool HF.out.symm, by (repeat (first | exact Gr.refl _ | assumption | (refine Gr.drew ?_) | (refine Gr.drewN ?_ _) | (refine Gr.alloc ?_ _) | (refine Gr.trans ?_ (by assumption))))⟩
            · rcases e2 : sideB y with _ | _
              · have HF : Hid (r = false) := Lib.hid (by rw [← HR.out]; exact (HALL (by simp [blB, e2])).out)
                have E1 := Lib.hid e1
                have E2 := Lib.hid e2
                clear e1 e2 HALL HNEXT
                go_wp2_with fail
                refine (isSide_any _ _ _ E1.out).mono ?_
                rintro e w1 ⟨rfl, rfl⟩
                go_wp2_with fail
                refine (isSide_any _ _ _ E2.out).mono ?_
                rintro e w1 ⟨rfl, rfl⟩
                go_wp2_with fail
                go_ret
                exact ⟨ret_bool HF.out.symm, by (repeat (first | exact Gr.refl _ | assumption | (refine Gr.drew ?_) | (refine Gr.drewN ?_ _) | (refine Gr.alloc ?_ _) | (refine Gr.trans ?_ (by assumption))))⟩
              · by_cases hv : 0 ≤ v ∧ v ≤ 1048576
                · have HX : Hid ((bs.take (k + 1)).all blB = true) := HNEXT (by simp [blB, e1, e2, hv])
                  obtain ⟨v1, v2⟩ := hv
                  have E1 := Lib.hid e1
                  have E2 := Lib.hid e2
                  clear e1 e2 HALL HNEXT
                  go_wp2_with fail
                  refine (isSide_any _ _ _ E1.out).mono ?_
                  rintro e w1 ⟨rfl, rfl⟩
                  go_wp2_with fail
                  refine (isSide_any _ _ _ E2.out).mono ?_
                  rintro e w1 ⟨rfl, rfl⟩
                  go_wp2_with fail
                  go_roundw
                  case rel => exact ⟨k + 1, by omega, by go_num, HX, by (repeat (first | exact Gr.refl _ | assumption | (refine Gr.drew ?_) | (refine Gr.drewN ?_ _) | (refine Gr.alloc ?_ _) | (refine Gr.trans ?_ (by assumption))))⟩
                  case measure => simp [intOf]; omega
                · have HF : Hid (r = false) := Lib.hid (by rw [← HR.out]; exact (HALL (by simp [blB]; omega)).out)
                  have E1 := Lib.hid e1
                  have E2 := Lib.hid e2
                  clear e1 e2 HALL HNEXT
                  by_cases v1 : 0 ≤ v
                  · have v2 : 1048576 < v := by omega
                    go_wp2_with fail
                    refine (isSide_any _ _ _ E1.out).mono ?_
                    rintro e w1 ⟨rfl, rfl⟩
                    go_wp2_with fail
                    refine (isSide_any _ _ _ E2.out).mono ?_
                    rintro e w1 ⟨rfl, rfl⟩
                    go_wp2_with fail
                    go_ret
                    exact ⟨ret_bool HF.out.symm, by (repeat (first | exact Gr.refl _ | assumption | (refine Gr.drew ?_) | (refine Gr.drewN ?_ _) | (refine Gr.alloc ?_ _) | (refine Gr.trans ?_ (by assumption))))⟩
                  · have v2 : v < 0 := by omega
                    clear hv
                    go_wp2_with fail
                    refine (isSide_any _ _ _ E1.out).mono ?_
                    rintro e w1 ⟨rfl, rfl⟩
                    go_wp2_with fail
                    refine (isSide_any _ _ _ E2.out).mono ?_
                    rintro e w1 ⟨rfl, rfl⟩
                    go_wp2_with fail
                    go_ret
                    exact ⟨ret_bool HF.out.symm, by (repeat (first | exact Gr.refl _ | assumption | (refine Gr.drew ?_) | (refine Gr.drewN ?_ _) | (refine Gr.alloc ?_ _) | (refine Gr.trans ?_ (by assumption))))⟩
          · go_wp2_with fail
            go_ret
            exact ⟨ret_bool (by have h := hall.out; rw [List.take_of_length_le (by have := HN.out; omega)] at h; rw [← HR.out]; exact h.symm), hg⟩
      · obtain rfl : r = false := by rw [← hr]; unfold taskB; rw [hn]; simp [h16]
        have h17 : 16 < n := by omega
        have HS := Lib.hid hw
        have HS2 := Lib.hid hh
        clear hr hw hh hn hp h16
        go_enter Try.func22, Try.ntmps22
        go_wp2_with fail
        refine (isSide_any _ _ _ HS.out).mono ?_
        rintro e w1 ⟨rfl, rfl⟩
        go_wp2_with fail
        refine (isSide_any _ _ _ HS2.out).mono ?_
        rintro e w1 ⟨rfl, rfl⟩
        go_wp2_with fail
        go_ret
        exact ⟨rfl, by (repeat (first | exact Gr.refl _ | assumption | (refine Gr.drew ?_) | (refine Gr.drewN ?_ _) | (refine Gr.alloc ?_ _) | (refine Gr.trans ?_ (by assumption))))⟩

end Go.Proofs.Ythleajmamkihaaa
