/- Slices whose elements are structs of integers, as lists. -/
import Derived.Test.YtjkdjfagaakijaaNum
import Derived.Test.YtjkdjfagaakijaaHeld
namespace Go.Proofs.Ytjkdjfagaakijaa
open Go.RowKit

set_option maxHeartbeats 1000000 in
theorem allValid_any (A : Option Addr) (n c : Nat) (ps : List (Int × Int)) (w : World) (hn : ps.length = n) (hl : n ≤ 281474976710656) (hp : Pts w A ps) (r : Bool) (hr : (ps.all fun p => vld p.1 p.2) = r) :
    Calls Try.prog 53 #[.slice A n c] w fun e w' => e = .returned (.bool r) ∧ Gr w w' := by
  subst hr
  have HN := Lib.hid hn
  clear hn
  have HP := Lib.hid hp
  clear hp
  go_enter Try.func53, Try.ntmps53
  go_wp2_with fail
  go_loopw [7] (fun i wr => ∃ k : Nat, k ≤ n ∧ i = .int .i64 k ∧ Hid ((ps.take k).all (fun p => vld p.1 p.2) = true) ∧ Gr w wr) (fun i _ => n - (intOf i).toNat)
  case atStart => exact ⟨0, Nat.zero_le _, rfl, Lib.hid (by simp), Gr.refl _⟩
  case round =>
    obtain ⟨k, hk, rfl, hall, hg⟩ := hrel
    by_cases hlt : k < n
    · obtain ⟨b, off, rfl, hx, hy⟩ := Pts_at (HP.out.keep hg) (k := k) (by have := HN.out; omega)
      have hkl : k < ps.length := by have := HN.out; omega
      rcases hv : vld (ps.getD k (0, 0)).1 (ps.getD k (0, 0)).2 with _ | _
      · have HR := Lib.hid (all_false (fun p => vld p.1 p.2) ps (0, 0) k hkl hv)
        generalize ps.getD k (0, 0) = q at hx hy hv
        obtain ⟨x, y⟩ := q
        have HV := Lib.hid hv
        clear hv
        go_wp2_with fail
        refine (valid_any x y _ _ HV.out).mono ?_
        rintro e w1 ⟨rfl, hb⟩
        go_wp2_with fail
        go_ret
        exact ⟨ret_bool HR.out.symm, by (repeat (first | exact Gr.refl _ | assumption | (refine Gr.drew ?_) | (refine Gr.drewN ?_ _) | (refine Gr.alloc ?_ _) | (refine Gr.trans ?_ (by assumption))))⟩
      · have HR : Hid ((ps.take (k + 1)).all (fun p => vld p.1 p.2) = true) := Lib.hid (by rw [all_take_succ _ _ (0, 0) _ hkl, hall.out, hv]; rfl)
        generalize ps.getD k (0, 0) = q at hx hy hv
        obtain ⟨x, y⟩ := q
        have HV := Lib.hid hv
        clear hv
        go_wp2_with fail
        refine (valid_any x y _ _ HV.out).mono ?_
        rintro e w1 ⟨rfl, hb⟩
        go_wp2_with fail
        go_roundw
        case rel => exact ⟨k + 1, by omega, by go_num, HR, by (repeat (first | exact Gr.refl _ | assumption | (refine Gr.drew ?_) | (refine Gr.drewN ?_ _) | (refine Gr.alloc ?_ _) | (refine Gr.trans ?_ (by assumption))))⟩
        case measure => simp [intOf]; omega
    · go_wp2_with fail
      go_ret
      exact ⟨ret_bool (by have h := hall.out; rw [List.take_of_length_le (by have := HN.out; omega)] at h; exact h.symm), hg⟩

set_option maxHeartbeats 1000000 in
theorem isSet_any (A : Option Addr) (n c : Nat) (ps : List (Int × Int)) (w : World) (hn : ps.length = n) (hl : n ≤ 281474976710656) (hp : Pts w A ps) (r : Bool) (hr : (decide (1 ≤ n ∧ n ≤ 512) && ps.all fun p => vld p.1 p.2) = r) :
    Calls Try.prog 40 #[.slice A n c] w fun e w' => e = .returned (.bool r) ∧ Gr w w' := by
  by_cases h : 1 ≤ n ∧ n ≤ 512
  · have HR : Hid ((ps.all fun p => vld p.1 p.2) = r) := Lib.hid (by rw [← hr]; simp [h])
    clear hr
    have HN := Lib.hid hn
    clear hn
    go_enter Try.func40, Try.ntmps40
    go_wp2_with fail
    refine (allValid_any _ _ _ ps _ HN.out hl hp _ HR.out).mono ?_
    rintro e w1 ⟨rfl, hb⟩
    go_wp2_with fail
    all_goals
      go_ret
      exact ⟨rfl, by (repeat (first | exact Gr.refl _ | assumption | (refine Gr.drew ?_) | (refine Gr.drewN ?_ _) | (refine Gr.alloc ?_ _) | (refine Gr.trans ?_ (by assumption))))⟩
  · obtain rfl : r = false := by rw [← hr]; simp [h]
    clear hr
    clear hn hp
    by_cases h1 : 1 ≤ n
    · have h2 : 512 < n := by omega
      go_enter Try.func40, Try.ntmps40
      go_wp2_with fail
      go_ret
      exact ⟨rfl, by (repeat (first | exact Gr.refl _ | assumption | (refine Gr.drew ?_) | (refine Gr.drewN ?_ _) | (refine Gr.alloc ?_ _) | (refine Gr.trans ?_ (by assumption))))⟩
    · have h2 : n = 0 := by omega
      subst h2
      go_enter Try.func40, Try.ntmps40
      go_wp2_with fail
      go_ret
      exact ⟨rfl, by (repeat (first | exact Gr.refl _ | assumption | (refine Gr.drew ?_) | (refine Gr.drewN ?_ _) | (refine Gr.alloc ?_ _) | (refine Gr.trans ?_ (by assumption))))⟩

end Go.Proofs.Ytjkdjfagaakijaa
