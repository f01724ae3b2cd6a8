/- The double area, as the program and as the reference reckon it. -/
import Derived.Test.YthleajmamkihaaaPts
namespace Go.Proofs.Ythleajmamkihaaa
open Go.RowKit
set_option linter.unusedSimpArgs false

/-- What the first k edges add up to. -/
def arT (ps : List (Int × Int)) : Nat → Int
  | 0 => 0
  | k + 1 => arT ps k + ((ed ps k).1.1 * (ed ps k).2.2 - (ed ps k).2.1 * (ed ps k).1.2)
def areaL (ps : List (Int × Int)) : Int := arT ps ps.length
/-- All points are valid. -/
def Cos (ps : List (Int × Int)) : Prop := ∀ k, Co (ps.getD k (0, 0)).1 ∧ Co (ps.getD k (0, 0)).2
theorem Cos_of {ps : List (Int × Int)} (h : (ps.all fun p => vld p.1 p.2) = true) : Cos ps := fun k => by
  rcases Nat.lt_or_ge k ps.length with hk | hk
  · have := List.all_eq_true.1 h _ (List.mem_of_getElem? (getD_of (0, 0) hk))
    exact (vld_iff _ _).1 this
  · rw [List.getD_eq_getElem?_getD, List.getElem?_eq_none hk]
    unfold Co; simp
theorem ed_co {ps : List (Int × Int)} (h : Cos ps) (k : Nat) : Co (ed ps k).1.1 ∧ Co (ed ps k).1.2 ∧ Co (ed ps k).2.1 ∧ Co (ed ps k).2.2 := ⟨(h _).1, (h _).2, (h _).1, (h _).2⟩
theorem arT_bd {ps : List (Int × Int)} (h : Cos ps) : ∀ k : Nat, -33554432 * (k : Int) ≤ arT ps k ∧ arT ps k ≤ 33554432 * (k : Int)
  | 0 => by simp [arT]
  | k + 1 => by
    have ih := arT_bd h k
    obtain ⟨c1, c2, c3, c4⟩ := ed_co h k
    have b1 := mul_bd (A := 4096) (B := 4096) c1 c4
    have b2 := mul_bd (A := 4096) (B := 4096) c3 c2
    simp only [arT]
    push_cast
    omega

set_option maxHeartbeats 1000000 in
theorem doubleArea_any (A : Option Addr) (n c : Nat) (ps : List (Int × Int)) (w : World) (hn : ps.length = n) (hl : n ≤ 1048576) (hp : Pts w A ps) (hv : Cos ps) :
    Calls Try.prog 16 #[.slice A n c] w fun e w' => e = .returned (.int .i64 (areaL ps)) ∧ Gr w w' := by
  have HN := Lib.hid hn
  have hcon := edges_any A n c ps w hn hl hp
  have HC := Lib.hid hcon
  clear hn hp hcon
  go_enter Try.func16, Try.ntmps16
  go_wp2_with fail
  refine HC.out.mono ?_
  rintro e w1 ⟨g, rfl, hE, hg⟩
  rw [HN.out]
  have HE := Lib.hid hE
  have HV := Lib.hid hv
  clear hE hv HC
  go_wp2_with fail
  go_loopw [3, 9] (fun s i wr => ∃ k : Nat, k ≤ n ∧ i = .int .i64 k ∧ s = .int .i64 (arT ps k) ∧ Gr w1 wr) (fun _ i _ => n - (intOf i).toNat)
  case atStart => exact ⟨0, Nat.zero_le _, rfl, rfl, Gr.refl _⟩
  case round =>
    obtain ⟨k, hk, rfl, rfl, hgr⟩ := hrel
    by_cases hlt : k < n
    · obtain ⟨b', off', e', hcell⟩ := (HE.out.keep hgr) k (ed ps k) (by simp [edgesL, HN.out, hlt])
      obtain ⟨rfl, rfl⟩ : g = b' ∧ 0 = off' := by simpa using e'
      have k0 := hcell 0 _ rfl
      have k1 := hcell 1 _ rfl
      have k2 := hcell 2 _ rfl
      have k3 := hcell 3 _ rfl
      clear hcell e'
      have hb := arT_bd HV.out k
      obtain ⟨c1, c2, c3, c4⟩ := ed_co HV.out k
      have b1 := mul_bd (A := 4096) (B := 4096) c1 c4
      have b2 := mul_bd (A := 4096) (B := 4096) c3 c2
      have HS : Hid (arT ps (k + 1) = arT ps k + ((ed ps k).1.1 * (ed ps k).2.2 - (ed ps k).2.1 * (ed ps k).1.2)) := Lib.hid rfl
      generalize arT ps k = s at hb HS ⊢
      generalize ed ps k = q at k0 k1 k2 k3 b1 b2 HS
      obtain ⟨⟨x, y⟩, x', y'⟩ := q
      dsimp only at b1 b2 HS
      clear c1 c2 c3 c4
      simp only [Nat.zero_add, Nat.add_zero] at k0 k1 k2 k3
      go_wp2_with fail
      go_roundw
      case rel => exact ⟨k + 1, by omega, by go_num, congrArg (Value.int .i64) HS.out.symm, by (repeat (first | exact Gr.refl _ | assumption | (refine Gr.drew ?_) | (refine Gr.drewN ?_ _) | (refine Gr.alloc ?_ _) | (refine Gr.trans ?_ (by assumption))))⟩
      case measure => simp [intOf]; omega
    · go_wp2_with fail
      go_ret
      obtain rfl : k = n := by omega
      exact ⟨ret_int (by unfold areaL; rw [HN.out]), by (repeat (first | exact Gr.refl _ | assumption | (refine Gr.drew ?_) | (refine Gr.drewN ?_ _) | (refine Gr.alloc ?_ _) | (refine Gr.trans ?_ (by assumption))))⟩

set_option maxHeartbeats 1000000 in
theorem Area_yes (A : Option Addr) (n c : Nat) (ps : List (Int × Int)) (w : World) (hn : ps.length = n) (hl : n ≤ 512) (hp : Pts w A ps) (hv : (ps.all fun p => vld p.1 p.2) = true) :
    Calls Try.prog 6 #[.slice A n c] w fun e w' => e = .returned (.tuple #[.int .i64 (areaL ps), .int .i64 0]) ∧ Gr w w' := by
  have HN := Lib.hid hn
  have HP := Lib.hid hp
  have HV := Lib.hid hv
  clear hn hp hv
  go_enter Try.func6, Try.ntmps6
  go_wp2_with fail
  refine (allValid_any A n c ps _ HN.out (by omega) HP.out _ HV.out).mono ?_
  rintro e w1 ⟨rfl, hb⟩
  go_wp2_with fail
  refine (doubleArea_any A n c ps _ HN.out (by omega) (HP.out.keep hb) (Cos_of HV.out)).mono ?_
  rintro e w2 ⟨rfl, hb2⟩
  go_wp2_with fail
  go_ret2
  exact ⟨rfl, by (repeat (first | exact Gr.refl _ | assumption | (refine Gr.drew ?_) | (refine Gr.drewN ?_ _) | (refine Gr.alloc ?_ _) | (refine Gr.trans ?_ (by assumption))))⟩

set_option maxHeartbeats 1000000 in
theorem Area_no (A : Option Addr) (n c : Nat) (ps : List (Int × Int)) (w : World) (hn : ps.length = n) (hl : n ≤ 281474976710656) (hp : Pts w A ps) (hv : 512 < n ∨ (ps.all fun p => vld p.1 p.2) = false) :
    Calls Try.prog 6 #[.slice A n c] w fun e w' => e = .returned (.tuple #[.int .i64 0, .int .i64 2]) ∧ Gr w w' := by
  have HN := Lib.hid hn
  have HP := Lib.hid hp
  clear hn hp
  by_cases h : 512 < n
  · clear hv
    go_enter Try.func6, Try.ntmps6
    go_wp2_with fail
    go_ret2
    exact ⟨rfl, by (repeat (first | exact Gr.refl _ | assumption | (refine Gr.drew ?_) | (refine Gr.drewN ?_ _) | (refine Gr.alloc ?_ _) | (refine Gr.trans ?_ (by assumption))))⟩
  · have HV := Lib.hid (hv.resolve_left h)
    clear hv
    go_enter Try.func6, Try.ntmps6
    go_wp2_with fail
    refine (allValid_any A n c ps _ HN.out hl HP.out _ HV.out).mono ?_
    rintro e w1 ⟨rfl, hb⟩
    go_wp2_with fail
    go_ret2
    exact ⟨rfl, by (repeat (first | exact Gr.refl _ | assumption | (refine Gr.drew ?_) | (refine Gr.drewN ?_ _) | (refine Gr.alloc ?_ _) | (refine Gr.trans ?_ (by assumption))))⟩

end Go.Proofs.Ythleajmamkihaaa
