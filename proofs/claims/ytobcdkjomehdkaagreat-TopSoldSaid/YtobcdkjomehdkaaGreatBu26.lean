/- Through the layers: all letters of a net are delivered, in any order, some twice. -/
import Derived.Test.YtobcdkjomehdkaaGreatBu23
import Derived.Test.YtobcdkjomehdkaaGreatBu19
import Derived.Test.YtobcdkjomehdkaaGreatBu25
import Derived.Test.YtobcdkjomehdkaaGreatBu0
import Derived.WalkKit
import Derived.WalkSpells
import Derived.WalkLawsBesides
import Derived.BigQuiet
import Derived.Deep.QuietTactic
import Derived.Lib.Hide
import Derived.Deep.RegionHeld3
import Derived.Test.YtobcdkjomehdkaaGreatBu2
import Derived.RegionTactic
import Derived.BigRegion
import Derived.ChangeAlike
namespace Go.Proofs.YtobcdkjomehdkaaGreat
open Go.RowKit
set_option linter.unusedSimpArgs false
set_option maxRecDepth 100000
set_option maxHeartbeats 80000000

def StillP (B : Nat) (w : World) (N : Nx) (own : List Int) (all : List (List Mv)) (F : Prop) (e : Ending) (w' : World) : Prop :=
 e = .returned (.bool true) ∧ ∃ N', NetTo B w N N' w' ∧ (nzN N').mail = [] ∧ SlN (nzN N') own all F
theorem still_any {B : Nat} {N : Nx} {F : Prop} (A : Option Addr) (n c : Nat) (ol : List Int) (own : List Int) (all : List (List Mv)) (w : World) (h : NetR B w N) (hf : Fl N own all F 0) (hn : ol.length = n) (HO : ∀ X, Ch (ownB N) w X → Ints X A ol) :
 Calls Tryz.prog 11 #[.pointer (some ⟨N.p, 0, none⟩), .slice A n c] w (StillP B w N own all F) := by
 obtain ⟨p, hpp⟩ : ∃ p, N.p = p := ⟨_, rfl⟩
 have HP := Lib.hid hpp
 have HN0 := Lib.hid (NetTo.refl h (Gr.refl w))
 have HF0 := Lib.hid hf
 have HNL := Lib.hid hn
 have HOI := Lib.hid HO
 rw [hpp]
 clear h hf hn HO hpp
 go_enter Tryz.func11, Tryz.ntmps11
 go_wp2_with fail
 go_loopw [5] (fun z wr => ∃ (d : Nat) (M : Nx), d ≤ 3999 ∧ z = .int .i64 (d : Int) ∧ Hid (NetTo B w N M wr) ∧ Hid (Fl M own all F d)) (fun z _ => 4000 - (intOf z).toNat)
 case atStart => exact ⟨0, N, by omega, rfl, HN0, HF0⟩
 case round =>
  obtain ⟨d, M, hd, rfl, hto, hfl⟩ := hrel
  clear HN0 HF0
  have hz2 : M.p = p := hto.out.p.trans HP.out
  have hml := hfl.out.room
  have HLE := Lib.hid (Letters_any hto.out.net (by omega))
  rw [hz2] at HLE
  have hd2 : (d : Int) < 4000 := by omega
  obtain ⟨q, hq⟩ : ∃ q, M.mail.length = q := ⟨_, rfl⟩
  have HQ := Lib.hid hq
  rw [hq] at hml
  by_cases hq0 : q = 0
  ·subst hq0
   have HM0 : Hid ((nzN M).mail = []) := Lib.hid (List.length_eq_zero_iff.1 hq)
   clear hq hz2
   go_wp2_with fail
   refine HLE.out.mono ?_
   rintro e w5 ⟨A7, c7, rfl, -, hg7, -⟩
   rw [HQ.out]
   have HT3 := Lib.hid (hto.out.post hg7)
   clear hg7
   go_wp2_with fail
   go_ret
   exact ⟨rfl, M, HT3.out, HM0.out, hfl.out.sl⟩
  ·have hqe : ((q : Int) == 0) = false := by simp [hq0]
   have hq1 : 0 < q := by omega
   have HON : Hid (∀ (a : Nat), a < q → refL M (a : Int) = 0 ∧ ∀ M2, nzN M2 = delI (nzN M) (a : Int) → Fl M2 own all F (d + 1)) := Lib.hid (fun a ha => by
    have hlo := hfl.out.sl.ok.lo
    rw [nz_len] at hlo
    exact ⟨refL_in hlo (by omega), fun M2 hM2 => (hfl.out.one (by omega) hM2).2⟩)
   have HTW : Hid (∀ (a : Nat), a < q → ∀ M1, nzN M1 = repI (nzN M) (a : Int) → OkN (nzN M1) ∧ refL M1 (a : Int) = 0 ∧ ∀ M', nzN M' = delI (nzN M1) (a : Int) → Fl M' own all F (d + 1)) := Lib.hid (fun a ha M1 hM1 => (hfl.out.two (by omega) hM1).2)
   have HDE : Hid (∀ (a : Nat) X, Gr wr X → Calls Tryz.prog 27 #[.pointer (some ⟨p, 0, none⟩), .int .i64 (a : Int)] X (NumP B X M (refL M (a : Int)) (delI (nzN M) (a : Int)))) := Lib.hid (fun a X hX => by
    have h1 := Deliver_all (a : Int) (hto.out.net.keep hX) hfl.out.sl.ok
    rw [hz2] at h1
    exact h1)
   have HRE : Hid (∀ (a : Nat) X, Gr wr X → Calls Tryz.prog 26 #[.pointer (some ⟨p, 0, none⟩), .int .i64 (a : Int)] X (NumP B X M (refL M (a : Int)) (repI (nzN M) (a : Int)))) := Lib.hid (fun a X hX => by
    have h1 := Repeat_all (a : Int) (hto.out.net.keep hX) hfl.out.sl.ok
    rw [hz2] at h1
    exact h1)
   have HMP := Lib.hid hz2
   have HOL : Hid (∀ X, Gr wr X → Ints X A ol) := Lib.hid (fun X hX => HOI.out X ((hto.out.post hX).ch))
   have HMO := Lib.hid (fun x W => tmod_any x (q : Int) W (by omega) (by omega))
   have hmo := fun x => modT_le (x := x) (n := (q : Int)) (by omega) (by omega)
   clear hq hz2 hml hq0
   go_wp2_with fail
   refine HLE.out.mono ?_
   rintro e w5 ⟨A7, c7, rfl, -, hg7, -⟩
   rw [HQ.out]
   have HG7 := Lib.hid hg7
   clear hg7 HLE
   by_cases hdn : d < n
   ·have hdi : (d : Int) < (n : Int) := by omega
    have hd00 : (0 : Int) ≤ (d : Int) := by omega
    obtain ⟨b, off, rfl, hcell⟩ := Ints_at (HOL.out w5 HG7.out) (i := d) (by rw [HNL.out]; exact hdn)
    generalize ol.getD d 0 = x at hcell
    have hx := hmo x
    have HMX := Lib.hid (HMO.out x)
    generalize modT x (q : Int) = mx at hx HMX
    obtain ⟨a, rfl⟩ : ∃ a : Nat, mx = (a : Int) := ⟨mx.toNat, by omega⟩
    have haq : a < q := by omega
    clear hmo HMO hx
    have hcQ : ∀ n, (w5.drewN n).cell? ⟨b, off + d, none⟩ = some (.int .i64 x) := fun n => ((Gr.refl w5).drewN n).keep hcell
    go_upto_region 9 with fail
    go_quiet (first | (go_at_call 9; refine Calls.quiet_of_same (HMX.out _)))
    have hgq : Gr wr (w5.drewN nq) := HG7.out.trans ((Gr.refl w5).drewN nq)
    generalize World.drewN w5 nq = wq at hgq ⊢
    generalize (x.tmod 3 == 0) = tw
    have HGQ := Lib.hid hgq
    clear hgq hcQ hcell
    cases tw with
    | false =>
      obtain ⟨hr0, hnx⟩ := HON.out a haq
      have HNX := Lib.hid hnx
      have HDA := Lib.hid (HDE.out a wq HGQ.out)
      rw [hr0] at HDA
      clear hnx hr0
      go_wp2_with fail
      refine HDA.out.mono ?_
      rintro e w6 ⟨rfl, M2, hM2, hto2⟩
      have H1 := Lib.hid (HNX.out M2 hM2)
      have HT4 := Lib.hid ((hto.out.post HGQ.out).trans hto2)
      have hd3 : d + 1 ≤ 3999 := by have := H1.out.ph2; omega
      clear hM2 hto2
      go_wp2_with fail
      go_roundw
      case rel => exact ⟨d + 1, M2, hd3, by go_num, HT4, H1⟩
      case measure => simp [intOf]; omega
    | true =>
      have hr0 := (HON.out a haq).1
      have HRA := Lib.hid (HRE.out a wq HGQ.out)
      rw [hr0] at HRA
      have HTA := Lib.hid (HTW.out a haq)
      clear hr0
      go_wp2_with fail
      refine HRA.out.mono ?_
      rintro e w6 ⟨rfl, M1, hM1, hto1⟩
      obtain ⟨hok1, hr1, hnx⟩ := HTA.out M1 hM1
      have HNX := Lib.hid hnx
      have HT1 := Lib.hid ((hto.out.post HGQ.out).trans hto1)
      have HDA := Lib.hid (Deliver_all (a : Int) HT1.out.net hok1)
      have hz1 : M1.p = p := HT1.out.p.trans HP.out
      rw [hz1, hr1] at HDA
      clear hnx hr1 hM1 hto1 hok1 hz1
      go_wp2_with fail
      refine HDA.out.mono ?_
      rintro e w7 ⟨rfl, M2, hM2, hto2⟩
      have H1 := Lib.hid (HNX.out M2 hM2)
      have HT4 := Lib.hid (HT1.out.trans hto2)
      have hd3 : d + 1 ≤ 3999 := by have := H1.out.ph2; omega
      clear hM2 hto2
      go_wp2_with fail
      go_roundw
      case rel => exact ⟨d + 1, M2, hd3, by go_num, HT4, H1⟩
      case measure => simp [intOf]; omega
   ·have hdi : ¬ (d : Int) < (n : Int) := by omega
    obtain ⟨hr0, hnx⟩ := HON.out 0 hq1
    have HNX := Lib.hid hnx
    have HDA := Lib.hid (HDE.out 0 w5 HG7.out)
    rw [hr0] at HDA
    clear hnx hr0 hmo HMO
    go_wp2_with fail
    refine HDA.out.mono ?_
    rintro e w6 ⟨rfl, M2, hM2, hto2⟩
    have H1 := Lib.hid (HNX.out M2 hM2)
    have HT4 := Lib.hid ((hto.out.post HG7.out).trans hto2)
    have hd3 : d + 1 ≤ 3999 := by have := H1.out.ph2; omega
    clear hM2 hto2
    go_wp2_with fail
    go_roundw
    case rel => exact ⟨d + 1, M2, hd3, by go_num, HT4, H1⟩
    case measure => simp [intOf]; omega

end Go.Proofs.YtobcdkjomehdkaaGreat

namespace Go.Proofs.YtobcdkjomehdkaaGreat
set_option linter.unusedSimpArgs false
set_option maxRecDepth 100000
set_option maxHeartbeats 80000000

theorem mul_bd {a b A B : Int} (ha : -A ≤ a ∧ a ≤ A) (hb : -B ≤ b ∧ b ≤ B) : -(A * B) ≤ a * b ∧ a * b ≤ A * B := by
 obtain ⟨a1, a2⟩ := ha
 obtain ⟨b1, b2⟩ := hb
 have hA : 0 ≤ A := by omega
 have hB : 0 ≤ B := by omega
 rcases Int.le_total 0 b with h | h
 ·have u1 : a * b ≤ A * b := Int.mul_le_mul_of_nonneg_right a2 h
  have u2 : -A * b ≤ a * b := Int.mul_le_mul_of_nonneg_right a1 h
  have u3 : A * b ≤ A * B := Int.mul_le_mul_of_nonneg_left b2 hA
  rw [Int.neg_mul] at u2
  omega
 ·have u1 : a * b ≤ -A * b := Int.mul_le_mul_of_nonpos_right a1 h
  have u2 : A * b ≤ a * b := Int.mul_le_mul_of_nonpos_right a2 h
  have u3 : A * -B ≤ A * b := Int.mul_le_mul_of_nonneg_left b1 hA
  rw [Int.neg_mul] at u1
  rw [Int.mul_neg] at u3
  omega

def crs (ax ay bx by_ cx cy : Int) : Int := (bx - ax) * (cy - ay) - (by_ - ay) * (cx - ax)
def sgn (n : Int) : Int := if n < 0 then -1 else if 0 < n then 1 else 0
def vld (x y : Int) : Bool := decide (-4096 ≤ x) && decide (x ≤ 4096) && decide (-4096 ≤ y) && decide (y ≤ 4096)
theorem vld_iff (x y : Int) : vld x y = true ↔ (-4096 ≤ x ∧ x ≤ 4096) ∧ (-4096 ≤ y ∧ y ≤ 4096) := by
 simp [vld]; omega
def Co (x : Int) : Prop := -4096 ≤ x ∧ x ≤ 4096
def sqd (ax ay bx by_ : Int) : Int := (bx - ax) * (bx - ax) + (by_ - ay) * (by_ - ay)
def spansT (a b c d : Int) : Bool := decide (min a b ≤ max c d ∧ min c d ≤ max a b)

def onL (ax ay bx by_ px py : Int) : Bool :=
 decide (sgn (crs ax ay bx by_ px py) = 0 ∧ min ax bx ≤ px ∧ px ≤ max ax bx ∧ min ay by_ ≤ py ∧ py ≤ max ay by_)

def meetL (ax ay bx by_ cx cy dx dy : Int) : Bool :=
 (decide (sgn (crs ax ay bx by_ cx cy) * sgn (crs ax ay bx by_ dx dy) < 0) && decide (sgn (crs cx cy dx dy ax ay) * sgn (crs cx cy dx dy bx by_) < 0)) ||
 (onL ax ay bx by_ cx cy || (onL ax ay bx by_ dx dy || (onL cx cy dx dy ax ay || onL cx cy dx dy bx by_)))

def touchL (ax ay bx by_ cx cy dx dy : Int) : Bool :=
 (spansT ax bx cx dx && spansT ay by_ cy dy) && (decide (sgn (crs ax ay bx by_ cx cy) * sgn (crs ax ay bx by_ dx dy) ≤ 0) && decide (sgn (crs cx cy dx dy ax ay) * sgn (crs cx cy dx dy bx by_) ≤ 0))

def foldsL (ax ay bx by_ cx cy : Int) : Bool :=
 decide (sgn (crs ax ay bx by_ cx cy) = 0) && decide (0 < (ax - bx) * (cx - bx) + (ay - by_) * (cy - by_))

def rayL (ax ay bx by_ px py : Int) : Bool :=
 if decide (py < ay) == decide (py < by_) then false else decide (ay < by_) == decide (0 < crs ax ay bx by_ px py)

end Go.Proofs.YtobcdkjomehdkaaGreat

namespace Go.Proofs.YtobcdkjomehdkaaGreat
open Go.RowKit
set_option linter.unusedSimpArgs false
set_option maxRecDepth 100000
set_option maxHeartbeats 80000000

theorem inRange_any (n m : Int) (w : World) (hm : 0 ≤ m ∧ m ≤ 4611686018427387904) (r : Bool) (hr : (decide (-m ≤ n) && decide (n ≤ m)) = r) :
 Calls Tryz.prog 117 #[.int .i64 n, .int .i64 m] w fun e w' => e = .returned (.bool r) ∧ w = w' := by
 subst hr
 go_enter Tryz.func117, Tryz.ntmps117
 go_wp2
 ·have h : -m ≤ n := by assumption
  go_ret
  exact ⟨ret_bool (by simp [h]), rfl⟩
 ·have h : n < -m := by assumption
  go_ret
  exact ⟨ret_bool (by simp; omega), rfl⟩

theorem valid_any (x y : Int) (w : World) (r : Bool) (hr : vld x y = r) :
 Calls Tryz.prog 109 #[.agg #[.int .i64 x, .int .i64 y]] w fun e w' => e = .returned (.bool r) ∧ Gr w w' := by
 subst hr
 cases hx : (decide (-4096 ≤ x) && decide (x ≤ 4096))
 ·have e : vld x y = false := by
   cases h : vld x y
   ·rfl
   ·have := (vld_iff x y).1 h
    simp at hx; omega
  rw [e]
  have H := Lib.hid hx
  clear hx e
  go_enter Tryz.func109, Tryz.ntmps109
  go_wp2_with fail
  refine (inRange_any x _ _ (by omega) _ H.out).mono ?_
  rintro e w' ⟨rfl, rfl⟩
  go_wp2_with fail
  go_ret
  exact ⟨rfl, (Gr.refl _).alloc _⟩
 ·cases hy : (decide (-4096 ≤ y) && decide (y ≤ 4096))
  all_goals
   have e : vld x y = (decide (-4096 ≤ y) && decide (y ≤ 4096)) := by
    simp at hx
    simp [vld, hx]
   rw [hy] at e
   rw [e]
   have H := Lib.hid hx
   have H2 := Lib.hid hy
   clear hx hy e
   go_enter Tryz.func109, Tryz.ntmps109
   go_wp2_with fail
   refine (inRange_any x _ _ (by omega) _ H.out).mono ?_
   rintro e w' ⟨rfl, rfl⟩
   go_wp2_with fail
   refine (inRange_any y _ _ (by omega) _ H2.out).mono ?_
   rintro e w' ⟨rfl, rfl⟩
   go_wp2_with fail
   go_ret
   exact ⟨rfl, (Gr.refl _).alloc _⟩

theorem isNaN_any (x : Int) (w : World) : Calls Tryz.prog 101 #[.int .i64 x] w fun e w' => e = .returned (.bool false) ∧ w = w' := by
 go_enter Tryz.func101, Tryz.ntmps101
 go_wp2
 go_ret
 exact ⟨ret_bool (by simp), rfl⟩

theorem cmp_any (x y : Int) (w : World) : Calls Tryz.prog 77 #[.int .i64 x, .int .i64 y] w fun e w' => e = .returned (.int .i64 (sgn (x - y))) ∧ w = w' := by
 rcases Int.lt_trichotomy x y with h | h | h
 all_goals
  go_enter Tryz.func77, Tryz.ntmps77
  go_wp2_with fail
  refine (isNaN_any _ _).mono ?_
  rintro e w' ⟨rfl, rfl⟩
  go_wp2_with fail
  refine (isNaN_any _ _).mono ?_
  rintro e w' ⟨rfl, rfl⟩
  go_wp2_with fail
  go_ret
  exact ⟨ret_int (by unfold sgn; simp; omega), rfl⟩

set_option maxRecDepth 100000
set_option maxHeartbeats 80000000

set_option maxRecDepth 100000
set_option maxHeartbeats 80000000

theorem allValid_any (A : Option Addr) (n c : Nat) (ps : List (Int × Int)) (w : World) (hn : ps.length = n) (hl : n ≤ 281474976710656) (hp : Pts w A ps) (r : Bool) (hr : (ps.all fun p => vld p.1 p.2) = r) :
 Calls Tryz.prog 91 #[.slice A n c] w fun e w' => e = .returned (.bool r) ∧ Gr w w' := by
 subst hr
 have HN := Lib.hid hn
 clear hn
 have HP := Lib.hid hp
 clear hp
 go_enter Tryz.func91, Tryz.ntmps91
 go_wp2_with fail
 go_loopw [7] (fun i wr => ∃ k : Nat, k ≤ n ∧ i = .int .i64 k ∧ Hid ((ps.take k).all (fun p => vld p.1 p.2) = true) ∧ Gr w wr) (fun i _ => n - (intOf i).toNat)
 case atStart => exact ⟨0, Nat.zero_le _, rfl, Lib.hid (by simp), Gr.refl _⟩
 case round =>
  obtain ⟨k, hk, rfl, hall, hg⟩ := hrel
  by_cases hlt : k < n
  ·obtain ⟨b, off, rfl, hx, hy⟩ := Pts_at (HP.out.keep hg) (k := k) (by have := HN.out; omega)
   have hkl : k < ps.length := by have := HN.out; omega
   rcases hv : vld (ps.getD k (0, 0)).1 (ps.getD k (0, 0)).2 with _ | _
   ·have HR := Lib.hid (all_false (fun p => vld p.1 p.2) ps (0, 0) k hkl hv)
    generalize ps.getD k (0, 0) = q at hx hy hv
    obtain ⟨x, y⟩ := q
    have HV := Lib.hid hv
    clear hv
    go_wp2_with fail
    refine (valid_any x y _ _ HV.out).mono ?_
    rintro e w1 ⟨rfl, hb⟩
    go_wp2_with fail
    go_ret
    exact ⟨ret_bool HR.out.symm, by (repeat (first | exact Gr.refl _ | assumption | (refine Gr.drew ?_) | (refine Gr.drewN ?_ _) | (refine Gr.alloc ?_ _) | (refine Gr.trans ?_ (by assumption))))⟩
   ·have HR : Hid ((ps.take (k + 1)).all (fun p => vld p.1 p.2) = true) := Lib.hid (by rw [all_take_succ _ _ (0, 0) _ hkl, hall.out, hv]; rfl)
    generalize ps.getD k (0, 0) = q at hx hy hv
    obtain ⟨x, y⟩ := q
    have HV := Lib.hid hv
    clear hv
    go_wp2_with fail
    refine (valid_any x y _ _ HV.out).mono ?_
    rintro e w1 ⟨rfl, hb⟩
    go_wp2_with fail
    go_roundw
    case rel => exact ⟨k + 1, by omega, by go_num, HR, by (repeat (first | exact Gr.refl _ | assumption | (refine Gr.drew ?_) | (refine Gr.drewN ?_ _) | (refine Gr.alloc ?_ _) | (refine Gr.trans ?_ (by assumption))))⟩
    case measure => simp [intOf]; omega
  ·go_wp2_with fail
   go_ret
   exact ⟨ret_bool (by have h := hall.out; rw [List.take_of_length_le (by have := HN.out; omega)] at h; exact h.symm), hg⟩

set_option maxRecDepth 100000
set_option maxHeartbeats 80000000

def ed (ps : List (Int × Int)) (i : Nat) : (Int × Int) × (Int × Int) := (ps.getD i (0, 0), ps.getD ((i + 1) % ps.length) (0, 0))
def edgesL (ps : List (Int × Int)) : List ((Int × Int) × (Int × Int)) := (List.range ps.length).map (ed ps)
def enc4 (e : (Int × Int) × (Int × Int)) : List Value := [.int .i64 e.1.1, .int .i64 e.1.2, .int .i64 e.2.1, .int .i64 e.2.2]
abbrev Eds := Rd 4 enc4

def EdgesPost (ps : List (Int × Int)) (w : World) (e : Ending) (w' : World) : Prop :=
 ∃ g, e = .returned (.slice (some ⟨g, 0, none⟩) ps.length ps.length) ∧ Eds w' (some ⟨g, 0, none⟩) (edgesL ps) ∧ Gr w w'

def EdgesPost2 (ps : List (Int × Int)) (w : World) (e : Ending) (w' : World) : Prop :=
 ∃ g cs, e = .returned (.slice (some ⟨g, 0, none⟩) ps.length ps.length) ∧ Eds w' (some ⟨g, 0, none⟩) (edgesL ps) ∧ Gr w w' ∧ Blk w' g 190 cs

theorem Tryz.info64 : (Tryz.prog.info? 190).map (fun i => (i.zero, i.size, i.bytes)) = some (some (.agg #[.int .i64 0, .int .i64 0, .int .i64 0, .int .i64 0]), 4, 32) := by kernel_rfl

theorem mk_edges (n : Nat) (hl : n ≤ 1048576) (w : World) : (Instr.makeSlice 187 (.int .i64 (n : Int)) (.int .i64 (n : Int))).run Tryz.prog w =
 .ok (.slice (some ⟨w.heap.size, 0, none⟩) n n) (w.alloc (.cells (madeCells #[.int .i64 0, .int .i64 0, .int .i64 0, .int .i64 0] (n * 4)) 190)) := by
 obtain ⟨i0, hi, hz0, hz1, hz2⟩ := info_parts Tryz.info64
 have h := run_make (P := Tryz.prog) w 187 190 i0 _ Tryz.underlying187 hi hz0 .i64 .i64 (n : Int) (n : Int) (by omega) (by omega) (by rw [hz2]; omega) (by omega)
 rw [hz1] at h
 simp only [Int.toNat_natCast] at h
 exact h

theorem put4 {ps : List (Int × Int)} {cs : Array Value} {k : Nat} {x y x' y' : Int} (hdone : ∀ i, i < k → ∀ j v, (enc4 (ed ps i))[j]? = some v → cs[i * 4 + j]? = some v) (hs : k * 4 + 3 < cs.size)
 (hq : ed ps k = ((x, y), (x', y'))) {i j : Nat} {v : Value} (hi : i < k + 1) (hv : (enc4 (ed ps i))[j]? = some v) :
 ((((cs.setIfInBounds (k * 4) (.int .i64 x)).setIfInBounds (k * 4 + 1) (.int .i64 y)).setIfInBounds (k * 4 + 2) (.int .i64 x')).setIfInBounds (k * 4 + 3) (.int .i64 y'))[i * 4 + j]? = some v := by
 have hj : j < 4 := by have := (List.getElem?_eq_some_iff.1 hv).1; simpa [enc4] using this
 by_cases e : i = k
 ·subst e
  rw [hq] at hv
  match j, hj with
  | 0, _ => simp [enc4] at hv; subst hv; simp [Array.getElem?_setIfInBounds]; omega
  | 1, _ => simp [enc4] at hv; subst hv; simp [Array.getElem?_setIfInBounds]; omega
  | 2, _ => simp [enc4] at hv; subst hv; simp [Array.getElem?_setIfInBounds]; omega
  | 3, _ => simp [enc4] at hv; subst hv; simp [Array.getElem?_setIfInBounds]; omega
 ·rw [Array.getElem?_setIfInBounds_ne (by omega), Array.getElem?_setIfInBounds_ne (by omega), Array.getElem?_setIfInBounds_ne (by omega), Array.getElem?_setIfInBounds_ne (by omega)]
  exact hdone i (by omega) j v hv

theorem edges_any2 (A : Option Addr) (n c : Nat) (ps : List (Int × Int)) (w : World) (hn : ps.length = n) (hl : n ≤ 1048576) (hp : Pts w A ps) :
 Calls Tryz.prog 110 #[.slice A n c] w (EdgesPost2 ps w) := by
 have HN := Lib.hid hn
 clear hn
 have HP := Lib.hid hp
 clear hp
 have hmk := fun w => mk_edges n hl w
 go_enter Tryz.func110, Tryz.ntmps110
 go_wp2_with fail
 generalize hg0 : w.heap.size = g
 have HG0 := Lib.hid hg0
 have hB0 : Blk (w.alloc (.cells (madeCells #[.int .i64 0, .int .i64 0, .int .i64 0, .int .i64 0] (n * 4)) 190)) g 190 (madeCells #[.int .i64 0, .int .i64 0, .int .i64 0, .int .i64 0] (n * 4)) := by
  rw [← hg0]; exact heap_alloc_new w _
 clear hg0
 go_loopw [11] (fun i wr => ∃ (k : Nat) (cs : Array Value), k ≤ n ∧ i = .int .i64 k ∧ Hid (cs.size = n * 4) ∧ Blk wr g 190 cs ∧ Hid (∀ i, i < k → ∀ j v, (enc4 (ed ps i))[j]? = some v → cs[i * 4 + j]? = some v) ∧ Gr w wr) (fun i _ => n - (intOf i).toNat)
 case atStart => exact ⟨0, _, Nat.zero_le _, rfl, Lib.hid (size_madeCells _ _), hB0, Lib.hid (fun i h => absurd h (by omega)), (Gr.refl _).alloc _⟩
 case round =>
  clear hB0
  obtain ⟨k, cs, hk, rfl, hsz, hB, hdone, hg⟩ := hrel
  by_cases hlt : k < n
  ·obtain ⟨b, off, rfl, hx, hy⟩ := Pts_at (HP.out.keep hg) (k := k) (by have := HN.out; omega)
   obtain ⟨m, hm⟩ : ∃ m, (k + 1) % n = m := ⟨_, rfl⟩
   have hmn : m < n := by rw [← hm]; exact Nat.mod_lt _ (by omega)
   have em : ((k : Int) + 1) % (n : Int) = (m : Int) := by rw [← hm]; push_cast; rfl
   obtain ⟨b', off', e', hx', hy'⟩ := Pts_at (HP.out.keep hg) (k := m) (by have := HN.out; omega)
   obtain ⟨rfl, rfl⟩ : b = b' ∧ off = off' := by simpa using e'
   clear e'
   have HQ : Hid (ed ps k = (ps.getD k (0, 0), ps.getD m (0, 0))) := Lib.hid (by unfold ed; rw [HN.out, hm])
   clear hm
   generalize ps.getD k (0, 0) = q at hx hy HQ
   generalize ps.getD m (0, 0) = q' at hx' hy' HQ
   obtain ⟨x, y⟩ := q
   obtain ⟨x', y'⟩ := q'
   go_wp2_with fail
   generalize hW : World.alloc wr _ = W
   have hgW : Gr wr W := by rw [← hW]; exact (Gr.refl _).alloc _
   have hb0 : W.cell? ⟨wr.heap.size, 0, none⟩ = some (.int .i64 x) := by rw [← hW]; exact alloc_new rfl rfl
   have hb1 : W.cell? ⟨wr.heap.size, 1, none⟩ = some (.int .i64 y) := by rw [← hW]; exact alloc_new rfl rfl
   clear hW
   replace hx := hgW.keep hx
   replace hy := hgW.keep hy
   replace hx' := hgW.keep hx'
   replace hy' := hgW.keep hy'
   replace hB := hB.keep hgW
   replace hg := hg.trans hgW
   have hsz' : k * 4 + 3 < cs.size := by have := hsz.out; omega
   have c0 : W.cell? ⟨g, k * 4, none⟩ = some (cs[k * 4]'(by omega)) := by rw [hB.cell]; exact Array.getElem?_eq_getElem _
   have c1 : W.cell? ⟨g, k * 4 + 1, none⟩ = some (cs[k * 4 + 1]'(by omega)) := by rw [hB.cell]; exact Array.getElem?_eq_getElem _
   have c2 : W.cell? ⟨g, k * 4 + 2, none⟩ = some (cs[k * 4 + 2]'(by omega)) := by rw [hB.cell]; exact Array.getElem?_eq_getElem _
   have c3 : W.cell? ⟨g, k * 4 + 3, none⟩ = some (cs[k * 4 + 3]'(by omega)) := by rw [hB.cell]; exact Array.getElem?_eq_getElem _
   have f0 := hB.free (k * 4)
   have f1 := hB.free (k * 4 + 1)
   have f2 := hB.free (k * 4 + 2)
   have f3 := hB.free (k * 4 + 3)
   clear hgW
   go_region
   go_wp2_with fail
   go_roundw
   case rel =>
    refine ⟨k + 1, _, by omega, by go_num, ?_, (((hB.put (k * 4) _).put (k * 4 + 1) _).put (k * 4 + 2) _).put (k * 4 + 3) _, ?_, ?_⟩
    ·exact Lib.hid (by simp [hsz.out])
    ·exact Lib.hid (fun i hi j v hv => put4 hdone.out hsz' HQ.out hi hv)
    ·have hgl : w.heap.size ≤ g := by rw [HG0.out]; exact Nat.le_refl _
     exact ((((hg.drew.setCell hgl _).setCell hgl _).setCell hgl _).setCell hgl _)
   case measure => simp [intOf]; omega
  ·go_wp2_with fail
   go_ret
   obtain rfl : k = n := by omega
   have hn := HN.out
   refine ⟨g, cs, by (rw [hn]; rfl), ?_, hg, hB⟩
   intro i x hx
   have hi : i < (edgesL ps).length := (List.getElem?_eq_some_iff.1 hx).1
   have hik : i < k := by simpa [edgesL, hn] using hi
   refine ⟨g, 0, rfl, fun j v hv => ?_⟩
   have hx' : x = ed ps i := by
    have := hx
    simp [edgesL, hn, hik] at this
    exact this.symm
   subst hx'
   rw [Nat.zero_add, hB.cell]
   exact hdone.out i hik j v hv

theorem edges_any (A : Option Addr) (n c : Nat) (ps : List (Int × Int)) (w : World) (hn : ps.length = n) (hl : n ≤ 1048576) (hp : Pts w A ps) :
 Calls Tryz.prog 110 #[.slice A n c] w (EdgesPost ps w) :=
 (edges_any2 A n c ps w hn hl hp).mono fun _ _ ⟨g, _, he, hE, hg, _⟩ => ⟨g, he, hE, hg⟩

set_option maxRecDepth 100000
set_option maxHeartbeats 80000000

set_option maxRecDepth 100000
set_option maxHeartbeats 80000000

def arT (ps : List (Int × Int)) : Nat → Int
 | 0 => 0
 | k + 1 => arT ps k + ((ed ps k).1.1 * (ed ps k).2.2 - (ed ps k).2.1 * (ed ps k).1.2)
def areaL (ps : List (Int × Int)) : Int := arT ps ps.length
def Cos (ps : List (Int × Int)) : Prop := ∀ k, Co (ps.getD k (0, 0)).1 ∧ Co (ps.getD k (0, 0)).2
theorem Cos_of {ps : List (Int × Int)} (h : (ps.all fun p => vld p.1 p.2) = true) : Cos ps := fun k => by
 rcases Nat.lt_or_ge k ps.length with hk | hk
 ·have := List.all_eq_true.1 h _ (List.mem_of_getElem? (getD_of (0, 0) hk))
  exact (vld_iff _ _).1 this
 ·rw [List.getD_eq_getElem?_getD, List.getElem?_eq_none hk]
  unfold Co; simp
theorem ed_co {ps : List (Int × Int)} (h : Cos ps) (k : Nat) : Co (ed ps k).1.1 ∧ Co (ed ps k).1.2 ∧ Co (ed ps k).2.1 ∧ Co (ed ps k).2.2 := ⟨(h _).1, (h _).2, (h _).1, (h _).2⟩
theorem arT_bd {ps : List (Int × Int)} (h : Cos ps) : ∀ k : Nat, -33554432 * (k : Int) ≤ arT ps k ∧ arT ps k ≤ 33554432 * (k : Int)
 | 0 => by simp [arT]
 | k + 1 => by
   have ih := arT_bd h k
   obtain ⟨c1, c2, c3, c4⟩ := ed_co h k
   have b1 := mul_bd (A := 4096) (B := 4096) c1 c4
   have b2 := mul_bd (A := 4096) (B := 4096) c3 c2
   simp only [arT]
   push_cast
   omega

theorem doubleArea_any (A : Option Addr) (n c : Nat) (ps : List (Int × Int)) (w : World) (hn : ps.length = n) (hl : n ≤ 1048576) (hp : Pts w A ps) (hv : Cos ps) :
 Calls Tryz.prog 92 #[.slice A n c] w fun e w' => e = .returned (.int .i64 (areaL ps)) ∧ Gr w w' := by
 have HN := Lib.hid hn
 have hcon := edges_any A n c ps w hn hl hp
 have HC := Lib.hid hcon
 clear hn hp hcon
 go_enter Tryz.func92, Tryz.ntmps92
 go_wp2_with fail
 refine HC.out.mono ?_
 rintro e w1 ⟨g, rfl, hE, hg⟩
 rw [HN.out]
 have HE := Lib.hid hE
 have HV := Lib.hid hv
 clear hE hv HC
 go_wp2_with fail
 go_loopw [3, 9] (fun s i wr => ∃ k : Nat, k ≤ n ∧ i = .int .i64 k ∧ s = .int .i64 (arT ps k) ∧ Gr w1 wr) (fun _ i _ => n - (intOf i).toNat)
 case atStart => exact ⟨0, Nat.zero_le _, rfl, rfl, Gr.refl _⟩
 case round =>
  obtain ⟨k, hk, rfl, rfl, hgr⟩ := hrel
  by_cases hlt : k < n
  ·obtain ⟨b', off', e', hcell⟩ := (HE.out.keep hgr) k (ed ps k) (by simp [edgesL, HN.out, hlt])
   obtain ⟨rfl, rfl⟩ : g = b' ∧ 0 = off' := by simpa using e'
   have k0 := hcell 0 _ rfl
   have k1 := hcell 1 _ rfl
   have k2 := hcell 2 _ rfl
   have k3 := hcell 3 _ rfl
   clear hcell e'
   have hb := arT_bd HV.out k
   obtain ⟨c1, c2, c3, c4⟩ := ed_co HV.out k
   have b1 := mul_bd (A := 4096) (B := 4096) c1 c4
   have b2 := mul_bd (A := 4096) (B := 4096) c3 c2
   have HS : Hid (arT ps (k + 1) = arT ps k + ((ed ps k).1.1 * (ed ps k).2.2 - (ed ps k).2.1 * (ed ps k).1.2)) := Lib.hid rfl
   generalize arT ps k = s at hb HS ⊢
   generalize ed ps k = q at k0 k1 k2 k3 b1 b2 HS
   obtain ⟨⟨x, y⟩, x', y'⟩ := q
   dsimp only at b1 b2 HS
   clear c1 c2 c3 c4
   simp only [Nat.zero_add, Nat.add_zero] at k0 k1 k2 k3
   go_wp2_with fail
   go_roundw
   case rel => exact ⟨k + 1, by omega, by go_num, congrArg (Value.int .i64) HS.out.symm, by (repeat (first | exact Gr.refl _ | assumption | (refine Gr.drew ?_) | (refine Gr.drewN ?_ _) | (refine Gr.alloc ?_ _) | (refine Gr.trans ?_ (by assumption))))⟩
   case measure => simp [intOf]; omega
  ·go_wp2_with fail
   go_ret
   obtain rfl : k = n := by omega
   exact ⟨ret_int (by unfold areaL; rw [HN.out]), by (repeat (first | exact Gr.refl _ | assumption | (refine Gr.drew ?_) | (refine Gr.drewN ?_ _) | (refine Gr.alloc ?_ _) | (refine Gr.trans ?_ (by assumption))))⟩

theorem Area_yes (A : Option Addr) (n c : Nat) (ps : List (Int × Int)) (w : World) (hn : ps.length = n) (hl : n ≤ 512) (hp : Pts w A ps) (hv : (ps.all fun p => vld p.1 p.2) = true) :
 Calls Tryz.prog 70 #[.slice A n c] w fun e w' => e = .returned (.tuple #[.int .i64 (areaL ps), .int .i64 0]) ∧ Gr w w' := by
 have HN := Lib.hid hn
 have HP := Lib.hid hp
 have HV := Lib.hid hv
 clear hn hp hv
 go_enter Tryz.func70, Tryz.ntmps70
 go_wp2_with fail
 refine (allValid_any A n c ps _ HN.out (by omega) HP.out _ HV.out).mono ?_
 rintro e w1 ⟨rfl, hb⟩
 go_wp2_with fail
 refine (doubleArea_any A n c ps _ HN.out (by omega) (HP.out.keep hb) (Cos_of HV.out)).mono ?_
 rintro e w2 ⟨rfl, hb2⟩
 go_wp2_with fail
 go_ret2
 exact ⟨rfl, by (repeat (first | exact Gr.refl _ | assumption | (refine Gr.drew ?_) | (refine Gr.drewN ?_ _) | (refine Gr.alloc ?_ _) | (refine Gr.trans ?_ (by assumption))))⟩

end Go.Proofs.YtobcdkjomehdkaaGreat
