/- The hull, and the greatest distance. -/
import Derived.Test.YtcojionipffanacSeparate
namespace Go.Proofs.Ytcojionipffanac
open Go.RowKit
set_option linter.unusedSimpArgs false

def HullPost (qs : List (Int × Int)) (w : World) (e : Ending) (w' : World) : Prop :=
  ∃ g c, e = .returned (.tuple #[.slice (some ⟨g, 0, none⟩) qs.length c, .int .i64 0]) ∧ qs.length ≤ c ∧ w.heap.size ≤ g ∧ Own w' g 0 qs ∧ Gr w w'

set_option maxRecDepth 100000 in
set_option maxHeartbeats 1000000 in
theorem Hull_yes (A : Option Addr) (n c : Nat) (ps : List (Int × Int)) (w : World) (hn : ps.length = n) (h1 : 1 ≤ n) (hl : n ≤ 512) (hp : Pts w A ps) (hv : (ps.all fun p => vld p.1 p.2) = true) :
    Calls Try.prog 28 #[.slice A n c] w (HullPost (cornersL ps) w) := by
  have HN := Lib.hid hn
  have HP := Lib.hid hp
  have HV := Lib.hid hv
  obtain ⟨qs, hqs⟩ : ∃ qs, cornersL ps = qs := ⟨_, rfl⟩
  rw [hqs]
  have HE := Lib.hid hqs
  clear hn hp hv hqs
  go_enter Try.func28, Try.ntmps28
  go_wp2_with fail
  refine (isSet_any A n c ps _ HN.out (by omega) HP.out true (by rw [HV.out]; simp; omega)).mono ?_
  rintro e w1 ⟨rfl, hb⟩
  go_wp2_with fail
  refine (corners_any A n c ps _ HN.out hl h1 (HP.out.keep hb) (Cos_of HV.out)).mono ?_
  rintro e w2 ⟨g, c2, rfl, hc, hg, hO, hb2⟩
  rw [HE.out] at hc hO ⊢
  have HO := Lib.hid hO
  clear hO
  go_wp2_with fail
  go_ret2
  exact ⟨g, c2, rfl, hc, Nat.le_trans hb.size hg, HO.out, hb.trans hb2⟩

set_option maxRecDepth 100000 in
set_option maxHeartbeats 1000000 in
theorem Hull_no (A : Option Addr) (n c : Nat) (ps : List (Int × Int)) (w : World) (hn : ps.length = n) (hl : n ≤ 281474976710656) (hp : Pts w A ps) (hv : (decide (1 ≤ n ∧ n ≤ 512) && ps.all fun p => vld p.1 p.2) = false) :
    Calls Try.prog 28 #[.slice A n c] w fun e w' => e = .returned (.tuple #[.slice none 0 0, .int .i64 2]) ∧ Gr w w' := by
  have HN := Lib.hid hn
  have HP := Lib.hid hp
  have HV := Lib.hid hv
  clear hn hp hv
  go_enter Try.func28, Try.ntmps28
  go_wp2_with fail
  refine (isSet_any A n c ps _ HN.out hl HP.out false HV.out).mono ?_
  rintro e w1 ⟨rfl, hb⟩
  go_wp2_with fail
  go_ret2
  exact ⟨rfl, hb⟩

def sqP (p q : Int × Int) : Int := sqd p.1 p.2 q.1 q.2
theorem sqP_bd {p q : Int × Int} (hp : Co p.1 ∧ Co p.2) (hq : Co q.1 ∧ Co q.2) : 0 ≤ sqP p q ∧ sqP p q ≤ 134217728 := by
  unfold sqP sqd
  unfold Co at *
  have b1 := mul_bd (a := q.1 - p.1) (b := q.1 - p.1) (A := 8192) (B := 8192) (by omega) (by omega)
  have b2 := mul_bd (a := q.2 - p.2) (b := q.2 - p.2) (A := 8192) (B := 8192) (by omega) (by omega)
  have n1 : 0 ≤ (q.1 - p.1) * (q.1 - p.1) := by
    rcases Int.le_total 0 (q.1 - p.1) with h | h
    · exact Int.mul_nonneg h h
    · exact Int.mul_nonneg_of_nonpos_of_nonpos h h
  have n2 : 0 ≤ (q.2 - p.2) * (q.2 - p.2) := by
    rcases Int.le_total 0 (q.2 - p.2) with h | h
    · exact Int.mul_nonneg h h
    · exact Int.mul_nonneg_of_nonpos_of_nonpos h h
  omega
def wiJ (cs : List (Int × Int)) (i : Nat) (a : Int) : Nat → Int
  | 0 => a
  | j + 1 => max (wiJ cs i a j) (sqP (cs.getD i (0, 0)) (cs.getD (i + 1 + j) (0, 0)))
def wiI (cs : List (Int × Int)) : Nat → Int
  | 0 => 0
  | i + 1 => wiJ cs i (wiI cs i) (cs.length - (i + 1))
def widestL (cs : List (Int × Int)) : Int := wiI cs cs.length
theorem wiJ_bd {cs : List (Int × Int)} (h : Cos cs) (i : Nat) {a : Int} (ha : 0 ≤ a ∧ a ≤ 134217728) : ∀ j, 0 ≤ wiJ cs i a j ∧ wiJ cs i a j ≤ 134217728
  | 0 => ha
  | j + 1 => by
    have h1 := wiJ_bd h i ha j
    have h2 := sqP_bd (h i) (h (i + 1 + j))
    unfold wiJ; omega
theorem wiI_bd {cs : List (Int × Int)} (h : Cos cs) : ∀ i, 0 ≤ wiI cs i ∧ wiI cs i ≤ 134217728
  | 0 => by simp [wiI]
  | i + 1 => wiJ_bd h i (wiI_bd h i) _

set_option maxRecDepth 100000 in
set_option maxHeartbeats 2000000 in
theorem Widest_yes (A : Option Addr) (n c : Nat) (ps : List (Int × Int)) (w : World) (hn : ps.length = n) (h1 : 1 ≤ n) (hl : n ≤ 512) (hp : Pts w A ps) (hv : (ps.all fun p => vld p.1 p.2) = true) :
    Calls Try.prog 30 #[.slice A n c] w fun e w' => e = .returned (.tuple #[.int .i64 (widestL (cornersL ps)), .int .i64 0]) ∧ Gr w w' := by
  have HN := Lib.hid hn
  have HP := Lib.hid hp
  have HV := Lib.hid hv
  have hlen := cornersL_len ps (by omega)
  rw [hn] at hlen
  have hco := cornersL_co (Cos_of hv)
  obtain ⟨cs, hcs⟩ : ∃ cs, cornersL ps = cs := ⟨_, rfl⟩
  rw [hcs] at hlen hco
  rw [hcs]
  have HE := Lib.hid hcs
  have HC := Lib.hid hco
  obtain ⟨q, hq⟩ : ∃ q, cs.length = q := ⟨_, rfl⟩
  have HW : Hid (widestL cs = wiI cs q) := Lib.hid (by unfold widestL; rw [hq])
  rw [hq] at hlen
  rw [HW.out]
  have HQ := Lib.hid hq
  clear hn hp hv hco hcs hq
  go_enter Try.func30, Try.ntmps30
  go_wp2_with fail
  refine (isSet_any A n c ps _ HN.out (by omega) HP.out true (by rw [HV.out]; simp; omega)).mono ?_
  rintro e w1 ⟨rfl, hb⟩
  go_wp2_with fail
  refine (corners_any A n c ps _ HN.out hl h1 (HP.out.keep hb) (Cos_of HV.out)).mono ?_
  rintro e w2 ⟨g, c2, rfl, hc, hg, hO, hb2⟩
  rw [HE.out] at hc hO ⊢
  have HO := Lib.hid hO.pts
  have hgw := hb.trans hb2
  rw [HQ.out] at hc ⊢
  clear hO hb hb2 HP HV
  go_wp2_with fail
  go_loopw [4, 17] (fun s i wr => ∃ k : Nat, k ≤ q ∧ i = .int .i64 k ∧ s = .int .i64 (wiI cs k) ∧ Gr w2 wr) (fun _ i _ => q - (intOf i).toNat)
  case atStart => exact ⟨0, Nat.zero_le _, rfl, rfl, Gr.refl _⟩
  case round =>
    obtain ⟨wo, rfl⟩ : ∃ wo : World, wo = wr := ⟨_, rfl⟩
    obtain ⟨k, hk, rfl, rfl, hg⟩ := hrel
    by_cases hlt : k < q
    · obtain ⟨b', o', e', x0, x1⟩ := Pts_at (HO.out.keep hg) (k := k) (by have := HQ.out; omega)
      obtain ⟨rfl, rfl⟩ : g = b' ∧ 0 = o' := by simpa using e'
      have hwb := wiI_bd HC.out k
      have HWS : Hid (wiI cs (k + 1) = wiJ cs k (wiI cs k) (q - (k + 1))) := Lib.hid (by rw [wiI, HQ.out])
      obtain ⟨a, ha⟩ : ∃ a, wiI cs k = a := ⟨_, rfl⟩
      rw [ha] at hwb HWS ⊢
      obtain ⟨pk, hpk⟩ : ∃ p, cs.getD k (0, 0) = p := ⟨_, rfl⟩
      have ck := HC.out k
      rw [hpk] at x0 x1 ck
      have HPK := Lib.hid hpk
      obtain ⟨x, y⟩ := pk
      dsimp only at x0 x1 ck
      simp only [Nat.zero_add] at x0 x1
      clear e' ha hpk
      have hsplit : c2 = k + 1 ∨ c2 ≠ k + 1 := by omega
      rcases hsplit with rfl | hcc
      all_goals
        go_wp2_with fail
        generalize hr : q - (k + 1) = r at HWS ⊢
        have hrq : r + (k + 1) = q := by omega
        clear hr
        generalize hW : World.alloc wo _ = W
        obtain ⟨hWg, l0, l1⟩ := box2h hW
        clear hW x0 x1
        go_loopw [4, 27] (fun s jv w3 => ∃ j : Nat, j ≤ r ∧ jv = .int .i64 j ∧ s = .int .i64 (wiJ cs k a j) ∧ Gr W w3) (fun _ jv _ => r - (intOf jv).toNat)
        case atStart => exact ⟨0, Nat.zero_le _, rfl, rfl, Gr.refl _⟩
        case round =>
          obtain ⟨j, hj, rfl, rfl, hgw2⟩ := hrel
          by_cases hltj : j < r
          · first
              | (exfalso; omega)
              | (replace l0 := hgw2.keep l0
                 replace l1 := hgw2.keep l1
                 obtain ⟨b', o', e', z0, z1⟩ := Pts_at (HO.out.keep (hg.trans (hWg.trans hgw2))) (k := k + 1 + j) (by have := HQ.out; omega)
                 obtain ⟨rfl, rfl⟩ : g = b' ∧ 0 = o' := by simpa using e'
                 rw [show 0 + (k + 1 + j) * 2 = (k + 1) * 2 + j * 2 by omega] at z0 z1
                 have cj := HC.out (k + 1 + j)
                 have hwj := wiJ_bd HC.out k hwb j
                 have hsq := sqP_bd (HC.out k) cj
                 have HJS : Hid (wiJ cs k a (j + 1) = max (wiJ cs k a j) (sqd x y (cs.getD (k + 1 + j) (0, 0)).1 (cs.getD (k + 1 + j) (0, 0)).2)) := Lib.hid (by rw [wiJ, HPK.out]; rfl)
                 rw [HPK.out] at hsq
                 unfold sqP at hsq
                 generalize wiJ cs k a j = s at hwj HJS ⊢
                 generalize cs.getD (k + 1 + j) (0, 0) = pj at z0 z1 cj hsq HJS
                 obtain ⟨x', y'⟩ := pj
                 dsimp only at z0 z1 cj hsq HJS
                 clear e'
                 have d0 : ∀ o, (wr.alloc o).cell? ⟨wo.heap.size, 0, none⟩ = some (.int .i64 x) := fun o => alloc_old l0
                 have d1 : ∀ o, (wr.alloc o).cell? ⟨wo.heap.size, 1, none⟩ = some (.int .i64 y) := fun o => alloc_old l1
                 have HD := Lib.hid (fun W => distance_any x y x' y' W ck.1 ck.2 cj.1 cj.2)
                 generalize sqd x y x' y' = d at hsq HJS HD
                 go_wp2_with fail
                 refine (HD.out _).mono ?_
                 rintro e w5 ⟨rfl, hb⟩
                 clear d0 d1
                 go_wp2_with fail
                 go_roundw
                 case rel => exact ⟨j + 1, by omega, by go_num, congrArg (Value.int .i64) HJS.out.symm, (hgw2.alloc _).trans hb⟩
                 case measure => simp [intOf]; omega)
          · have HJR : Hid (wiI cs (k + 1) = wiJ cs k a j) := Lib.hid (by
              obtain rfl : j = r := by omega
              exact HWS.out)
            go_wp2_with fail
            go_roundw
            case rel => exact ⟨k + 1, by omega, by go_num, congrArg (Value.int .i64) HJR.out.symm, hg.trans (hWg.trans hgw2)⟩
            case measure => simp [intOf]; omega
    · go_wp2_with fail
      go_ret2
      obtain rfl : k = q := by omega
      exact ⟨rfl, hgw.trans hg⟩

end Go.Proofs.Ytcojionipffanac
