/- Layer 2: the reference's tasks and its reading of plans. -/
import Derived.Test.YtcojionipffanabCWorth
import Derived.Test.YtcojionipffanabHeld
namespace Go.Proofs.Ytcojionipffanab
open Go.RowKit
set_option linter.unusedSimpArgs false

set_option maxHeartbeats 2000000 in
theorem rTask_any (W0 H0 : Int) (A : Option Addr) (n c : Nat) (bs : List Bl) (w : World) (hn : bs.length = n) (hl : n ≤ 281474976710656) (hp : Tris w A bs) (r : Bool) (hr : taskB W0 H0 bs = r) :
    Calls Try.prog 17 #[.int .i64 W0, .int .i64 H0, .slice A n c] w fun e w' => e = .returned (.bool r) ∧ Gr w w' := by
  rcases hw : sideB W0 with _ | _
  · obtain rfl : r = false := by rw [← hr]; simp [taskB, hw]
    have HS := Lib.hid hw
    clear hr hw hn hp
    go_enter Try.func17, Try.ntmps17
    go_wp2_with fail
    refine (rside_any _ _ _ HS.out).mono ?_
    rintro e w1 ⟨rfl, rfl⟩
    go_wp2_with fail
    go_ret
    exact ⟨rfl, by (repeat (first | exact Gr.refl _ | assumption | (refine Gr.drew ?_) | (refine Gr.drewN ?_ _) | (refine Gr.alloc ?_ _) | (refine Gr.trans ?_ (by assumption))))⟩
  · rcases hh : sideB H0 with _ | _
    · obtain rfl : r = false := by rw [← hr]; simp [taskB, hh]
      have HS := Lib.hid hw
      have HS2 := Lib.hid hh
      clear hr hw hn hp hh
      go_enter Try.func17, Try.ntmps17
      go_wp2_with fail
      refine (rside_any _ _ _ HS.out).mono ?_
      rintro e w1 ⟨rfl, rfl⟩
      go_wp2_with fail
      refine (rside_any _ _ _ HS2.out).mono ?_
      rintro e w1 ⟨rfl, rfl⟩
      go_wp2_with fail
      go_ret
      exact ⟨rfl, by (repeat (first | exact Gr.refl _ | assumption | (refine Gr.drew ?_) | (refine Gr.drewN ?_ _) | (refine Gr.alloc ?_ _) | (refine Gr.trans ?_ (by assumption))))⟩
    · by_cases h16 : n ≤ 16
      · have HR : Hid (bs.all blB = r) := Lib.hid (by rw [← hr]; unfold taskB; rw [hw, hh, hn]; simp [h16])
        have HS := Lib.hid hw
        have HS2 := Lib.hid hh
        have HN := Lib.hid hn
        have HP := Lib.hid hp
        clear hr hw hh hn hp
        go_enter Try.func17, Try.ntmps17
        go_wp2_with fail
        refine (rside_any _ _ _ HS.out).mono ?_
        rintro e w1 ⟨rfl, rfl⟩
        go_wp2_with fail
        refine (rside_any _ _ _ HS2.out).mono ?_
        rintro e w1 ⟨rfl, rfl⟩
        go_wp2_with fail
        go_loopw [7] (fun i wr => ∃ k : Nat, k ≤ n ∧ i = .int .i64 k ∧ Hid ((bs.take k).all blB = true) ∧ Gr w wr) (fun i _ => n - (intOf i).toNat)
        case atStart => exact ⟨0, Nat.zero_le _, rfl, Lib.hid (by simp), by (repeat (first | exact Gr.refl _ | assumption | (refine Gr.drew ?_) | (refine Gr.drewN ?_ _) | (refine Gr.alloc ?_ _) | (refine Gr.trans ?_ (by assumption))))⟩
        case round =>
          obtain ⟨k, hk, rfl, hall, hg⟩ := hrel
          by_cases hlt : k < n
          · have hkl : k < bs.length := by have := HN.out; omega
            obtain ⟨b, off, rfl, h0, h1, h2⟩ := Tris_at (HP.out.keep hg) hkl
            have HALL : blB (bs.getD k (0, 0, 0)) = false → Hid (bs.all blB = false) := fun h => Lib.hid (all_false blB bs (0, 0, 0) k hkl h)
            have HNEXT : blB (bs.getD k (0, 0, 0)) = true → Hid ((bs.take (k + 1)).all blB = true) := fun h => Lib.hid (by rw [all_take_succ _ _ (0, 0, 0) _ hkl, hall.out, h]; rfl)
            generalize bs.getD k (0, 0, 0) = q at h0 h1 h2 HALL HNEXT
            obtain ⟨x, y, v⟩ := q
            dsimp only at h0 h1 h2
            rcases e1 : sideB x with _ | _
            · have HF : Hid (r = false) := Lib.hid (by rw [← HR.out]; exact (HALL (by simp [blB, e1])).out)
              have E1 := Lib.hid e1
              clear e1 HALL HNEXT
              go_wp2_with fail
              refine (rside_any _ _ _ E1.out).mono ?_
              rintro e w1 ⟨rfl, rfl⟩
              go_wp2_with fail
              go_ret
              exact ⟨ret_bool HF.out.symm, by (repeat (first | exact Gr.refl _ | assumption | (refine Gr.drew ?_) | (refine Gr.drewN ?_ _) | (refine Gr.alloc ?_ _) | (refine Gr.trans ?_ (by assumption))))⟩
            · rcases e2 : sideB y with _ | _
              · have HF : Hid (r = false) := Lib.hid (by rw [← HR.out]; exact (HALL (by simp [blB, e2])).out)
                have E1 := Lib.hid e1
                have E2 := Lib.hid e2
                clear e1 e2 HALL HNEXT
                go_wp2_with fail
                refine (rside_any _ _ _ E1.out).mono ?_
                rintro e w1 ⟨rfl, rfl⟩
                go_wp2_with fail
                refine (rside_any _ _ _ E2.out).mono ?_
                rintro e w1 ⟨rfl, rfl⟩
                go_wp2_with fail
                go_ret
                exact ⟨ret_bool HF.out.symm, by (repeat (first | exact Gr.refl _ | assumption | (refine Gr.drew ?_) | (refine Gr.drewN ?_ _) | (refine Gr.alloc ?_ _) | (refine Gr.trans ?_ (by assumption))))⟩
              · by_cases hv : 0 ≤ v ∧ v ≤ 1048576
                · have HX : Hid ((bs.take (k + 1)).all blB = true) := HNEXT (by simp [blB, e1, e2, hv])
                  obtain ⟨v1, v2⟩ := hv
                  have E1 := Lib.hid e1
                  have E2 := Lib.hid e2
                  clear e1 e2 HALL HNEXT
                  go_wp2_with fail
                  refine (rside_any _ _ _ E1.out).mono ?_
                  rintro e w1 ⟨rfl, rfl⟩
                  go_wp2_with fail
                  refine (rside_any _ _ _ E2.out).mono ?_
                  rintro e w1 ⟨rfl, rfl⟩
                  go_wp2_with fail
                  go_roundw
                  case rel => exact ⟨k + 1, by omega, by go_num, HX, by (repeat (first | exact Gr.refl _ | assumption | (refine Gr.drew ?_) | (refine Gr.drewN ?_ _) | (refine Gr.alloc ?_ _) | (refine Gr.trans ?_ (by assumption))))⟩
                  case measure => simp [intOf]; omega
                · have HF : Hid (r = false) := Lib.hid (by rw [← HR.out]; exact (HALL (by simp [blB]; omega)).out)
                  have E1 := Lib.hid e1
                  have E2 := Lib.hid e2
                  clear e1 e2 HALL HNEXT
                  by_cases v1 : 0 ≤ v
                  · have v2 : 1048576 < v := by omega
                    go_wp2_with fail
                    refine (rside_any _ _ _ E1.out).mono ?_
                    rintro e w1 ⟨rfl, rfl⟩
                    go_wp2_with fail
                    refine (rside_any _ _ _ E2.out).mono ?_
                    rintro e w1 ⟨rfl, rfl⟩
                    go_wp2_with fail
                    go_ret
                    exact ⟨ret_bool HF.out.symm, by (repeat (first | exact Gr.refl _ | assumption | (refine Gr.drew ?_) | (refine Gr.drewN ?_ _) | (refine Gr.alloc ?_ _) | (refine Gr.trans ?_ (by assumption))))⟩
                  · have v2 : v < 0 := by omega
                    clear hv
                    go_wp2_with fail
                    refine (rside_any _ _ _ E1.out).mono ?_
                    rintro e w1 ⟨rfl, rfl⟩
                    go_wp2_with fail
                    refine (rside_any _ _ _ E2.out).mono ?_
                    rintro e w1 ⟨rfl, rfl⟩
                    go_wp2_with fail
                    go_ret
                    exact ⟨ret_bool HF.out.symm, by (repeat (first | exact Gr.refl _ | assumption | (refine Gr.drew ?_) | (refine Gr.drewN ?_ _) | (refine Gr.alloc ?_ _) | (refine Gr.trans ?_ (by assumption))))⟩
          · go_wp2_with fail
            go_ret
            exact ⟨ret_bool (by have h := hall.out; rw [List.take_of_length_le (by have := HN.out; omega)] at h; rw [← HR.out]; exact h.symm), hg⟩
      · obtain rfl : r = false := by rw [← hr]; unfold taskB; rw [hn]; simp [h16]
        have h17 : 16 < n := by omega
        have HS := Lib.hid hw
        have HS2 := Lib.hid hh
        clear hr hw hh hn hp h16
        go_enter Try.func17, Try.ntmps17
        go_wp2_with fail
        refine (rside_any _ _ _ HS.out).mono ?_
        rintro e w1 ⟨rfl, rfl⟩
        go_wp2_with fail
        refine (rside_any _ _ _ HS2.out).mono ?_
        rintro e w1 ⟨rfl, rfl⟩
        go_wp2_with fail
        go_ret
        exact ⟨rfl, by (repeat (first | exact Gr.refl _ | assumption | (refine Gr.drew ?_) | (refine Gr.drewN ?_ _) | (refine Gr.alloc ?_ _) | (refine Gr.trans ?_ (by assumption))))⟩

/-- What the reference says of the steps of one piece. -/
def CutOk (plan : List St) (R : Option (List Bl × List St)) (k : Nat) (a b c : Int) (bad : Bool) : Prop :=
  match R with
  | some (m, r) => bad = false ∧ b = sumV m ∧ c = sumA m ∧ ∃ k', r = plan.drop k' ∧ k < k' ∧ k' ≤ plan.length ∧ a = (k' : Int) - (k : Int)
  | none => bad = true
def CutPost (plan : List St) (R : Option (List Bl × List St)) (k : Nat) (w : World) (e : Ending) (w' : World) : Prop :=
  ∃ a b c bad, e = .returned (.agg #[.int .i64 a, .int .i64 b, .int .i64 c, .bool bad]) ∧ CutOk plan R k a b c bad ∧ Gr w w'

set_option maxRecDepth 100000 in
set_option maxHeartbeats 1000000 in
theorem rread_end (W H : Int) (BA PA : Option Addr) (bn bc n pc : Nat) (bs : List Bl) (plan : List St) (w : World) (hn : plan.length = n) :
    Calls Try.prog 37 #[.int .i64 W, .int .i64 H, .slice BA bn bc, .slice PA n pc, .int .i64 (n : Int)] w (CutPost plan (rdP bs W H (plan.drop n)) n w) := by
  have hR : Hid (rdP bs W H (plan.drop n) = none) := Lib.hid (by rw [List.drop_of_length_le (by omega), rdP_nil])
  rw [hR.out]
  clear hn
  go_enter Try.func37, Try.ntmps37
  go_wp2_with fail
  refine bodyPost_ret (v := .agg #[.int .i64 0, .int .i64 0, .int .i64 0, .bool true]) ?_ rfl ⟨_, _, _, _, rfl, rfl, (Gr.refl w).alloc _⟩
  simp [results, Try.results37, go_sem]

theorem drop_cons2 {plan : List St} {k : Nat} (h : k < plan.length) : plan.drop k = plan.getD k (0, 0) :: plan.drop (k + 1) := by
  rw [List.drop_eq_getElem_cons h, List.getD_eq_getElem?_getD, List.getElem?_eq_getElem h]; rfl

set_option maxRecDepth 100000 in
set_option maxHeartbeats 1000000 in
theorem rread_waste (W H : Int) (BA PA : Option Addr) (bn bc n pc k : Nat) (bs : List Bl) (plan : List St) (w : World) (hn : plan.length = n) (hP : Pts w PA plan) (hk : k < n) (arg : Int) (hs : plan.getD k (0, 0) = (0, arg)) :
    Calls Try.prog 37 #[.int .i64 W, .int .i64 H, .slice BA bn bc, .slice PA n pc, .int .i64 (k : Int)] w (CutPost plan (rdP bs W H (plan.drop k)) k w) := by
  have hkl : k < plan.length := by omega
  obtain ⟨g, off, rfl, s1, s2⟩ := Pts_at hP hkl
  rw [hs] at s1 s2
  have q1 : (w.alloc (.cells #[.int .i64 0, .int .i64 0, .int .i64 0, .bool false] 76)).cell? ⟨g, off + k * 2, none⟩ = some (.int .i64 0) := alloc_old s1
  have q2 : (w.alloc (.cells #[.int .i64 0, .int .i64 0, .int .i64 0, .bool false] 76)).cell? ⟨g, off + k * 2 + 1, none⟩ = some (.int .i64 arg) := alloc_old s2
  have hR : Hid (rdP bs W H (plan.drop k) = if arg = 0 then some ([], plan.drop (k + 1)) else none) := Lib.hid (by rw [drop_cons2 hkl, hs, rdP_cons]; simp)
  rw [hR.out]
  have HK := Lib.hid hkl
  clear hs hP hn hkl
  by_cases h0 : arg = 0
  · subst h0
    go_enter Try.func37, Try.ntmps37
    go_wp2_with fail
    refine bodyPost_ret (v := .agg #[.int .i64 1, .int .i64 0, .int .i64 0, .bool false]) ?_ rfl ⟨_, _, _, _, rfl, ⟨rfl, rfl, rfl, k + 1, rfl, by omega, HK.out, by omega⟩, by (repeat (first | exact Gr.refl _ | assumption | (refine Gr.drew ?_) | (refine Gr.drewN ?_ _) | (refine Gr.alloc ?_ _) | (refine Gr.trans ?_ (by assumption))))⟩
    simp [results, Try.results37, go_sem]
  · rw [if_neg h0]
    have h1 : (arg != 0) = true := by simpa using h0
    clear h0
    go_enter Try.func37, Try.ntmps37
    go_wp2_with fail
    refine bodyPost_ret (v := .agg #[.int .i64 1, .int .i64 0, .int .i64 0, .bool true]) ?_ rfl ⟨_, _, _, _, rfl, rfl, by (repeat (first | exact Gr.refl _ | assumption | (refine Gr.drew ?_) | (refine Gr.drewN ?_ _) | (refine Gr.alloc ?_ _) | (refine Gr.trans ?_ (by assumption))))⟩
    simp [results, Try.results37, go_sem]

set_option maxRecDepth 100000 in
set_option maxHeartbeats 1000000 in
theorem rread_other (W H : Int) (BA PA : Option Addr) (bn bc n pc k : Nat) (bs : List Bl) (plan : List St) (w : World) (hn : plan.length = n) (hP : Pts w PA plan) (hk : k < n) (kd arg : Int) (hs : plan.getD k (0, 0) = (kd, arg)) (h0 : kd ≠ 0) (h1 : kd ≠ 1) (h2 : ¬(kd = 2 ∧ 1 ≤ arg ∧ arg < W)) (h3 : ¬(kd = 3 ∧ 1 ≤ arg ∧ arg < H)) :
    Calls Try.prog 37 #[.int .i64 W, .int .i64 H, .slice BA bn bc, .slice PA n pc, .int .i64 (k : Int)] w (CutPost plan (rdP bs W H (plan.drop k)) k w) := by
  have hkl : k < plan.length := by omega
  obtain ⟨g, off, rfl, s1, s2⟩ := Pts_at hP hkl
  rw [hs] at s1 s2
  have q1 : (w.alloc (.cells #[.int .i64 0, .int .i64 0, .int .i64 0, .bool false] 76)).cell? ⟨g, off + k * 2, none⟩ = some (.int .i64 kd) := alloc_old s1
  have q2 : (w.alloc (.cells #[.int .i64 0, .int .i64 0, .int .i64 0, .bool false] 76)).cell? ⟨g, off + k * 2 + 1, none⟩ = some (.int .i64 arg) := alloc_old s2
  have hR : Hid (rdP bs W H (plan.drop k) = none) := Lib.hid (by
    rw [drop_cons2 hkl, hs, rdP_cons]
    dsimp only
    rw [if_neg h0, if_neg h1]
    split
    · rw [if_neg (by rename_i e; exact fun c => h2 ⟨e, c⟩)]
    · split
      · rw [if_neg (by rename_i e; exact fun c => h3 ⟨e, c⟩)]
      · rfl)
  rw [hR.out]
  have e0 : (kd == 0) = false := by simpa using h0
  have e1 : (kd == 1) = false := by simpa using h1
  clear hs hP hn hkl h0 h1
  by_cases k2 : kd = 2
  · subst k2
    by_cases a1 : 1 ≤ arg
    · have a2 : W ≤ arg := by omega
      clear h2 h3
      go_enter Try.func37, Try.ntmps37
      go_wp2_with fail
      refine bodyPost_ret (v := .agg #[.int .i64 0, .int .i64 0, .int .i64 0, .bool true]) ?_ rfl ⟨_, _, _, _, rfl, rfl, by (repeat (first | exact Gr.refl _ | assumption | (refine Gr.drew ?_) | (refine Gr.drewN ?_ _) | (refine Gr.alloc ?_ _) | (refine Gr.trans ?_ (by assumption))))⟩
      simp [results, Try.results37, go_sem]
    · have a2 : arg < 1 := by omega
      clear h2 h3 a1
      go_enter Try.func37, Try.ntmps37
      go_wp2_with fail
      refine bodyPost_ret (v := .agg #[.int .i64 0, .int .i64 0, .int .i64 0, .bool true]) ?_ rfl ⟨_, _, _, _, rfl, rfl, by (repeat (first | exact Gr.refl _ | assumption | (refine Gr.drew ?_) | (refine Gr.drewN ?_ _) | (refine Gr.alloc ?_ _) | (refine Gr.trans ?_ (by assumption))))⟩
      simp [results, Try.results37, go_sem]
  · have e2 : (kd == 2) = false := by simpa using k2
    by_cases k3 : kd = 3
    · subst k3
      by_cases a1 : 1 ≤ arg
      · have a2 : H ≤ arg := by omega
        clear h2 h3 k2
        go_enter Try.func37, Try.ntmps37
        go_wp2_with fail
        refine bodyPost_ret (v := .agg #[.int .i64 0, .int .i64 0, .int .i64 0, .bool true]) ?_ rfl ⟨_, _, _, _, rfl, rfl, by (repeat (first | exact Gr.refl _ | assumption | (refine Gr.drew ?_) | (refine Gr.drewN ?_ _) | (refine Gr.alloc ?_ _) | (refine Gr.trans ?_ (by assumption))))⟩
        simp [results, Try.results37, go_sem]
      · have a2 : arg < 1 := by omega
        clear h2 h3 a1 k2
        go_enter Try.func37, Try.ntmps37
        go_wp2_with fail
        refine bodyPost_ret (v := .agg #[.int .i64 0, .int .i64 0, .int .i64 0, .bool true]) ?_ rfl ⟨_, _, _, _, rfl, rfl, by (repeat (first | exact Gr.refl _ | assumption | (refine Gr.drew ?_) | (refine Gr.drewN ?_ _) | (refine Gr.alloc ?_ _) | (refine Gr.trans ?_ (by assumption))))⟩
        simp [results, Try.results37, go_sem]
    · have e3 : (kd == 3) = false := by simpa using k3
      clear h2 h3 k2 k3
      go_enter Try.func37, Try.ntmps37
      go_wp2_with fail
      refine bodyPost_ret (v := .agg #[.int .i64 0, .int .i64 0, .int .i64 0, .bool true]) ?_ rfl ⟨_, _, _, _, rfl, rfl, by (repeat (first | exact Gr.refl _ | assumption | (refine Gr.drew ?_) | (refine Gr.drewN ?_ _) | (refine Gr.alloc ?_ _) | (refine Gr.trans ?_ (by assumption))))⟩
      simp [results, Try.results37, go_sem]

end Go.Proofs.Ytcojionipffanab
