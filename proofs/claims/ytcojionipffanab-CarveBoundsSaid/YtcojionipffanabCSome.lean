/- Layer 2: the law's own copies of lists. -/
import Derived.Test.YtcojionipffanabCRef4
import Derived.Test.YtcojionipffanabCPlan
namespace Go.Proofs.Ytcojionipffanab
open Go.RowKit
set_option linter.unusedSimpArgs false

def blanksPost (qs : List (Bl)) (w : World) (e : Ending) (w' : World) : Prop :=
  ∃ A c, e = .returned (.slice A qs.length c) ∧ qs.length ≤ c ∧ Tris w' A qs ∧ (A = none → c = 0) ∧ w'.ownsRow w.heap.size 49 3 (.slice A qs.length c) qs.length (flatE enc3 qs) ∧ Gr w w'
theorem blanks_done {w w1 : World} {v : Value} {k : Nat} {qs : List (Bl)} (hk : qs.length = k) (h : w1.ownsRow w.heap.size 49 3 v k (flatE enc3 qs)) (hg : w.grownBy w1 none) : blanksPost qs w (.returned v) w1 := by
  have hgr : Gr w w1 := (Below.refl _ w).grown hg (Nat.le_refl _) (fun k hk => by cases hk)
  obtain ⟨A, c, rfl, h1, h2, h3⟩ := own_row enc3_len hk h
  subst hk
  exact ⟨A, c, rfl, h1, h2, h3, h, hgr⟩

set_option maxRecDepth 100000 in
set_option maxHeartbeats 1000000 in
theorem blanks_any (A : Option Addr) (n c : Nat) (ps : List (Bl)) (w : World) (hn : ps.length = n) (hl : n ≤ 9223372036854775807) (hc : n ≤ c) (h0 : A = none → c = 0) (hp : Tris w A ps) :
    Calls Try.prog 13 #[.slice A n c] w (blanksPost (ps.take 17) w) := by
  obtain ⟨i0, hi, hz0, hz1, hz2⟩ := info_parts Try.infoBl
  obtain ⟨k, hk⟩ : ∃ k, min n 17 = k := ⟨_, rfl⟩
  have HL : Hid ((ps.take 17).length = k) := Lib.hid (by rw [List.length_take]; omega)
  have HP := Lib.hid (Rd_take hp 17)
  rcases A with _ | ad
  · obtain rfl : c = 0 := h0 rfl
    obtain rfl : n = 0 := by omega
    obtain rfl : k = 0 := by omega
    have HE : Hid (ps.take 17 = []) := Lib.hid (by rw [List.eq_nil_of_length_eq_zero hn]; rfl)
    rw [HE.out]
    clear hn hp hl hc h0 hk
    go_enter Try.func13, Try.ntmps13
    go_wp2_with (at_builtin; refine wpList_append_own_none rfl _ _ 22 rfl w.heap.size 49 i0 3 Try.underlying22 hi _ 0 [] rfl (World.ownsRow_nil w _ _ _) rfl ?_)
    go_ret
    exact blanks_done (qs := []) (k := 0) rfl (World.ownsRow_nil w _ _ _) (World.grownBy.refl w _)
  · have HC := Lib.hid (Rd_news enc3_len (by decide) HP.out)
    by_cases h5 : n ≤ 17
    · obtain rfl : k = n := by omega
      clear hn hp hl h0 hk
      go_enter Try.func13, Try.ntmps13
      go_wp2_with (at_builtin; refine wpList_append_own _ rfl _ _ 22 rfl w.heap.size 49 i0 _ 3 24 Try.underlying22 hi hz0 hz1 hz2 rfl (by decide) _ _ _ rfl (World.ownsRow_nil w _ _ _) ad k c (flatE enc3 (ps.take 17)) rfl ?qc1 ?qc2 ?qc3 ?qc4 ?qc5 ?qc6 ?_)
      case qc1 => rw [flatE_len enc3_len, HL.out]
      case qc2 => exact HC.out
      case qc3 => exact oneCell_flat enc3_one _
      case qc4 => unfold maxLen; omega
      case qc5 => omega
      case qc6 => exact Nat.le_refl _
      intro v' w1 hown hgrow hnil
      have HO := Lib.hid hown
      have HG := Lib.hid hgrow
      clear hown hgrow hnil hi hz0 hz1 hz2
      go_wp2
      go_ret
      exact blanks_done (k := k) HL.out (by simpa using HO.out) HG.out
    · obtain rfl : k = 17 := by omega
      have h6 : 17 < n := by omega
      clear hn hp hl h0 hk h5
      go_enter Try.func13, Try.ntmps13
      go_wp2_with (at_builtin; refine wpList_append_own _ rfl _ _ 22 rfl w.heap.size 49 i0 _ 3 24 Try.underlying22 hi hz0 hz1 hz2 rfl (by decide) _ _ _ rfl (World.ownsRow_nil w _ _ _) ad 17 c (flatE enc3 (ps.take 17)) rfl ?rc1 ?rc2 ?rc3 ?rc4 ?rc5 ?rc6 ?_)
      case rc1 => rw [flatE_len enc3_len, HL.out]
      case rc2 => exact HC.out
      case rc3 => exact oneCell_flat enc3_one _
      case rc4 => unfold maxLen; omega
      case rc5 => omega
      case rc6 => exact Nat.le_refl _
      intro v' w1 hown hgrow hnil
      have HO := Lib.hid hown
      have HG := Lib.hid hgrow
      clear hown hgrow hnil hi hz0 hz1 hz2
      go_wp2
      go_ret
      exact blanks_done (k := 17) HL.out (by simpa using HO.out) HG.out

def stepsPost (qs : List (St)) (w : World) (e : Ending) (w' : World) : Prop :=
  ∃ A c, e = .returned (.slice A qs.length c) ∧ qs.length ≤ c ∧ Pts w' A qs ∧ (A = none → c = 0) ∧ w'.ownsRow w.heap.size 56 2 (.slice A qs.length c) qs.length (flatE enc2 qs) ∧ Gr w w'
theorem steps_done {w w1 : World} {v : Value} {k : Nat} {qs : List (St)} (hk : qs.length = k) (h : w1.ownsRow w.heap.size 56 2 v k (flatE enc2 qs)) (hg : w.grownBy w1 none) : stepsPost qs w (.returned v) w1 := by
  have hgr : Gr w w1 := (Below.refl _ w).grown hg (Nat.le_refl _) (fun k hk => by cases hk)
  obtain ⟨A, c, rfl, h1, h2, h3⟩ := own_row enc2_len hk h
  subst hk
  exact ⟨A, c, rfl, h1, h2, h3, h, hgr⟩

set_option maxRecDepth 100000 in
set_option maxHeartbeats 1000000 in
theorem steps_any (A : Option Addr) (n c : Nat) (ps : List (St)) (w : World) (hn : ps.length = n) (hl : n ≤ 9223372036854775807) (hc : n ≤ c) (h0 : A = none → c = 0) (hp : Pts w A ps) :
    Calls Try.prog 14 #[.slice A n c] w (stepsPost (ps.take 8193) w) := by
  obtain ⟨i0, hi, hz0, hz1, hz2⟩ := info_parts Try.infoSt
  obtain ⟨k, hk⟩ : ∃ k, min n 8193 = k := ⟨_, rfl⟩
  have HL : Hid ((ps.take 8193).length = k) := Lib.hid (by rw [List.length_take]; omega)
  have HP := Lib.hid (Rd_take hp 8193)
  rcases A with _ | ad
  · obtain rfl : c = 0 := h0 rfl
    obtain rfl : n = 0 := by omega
    obtain rfl : k = 0 := by omega
    have HE : Hid (ps.take 8193 = []) := Lib.hid (by rw [List.eq_nil_of_length_eq_zero hn]; rfl)
    rw [HE.out]
    clear hn hp hl hc h0 hk
    go_enter Try.func14, Try.ntmps14
    go_wp2_with (at_builtin; refine wpList_append_own_none rfl _ _ 25 rfl w.heap.size 56 i0 2 Try.underlying25 hi _ 0 [] rfl (World.ownsRow_nil w _ _ _) rfl ?_)
    go_ret
    exact steps_done (qs := []) (k := 0) rfl (World.ownsRow_nil w _ _ _) (World.grownBy.refl w _)
  · have HC := Lib.hid (Rd_news enc2_len (by decide) HP.out)
    by_cases h5 : n ≤ 8193
    · obtain rfl : k = n := by omega
      clear hn hp hl h0 hk
      go_enter Try.func14, Try.ntmps14
      go_wp2_with (at_builtin; refine wpList_append_own _ rfl _ _ 25 rfl w.heap.size 56 i0 _ 2 16 Try.underlying25 hi hz0 hz1 hz2 rfl (by decide) _ _ _ rfl (World.ownsRow_nil w _ _ _) ad k c (flatE enc2 (ps.take 8193)) rfl ?qc1 ?qc2 ?qc3 ?qc4 ?qc5 ?qc6 ?_)
      case qc1 => rw [flatE_len enc2_len, HL.out]
      case qc2 => exact HC.out
      case qc3 => exact oneCell_flat enc2_one _
      case qc4 => unfold maxLen; omega
      case qc5 => omega
      case qc6 => exact Nat.le_refl _
      intro v' w1 hown hgrow hnil
      have HO := Lib.hid hown
      have HG := Lib.hid hgrow
      clear hown hgrow hnil hi hz0 hz1 hz2
      go_wp2
      go_ret
      exact steps_done (k := k) HL.out (by simpa using HO.out) HG.out
    · obtain rfl : k = 8193 := by omega
      have h6 : 8193 < n := by omega
      clear hn hp hl h0 hk h5
      go_enter Try.func14, Try.ntmps14
      go_wp2_with (at_builtin; refine wpList_append_own _ rfl _ _ 25 rfl w.heap.size 56 i0 _ 2 16 Try.underlying25 hi hz0 hz1 hz2 rfl (by decide) _ _ _ rfl (World.ownsRow_nil w _ _ _) ad 8193 c (flatE enc2 (ps.take 8193)) rfl ?rc1 ?rc2 ?rc3 ?rc4 ?rc5 ?rc6 ?_)
      case rc1 => rw [flatE_len enc2_len, HL.out]
      case rc2 => exact HC.out
      case rc3 => exact oneCell_flat enc2_one _
      case rc4 => unfold maxLen; omega
      case rc5 => omega
      case rc6 => exact Nat.le_refl _
      intro v' w1 hown hgrow hnil
      have HO := Lib.hid hown
      have HG := Lib.hid hgrow
      clear hown hgrow hnil hi hz0 hz1 hz2
      go_wp2
      go_ret
      exact steps_done (k := 8193) HL.out (by simpa using HO.out) HG.out

end Go.Proofs.Ytcojionipffanab
