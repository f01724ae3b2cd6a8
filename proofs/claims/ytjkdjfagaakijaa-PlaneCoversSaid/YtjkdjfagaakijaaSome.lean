/- The law's own copy of the first points of a list. -/
import Derived.Test.YtjkdjfagaakijaaAwake
import Derived.Test.YtjkdjfagaakijaaClone
import Derived.Laws.AppendOwnNone
namespace Go.Proofs.Ytjkdjfagaakijaa
open Go.RowKit
set_option linter.unusedSimpArgs false

def someN (n m : Nat) : Nat := if 512 < n then 513 else min n m
def SomePost (qs : List (Int × Int)) (w : World) (e : Ending) (w' : World) : Prop :=
  ∃ A c, e = .returned (.slice A qs.length c) ∧ qs.length ≤ c ∧ Pts w' A qs ∧ Gr w w'

theorem some_done {w w1 : World} {v : Value} {k : Nat} {qs : List (Int × Int)} (hk : qs.length = k) (h : w1.ownsRow w.heap.size 40 2 v k (flat2 qs)) (hg : w.grownBy w1 none) : SomePost qs w (.returned v) w1 := by
  have hgr : Gr w w1 := (Below.refl _ w).grown hg (Nat.le_refl _) (fun k hk => by cases hk)
  rcases h.2 with ⟨rfl, hz⟩ | ⟨g, cap, cur, rfl, _, _, hnc, _⟩
  · have hq : qs.length = 0 := by rw [hk]; exact hz
    have hq' : qs = [] := List.eq_nil_of_length_eq_zero hq
    subst hq'
    exact ⟨none, 0, rfl, Nat.le_refl _, fun i x hx => by simp at hx, hgr⟩
  · exact ⟨some ⟨g, 0, none⟩, cap, by rw [hk], by omega, (Own_of hk h).pts, hgr⟩

set_option maxRecDepth 100000 in
set_option maxHeartbeats 1000000 in
theorem some_any (A : Option Addr) (n c m : Nat) (ps : List (Int × Int)) (w : World) (hn : ps.length = n) (hl : n ≤ 8796093022208) (hc : n ≤ c) (h0 : A = none → c = 0) (hm : m ≤ 512) (hp : Pts w A ps) :
    Calls Try.prog 10 #[.slice A n c, .int .i64 m] w (SomePost (ps.take (someN n m)) w) := by
  obtain ⟨i0, hi, hz0, hz1, hz2⟩ := info_parts Try.info23
  obtain ⟨k, hk⟩ : ∃ k, someN n m = k := ⟨_, rfl⟩
  rw [hk]
  have hkn : k ≤ n ∧ k ≤ 513 := by unfold someN at hk; split at hk <;> omega
  have HL : Hid ((ps.take k).length = k) := Lib.hid (by rw [List.length_take]; omega)
  have HP := Lib.hid (Pts_take hp k)
  rcases A with _ | ad
  · obtain rfl : c = 0 := h0 rfl
    obtain rfl : n = 0 := by omega
    obtain rfl : k = 0 := by omega
    clear hn hp hl hc h0 hk hkn
    go_enter Try.func10, Try.ntmps10
    go_wp2_with (at_builtin; refine wpList_append_own_none rfl _ _ 22 rfl w.heap.size 40 i0 2 Try.underlying22 hi _ 0 [] rfl (World.ownsRow_nil w _ _ _) rfl ?_)
    go_ret
    exact some_done (qs := []) (k := 0) rfl (World.ownsRow_nil w _ _ _) (World.grownBy.refl w _)
  · have HC := Lib.hid (news_cells HP.out)
    by_cases h5 : 512 < n
    · obtain rfl : k = 513 := by rw [← hk]; unfold someN; rw [if_pos h5]
      clear hn hp hl h0 hk hkn
      go_enter Try.func10, Try.ntmps10
      go_wp2_with (at_builtin; refine wpList_append_own _ rfl _ _ 22 rfl w.heap.size 40 i0 _ 2 16 Try.underlying22 hi hz0 hz1 hz2 rfl (by decide) _ _ _ rfl (World.ownsRow_nil w _ _ _) ad 513 c (flat2 (ps.take 513)) rfl ?qc1 ?qc2 ?qc3 ?qc4 ?qc5 ?qc6 ?_)
      case qc1 => rw [flat2_len, HL.out]
      case qc2 => exact HC.out
      case qc3 => exact flat2_one _
      case qc4 => unfold maxLen; omega
      case qc5 => omega
      case qc6 => exact Nat.le_refl _
      intro v' w1 hown hgrow hnil
      have HO := Lib.hid hown
      have HG := Lib.hid hgrow
      clear hown hgrow hnil hi hz0 hz1 hz2
      go_wp2
      go_ret
      exact some_done (k := 513) HL.out (by simpa using HO.out) HG.out
    · have hmin : min (n : Int) (m : Int) = (k : Int) := by rw [← hk]; unfold someN; rw [if_neg h5]; omega
      clear hn hp hl h0 hk
      go_enter Try.func10, Try.ntmps10
      go_wp2_with (at_builtin; refine wpList_append_own _ rfl _ _ 22 rfl w.heap.size 40 i0 _ 2 16 Try.underlying22 hi hz0 hz1 hz2 rfl (by decide) _ _ _ rfl (World.ownsRow_nil w _ _ _) ad k c (flat2 (ps.take k)) rfl ?qc1 ?qc2 ?qc3 ?qc4 ?qc5 ?qc6 ?_)
      case qc1 => rw [flat2_len, HL.out]
      case qc2 => exact HC.out
      case qc3 => exact flat2_one _
      case qc4 => unfold maxLen; omega
      case qc5 => omega
      case qc6 => exact Nat.le_refl _
      intro v' w1 hown hgrow hnil
      have HO := Lib.hid hown
      have HG := Lib.hid hgrow
      clear hown hgrow hnil hi hz0 hz1 hz2
      go_wp2
      go_ret
      exact some_done (k := k) HL.out (by simpa using HO.out) HG.out

end Go.Proofs.Ytjkdjfagaakijaa
