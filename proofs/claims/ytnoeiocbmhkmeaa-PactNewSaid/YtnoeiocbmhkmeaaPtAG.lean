/- Layer 5: the parts of a deal but one; the parts that are missing. -/
import Derived.Test.YtnoeiocbmhkmeaaPvA
namespace Go.Proofs.Ytnoeiocbmhkmeaa
open Go.RowKit
set_option linter.unusedSimpArgs false

/-- A list of parts in new memory, or none. -/
def MvP (l : List Mv) (w : World) (e : Ending) (w' : World) : Prop := ∃ A c, e = .returned (.slice A l.length c) ∧ Pts w' A l ∧ Gr w w' ∧ l.length ≤ c
theorem filter_take {α : Type} (q : α → Bool) {ps : List α} {i : Nat} {p : α} (h : ps[i]? = some p) : (ps.take (i + 1)).filter q = (ps.take i).filter q ++ (if q p then [p] else []) := by
  rw [List.take_add_one, h, Option.toList_some, List.filter_append]
  congr 1
  cases hq : q p <;> simp [hq]
theorem filter_keep {α : Type} (q : α → Bool) {ps : List α} {i : Nat} {p : α} (h : ps[i]? = some p) (hq : q p = true) : (ps.take (i + 1)).filter q = (ps.take i).filter q ++ [p] := by rw [filter_take q h, if_pos hq]
theorem filter_skip {α : Type} (q : α → Bool) {ps : List α} {i : Nat} {p : α} (h : ps[i]? = some p) (hq : q p = false) : (ps.take (i + 1)).filter q = (ps.take i).filter q := by rw [filter_take q h, if_neg (by simp [hq]), List.append_nil]
theorem filter_few {α : Type} (q : α → Bool) (ps : List α) (i : Nat) : ((ps.take i).filter q).length ≤ i := Nat.le_trans (List.length_filter_le _ _) (by rw [List.length_take]; omega)

set_option maxRecDepth 100000 in
set_option maxHeartbeats 8000000 in
theorem other_any (A : Option Addr) (n c : Nat) (ps : List Mv) (mv : Value) (f : Int) (w : World) (hn : ps.length = n) (hl : n ≤ 512) (hp : Pts w A ps) :
    Calls Try.prog 81 #[.agg #[.slice A n c, mv], .int .i64 f] w (MvP (otherL ps f) w) := by
  have HN := Lib.hid hn
  have HP := Lib.hid hp
  obtain ⟨i0, hi, hz0, hz1, hz2⟩ := info_parts Try.infoPtM
  have HI := Lib.hid (And.intro hi (And.intro hz0 (And.intro hz1 hz2)))
  have HQ := Lib.hid (show otherL ps f = ps.filter (fun p => p.1 != f) from rfl)
  obtain ⟨Q, hQ⟩ : ∃ Q : Mv → Bool, Q = fun p => p.1 != f := ⟨_, rfl⟩
  rw [← hQ] at HQ
  have HQQ := Lib.hid hQ
  clear hn hp hi hz0 hz1 hz2 hQ
  go_enter Try.func81, Try.ntmps81
  go_upto_region 2 with fail
  generalize hW1 : World.alloc w _ = w1
  obtain ⟨hg1, k0, -⟩ := box2q hW1
  generalize w.heap.size = T at k0 ⊢
  have hsz := hg1.size
  clear hW1
  go_wp2_with fail
  go_loopw [5, 11] (fun q z wr => ∃ (i : Nat) (A9 : Option Addr) (j c9 : Nat), i ≤ n ∧ z = .int .i64 (i : Int) ∧ q = .slice A9 j c9 ∧ Hid (((ps.take i).filter Q).length = j ∧ j ≤ i) ∧ Hid (wr.ownsRow w.heap.size 66 2 (.slice A9 j c9) j (flatE enc2 ((ps.take i).filter Q))) ∧ Gr w wr) (fun _ z _ => n - (intOf z).toNat)
  case atStart => exact ⟨0, none, 0, 0, Nat.zero_le _, rfl, rfl, Lib.hid ⟨by simp, by omega⟩, Lib.hid (World.ownsRow_nil _ _ _ _), hg1⟩
  case round =>
    obtain ⟨i, A9, j, c9, hin, rfl, rfl, hj, hown, hgr⟩ := hrel
    by_cases hlt : i < n
    · obtain ⟨b, off, rfl, x0, x1⟩ := Pts_at (HP.out.keep hgr) (k := i) (by rw [HN.out]; exact hlt)
      have hpk : ps[i]? = some (ps.getD i (0, 0)) := getD_of (0, 0) (by rw [HN.out]; exact hlt)
      have HPK := Lib.hid hpk
      generalize ps.getD i (0, 0) = p at *
      obtain ⟨p1, p2⟩ := p
      dsimp only at x0 x1
      have hki : (i : Int) < (n : Int) := by omega
      clear hpk
      go_upto_region 5 with fail
      generalize hW : World.alloc wr _ = w5
      obtain ⟨hgW, k0, k1⟩ := box2q hW
      generalize wr.heap.size = Z at k0 k1 ⊢
      have HO5 := Lib.hid (owns_gr hown.out hgW)
      have hg5 := hgr.trans hgW
      clear hW hgW hown hgr x0 x1
      by_cases hpf : p1 = f
      · have b1 : (p1 != f) = false := by simp [hpf]
        have b2 : (p1 == f) = true := by simp [hpf]
        have HSK := Lib.hid (filter_skip Q HPK.out (by rw [HQQ.out]; exact b1))
        have HJ : Hid (((ps.take (i + 1)).filter Q).length = j ∧ j ≤ i + 1) := Lib.hid (by rw [HSK.out]; exact ⟨hj.out.1, by have := hj.out.2; omega⟩)
        have HO6 : Hid (w5.ownsRow w.heap.size 66 2 (.slice A9 j c9) j (flatE enc2 ((ps.take (i + 1)).filter Q))) := Lib.hid (by rw [HSK.out]; exact HO5.out)
        clear hpf
        go_wp2_with fail
        go_roundw
        case rel => exact ⟨i + 1, A9, j, c9, by omega, by go_num, rfl, HJ, HO6, hg5⟩
        case measure => simp [intOf]; omega
      · have b1 : (p1 != f) = true := by simp [hpf]
        have b2 : (p1 == f) = false := by simp [hpf]
        have HSK := Lib.hid (filter_keep Q HPK.out (by rw [HQQ.out]; exact b1))
        have HJ : Hid (((ps.take (i + 1)).filter Q).length = j + 1 ∧ j + 1 ≤ i + 1) := Lib.hid (by rw [HSK.out, List.length_append, hj.out.1]; exact ⟨rfl, by have := hj.out.2; omega⟩)
        have hj2 := hj.out.2
        clear hpf
        obtain ⟨hi, hz0, hz1, hz2⟩ := HI.out
        go_wp2_with (at_builtin; refine wpList_append_own _ rfl _ _ 38 rfl w.heap.size 66 i0 _ 2 16 Try.underlying38 hi hz0 hz1 hz2 rfl (by decide) _ _ _ rfl (HO5.out.alloc _) ⟨w5.heap.size, 0, none⟩ 1 1 (enc2 (p1, p2)) rfl rfl ?a1 ?a2 ?a3 ?a4 ?a5 ?_)
        case a1 =>
          intro t u ht
          first
          | (rw [Addr.add_lit]; exact alloc_new rfl (by rw [Nat.zero_add]; simpa [enc2] using ht))
          | simpa [enc2] using ht
        case a2 => exact fun u hu => enc2p_one _ u hu
        case a3 => unfold maxLen; omega
        case a4 => omega
        case a5 => have := hg5.size; simp; omega
        intro v' w10 hown' hgrow _
        have hal := hg5.alloc (.cells #[.int .i64 p1, .int .i64 p2] 66)
        have ho3 := HO5.out.alloc (.cells #[.int .i64 p1, .int .i64 p2] 66)
        have hgf : Gr w w10 := Below.grown hal hgrow hal.size (fun t ht => (ho3.lt t ht).1)
        have hown5 : w10.ownsRow w.heap.size 66 2 v' (j + 1) (flatE enc2 ((ps.take (i + 1)).filter Q)) := by
          rw [HSK.out, flatE_app]; simpa [flatE] using hown'
        obtain ⟨A8, c8, rfl, -, -, -⟩ := own_row enc2p_len HJ.out.1 hown5
        have HO8 := Lib.hid hown5
        clear hi hz0 hz1 hz2 hown' hgrow hal ho3 hown5 k0 k1
        go_wp2_with fail
        go_roundw
        case rel => exact ⟨i + 1, A8, j + 1, c8, by omega, by go_num, rfl, HJ, HO8, hgf⟩
        case measure => simp [intOf]; omega
    · obtain rfl : i = n := by omega
      have htk : ps.take i = ps := List.take_of_length_le (by rw [HN.out]; exact Nat.le_refl _)
      rw [htk] at hown hj
      rw [← HQ.out] at hown hj
      clear htk
      go_wp2_with fail
      go_ret
      obtain ⟨A7, c7, e, h1, h2, -⟩ := own_row enc2p_len hj.out.1 hown.out
      injection e with e1 _ e2
      exact ⟨A9, c9, by rw [hj.out.1]; rfl, by rw [e1]; exact h2, hgr, by rw [hj.out.1, e2]; exact h1⟩

end Go.Proofs.Ytnoeiocbmhkmeaa
