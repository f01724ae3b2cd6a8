/- Layer 2: reading a plan; Worth and Rest. -/
import Derived.Test.YtcojionipffanabCAlong
import Derived.Laws.EntriesVeiled
namespace Go.Proofs.Ytcojionipffanab
open Go.RowKit
set_option linter.unusedSimpArgs false

/-- What is made, if nothing is left. -/
def allOf (Q : Option (List Bl × List St)) : Option (List Bl) :=
  match Q with
  | some (m, []) => some m
  | _ => none
/-- What a whole plan makes, if it is right. -/
def readL (bs : List Bl) (W H : Int) (plan : List St) : Option (List Bl) :=
  if plan.length ≤ 8192 then allOf (rdP bs W H plan) else none

def ReadPost (R : Option (List Bl)) (w : World) (e : Ending) (w' : World) : Prop :=
  Gr w w' ∧ match R with
  | some m => ∃ A c, e = .returned (.tuple #[.slice A m.length c, .bool true]) ∧ Tris w' A m
  | none => ∃ v, e = .returned (.tuple #[v, .bool false])

theorem RSt.start (w : World) (bv pv : Value) {S : Nat} (hS : w.heap.size = S) :
    RSt w (S + 1 + 1 + 1 + 1) (S + 1) S (S + 1 + 1 + 1) (S + 1 + 1 + 1 + 1 + 1) pv bv (fnPiece (S + 1 + 1 + 1 + 1) (S + 1) S (S + 1 + 1 + 1) (S + 1 + 1 + 1 + 1 + 1)) 0 [] (.slice (some ⟨S + 1 + 1, 0, none⟩) 0 0)
      ((((((w.alloc (.cells #[bv] 22)).alloc (.cells #[pv] 25)).alloc (.cells #[] 49)).alloc (.cells #[.slice (some ⟨S + 1 + 1, 0, none⟩) 0 0] 22)).alloc (.cells #[.int .i64 0] 3)).alloc
        (.cells #[fnPiece (S + 1 + 1 + 1 + 1) (S + 1) S (S + 1 + 1 + 1) (S + 1 + 1 + 1 + 1 + 1)] 116)) := by
  subst hS
  refine ⟨?_, ?_, ?_, ?_, ?_, ?_, ?_, by omega, by omega, by omega⟩
  · exact Blk.alloc (Blk.new _ _ _ (by simp)) _
  · exact Blk.alloc (Blk.alloc (Blk.alloc (Blk.alloc (Blk.new _ _ _ (by simp)) _) _) _) _
  · exact Blk.alloc (Blk.alloc (Blk.alloc (Blk.alloc (Blk.alloc (Blk.new _ _ _ (by simp)) _) _) _) _) _
  · exact Blk.alloc (Blk.alloc (Blk.new _ _ _ (by simp)) _) _
  · exact Blk.new _ _ _ (by simp)
  · have h : ((w.alloc (.cells #[bv] 22)).alloc (.cells #[pv] 25)).heap.size = w.heap.size + 1 + 1 := by simp
    have := World.ownsRow_made (e := 49) (size := 3) (base := w.heap.size) ((w.alloc (.cells #[bv] 22)).alloc (.cells #[pv] 25)) #[] 0 (by simp; omega) (Nat.zero_le _) (by simp)
    rw [h] at this
    exact ((this.alloc _).alloc _).alloc _
  · exact ((((((Gr.refl w).alloc _).alloc _).alloc _).alloc _).alloc _).alloc _

set_option maxRecDepth 100000 in
set_option maxHeartbeats 1000000 in
theorem read_any (W H : Int) (BA PA : Option Addr) (bn bc n pc : Nat) (bs : List Bl) (plan : List St) (w : World) (hbn : bs.length = bn) (hn : plan.length = n) (hl : n ≤ 281474976710656) (hZ : Sz W H) (hB : Tris w BA bs) (hP : Pts w PA plan) :
    Calls Try.prog 56 #[.int .i64 W, .int .i64 H, .slice BA bn bc, .slice PA n pc] w (ReadPost (readL bs W H plan) w) := by
  by_cases h8 : n ≤ 8192
  · subst hn
    obtain ⟨S, hS⟩ : ∃ S, w.heap.size = S := ⟨_, rfl⟩
    have h0 := RSt.start w (.slice BA bn bc) (.slice PA plan.length pc) hS
    have HC := Lib.hid (piece_all w _ _ _ _ _ PA pc BA bn bc bs plan h8 hbn hP hB plan.length W H [] _ _ 0 hZ (Nat.zero_le _) (by omega) (Nat.zero_le _) h0)
    obtain ⟨Q, hQ⟩ : ∃ Q, rdP bs W H plan = Q := ⟨_, rfl⟩
    rw [List.drop_zero, hQ] at HC
    have HR : Hid (readL bs W H plan = allOf Q) := Lib.hid (by unfold readL; rw [if_pos h8, hQ])
    clear h0 hQ hB hP hZ hbn
    subst hS
    generalize hN : plan.length = n at HC h8 ⊢
    have HN := Lib.hid hN
    clear hN
    unfold fnPiece at HC
    go_enter Try.func56, Try.ntmps56
    go_wp2_with fail
    refine HC.out.mono ?_
    clear HC
    rcases Q with _ | ⟨m, r⟩
    · rintro e w1 ⟨rfl, v, k', ms', hk', hS1, -⟩
      have c1 := cell_of_one hS1.made
      have HS1 := Lib.hid hS1.old
      clear hS1
      go_wp2_with fail
      go_quiet (fail)
      go_wp2_with fail
      go_ret2
      rw [HR.out]
      exact ⟨HS1.out.drewN _, _, rfl⟩
    · rintro e w1 ⟨rfl, v, k', hr, hk', hS1, -⟩
      have c1 := cell_of_one hS1.made
      have c2 := cell_of_one hS1.at_
      have c3 := cell_of_one hS1.plan
      obtain ⟨A, c, rfl, hmc, hTr, -⟩ := own_row enc3_len rfl hS1.row
      have HS1 := Lib.hid hS1.old
      have HT := Lib.hid hTr
      have HRR := Lib.hid hr
      clear hS1 hTr hr
      by_cases hkn : k' = n
      · subst hkn
        have hr0 : r = [] := by rw [HRR.out, List.drop_of_length_le (by rw [HN.out]; exact Nat.le_refl _)]
        have HR0 := Lib.hid hr0
        clear hr0
        go_wp2_with fail
        go_quiet (fail)
        go_wp2_with fail
        go_ret2
        rw [HR.out, HR0.out]
        exact ⟨HS1.out.drewN _, A, c, rfl, HT.out.keep ((Gr.refl _).drewN _)⟩
      · have hr0 : allOf (some (m, r)) = none := by
          have h1 := congrArg List.length HRR.out
          rw [List.length_drop, HN.out] at h1
          rw [HN.out] at hk'
          match r, h1 with
          | [], h1 => simp at h1; omega
          | _ :: _, _ => rfl
        have HR0 := Lib.hid hr0
        have hne : ((k' : Int) == (n : Int)) = false := by simp; omega
        clear hr0 hkn
        go_wp2_with fail
        go_quiet (fail)
        go_wp2_with fail
        go_ret2
        rw [HR.out, HR0.out]
        exact ⟨HS1.out.drewN _, _, rfl⟩
  · have hR : Hid (readL bs W H plan = none) := Lib.hid (by unfold readL; rw [if_neg (by omega)])
    rw [hR.out]
    clear hbn hn hZ hB hP
    go_enter Try.func56, Try.ntmps56
    go_wp2_with fail
    go_ret2
    exact ⟨by (repeat (first | exact Gr.refl _ | assumption | (refine Gr.drew ?_) | (refine Gr.drewN ?_ _) | (refine Gr.alloc ?_ _) | (refine Gr.trans ?_ (by assumption)))), _, rfl⟩

end Go.Proofs.Ytcojionipffanab
