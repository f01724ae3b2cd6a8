/- Layer 4: the law's can.
Layer 4: the law's probe that the program is there. -/
import Derived.Test.YtfmojiaaoebodaaBnTame
import Derived.Test.YtfmojiaaoebodaaBnTrans
import Derived.Test.YtfmojiaaoebodaaBnFew
import Derived.Test.YtfmojiaaoebodaaBnLater
import Derived.Test.YtfmojiaaoebodaaBnChkM
namespace Go.Proofs.Ytfmojiaaoebodaa
open Go.RowKit
set_option linter.unusedSimpArgs false

theorem RightP.poss {B : Int} {l : List Jb} {p : Bool} {s : List Sl} {J : List Int} {S : List (Int × Int)} (hB : 1 ≤ B) (hV : JobsV l) (h : RightP B l p s J S) : p = true ↔ Poss B l := by
  cases p with
  | true => exact ⟨fun _ => ⟨s, (RightP.yes.1 h).2.2⟩, fun _ => rfl⟩
  | false =>
    refine ⟨fun h => (by cases h), fun ⟨t, ht⟩ => ?_⟩
    obtain ⟨N, rfl⟩ : ∃ N : Nat, B = N := ⟨B.toNat, by omega⟩
    exact (dual hV.three ht (RightP.no.1 h).2).elim

/-- What Plan gives for a task. -/
def PlanOk (B : Int) (l : List Jb) (w : World) (e : Ending) (w' : World) : Prop :=
  ∃ p C m cc s JA m1 c1 J SA m2 c2 S, e = .returned (.tuple #[.agg #[.bool p, .slice C m cc, .slice JA m1 c1, .slice SA m2 c2], .int .i64 0]) ∧ AnsR w' C m cc s JA m1 J SA m2 S ∧ RightP B l p s J S ∧
    (Fresh w.heap.size w' C m cc ∧ Fresh w.heap.size w' JA m1 c1 ∧ Fresh w.heap.size w' SA m2 c2) ∧ Gr w w'
theorem plan_ok (B : Int) (A : Option Addr) (n c : Nat) (l : List Jb) (w : World) (hn : l.length = n) (hT : okT B l = true) (hp : Tris w A l) : Calls Try.prog 7 #[.int .i64 B, .slice A n c] w (PlanOk B l w) := by
  obtain ⟨hB, hn32, hV⟩ := okT_v hT
  refine (plan_any B A n c l w hn (by omega) hp).mono ?_
  intro e w' h
  rcases h with ⟨h, -⟩ | ⟨-, v, rfl, h⟩
  · rw [hT] at h; cases h
  · have hBn : ((B.toNat : Nat) : Int) = B := by omega
    have hnil : ∀ b0 w, Fresh b0 w none 0 0 := fun b0 w => Or.inl ⟨rfl, rfl, rfl⟩
    rcases h with ⟨C, k, cc, sl, e, h1, h2, h3, h4, h5⟩ | ⟨JA, jc, SA, sc, J, S, e, h1, h2, h3, ⟨h4, h5⟩, h6⟩
    · injection e with e
      rw [hBn] at h3
      refine ⟨true, C, k, cc, sl, none, 0, 0, [], none, 0, 0, [], by rw [e], ⟨h1, ?_, h4.nil, h4.spot, h2, rfl, by omega, Rd_nil _ _, rfl, by omega, Rd_nil _ _⟩, RightP.yes.2 ⟨rfl, rfl, h3⟩, ⟨h4, hnil _ _, hnil _ _⟩, h5⟩
      have := h3.few
      omega
    · injection e with e
      rw [hBn] at h3
      refine ⟨false, none, 0, 0, [], JA, J.length, jc, J, SA, S.length, sc, S, by rw [e], ⟨rfl, by omega, fun _ => ⟨rfl, rfl⟩, fun a h => (by cases h), Rd_nil _ _, rfl, ?_, h1, rfl, ?_, h2⟩, RightP.no.2 ⟨rfl, h3⟩, ⟨hnil _ _, h4, h5⟩, h6⟩
      · have := asc_few ((asc_iff _ _).1 ⟨h3.jobs, h3.asc⟩); omega
      · have := h3.few; omega

def CanP (B : Int) (l : List Jb) (w : World) (e : Ending) (w' : World) : Prop :=
  ∃ r : Int, e = .returned (.int .i64 r) ∧ ((r = 1 ∧ Poss B l) ∨ (r = 0 ∧ Refd B l)) ∧ Gr w w'

end Go.Proofs.Ytfmojiaaoebodaa

namespace Go.Proofs.Ytfmojiaaoebodaa
open Go.RowKit
set_option linter.unusedSimpArgs false

theorem aw_plan2 {p : Bool} {s : List Sl} {J : List Int} {S : List (Int × Int)} (h : RightP 2 awJ p s J S) : p = true := by
  cases p with
  | true => rfl
  | false => exact (dual (n := 2) aw_jobs aw_two (RightP.no.1 h).2).elim
theorem aw_plan1 {p : Bool} {s : List Sl} {J : List Int} {S : List (Int × Int)} (h : RightP 1 awJ p s J S) : p = false := by
  cases p with
  | true => exact (aw_not_one _ (RightP.yes.1 h).2.2).elim
  | false => rfl
theorem aw_few {w w' : World} {e : Ending} (h : FewP awJ w e w') : e = .returned (.tuple #[.int .i64 2, .int .i64 0]) ∧ Gr w w' := by
  rcases h with ⟨h, -⟩ | ⟨-, r, rfl, hg, h8, h0, h1⟩
  · exact absurd h (by decide)
  · have hr : r = 2 := by
      rcases Nat.eq_zero_or_pos r with e | e
      · exact (h0 e 2 (by omega) (by omega) ⟨_, aw_two⟩).elim
      · obtain ⟨⟨s, hs⟩, hno⟩ := h1 e
        rcases Nat.lt_or_ge 2 r with e2 | e2
        · exact (hno 2 (by omega) e2 ⟨_, aw_two⟩).elim
        · rcases (by omega : r = 1 ∨ r = 2) with rfl | rfl
          · exact (aw_not_one _ hs).elim
          · rfl
    subst hr
    exact ⟨rfl, hg⟩
theorem aw_map (d : Int) : awJ2.map (lateJ d) = awD d := rfl
theorem aw_lat {w w' : World} {e : Ending} (h : LatP 2 awJ2 w e w') : e = .returned (.tuple #[.int .i64 1, .int .i64 0]) ∧ Gr w w' := by
  rcases h with ⟨h, -⟩ | ⟨-, i, rfl, hi, h1, h2, hg⟩
  · exact absurd h (by decide)
  · have hc : ∀ d, CanL (2 : Int).toNat awJ2 d ↔ ∃ s, SchedP 2 (awD d) s := fun d => Iff.rfl
    have hr : i = 2 := by
      have h1' : i = 0 ∨ (i : Int) - 1 ≤ 1 := h1.imp id fun h => by obtain ⟨s, hs⟩ := (hc _).1 h; exact aw_late hs
      rcases (by omega : i = 0 ∨ i = 1 ∨ i = 2) with rfl | rfl | rfl
      · rcases h2 with h2 | h2
        · omega
        · exact (h2 ((hc _).2 ⟨_, aw_d0⟩)).elim
      · rcases h2 with h2 | h2
        · omega
        · exact (h2 ((hc _).2 ⟨_, aw_d1⟩)).elim
      · rfl
    subst hr
    exact ⟨rfl, hg⟩

set_option maxRecDepth 100000 in
set_option maxHeartbeats 8000000 in
theorem bawake_any (w : World) : Calls Try.prog 10 #[] w fun e w' => e = .returned (.bool true) ∧ Gr w w' := by
  go_enter Try.func10, Try.ntmps10
  go_wp2_with fail
  generalize hW : World.alloc w _ = W
  have hgW : Gr w W := by rw [← hW]; exact (Gr.refl _).alloc _
  have hB : Tris W (some ⟨w.heap.size, 0, none⟩) awJ := by
    rw [← hW]
    exact Rd_lit enc3_len (Blk.new w _ _ rfl) rfl
  generalize w.heap.size = D at hB ⊢
  have HB := Lib.hid hB
  clear hW hB
  refine (plan_ok 2 (some ⟨D, 0, none⟩) 3 3 awJ W rfl (by decide) HB.out).mono ?_
  rintro e w1 ⟨p, C, m, cc, s, JA, m1, c1, J, SA, m2, c2, S, rfl, -, hRT, -, hg1⟩
  obtain rfl := aw_plan2 hRT
  have hgr1 := hgW.trans hg1
  clear hRT
  go_upto_region 3 with fail
  generalize hW2 : World.alloc w1 _ = w2
  have hg2 : Gr w1 w2 := by rw [← hW2]; exact (Gr.refl w1).alloc _
  have hZ : Blk w2 w1.heap.size 28 #[.bool true, .slice C m cc, .slice JA m1 c1, .slice SA m2 c2] := by rw [← hW2]; exact heap_alloc_new w1 _
  generalize w1.heap.size = Z at hZ ⊢
  have HZ := Lib.hid hZ
  have hgr2 := hgr1.trans hg2
  have HB2 := Lib.hid (HB.out.keep (hg1.trans hg2))
  clear hW2 hZ hg1 hg2 HB hgr1 hgW
  have HP1 := Lib.hid (plan_ok 1 (some ⟨D, 0, none⟩) 3 3 awJ w2 rfl (by decide) HB2.out)
  go_wp2_with fail
  refine HP1.out.mono ?_
  rintro e w3 ⟨p', C', m', cc', s', JA', m1', c1', J', SA', m2', c2', S', rfl, -, hRT, -, hg3⟩
  obtain rfl := aw_plan1 hRT
  clear hRT HP1
  go_upto_region 4 with fail
  generalize hW4 : World.alloc w3 _ = w4
  have hg4 : Gr w3 w4 := by rw [← hW4]; exact (Gr.refl w3).alloc _
  have hY : Blk w4 w3.heap.size 28 #[.bool false, .slice C' m' cc', .slice JA' m1' c1', .slice SA' m2' c2'] := by rw [← hW4]; exact heap_alloc_new w3 _
  generalize w3.heap.size = Y at hY ⊢
  have HY := Lib.hid hY
  have hg34 := hg3.trans hg4
  have hgr4 := hgr2.trans hg34
  have HB4 := Lib.hid (HB2.out.keep hg34)
  have HZ4 := Lib.hid (HZ.out.keep hg34)
  clear hW4 hY hg3 hg4 hg34 HB2 hgr2 HZ
  have HF := Lib.hid (fewest_any (some ⟨D, 0, none⟩) 3 3 awJ w4 rfl (by omega) HB4.out)
  go_wp2_with fail
  refine HF.out.mono ?_
  intro e w5 hfe
  obtain ⟨rfl, hg5⟩ := aw_few hfe
  have HB5 : Hid (Tris w5 (some ⟨D, 0, none⟩) awJ2) := Lib.hid (Rd_take (HB4.out.keep hg5) 2)
  have HZ5 := Lib.hid (HZ4.out.keep hg5)
  have HY5 := Lib.hid (HY.out.keep hg5)
  have hgr5 := hgr4.trans hg5
  clear hfe hg5 HF HB4 HZ4 HY hgr4
  have HL := Lib.hid (latest_any 2 (some ⟨D, 0, none⟩) 2 3 awJ2 w5 (Or.inl ⟨D, 0, rfl⟩) rfl (by omega) HB5.out)
  go_wp2_with fail
  refine HL.out.mono ?_
  intro e w6 hle
  obtain ⟨rfl, hg6⟩ := aw_lat hle
  have q0 := (HZ5.out.keep hg6).cell 0
  have y0 := (HY5.out.keep hg6).cell 0
  have hgr6 := hgr5.trans hg6
  clear hle HL HZ5 HY5 hgr5 HB5 hg6
  go_wp2_with fail
  go_ret
  exact ⟨rfl, hgr6⟩

end Go.Proofs.Ytfmojiaaoebodaa
