/- Layer 4: Plan. -/
import Derived.Test.YtfmojiaaoebodaaBnTask
import Derived.Test.YtfmojiaaoebodaaBnPlanW
namespace Go.Proofs.Ytfmojiaaoebodaa
open Go.RowKit
set_option linter.unusedSimpArgs false

theorem okT_v {B : Int} {l : List Jb} (h : okT B l = true) : (1 ≤ B ∧ B ≤ 8) ∧ l.length ≤ 32 ∧ JobsV l := by
  unfold okT at h
  simp only [Bool.and_eq_true, decide_eq_true_eq, List.all_eq_true] at h
  obtain ⟨⟨⟨h1, h2⟩, h3⟩, h4⟩ := h
  refine ⟨⟨h1, h2⟩, h3, fun j hj => ?_⟩
  have := h4 j hj
  simpa [okJ] using this

/-- A plan is there, and what it says of the flow. -/
def PlanAt (B n : Nat) (A : Option Addr) (c : Nat) (l : List Jb) (p : Nat) (F : Nat → Option Nat) (r' : Nat → Nat → Int) (w : World) : Prop :=
  ∃ g m fb SA sc nx, PlanR w p g m fb B A n c SA ((tms l).length - 1) sc (tms l) F r' ∧ Left B n ((tms l).length - 1) l (tms l) r' F nx 4096 ∧ F 0 = some 0
theorem PlanPost4.at_ {B n : Nat} {A : Option Addr} {c : Nat} {l : List Jb} {w w' : World} {e : Ending} (hJ : JobsP l) (h : PlanPost4 B n A c l w e w') : ∃ p F r', e = .returned (.pointer (some ⟨p, 0, none⟩)) ∧ PlanAt B n A c l p F r' w' ∧ Gr w w' := by
  obtain ⟨p, g, m, fb, SA, sc, nx, F, r', e, h1, h2, h3, h4, h5, h6, h7, h8, h9, h10⟩ := h
  exact ⟨p, F, r', e, ⟨g, m, fb, SA, sc, nx, ⟨h1, h2, h3, h4, h5⟩, ⟨h8, h6, h7, h9, fun s => (lnA_bd hJ s).1, fun j => (jbA_bd hJ j).1⟩, h6.zero⟩, h10⟩

def PlanP (B : Int) (l : List Jb) (w : World) (e : Ending) (w' : World) : Prop :=
  (okT B l = false ∧ e = .returned (.tuple #[.agg #[.bool false, .slice none 0 0, .slice none 0 0, .slice none 0 0], .int .i64 2]) ∧ Gr w w') ∨
  (okT B l = true ∧ ∃ v, e = .returned (.tuple #[v, .int .i64 0]) ∧ AnsP B.toNat l w (.returned v) w')

set_option maxRecDepth 100000 in
set_option maxHeartbeats 8000000 in
theorem plan_any (B : Int) (A : Option Addr) (n c : Nat) (l : List Jb) (w : World) (hn : l.length = n) (hb : n ≤ 281474976710656) (hp : Tris w A l) :
    Calls Try.prog 7 #[.int .i64 B, .slice A n c] w (PlanP B l w) := by
  have HIT := Lib.hid (fun W (hW : Gr w W) r hr => isTask_any B A n c l W hn hb (hp.keep hW) r hr)
  cases hr : okT B l with
  | false =>
    have HE := Lib.hid hr
    clear hr
    go_enter Try.func7, Try.ntmps7
    go_wp2_with fail
    generalize hW1 : World.alloc w _ = w1
    have hg1 : Gr w w1 := by rw [← hW1]; exact (Gr.refl w).alloc _
    have hR1 : Blk w1 w.heap.size 28 #[.bool false, .slice none 0 0, .slice none 0 0, .slice none 0 0] := by rw [← hW1]; exact heap_alloc_new w _
    obtain ⟨R, hRe⟩ : ∃ R, w.heap.size = R := ⟨_, rfl⟩
    rw [hRe] at hR1 ⊢
    have hRle : w.heap.size ≤ R := by omega
    clear hW1 hRe
    refine (HIT.out _ hg1 _ HE.out).mono ?_
    rintro e w2 ⟨rfl, hg2⟩
    have HR3 := Lib.hid (hR1.keep hg2)
    have hg3 := hg1.trans hg2
    clear hR1 hg1 hg2
    have y0 := HR3.out.cell 0
    have y1 := HR3.out.cell 1
    have y2 := HR3.out.cell 2
    have y3 := HR3.out.cell 3
    have z0 := HR3.out.free 0
    have z1 := HR3.out.free 1
    have z2 := HR3.out.free 2
    have z3 := HR3.out.free 3
    go_wp2_with fail
    obtain ⟨-, hgf, u0, u1, u2, u3⟩ := ans_put HR3.out hg3 hRle (.bool false) (.slice none 0 0) (.slice none 0 0) (.slice none 0 0) _ rfl
    refine bodyPost_ret (v := .tuple #[.agg #[.bool false, .slice none 0 0, .slice none 0 0, .slice none 0 0], .int .i64 2]) ?_ ?_ ?_
    · simp [results, Try.results7, go_sem, u0, u1, u2, u3]
    · rfl
    · exact Or.inl ⟨HE.out, rfl, hgf⟩
  | true =>
    obtain ⟨⟨hB1, hB8⟩, hn32, hV⟩ := okT_v hr
    rw [hn] at hn32
    obtain ⟨N, rfl⟩ : ∃ N : Nat, B = N := ⟨B.toNat, by omega⟩
    have HE := Lib.hid hr
    have HV := Lib.hid hV
    have HNP := Lib.hid (fun W (hW : Gr w W) => newPlan_any N A n c l W (by omega) hn hn32 hV.p (hp.keep hW))
    have HAN := Lib.hid (fun (p g m fb : Nat) (SA : Option Addr) (sc : Nat) (F : Nat → Option Nat) (r' : Nat → Nat → Int) (nx : Nat → List Nat) W => answer_any (p := p) (g := g) (m := m) (fb := fb) (B := N) (A := A) (c := c) (SA := SA) (sc := sc) (F := F) (r' := r') (nx := nx) W hn hn32 (by omega) hV)
    clear hr hV hp hn
    go_enter Try.func7, Try.ntmps7
    go_wp2_with fail
    generalize hW1 : World.alloc w _ = w1
    have hg1 : Gr w w1 := by rw [← hW1]; exact (Gr.refl w).alloc _
    have hR1 : Blk w1 w.heap.size 28 #[.bool false, .slice none 0 0, .slice none 0 0, .slice none 0 0] := by rw [← hW1]; exact heap_alloc_new w _
    obtain ⟨R, hRe⟩ : ∃ R, w.heap.size = R := ⟨_, rfl⟩
    rw [hRe] at hR1 ⊢
    have hRle : w.heap.size ≤ R := by omega
    clear hW1 hRe
    refine (HIT.out _ hg1 _ HE.out).mono ?_
    rintro e w2 ⟨rfl, hg2⟩
    have HR2 := Lib.hid (hR1.keep hg2)
    have hg2' := hg1.trans hg2
    clear hR1 hg1 hg2
    go_wp2_with fail
    refine (HNP.out _ hg2').mono ?_
    intro e w3 hpost
    obtain ⟨p, F, r', rfl, ⟨g, m, fb, SA, sc, nx, hPR, hL, h0⟩, hg3⟩ := hpost.at_ HV.out.p
    have HA := Lib.hid (HAN.out p g m fb SA sc F r' nx w3 hPR hL h0)
    have HR3 := Lib.hid (HR2.out.keep hg3)
    have hg3' := hg2'.trans hg3
    clear hpost hPR hL h0 hg3 hg2' HR2 HAN HNP HIT
    go_wp2_with fail
    refine HA.out.mono ?_
    intro e w4 hans
    clear HA
    rcases hans with ⟨A3, k3, c3, sl, rfl, e1, e2, e3, ef, e4⟩ | ⟨JA, jc, SB, sd, J, S, rfl, e1, e2, e3, ef, e4⟩
    · have HQ := Lib.hid (And.intro e1 (And.intro e2 e3))
      have HEF := Lib.hid (ef.base hg3'.size)
      have HR4 := Lib.hid (HR3.out.keep e4)
      have hg4 := hg3'.trans e4
      clear e1 e2 e3 e4 ef HR3 hg3'
      have y0 := HR4.out.cell 0
      have y1 := HR4.out.cell 1
      have y2 := HR4.out.cell 2
      have y3 := HR4.out.cell 3
      have z0 := HR4.out.free 0
      have z1 := HR4.out.free 1
      have z2 := HR4.out.free 2
      have z3 := HR4.out.free 3
      go_wp2_with fail
      obtain ⟨hrd, hgf, u0, u1, u2, u3⟩ := ans_put HR4.out hg4 hRle (.bool true) (.slice A3 k3 c3) (.slice none 0 0) (.slice none 0 0) _ rfl
      refine bodyPost_ret (v := .tuple #[.agg #[.bool true, .slice A3 k3 c3, .slice none 0 0, .slice none 0 0], .int .i64 0]) ?_ ?_ ?_
      · simp [results, Try.results7, go_sem, u0, u1, u2, u3]
      · rfl
      · exact Or.inr ⟨HE.out, _, rfl, Or.inl ⟨_, _, _, _, rfl, HQ.out.1, hrd enc4_int HQ.out.2.1, HQ.out.2.2, (((HEF.out.put _ _).put _ _).put _ _).put _ _, hgf⟩⟩
    · have HQ := Lib.hid (And.intro e1 (And.intro e2 e3))
      have HEF := Lib.hid (And.intro (ef.1.base hg3'.size) (ef.2.base hg3'.size))
      have HR4 := Lib.hid (HR3.out.keep e4)
      have hg4 := hg3'.trans e4
      clear e1 e2 e3 e4 ef HR3 hg3'
      have y0 := HR4.out.cell 0
      have y1 := HR4.out.cell 1
      have y2 := HR4.out.cell 2
      have y3 := HR4.out.cell 3
      have z0 := HR4.out.free 0
      have z1 := HR4.out.free 1
      have z2 := HR4.out.free 2
      have z3 := HR4.out.free 3
      go_wp2_with fail
      obtain ⟨hrd, hgf, u0, u1, u2, u3⟩ := ans_put HR4.out hg4 hRle (.bool false) (.slice none 0 0) (.slice JA J.length jc) (.slice SB S.length sd) _ rfl
      refine bodyPost_ret (v := .tuple #[.agg #[.bool false, .slice none 0 0, .slice JA J.length jc, .slice SB S.length sd], .int .i64 0]) ?_ ?_ ?_
      · simp [results, Try.results7, go_sem, u0, u1, u2, u3]
      · rfl
      · exact Or.inr ⟨HE.out, _, rfl, Or.inr ⟨_, _, _, _, _, _, rfl, hrd enc1_int HQ.out.1, hrd enc2_int HQ.out.2.1, HQ.out.2.2, ⟨(((HEF.out.1.put _ _).put _ _).put _ _).put _ _, (((HEF.out.2.put _ _).put _ _).put _ _).put _ _⟩, hgf⟩⟩

end Go.Proofs.Ytfmojiaaoebodaa
