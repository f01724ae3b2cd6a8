/- Layer 4: possible is to have a schedule.
Layer 4: Fewest. -/
import Derived.Test.YtfmojiaaoebodaaBnTop
namespace Go.Proofs.Ytfmojiaaoebodaa
open Go.RowKit
set_option linter.unusedSimpArgs false

/-- A job with a slot has a time at which it may be worked on. -/
theorem SchedP.jobsV {B : Int} {l : List Jb} {s : List Sl} (h : SchedP B l s) (hJ : JobsP l) (hd : ∀ j ∈ l, j.2.1 ≤ 1048576) : JobsV l := fun j hj => by
  have h1 := hJ j hj
  have h2 := hd j hj
  suffices j.1 < j.2.1 by omega
  obtain ⟨i, hi, rfl⟩ := List.mem_iff_getElem.1 hj
  have hjb : jbA l i = l[i] := by unfold jbA; rw [List.getD_eq_getElem?_getD, List.getElem?_eq_getElem hi]; rfl
  have hdone := h.done i hi
  rw [hjb] at hdone
  refine Classical.byContradiction fun hc => ?_
  have hz : doneS s i = 0 := by
    unfold doneS
    rw [lsum_congr (g := fun _ => 0) _ (fun x hx => by
      split
      · rename_i e
        obtain ⟨-, -, h3, h4, h5⟩ := h.ok x hx
        have e2 : x.1.toNat = i := by omega
        rw [e2, hjb] at h4 h5
        omega
      · rfl)]
    exact lsum_zero _
  omega

/-- All work flows just if there is a schedule. -/
theorem Left.iff {B : Nat} {l : List Jb} {r' : Nat → Nat → Int} {F : Nat → Option Nat} {nx : Nat → List Nat} {cnt : Nat} (h : Left B l.length ((tms l).length - 1) l (tms l) r' F nx cnt) (hJ : JobsP l) (hd : ∀ j ∈ l, j.2.1 ≤ 1048576) (hn : l.length ≤ 32) (hB : B ≤ 8) :
    (∀ v, F v ≠ none → v = 0) ↔ ∃ s, SchedP B l s := by
  constructor
  · intro h0
    exact (h.full h0).sched hn hB
  · rintro ⟨s, hs⟩ v hv
    refine Classical.byContradiction fun h0 => ?_
    exact dual (fun j hj => (hs.jobsV hJ hd j hj).1) hs (h.refuse (hs.jobsV hJ hd) hn hv h0)

set_option maxHeartbeats 1000000 in
/-- isPossible says whether there is a schedule. -/
theorem possible_any {B n : Nat} {A : Option Addr} {c : Nat} {l : List Jb} {p : Nat} {F : Nat → Option Nat} {r' : Nat → Nat → Int} (w : World) (h : PlanAt B n A c l p F r' w) (hn : l.length = n) (hn32 : n ≤ 32) (hB : B ≤ 8) (hJ : JobsP l) (hd : ∀ j ∈ l, j.2.1 ≤ 1048576) :
    Calls Try.prog 26 #[.pointer (some ⟨p, 0, none⟩)] w fun e w' => ∃ b : Bool, e = .returned (.bool b) ∧ (b = true ↔ ∃ s, SchedP B l s) ∧ w' = w := by
  obtain ⟨g, m, fb, SA, sc, nx, hPR, hL, h0⟩ := h
  subst hn
  refine (isPossible_any w hPR h0).mono ?_
  rintro e w' ⟨b, he, hb, hw⟩
  exact ⟨b, he, hb.trans (hL.iff hJ hd hn32 hB), hw⟩

end Go.Proofs.Ytfmojiaaoebodaa

namespace Go.Proofs.Ytfmojiaaoebodaa
open Go.RowKit
set_option linter.unusedSimpArgs false

/-- What Fewest answers. -/
def FewP (l : List Jb) (w : World) (e : Ending) (w' : World) : Prop :=
  (okT 1 l = false ∧ e = .returned (.tuple #[.int .i64 0, .int .i64 2]) ∧ Gr w w') ∨
  (okT 1 l = true ∧ ∃ r : Nat, e = .returned (.tuple #[.int .i64 (r : Int), .int .i64 0]) ∧ Gr w w' ∧ r ≤ 8 ∧ (r = 0 → ∀ B : Nat, 1 ≤ B → B ≤ 8 → ¬ ∃ s, SchedP B l s) ∧ (1 ≤ r → (∃ s, SchedP r l s) ∧ ∀ B : Nat, 1 ≤ B → B < r → ¬ ∃ s, SchedP B l s))

theorem JobsV.due {l : List Jb} (h : JobsV l) : ∀ j ∈ l, j.2.1 ≤ 1048576 := fun j hj => (h j hj).1.2.2

set_option maxRecDepth 100000 in
set_option maxHeartbeats 8000000 in
theorem fewest_any (A : Option Addr) (n c : Nat) (l : List Jb) (w : World) (hn : l.length = n) (hb : n ≤ 281474976710656) (hp : Tris w A l) :
    Calls Try.prog 13 #[.slice A n c] w (FewP l w) := by
  have HIT := Lib.hid (fun r hr => isTask_any 1 A n c l w hn hb hp r hr)
  cases hr : okT 1 l with
  | false =>
    have HE := Lib.hid hr
    clear hr
    go_enter Try.func13, Try.ntmps13
    go_wp2_with fail
    refine (HIT.out _ HE.out).mono ?_
    rintro e w2 ⟨rfl, hg2⟩
    go_wp2_with fail
    refine bodyPost_ret (v := .tuple #[.int .i64 0, .int .i64 2]) ?_ ?_ ?_
    · simp [results, Try.results13, go_sem]
    · rfl
    · exact Or.inl ⟨HE.out, rfl, hg2⟩
  | true =>
    obtain ⟨-, hn32, hV⟩ := okT_v hr
    rw [hn] at hn32
    have HE := Lib.hid hr
    have HNP := Lib.hid (fun (B : Nat) W (hB : 1 ≤ B ∧ B ≤ 8) (hW : Gr w W) => (newPlan_any B A n c l W hB hn hn32 hV.p (hp.keep hW)).mono (fun e w' h => h.at_ hV.p))
    have HPO := Lib.hid (fun (B p : Nat) (F : Nat → Option Nat) (r' : Nat → Nat → Int) W (hB : B ≤ 8) (h : PlanAt B n A c l p F r' W) => possible_any W h hn hn32 hB hV.p hV.due)
    clear hr hV hp hn
    go_enter Try.func13, Try.ntmps13
    go_wp2_with fail
    refine (HIT.out _ HE.out).mono ?_
    rintro e w2 ⟨rfl, hg2⟩
    go_wp2_with fail
    go_loopw [4] (fun z wr => ∃ k : Nat, 1 ≤ k ∧ k ≤ 9 ∧ z = .int .i64 (k : Int) ∧ Hid (∀ B : Nat, 1 ≤ B → B < k → ¬ ∃ s, SchedP B l s) ∧ Gr w wr) (fun z _ => 9 - (intOf z).toNat)
    case atStart => exact ⟨1, Nat.le_refl _, by omega, rfl, Lib.hid (fun B h1 h2 => by omega), hg2⟩
    case round =>
      clear hg2
      obtain ⟨k, hk1, hk9, rfl, hno, hg⟩ := hrel
      by_cases hk : k ≤ 8
      · have hki : (k : Int) ≤ 8 := by omega
        have HNK := Lib.hid (HNP.out k _ ⟨hk1, hk⟩ hg)
        go_wp2_with fail
        refine HNK.out.mono ?_
        rintro e w3 ⟨p, F, r', rfl, hat, hg3⟩
        have HPK := Lib.hid (HPO.out k p F r' w3 hk hat)
        have hg4 := hg.trans hg3
        clear hat hg3 HNK
        go_wp2_with fail
        refine HPK.out.mono ?_
        rintro e w4 ⟨b, rfl, hb, rfl⟩
        have HB := Lib.hid hb
        clear hb HPK
        cases b with
        | true =>
          have HY : Hid (∃ s, SchedP k l s) := Lib.hid (HB.out.1 rfl)
          clear HB
          go_wp2_with fail
          try rw [Exit.noGoto_ret]
          refine bodyPost_ret (v := .tuple #[.int .i64 (k : Int), .int .i64 0]) ?_ ?_ ?_
          · simp [results, Try.results13, go_sem]
          · rfl
          · exact Or.inr ⟨HE.out, k, rfl, hg4, hk, fun h => by omega, fun _ => ⟨HY.out, hno.out⟩⟩
        | false =>
          have HNO : Hid (∀ B : Nat, 1 ≤ B → B < k + 1 → ¬ ∃ s, SchedP B l s) := Lib.hid (fun B h1 h2 => by
            by_cases e : B = k
            · subst e; intro hs; have := HB.out.2 hs; cases this
            · exact hno.out B h1 (by omega))
          go_wp2_with fail
          go_roundw
          case rel => exact ⟨k + 1, by omega, by omega, by go_num, HNO, hg4⟩
          case measure => simp [intOf]; omega
      · obtain rfl : k = 9 := by omega
        go_wp2_with fail
        try rw [Exit.noGoto_ret]
        refine bodyPost_ret (v := .tuple #[.int .i64 0, .int .i64 0]) ?_ ?_ ?_
        · simp [results, Try.results13, go_sem]
        · rfl
        exact Or.inr ⟨HE.out, 0, rfl, hg, by omega, fun _ B h1 h2 => hno.out B h1 (by omega), fun h => by omega⟩

end Go.Proofs.Ytfmojiaaoebodaa
