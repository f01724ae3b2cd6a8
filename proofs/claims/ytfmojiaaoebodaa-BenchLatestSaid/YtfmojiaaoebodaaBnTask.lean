/- Layer 4: a task. -/
import Derived.Test.YtfmojiaaoebodaaBnAnswer
import Derived.Shelf.SlicesQ.IndexFunc
namespace Go.Proofs.Ytfmojiaaoebodaa
open Go.RowKit
set_option linter.unusedSimpArgs false

/-- A job as the document allows it. -/
def okJ (x : Jb) : Bool := decide ((0 ≤ x.1 ∧ x.1 < x.2.1 ∧ x.2.1 ≤ 1048576) ∧ 1 ≤ x.2.2 ∧ x.2.2 ≤ 1048576)

set_option maxRecDepth 100000 in
set_option maxHeartbeats 2000000 in
theorem isJob_any (x : Jb) (w : World) (r : Bool) (hr : okJ x = r) : Calls Try.prog 32 #[.agg #[.int .i64 x.1, .int .i64 x.2.1, .int .i64 x.2.2]] w fun e w' => e = .returned (.bool r) ∧ Gr w w' := by
  subst hr
  obtain ⟨a, b, c⟩ := x
  dsimp only
  unfold okJ
  dsimp only
  by_cases h1 : 0 ≤ a
  · by_cases h2 : a < b
    · by_cases h3 : b ≤ 1048576
      · by_cases h4 : 1 ≤ c
        · by_cases h5 : c ≤ 1048576
          all_goals
            have hd : decide ((0 ≤ a ∧ a < b ∧ b ≤ 1048576) ∧ 1 ≤ c ∧ c ≤ 1048576) = decide (c ≤ 1048576) := by rw [decide_eq_decide]; omega
            rw [hd]
            clear hd
            go_enter Try.func32, Try.ntmps32
            go_wp2_with fail
            go_ret
            exact ⟨ret_bool (by simp [h5]), by (repeat (first | exact Gr.refl _ | assumption | (refine Gr.drew ?_) | (refine Gr.drewN ?_ _) | (refine Gr.alloc ?_ _) | (refine Gr.trans ?_ (by assumption))))⟩
        · have hd : decide ((0 ≤ a ∧ a < b ∧ b ≤ 1048576) ∧ 1 ≤ c ∧ c ≤ 1048576) = false := decide_eq_false (by omega)
          rw [hd]
          clear hd
          go_enter Try.func32, Try.ntmps32
          go_wp2_with fail
          go_ret
          exact ⟨rfl, by (repeat (first | exact Gr.refl _ | assumption | (refine Gr.drew ?_) | (refine Gr.drewN ?_ _) | (refine Gr.alloc ?_ _) | (refine Gr.trans ?_ (by assumption))))⟩
      · have hd : decide ((0 ≤ a ∧ a < b ∧ b ≤ 1048576) ∧ 1 ≤ c ∧ c ≤ 1048576) = false := decide_eq_false (by omega)
        rw [hd]
        clear hd
        go_enter Try.func32, Try.ntmps32
        go_wp2_with fail
        go_ret
        exact ⟨rfl, by (repeat (first | exact Gr.refl _ | assumption | (refine Gr.drew ?_) | (refine Gr.drewN ?_ _) | (refine Gr.alloc ?_ _) | (refine Gr.trans ?_ (by assumption))))⟩
    · have hd : decide ((0 ≤ a ∧ a < b ∧ b ≤ 1048576) ∧ 1 ≤ c ∧ c ≤ 1048576) = false := decide_eq_false (by omega)
      rw [hd]
      clear hd
      go_enter Try.func32, Try.ntmps32
      go_wp2_with fail
      go_ret
      exact ⟨rfl, by (repeat (first | exact Gr.refl _ | assumption | (refine Gr.drew ?_) | (refine Gr.drewN ?_ _) | (refine Gr.alloc ?_ _) | (refine Gr.trans ?_ (by assumption))))⟩
  · have hd : decide ((0 ≤ a ∧ a < b ∧ b ≤ 1048576) ∧ 1 ≤ c ∧ c ≤ 1048576) = false := decide_eq_false (by omega)
    rw [hd]
    clear hd
    go_enter Try.func32, Try.ntmps32
    go_wp2_with fail
    go_ret
    exact ⟨rfl, by (repeat (first | exact Gr.refl _ | assumption | (refine Gr.drew ?_) | (refine Gr.drewN ?_ _) | (refine Gr.alloc ?_ _) | (refine Gr.trans ?_ (by assumption))))⟩

set_option maxRecDepth 100000 in
theorem isTask1_any (x : Jb) (w : World) (r : Bool) (hr : (!okJ x) = r) : Calls Try.prog 31 #[.agg #[.int .i64 x.1, .int .i64 x.2.1, .int .i64 x.2.2]] w fun e w' => e = .returned (.bool r) ∧ Gr w w' := by
  obtain ⟨q, hq⟩ : ∃ q, okJ x = q := ⟨_, rfl⟩
  have HI := Lib.hid (fun W => isJob_any x W q hq)
  obtain rfl : r = !q := by rw [← hr, hq]
  clear hr hq
  obtain ⟨a, b, c⟩ := x
  dsimp only
  go_enter Try.func31, Try.ntmps31
  go_wp2_with fail
  refine (HI.out _).mono ?_
  rintro e w' ⟨rfl, hg⟩
  cases q
  all_goals
    go_wp2_with fail
    go_ret
    exact ⟨rfl, Gr.trans (by (repeat (first | exact Gr.refl _ | assumption | (refine Gr.drew ?_) | (refine Gr.drewN ?_ _) | (refine Gr.alloc ?_ _) | (refine Gr.trans ?_ (by assumption))))) hg⟩

theorem any_not_all (l : List Jb) : l.any (fun x => !okJ x) = !l.all okJ := by
  induction l with
  | nil => rfl
  | cons a l ih => simp [ih, Bool.not_and]

set_option maxRecDepth 100000 in
set_option maxHeartbeats 2000000 in
theorem hasBad_any (A : Option Addr) (n c : Nat) (l : List Jb) (w : World) (hn : l.length = n) (hl : n ≤ 32) (hp : Tris w A l) (r : Bool) (hr : l.all okJ = r) :
    Calls Try.prog 30 #[.slice A n c, .func (.func 31) #[] #[]] w fun e w' => e = .returned (.bool (!r)) ∧ Gr w w' := by
  rcases Nat.eq_zero_or_pos n with h0 | h1
  · subst h0
    have : l = [] := List.eq_nil_of_length_eq_zero hn
    subst this
    have hr' : r = true := hr.symm
    subst hr'
    clear hn hl hp hr
    have HI : Calls Try.prog 48 #[.slice A 0 c, .func (.func 31) #[] #[]] w fun e w' => e = .returned (.int .i64 (-1)) ∧ w' = w := by
      go_enter Try.func48, Try.ntmps48
      go_wp2_with fail
      go_loop [5, 8] (fun _ z => z = .int .i64 0) (fun _ _ => 0)
      case atStart => rfl
      case round =>
        subst hrel
        go_wp2_with fail
        try rw [Exit.noGoto_ret]
        go_ret
        exact ⟨rfl, rfl⟩
    have HI := Lib.hid HI
    go_enter Try.func30, Try.ntmps30
    go_wp2_with fail
    refine HI.out.mono ?_
    rintro e w1 ⟨rfl, rfl⟩
    go_wp2_with fail
    go_ret
    exact ⟨rfl, Gr.refl _⟩
  · obtain ⟨b, off, rfl, h0, -⟩ := Tris_at hp (i := 0) (by omega)
    have eg : ∀ args w, (callFunc 31 args).run Try.prog w = .ok (.enter 31 args) w := enters_of Try.func31 (by kernel_rfl) rfl
    have aE : ∀ w, (isAgg (Try.hasJobs_ren.t 23)).run Try.prog w = .ok true w := fun w => by kernel_rfl
    have zE : ∀ w, (Go.sizeOf (Try.hasJobs_ren.t 23)).run Try.prog w = .ok 3 w := fun w => by kernel_rfl
    have hpred : PredBelow Try.prog 31 #[] (fun x => .agg (enc3 x).toArray) (fun x => !okJ x) w := fun W x hb =>
      (isTask1_any x W _ rfl).mono fun e w' ⟨he, hg⟩ => ⟨he, Gr.trans hb hg⟩
    have h := AnyQ.slices_ContainsFunc Try.hasJobs 3 aE zE enc3 enc3_len (fun x => !okJ x) 31 #[] eg b off n c l w hpred (by omega) (by omega) (World.block_lt_of_cell? w _ h0) (fun j hj i v hv => by
      obtain ⟨b', off', e, hc⟩ := hp j l[j]! (by rw [getElem!_pos l j hj, List.getElem?_eq_getElem hj])
      cases e
      exact hc i v hv)
    change Calls Try.prog 30 _ _ _ at h
    rw [show l.take n = l from List.take_of_length_le (by omega), any_not_all, hr] at h
    exact h

/-- A task as the document allows it. -/
def okT (B : Int) (l : List Jb) : Bool := decide (1 ≤ B) && decide (B ≤ 8) && decide (l.length ≤ 32) && l.all okJ

set_option maxRecDepth 100000 in
set_option maxHeartbeats 2000000 in
theorem isTask_any (B : Int) (A : Option Addr) (n c : Nat) (l : List Jb) (w : World) (hn : l.length = n) (hb : n ≤ 281474976710656) (hp : Tris w A l) (r : Bool) (hr : okT B l = r) :
    Calls Try.prog 17 #[.int .i64 B, .slice A n c] w fun e w' => e = .returned (.bool r) ∧ Gr w w' := by
  by_cases h1 : B < 1
  · obtain rfl : r = false := by rw [← hr]; unfold okT; simp; omega
    clear hr hn hp
    go_enter Try.func17, Try.ntmps17
    go_wp2_with fail
    go_ret
    exact ⟨rfl, Gr.refl _⟩
  · by_cases h2 : 8 < B
    · obtain rfl : r = false := by rw [← hr]; unfold okT; simp; omega
      clear hr hn hp
      go_enter Try.func17, Try.ntmps17
      go_wp2_with fail
      go_ret
      exact ⟨rfl, Gr.refl _⟩
    · by_cases h3 : 32 < n
      · obtain rfl : r = false := by rw [← hr]; unfold okT; simp; omega
        have h3' : (32 : Int) < (n : Int) := by omega
        clear hr hn hp
        go_enter Try.func17, Try.ntmps17
        go_wp2_with fail
        go_ret
        exact ⟨rfl, Gr.refl _⟩
      · have hq : l.all okJ = r := by
          rw [← hr]; unfold okT
          rw [decide_eq_true (by omega : 1 ≤ B), decide_eq_true (by omega : B ≤ 8), decide_eq_true (by omega : l.length ≤ 32)]
          rfl
        have HC := Lib.hid (hasBad_any A n c l w hn (by omega) hp r hq)
        have h3' : ¬ (32 : Int) < (n : Int) := by omega
        clear hr hn hp hq
        go_enter Try.func17, Try.ntmps17
        go_wp2_with fail
        refine HC.out.mono ?_
        rintro e w1 ⟨rfl, hg⟩
        cases r
        all_goals
          go_wp2_with fail
          go_ret
          exact ⟨rfl, hg⟩

end Go.Proofs.Ytfmojiaaoebodaa
