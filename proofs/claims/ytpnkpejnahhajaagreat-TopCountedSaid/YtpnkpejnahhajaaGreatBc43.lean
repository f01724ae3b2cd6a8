/- Layer 4: answer.
Layer 4: a task.
Layer 4: Plan.
Through the layers: the probe of stage 4. -/
import Derived.Test.YtpnkpejnahhajaaGreatBc41
import Derived.Test.YtpnkpejnahhajaaGreatBc42
import Derived.Shelf.SlicesQ.IndexFunc
import Derived.Test.YtpnkpejnahhajaaGreatBc37
import Derived.Test.YtpnkpejnahhajaaGreatBc23
import Derived.Test.YtpnkpejnahhajaaGreatBc6
namespace Go.Proofs.YtpnkpejnahhajaaGreat
open Go.RowKit
set_option linter.unusedSimpArgs false

theorem Rd.ans {α : Type} {enc : α → List Value} {k : Nat} {w w' : World} {A : Option Addr} {xs : List α} {R : Nat} {t : TypeId} {cs : Array Value} (hi : ∀ x v, v ∈ enc x → ∃ n : Int, v = Value.int .i64 n) (h : Rd k enc w A xs) (hB : Blk w R t cs) (hc : ∀ (i : Nat) (n : Int), cs[i]? ≠ some (Value.int .i64 n)) (hg : Gb R w w') : Rd k enc w' A xs := fun i x hx => by
  obtain ⟨b, off, e, h⟩ := h i x hx
  refine ⟨b, off, e, fun j v hv => ?_⟩
  obtain ⟨n, rfl⟩ := hi x v (List.mem_of_getElem? hv)
  refine gb_cell hg (h j _ hv) (fun eb => ?_)
  subst eb
  exact hc _ n ((hB.cell _).symm.trans (h j _ hv))
theorem enc4_int (x : Sl) (v : Value) (h : v ∈ enc4B x) : ∃ n : Int, v = Value.int .i64 n := by
  simp [enc4B] at h; rcases h with rfl | rfl | rfl | rfl <;> exact ⟨_, rfl⟩
theorem enc2_int (x : Int × Int) (v : Value) (h : v ∈ enc2 x) : ∃ n : Int, v = Value.int .i64 n := by
  simp [enc2] at h; rcases h with rfl | rfl <;> exact ⟨_, rfl⟩
theorem enc1_int (x : Int) (v : Value) (h : v ∈ enc1 x) : ∃ n : Int, v = Value.int .i64 n := by
  simp [enc1] at h; exact ⟨_, h⟩
theorem ans_noint (i : Nat) (n : Int) : (#[Value.bool false, .slice none 0 0, .slice none 0 0, .slice none 0 0] : Array Value)[i]? ≠ some (.int .i64 n) := by
  match i with
  | 0 => simp
  | 1 => simp
  | 2 => simp
  | 3 => simp
  | _ + 4 => simp
/-- The answer is stored. -/
theorem ans_put {w0 w : World} {R : Nat} (h : Blk w R 29 #[.bool false, .slice none 0 0, .slice none 0 0, .slice none 0 0]) (hg : Gr w0 w) (hR : w0.heap.size ≤ R) (v0 v1 v2 v3 : Value) :
    ∀ w', ((((w.setCell ⟨R, 0, none⟩ v0).setCell ⟨R, 1, none⟩ v1).setCell ⟨R, 2, none⟩ v2).setCell ⟨R, 3, none⟩ v3) = w' →
      (∀ {α : Type} {enc : α → List Value} {k : Nat} {A : Option Addr} {xs : List α}, (∀ x v, v ∈ enc x → ∃ n : Int, v = Value.int .i64 n) → Rd k enc w A xs → Rd k enc w' A xs) ∧ Gr w0 w' ∧ w'.cell? ⟨R, 0, none⟩ = some v0 ∧ w'.cell? ⟨R, 1, none⟩ = some v1 ∧ w'.cell? ⟨R, 2, none⟩ = some v2 ∧ w'.cell? ⟨R, 3, none⟩ = some v3 := by
  have hp := (((h.put 0 v0).put 1 v1).put 2 v2).put 3 v3
  have hb := ((((Gb.of (Gr.refl w) R).put 0 v0).put 1 v1).put 2 v2).put 3 v3
  rintro w' rfl
  have q0 := hp.cell 0
  have q1 := hp.cell 1
  have q2 := hp.cell 2
  have q3 := hp.cell 3
  simp at q0 q1 q2 q3
  exact ⟨fun hi hr => hr.ans hi h ans_noint hb, hb.gr hg hR, q0, q1, q2, q3⟩

/-- What a plan answers: a schedule, or a refusal. -/
def AnsP (B : Nat) (l : List Jb) (w : World) (e : Ending) (w' : World) : Prop :=
  (∃ A k c sl, e = .returned (.agg #[.bool true, .slice A k c, .slice none 0 0, .slice none 0 0]) ∧ sl.length = k ∧ Rd 4 enc4B w' A sl ∧ SchedP B l sl ∧ Fresh w.heap.size w' A k c ∧ Gr w w') ∨
  (∃ JA jc SA sc J S, e = .returned (.agg #[.bool false, .slice none 0 0, .slice JA (List.length J) jc, .slice SA (List.length S) sc]) ∧ Ints w' JA J ∧ Pts w' SA S ∧ RefuseP B l J S ∧ (Fresh w.heap.size w' JA (List.length J) jc ∧ Fresh w.heap.size w' SA (List.length S) sc) ∧ Gr w w')

set_option maxRecDepth 100000 in
set_option maxHeartbeats 8000000 in
theorem answer_any {p g m fb B : Nat} {A : Option Addr} {n c : Nat} {SA : Option Addr} {sc : Nat} {F : Nat → Option Nat} {r' : Nat → Nat → Int} {nx : Nat → List Nat} {l : List Jb} (w : World) (hn : l.length = n) (hn32 : n ≤ 32) (hB : B ≤ 8) (hV : JobsV l)
    (h : PlanR w p g m fb B A n c SA ((tms l).length - 1) sc (tms l) F r') (hL : Left B n ((tms l).length - 1) l (tms l) r' F nx 4096) (h0 : F 0 = some 0) :
    Calls Tryz.prog 19 #[.pointer (some ⟨p, 0, none⟩)] w (AnsP B l w) := by
  have HPR := Lib.hid h
  have HIP := Lib.hid (fun W (hW : Gr w W) => isPossible_any W (h.keep hW) h0)
  have HT : Hid ((∀ v, F v ≠ none → v = 0) → FullF (gridT (tms l) (tms_asc l)) B l (flF r' n)) := Lib.hid (by subst hn; exact fun hv => hL.full hv)
  have HR : Hid (¬ (∀ v, F v ≠ none → v = 0) → RefuseP B l (jobsR F n) (spansR F n (tms l) ((tms l).length - 1))) := Lib.hid (by
    subst hn
    intro hv
    obtain ⟨v, hv⟩ := Classical.not_forall.1 hv
    obtain ⟨hv, hv0⟩ := Classical.not_imp.1 hv
    exact hL.refuse hV hn32 hv hv0)
  have HFE := Lib.hid (fun j s => hL.fl_eq j s)
  have HV := Lib.hid hV
  have HN := Lib.hid hn
  have hK64 : (tms l).length - 1 ≤ 63 := by have := timesL_len (tmL l); rw [tmL_len, hn] at this; change (tms l).length ≤ _ at this; omega
  clear h hL h0 hV hn
  go_enter Tryz.func19, Tryz.ntmps19
  go_wp2_with fail
  generalize hW1 : World.alloc w _ = w1
  have hg1 : Gr w w1 := by rw [← hW1]; exact (Gr.refl w).alloc _
  have hR1 : Blk w1 w.heap.size 29 #[.bool false, .slice none 0 0, .slice none 0 0, .slice none 0 0] := by rw [← hW1]; exact heap_alloc_new w _
  obtain ⟨R, hRe⟩ : ∃ R, w.heap.size = R := ⟨_, rfl⟩
  rw [hRe] at hR1 ⊢
  have hRle : w.heap.size ≤ R := by omega
  have HR1 := Lib.hid hR1
  clear hW1 hR1 hRe
  refine (HIP.out _ hg1).mono ?_
  rintro e w2 ⟨b, rfl, hb, rfl⟩
  cases b with
  | true =>
    have HS := Lib.hid (slots_any w2 rfl HN.out hn32 hB HV.out.p (HPR.out.keep hg1) (HT.out (hb.1 rfl)) HFE.out)
    clear hb HIP
    go_wp2_with fail
    refine HS.out.mono ?_
    rintro e w3 ⟨A3, k3, c3, sl, rfl, e1, e2, e3, ef, e4⟩
    have HE := Lib.hid (And.intro e1 (And.intro e2 e3))
    have HEF := Lib.hid (ef.base hg1.size)
    have HR3 := Lib.hid (HR1.out.keep e4)
    have hg3 := hg1.trans e4
    clear e1 e2 e3 e4 ef HS
    have y0 := HR3.out.cell 0
    have y1 := HR3.out.cell 1
    have y2 := HR3.out.cell 2
    have y3 := HR3.out.cell 3
    have z0 := HR3.out.free 0
    have z1 := HR3.out.free 1
    have z2 := HR3.out.free 2
    have z3 := HR3.out.free 3
    go_wp2_with fail
    obtain ⟨hrd, hgf, u0, u1, u2, u3⟩ := ans_put HR3.out hg3 hRle (.bool true) (.slice A3 k3 c3) (.slice none 0 0) (.slice none 0 0) _ rfl
    refine bodyPost_ret (v := .agg #[.bool true, .slice A3 k3 c3, .slice none 0 0, .slice none 0 0]) ?_ ?_ ?_
    · simp [results, Tryz.results19, go_sem, u0, u1, u2, u3]
    · rfl
    · exact Or.inl ⟨_, _, _, _, rfl, HE.out.1, hrd enc4_int HE.out.2.1, HE.out.2.2, (((HEF.out.put _ _).put _ _).put _ _).put _ _, hgf⟩
  | false =>
    have HS := Lib.hid (refusal_any w2 rfl hK64 hn32 (HPR.out.keep hg1))
    have HRR := Lib.hid (HR.out (fun hv => by have := hb.2 hv; cases this))
    clear hb HIP
    go_wp2_with fail
    refine HS.out.mono ?_
    rintro e w3 ⟨A3, c3, A4, c4, rfl, e1, e2, ef, e4⟩
    have HE := Lib.hid (And.intro e1 e2)
    have HEF := Lib.hid (And.intro (ef.1.base hg1.size) (ef.2.base hg1.size))
    have HR3 := Lib.hid (HR1.out.keep e4)
    have hg3 := hg1.trans e4
    clear e1 e2 e4 ef HS
    have y0 := HR3.out.cell 0
    have y1 := HR3.out.cell 1
    have y2 := HR3.out.cell 2
    have y3 := HR3.out.cell 3
    have z0 := HR3.out.free 0
    have z1 := HR3.out.free 1
    have z2 := HR3.out.free 2
    have z3 := HR3.out.free 3
    go_wp2_with fail
    obtain ⟨hrd, hgf, u0, u1, u2, u3⟩ := ans_put HR3.out hg3 hRle (.bool false) (.slice none 0 0) (.slice A3 (jobsR F n).length c3) (.slice A4 (spansR F n (tms l) ((tms l).length - 1)).length c4) _ rfl
    refine bodyPost_ret (v := .agg #[.bool false, .slice none 0 0, .slice A3 (jobsR F n).length c3, .slice A4 (spansR F n (tms l) ((tms l).length - 1)).length c4]) ?_ ?_ ?_
    · simp [results, Tryz.results19, go_sem, u0, u1, u2, u3]
    · rfl
    · exact Or.inr ⟨_, _, _, _, _, _, rfl, hrd enc1_int HE.out.1, hrd enc2_int HE.out.2, HRR.out, ⟨(((HEF.out.1.put _ _).put _ _).put _ _).put _ _, (((HEF.out.2.put _ _).put _ _).put _ _).put _ _⟩, hgf⟩

end Go.Proofs.YtpnkpejnahhajaaGreat

namespace Go.Proofs.YtpnkpejnahhajaaGreat
open Go.RowKit
set_option linter.unusedSimpArgs false

/-- A job as the document allows it. -/
def okJ (x : Jb) : Bool := decide ((0 ≤ x.1 ∧ x.1 < x.2.1 ∧ x.2.1 ≤ 1048576) ∧ 1 ≤ x.2.2 ∧ x.2.2 ≤ 1048576)

set_option maxRecDepth 100000 in
set_option maxHeartbeats 2000000 in
theorem isJob_any (x : Jb) (w : World) (r : Bool) (hr : okJ x = r) : Calls Tryz.prog 36 #[.agg #[.int .i64 x.1, .int .i64 x.2.1, .int .i64 x.2.2]] w fun e w' => e = .returned (.bool r) ∧ Gr w w' := by
  subst hr
  obtain ⟨a, b, c⟩ := x
  dsimp only
  unfold okJ
  dsimp only
  by_cases h1 : 0 ≤ a
  · by_cases h2 : a < b
    · by_cases h3 : b ≤ 1048576
      · by_cases h4 : 1 ≤ c
        · by_cases h5 : c ≤ 1048576
          all_goals
            have hd : decide ((0 ≤ a ∧ a < b ∧ b ≤ 1048576) ∧ 1 ≤ c ∧ c ≤ 1048576) = decide (c ≤ 1048576) := by rw [decide_eq_decide]; omega
            rw [hd]
            clear hd
            go_enter Tryz.func36, Tryz.ntmps36
            go_wp2_with fail
            go_ret
            exact ⟨ret_bool (by simp [h5]), by (repeat (first | exact Gr.refl _ | assumption | (refine Gr.drew ?_) | (refine Gr.drewN ?_ _) | (refine Gr.alloc ?_ _) | (refine Gr.trans ?_ (by assumption))))⟩
        · have hd : decide ((0 ≤ a ∧ a < b ∧ b ≤ 1048576) ∧ 1 ≤ c ∧ c ≤ 1048576) = false := decide_eq_false (by omega)
          rw [hd]
          clear hd
          go_enter Tryz.func36, Tryz.ntmps36
          go_wp2_with fail
          go_ret
          exact ⟨rfl, by (repeat (first | exact Gr.refl _ | assumption | (refine Gr.drew ?_) | (refine Gr.drewN ?_ _) | (refine Gr.alloc ?_ _) | (refine Gr.trans ?_ (by assumption))))⟩
      · have hd : decide ((0 ≤ a ∧ a < b ∧ b ≤ 1048576) ∧ 1 ≤ c ∧ c ≤ 1048576) = false := decide_eq_false (by omega)
        rw [hd]
        clear hd
        go_enter Tryz.func36, Tryz.ntmps36
        go_wp2_with fail
        go_ret
        exact ⟨rfl, by (repeat (first | exact Gr.refl _ | assumption | (refine Gr.drew ?_) | (refine Gr.drewN ?_ _) | (refine Gr.alloc ?_ _) | (refine Gr.trans ?_ (by assumption))))⟩
    · have hd : decide ((0 ≤ a ∧ a < b ∧ b ≤ 1048576) ∧ 1 ≤ c ∧ c ≤ 1048576) = false := decide_eq_false (by omega)
      rw [hd]
      clear hd
      go_enter Tryz.func36, Tryz.ntmps36
      go_wp2_with fail
      go_ret
      exact ⟨rfl, by (repeat (first | exact Gr.refl _ | assumption | (refine Gr.drew ?_) | (refine Gr.drewN ?_ _) | (refine Gr.alloc ?_ _) | (refine Gr.trans ?_ (by assumption))))⟩
  · have hd : decide ((0 ≤ a ∧ a < b ∧ b ≤ 1048576) ∧ 1 ≤ c ∧ c ≤ 1048576) = false := decide_eq_false (by omega)
    rw [hd]
    clear hd
    go_enter Tryz.func36, Tryz.ntmps36
    go_wp2_with fail
    go_ret
    exact ⟨rfl, by (repeat (first | exact Gr.refl _ | assumption | (refine Gr.drew ?_) | (refine Gr.drewN ?_ _) | (refine Gr.alloc ?_ _) | (refine Gr.trans ?_ (by assumption))))⟩

set_option maxRecDepth 100000 in
theorem isTask1_any (x : Jb) (w : World) (r : Bool) (hr : (!okJ x) = r) : Calls Tryz.prog 35 #[.agg #[.int .i64 x.1, .int .i64 x.2.1, .int .i64 x.2.2]] w fun e w' => e = .returned (.bool r) ∧ Gr w w' := by
  obtain ⟨q, hq⟩ : ∃ q, okJ x = q := ⟨_, rfl⟩
  have HI := Lib.hid (fun W => isJob_any x W q hq)
  obtain rfl : r = !q := by rw [← hr, hq]
  clear hr hq
  obtain ⟨a, b, c⟩ := x
  dsimp only
  go_enter Tryz.func35, Tryz.ntmps35
  go_wp2_with fail
  refine (HI.out _).mono ?_
  rintro e w' ⟨rfl, hg⟩
  cases q
  all_goals
    go_wp2_with fail
    go_ret
    exact ⟨rfl, Gr.trans (by (repeat (first | exact Gr.refl _ | assumption | (refine Gr.drew ?_) | (refine Gr.drewN ?_ _) | (refine Gr.alloc ?_ _) | (refine Gr.trans ?_ (by assumption))))) hg⟩

theorem any_not_all (l : List Jb) : l.any (fun x => !okJ x) = !l.all okJ := by
  induction l with
  | nil => rfl
  | cons a l ih => simp [ih, Bool.not_and]

set_option maxRecDepth 100000 in
set_option maxHeartbeats 2000000 in
theorem hasBad_any (A : Option Addr) (n c : Nat) (l : List Jb) (w : World) (hn : l.length = n) (hl : n ≤ 32) (hp : Tris w A l) (r : Bool) (hr : l.all okJ = r) :
    Calls Tryz.prog 34 #[.slice A n c, .func (.func 35) #[] #[]] w fun e w' => e = .returned (.bool (!r)) ∧ Gr w w' := by
  rcases Nat.eq_zero_or_pos n with h0 | h1
  · subst h0
    have : l = [] := List.eq_nil_of_length_eq_zero hn
    subst this
    have hr' : r = true := hr.symm
    subst hr'
    clear hn hl hp hr
    have HI : Calls Tryz.prog 68 #[.slice A 0 c, .func (.func 35) #[] #[]] w fun e w' => e = .returned (.int .i64 (-1)) ∧ w' = w := by
      go_enter Tryz.func68, Tryz.ntmps68
      go_wp2_with fail
      go_loop [5, 8] (fun _ z => z = .int .i64 0) (fun _ _ => 0)
      case atStart => rfl
      case round =>
        subst hrel
        go_wp2_with fail
        try rw [Exit.noGoto_ret]
        go_ret
        exact ⟨rfl, rfl⟩
    have HI := Lib.hid HI
    go_enter Tryz.func34, Tryz.ntmps34
    go_wp2_with fail
    refine HI.out.mono ?_
    rintro e w1 ⟨rfl, rfl⟩
    go_wp2_with fail
    go_ret
    exact ⟨rfl, Gr.refl _⟩
  · obtain ⟨b, off, rfl, h0, -⟩ := Tris_at hp (i := 0) (by omega)
    have eg : ∀ args w, (callFunc 35 args).run Tryz.prog w = .ok (.enter 35 args) w := enters_of Tryz.func35 (by kernel_rfl) rfl
    have aE : ∀ w, (isAgg (Try.hasJobs_ren.t 23)).run Tryz.prog w = .ok true w := fun w => by kernel_rfl
    have zE : ∀ w, (Go.sizeOf (Try.hasJobs_ren.t 23)).run Tryz.prog w = .ok 3 w := fun w => by kernel_rfl
    have hpred : PredBelow Tryz.prog 35 #[] (fun x => .agg (enc3 x).toArray) (fun x => !okJ x) w := fun W x hb =>
      (isTask1_any x W _ rfl).mono fun e w' ⟨he, hg⟩ => ⟨he, Gr.trans hb hg⟩
    have h := AnyQ.slices_ContainsFunc Try.hasJobs 3 aE zE enc3 enc3_len (fun x => !okJ x) 35 #[] eg b off n c l w hpred (by omega) (by omega) (World.block_lt_of_cell? w _ h0) (fun j hj i v hv => by
      obtain ⟨b', off', e, hc⟩ := hp j l[j]! (by rw [getElem!_pos l j hj, List.getElem?_eq_getElem hj])
      cases e
      exact hc i v hv)
    change Calls Tryz.prog 34 _ _ _ at h
    rw [show l.take n = l from List.take_of_length_le (by omega), any_not_all, hr] at h
    exact h

/-- A task as the document allows it. -/
def okT (B : Int) (l : List Jb) : Bool := decide (1 ≤ B) && decide (B ≤ 8) && decide (l.length ≤ 32) && l.all okJ

set_option maxRecDepth 100000 in
set_option maxHeartbeats 2000000 in
theorem isTaskB_any (B : Int) (A : Option Addr) (n c : Nat) (l : List Jb) (w : World) (hn : l.length = n) (hb : n ≤ 281474976710656) (hp : Tris w A l) (r : Bool) (hr : okT B l = r) :
    Calls Tryz.prog 17 #[.int .i64 B, .slice A n c] w fun e w' => e = .returned (.bool r) ∧ Gr w w' := by
  by_cases h1 : B < 1
  · obtain rfl : r = false := by rw [← hr]; unfold okT; simp; omega
    clear hr hn hp
    go_enter Tryz.func17, Tryz.ntmps17
    go_wp2_with fail
    go_ret
    exact ⟨rfl, Gr.refl _⟩
  · by_cases h2 : 8 < B
    · obtain rfl : r = false := by rw [← hr]; unfold okT; simp; omega
      clear hr hn hp
      go_enter Tryz.func17, Tryz.ntmps17
      go_wp2_with fail
      go_ret
      exact ⟨rfl, Gr.refl _⟩
    · by_cases h3 : 32 < n
      · obtain rfl : r = false := by rw [← hr]; unfold okT; simp; omega
        have h3' : (32 : Int) < (n : Int) := by omega
        clear hr hn hp
        go_enter Tryz.func17, Tryz.ntmps17
        go_wp2_with fail
        go_ret
        exact ⟨rfl, Gr.refl _⟩
      · have hq : l.all okJ = r := by
          rw [← hr]; unfold okT
          rw [decide_eq_true (by omega : 1 ≤ B), decide_eq_true (by omega : B ≤ 8), decide_eq_true (by omega : l.length ≤ 32)]
          rfl
        have HC := Lib.hid (hasBad_any A n c l w hn (by omega) hp r hq)
        have h3' : ¬ (32 : Int) < (n : Int) := by omega
        clear hr hn hp hq
        go_enter Tryz.func17, Tryz.ntmps17
        go_wp2_with fail
        refine HC.out.mono ?_
        rintro e w1 ⟨rfl, hg⟩
        cases r
        all_goals
          go_wp2_with fail
          go_ret
          exact ⟨rfl, hg⟩

end Go.Proofs.YtpnkpejnahhajaaGreat

namespace Go.Proofs.YtpnkpejnahhajaaGreat
open Go.RowKit
set_option linter.unusedSimpArgs false

theorem okT_v {B : Int} {l : List Jb} (h : okT B l = true) : (1 ≤ B ∧ B ≤ 8) ∧ l.length ≤ 32 ∧ JobsV l := by
  unfold okT at h
  simp only [Bool.and_eq_true, decide_eq_true_eq, List.all_eq_true] at h
  obtain ⟨⟨⟨h1, h2⟩, h3⟩, h4⟩ := h
  refine ⟨⟨h1, h2⟩, h3, fun j hj => ?_⟩
  have := h4 j hj
  simpa [okJ] using this

/-- A plan is there, and what it says of the flow. -/
def PlanAt (B n : Nat) (A : Option Addr) (c : Nat) (l : List Jb) (p : Nat) (F : Nat → Option Nat) (r' : Nat → Nat → Int) (w : World) : Prop :=
  ∃ g m fb SA sc nx, PlanR w p g m fb B A n c SA ((tms l).length - 1) sc (tms l) F r' ∧ Left B n ((tms l).length - 1) l (tms l) r' F nx 4096 ∧ F 0 = some 0
theorem PlanPost4.at_ {B n : Nat} {A : Option Addr} {c : Nat} {l : List Jb} {w w' : World} {e : Ending} (hJ : JobsP l) (h : PlanPost4 B n A c l w e w') : ∃ p F r', e = .returned (.pointer (some ⟨p, 0, none⟩)) ∧ PlanAt B n A c l p F r' w' ∧ Gr w w' := by
  obtain ⟨p, g, m, fb, SA, sc, nx, F, r', e, h1, h2, h3, h4, h5, h6, h7, h8, h9, h10⟩ := h
  exact ⟨p, F, r', e, ⟨g, m, fb, SA, sc, nx, ⟨h1, h2, h3, h4, h5⟩, ⟨h8, h6, h7, h9, fun s => (lnA_bd hJ s).1, fun j => (jbA_bd hJ j).1⟩, h6.zero⟩, h10⟩

def PlanP (B : Int) (l : List Jb) (w : World) (e : Ending) (w' : World) : Prop :=
  (okT B l = false ∧ e = .returned (.tuple #[.agg #[.bool false, .slice none 0 0, .slice none 0 0, .slice none 0 0], .int .i64 2]) ∧ Gr w w') ∨
  (okT B l = true ∧ ∃ v, e = .returned (.tuple #[v, .int .i64 0]) ∧ AnsP B.toNat l w (.returned v) w')

set_option maxRecDepth 100000 in
set_option maxHeartbeats 8000000 in
theorem planB_any (B : Int) (A : Option Addr) (n c : Nat) (l : List Jb) (w : World) (hn : l.length = n) (hb : n ≤ 281474976710656) (hp : Tris w A l) :
    Calls Tryz.prog 8 #[.int .i64 B, .slice A n c] w (PlanP B l w) := by
  have HIT := Lib.hid (fun W (hW : Gr w W) r hr => isTaskB_any B A n c l W hn hb (hp.keep hW) r hr)
  cases hr : okT B l with
  | false =>
    have HE := Lib.hid hr
    clear hr
    go_enter Tryz.func8, Tryz.ntmps8
    go_wp2_with fail
    generalize hW1 : World.alloc w _ = w1
    have hg1 : Gr w w1 := by rw [← hW1]; exact (Gr.refl w).alloc _
    have hR1 : Blk w1 w.heap.size 29 #[.bool false, .slice none 0 0, .slice none 0 0, .slice none 0 0] := by rw [← hW1]; exact heap_alloc_new w _
    obtain ⟨R, hRe⟩ : ∃ R, w.heap.size = R := ⟨_, rfl⟩
    rw [hRe] at hR1 ⊢
    have hRle : w.heap.size ≤ R := by omega
    clear hW1 hRe
    refine (HIT.out _ hg1 _ HE.out).mono ?_
    rintro e w2 ⟨rfl, hg2⟩
    have HR3 := Lib.hid (hR1.keep hg2)
    have hg3 := hg1.trans hg2
    clear hR1 hg1 hg2
    have y0 := HR3.out.cell 0
    have y1 := HR3.out.cell 1
    have y2 := HR3.out.cell 2
    have y3 := HR3.out.cell 3
    have z0 := HR3.out.free 0
    have z1 := HR3.out.free 1
    have z2 := HR3.out.free 2
    have z3 := HR3.out.free 3
    go_wp2_with fail
    obtain ⟨-, hgf, u0, u1, u2, u3⟩ := ans_put HR3.out hg3 hRle (.bool false) (.slice none 0 0) (.slice none 0 0) (.slice none 0 0) _ rfl
    refine bodyPost_ret (v := .tuple #[.agg #[.bool false, .slice none 0 0, .slice none 0 0, .slice none 0 0], .int .i64 2]) ?_ ?_ ?_
    · simp [results, Tryz.results8, go_sem, u0, u1, u2, u3]
    · rfl
    · exact Or.inl ⟨HE.out, rfl, hgf⟩
  | true =>
    obtain ⟨⟨hB1, hB8⟩, hn32, hV⟩ := okT_v hr
    rw [hn] at hn32
    obtain ⟨N, rfl⟩ : ∃ N : Nat, B = N := ⟨B.toNat, by omega⟩
    have HE := Lib.hid hr
    have HV := Lib.hid hV
    have HNP := Lib.hid (fun W (hW : Gr w W) => newPlan_any N A n c l W (by omega) hn hn32 hV.p (hp.keep hW))
    have HAN := Lib.hid (fun (p g m fb : Nat) (SA : Option Addr) (sc : Nat) (F : Nat → Option Nat) (r' : Nat → Nat → Int) (nx : Nat → List Nat) W => answer_any (p := p) (g := g) (m := m) (fb := fb) (B := N) (A := A) (c := c) (SA := SA) (sc := sc) (F := F) (r' := r') (nx := nx) W hn hn32 (by omega) hV)
    clear hr hV hp hn
    go_enter Tryz.func8, Tryz.ntmps8
    go_wp2_with fail
    generalize hW1 : World.alloc w _ = w1
    have hg1 : Gr w w1 := by rw [← hW1]; exact (Gr.refl w).alloc _
    have hR1 : Blk w1 w.heap.size 29 #[.bool false, .slice none 0 0, .slice none 0 0, .slice none 0 0] := by rw [← hW1]; exact heap_alloc_new w _
    obtain ⟨R, hRe⟩ : ∃ R, w.heap.size = R := ⟨_, rfl⟩
    rw [hRe] at hR1 ⊢
    have hRle : w.heap.size ≤ R := by omega
    clear hW1 hRe
    refine (HIT.out _ hg1 _ HE.out).mono ?_
    rintro e w2 ⟨rfl, hg2⟩
    have HR2 := Lib.hid (hR1.keep hg2)
    have hg2' := hg1.trans hg2
    clear hR1 hg1 hg2
    go_wp2_with fail
    refine (HNP.out _ hg2').mono ?_
    intro e w3 hpost
    obtain ⟨p, F, r', rfl, ⟨g, m, fb, SA, sc, nx, hPR, hL, h0⟩, hg3⟩ := hpost.at_ HV.out.p
    have HA := Lib.hid (HAN.out p g m fb SA sc F r' nx w3 hPR hL h0)
    have HR3 := Lib.hid (HR2.out.keep hg3)
    have hg3' := hg2'.trans hg3
    clear hpost hPR hL h0 hg3 hg2' HR2 HAN HNP HIT
    go_wp2_with fail
    refine HA.out.mono ?_
    intro e w4 hans
    clear HA
    rcases hans with ⟨A3, k3, c3, sl, rfl, e1, e2, e3, ef, e4⟩ | ⟨JA, jc, SB, sd, J, S, rfl, e1, e2, e3, ef, e4⟩
    · have HQ := Lib.hid (And.intro e1 (And.intro e2 e3))
      have HEF := Lib.hid (ef.base hg3'.size)
      have HR4 := Lib.hid (HR3.out.keep e4)
      have hg4 := hg3'.trans e4
      clear e1 e2 e3 e4 ef HR3 hg3'
      have y0 := HR4.out.cell 0
      have y1 := HR4.out.cell 1
      have y2 := HR4.out.cell 2
      have y3 := HR4.out.cell 3
      have z0 := HR4.out.free 0
      have z1 := HR4.out.free 1
      have z2 := HR4.out.free 2
      have z3 := HR4.out.free 3
      go_wp2_with fail
      obtain ⟨hrd, hgf, u0, u1, u2, u3⟩ := ans_put HR4.out hg4 hRle (.bool true) (.slice A3 k3 c3) (.slice none 0 0) (.slice none 0 0) _ rfl
      refine bodyPost_ret (v := .tuple #[.agg #[.bool true, .slice A3 k3 c3, .slice none 0 0, .slice none 0 0], .int .i64 0]) ?_ ?_ ?_
      · simp [results, Tryz.results8, go_sem, u0, u1, u2, u3]
      · rfl
      · exact Or.inr ⟨HE.out, _, rfl, Or.inl ⟨_, _, _, _, rfl, HQ.out.1, hrd enc4_int HQ.out.2.1, HQ.out.2.2, (((HEF.out.put _ _).put _ _).put _ _).put _ _, hgf⟩⟩
    · have HQ := Lib.hid (And.intro e1 (And.intro e2 e3))
      have HEF := Lib.hid (And.intro (ef.1.base hg3'.size) (ef.2.base hg3'.size))
      have HR4 := Lib.hid (HR3.out.keep e4)
      have hg4 := hg3'.trans e4
      clear e1 e2 e3 e4 ef HR3 hg3'
      have y0 := HR4.out.cell 0
      have y1 := HR4.out.cell 1
      have y2 := HR4.out.cell 2
      have y3 := HR4.out.cell 3
      have z0 := HR4.out.free 0
      have z1 := HR4.out.free 1
      have z2 := HR4.out.free 2
      have z3 := HR4.out.free 3
      go_wp2_with fail
      obtain ⟨hrd, hgf, u0, u1, u2, u3⟩ := ans_put HR4.out hg4 hRle (.bool false) (.slice none 0 0) (.slice JA J.length jc) (.slice SB S.length sd) _ rfl
      refine bodyPost_ret (v := .tuple #[.agg #[.bool false, .slice none 0 0, .slice JA J.length jc, .slice SB S.length sd], .int .i64 0]) ?_ ?_ ?_
      · simp [results, Tryz.results8, go_sem, u0, u1, u2, u3]
      · rfl
      · exact Or.inr ⟨HE.out, _, rfl, Or.inr ⟨_, _, _, _, _, _, rfl, hrd enc1_int HQ.out.1, hrd enc2_int HQ.out.2.1, HQ.out.2.2, ⟨(((HEF.out.1.put _ _).put _ _).put _ _).put _ _, (((HEF.out.2.put _ _).put _ _).put _ _).put _ _⟩, hgf⟩⟩

end Go.Proofs.YtpnkpejnahhajaaGreat

namespace Go.Proofs.YtpnkpejnahhajaaGreat
open Go.RowKit
set_option linter.unusedSimpArgs false

theorem fo_enc : encL ⟨#[97]⟩ 0 = ⟨#[97]⟩ := by decide +kernel
def foJ : List Jb := [(0, 2, 2)]
theorem fo_one : SchedP 1 foJ [(0, 0, 0, 2)] where
  few := by decide
  ok := by intro x hx; simp at hx; subst hx; simp [okS, jbA, foJ]
  apart := by simp
  done := by
    intro j hj
    have : j = 0 := by simp [foJ] at hj; omega
    subst this; decide
theorem fo_jobs : ∀ j ∈ foJ, 0 ≤ j.1 ∧ j.1 < j.2.1 ∧ j.2.1 ≤ 1048576 := by intro j hj; simp [foJ] at hj; subst hj; decide
theorem fo_plan {w w' : World} {e : Ending} (h : PlanP 1 foJ w e w') : ∃ A k c, e = .returned (.tuple #[.agg #[.bool true, .slice A k c, .slice none 0 0, .slice none 0 0], .int .i64 0]) ∧ Gr w w' := by
  rcases h with ⟨h, -⟩ | ⟨-, v, rfl, h⟩
  · exact absurd h (by decide)
  · rcases h with ⟨C, k, cc, sl, e, -, -, -, -, hg⟩ | ⟨JA, jc, SA, sc, J, S, e, -, -, h3, -, hg⟩
    · injection e with e
      subst e
      exact ⟨C, k, cc, rfl, hg⟩
    · exact (dual (n := 1) fo_jobs fo_one h3).elim

set_option maxRecDepth 100000 in
set_option maxHeartbeats 8000000 in
theorem four_any (w : World) : Calls Tryz.prog 10 #[] w fun e w' => e = .returned (.bool true) ∧ Gr w w' := by
  go_enter Tryz.func10, Tryz.ntmps10
  go_wp2_with fail
  generalize hW : World.alloc w _ = W
  have hgW : Gr w W := by rw [← hW]; exact (Gr.refl _).alloc _
  have hB : Tris W (some ⟨w.heap.size, 0, none⟩) foJ := by
    rw [← hW]
    exact Rd_lit enc3_len (Blk.new w _ _ rfl) rfl
  generalize w.heap.size = D at hB ⊢
  have HB := Lib.hid hB
  clear hW hB
  refine (planB_any 1 (some ⟨D, 0, none⟩) 1 1 foJ W rfl (by omega) HB.out).mono ?_
  intro e w1 hp
  obtain ⟨A, k, c, rfl, hg1⟩ := fo_plan hp
  have hgr1 := hgW.trans hg1
  clear hp
  go_upto_region 2 with fail
  generalize hW2 : World.alloc w1 _ = w2
  have hg2 : Gr w1 w2 := by rw [← hW2]; exact (Gr.refl w1).alloc _
  have hZ : Blk w2 w1.heap.size 29 #[.bool true, .slice A k c, .slice none 0 0, .slice none 0 0] := by rw [← hW2]; exact heap_alloc_new w1 _
  generalize w1.heap.size = Z at hZ ⊢
  have HZ := Lib.hid hZ
  have hgr2 := hgr1.trans hg2
  clear hW2 hZ hg1 hg2 hgr1 hgW
  have HE := Lib.hid (Encode_yes ⟨#[97]⟩ 0 w2 (by decide))
  rw [fo_enc] at HE
  go_wp2_with fail
  refine HE.out.mono ?_
  rintro e w3 ⟨rfl, hg3⟩
  have z0 := (HZ.out.keep hg3).cell 0
  have hgr3 := hgr2.trans hg3
  clear hgr2 HZ HE
  go_wp2_with fail
  refine (two_any _).mono ?_
  rintro e w4 ⟨rfl, hg4⟩
  go_wp2_with fail
  go_ret
  exact ⟨rfl, hgr3.trans hg4⟩

end Go.Proofs.YtpnkpejnahhajaaGreat
