/- For any two numbers and any two lists of numbers, the law silversidetop.TopHours returns true (jobs that share one window, whose hours are booked by transactions, have a schedule exactly if all transactions are kept), its arguments read behind the call as before it, and memory that was there and the outside world are as they were. No condition on the arguments. -/
import Derived.Test.YtobcdkjomehdkaaGreatBu47
import Derived.Test.YtobcdkjomehdkaaGreatBu45
namespace Go.Proofs.YtobcdkjomehdkaaGreat
open Go.RowKit Go.Deep Go.Joins Go.ChangeShapes Go.WideShapes Go.ChangeAt

set_option maxRecDepth 100000 in
theorem topHours_lifted (os : Os) (started : os.Started) (H : Type) (enc : TypeId × Value → H) :
 ReturnsInHanded {} Tryz.checked os 4 .any (Rows.topHoursSpec.pre6 enc Tryz.prog Tryz.f4 Rows.topHoursRow.domain false) (Rows.topHoursSpec.post enc Tryz.prog Tryz.f4 false true false false) := by
 refine returnsInHanded_of_change (C := Tryz.checked) own_knob started (by kernel_rfl) Tryz.func4
  (ChangeSpec.witness6 (enc := enc) (C := Tryz.checked) false ⟨#[], #[.agg #[.int .i64 0, .int .i64 0], .slice none 0 0, .slice none 0 0], []⟩ 8 (by kernel_rfl) (by kernel_rfl) (by kernel_rfl) (by kernel_rfl)) ?_
 intro W base args ds gs before hval0 hW _ _
 have hval : ∀ (j : Nat) t v, Tryz.f4.params[j]? = some t → args[j]? = some v → Value.okWide Tryz.prog W .any base t v := hval0
 have hW' := hW
 obtain ⟨p, q, hA0, hV, -, -, -⟩ := hW
 have hA : DataW.TrodAll enc Tryz.prog W 0 (fun _ => true) true Tryz.f4.params.toList args.toList ds p := hA0
 rw [Tryz.params4] at hA hval
 obtain ⟨v0, v1, v2, d0, d1, d2, p0, p1, p2, rfl, rfl, rfl, h0, h1, h2⟩ := trodAll_three hA
 obtain ⟨rfl, rfl⟩ := trodVars_none hV
 obtain ⟨x0, x1, rfl⟩ := open_two (hval 0 47 v0 rfl rfl) h0
 obtain ⟨A, n, c, ws, rfl, hc, hm, -, hn, hp, -⟩ := open_ints5 (hval 1 25 v1 rfl rfl) h1
 obtain ⟨OA, on, oc, ol, rfl, hoc, hom, -, hon, hop, -⟩ := open_ints5 (hval 2 25 v2 rfl rfl) h2
 refine (lawHours_any x0 x1 A n c ws OA on oc ol W hn (Nat.le_trans hc hm) hp hon (Nat.le_trans hoc hom) hop).mono fun e W' ⟨he, hg⟩ => ?_
 subst he
 exact ⟨_, rfl, law_post laid_out (fun t ht => by rw [Tryz.params4] at ht; simp at ht; rcases ht with rfl | rfl | rfl <;> exact ⟨by kernel_rfl, of_decide_eq_true (by kernel_rfl)⟩) rfl rfl Tryz.underlying4 ⟨rfl, rfl, rfl⟩ hW' hg⟩

set_option maxHeartbeats 40000000 in
theorem topHours_closed : joinedFacts Tryz.pinned.checked.prog 4 Tryz.f4 Rows.topHoursSpec Rows.topHoursRow = true := by
 unfold joinedFacts
 simp only [Bool.and_eq_true]
 repeat' apply And.intro
 all_goals first
  | (with_reducible exact may_enter)
  | ((with_reducible_and_instances refine no_lifts ?_); rfl)
  | ((with_reducible_and_instances refine make_cut ?_); rfl)
  | (as_aux_lemma => kernel_rfl)
theorem topHours : Rows.TopHoursSaid :=
 OpenClaim.holds_of_wide 4 Tryz.f4 rfl rfl rfl rfl rfl rfl rfl ⟨rfl, rfl, rfl, rfl, rfl⟩ rfl rfl rfl rfl rfl (by kernel_rfl) Tryz.func4 topHours_closed
  (of_decide_eq_true (by kernel_rfl)) (by unfold Func.isWrapper; first | (rw [if_pos (by decide +kernel)]; kernel_rfl) | (rw [if_neg (by decide +kernel)]; exact ⟨rfl, rfl⟩))
  (fun os started H enc _ => topHours_lifted os started H enc)

end Go.Proofs.YtobcdkjomehdkaaGreat
