/- For any task and any two lists of numbers, the law silversidetop.TopSold returns true (if every blank of the best plan is sold by a transaction of its own, all transactions are kept, in whatever order and however often the letters are delivered), its arguments read behind the call as before it, and memory that was there and the outside world are as they were. No condition on the arguments. -/
import Derived.Test.YtobcdkjomehdkaaGreatBu53
import Derived.Test.YtobcdkjomehdkaaGreatBu45
namespace Go.Proofs.YtobcdkjomehdkaaGreat
open Go.RowKit Go.Deep Go.Joins Go.ChangeShapes Go.WideShapes Go.ChangeAt

set_option maxRecDepth 100000 in
theorem topSold_lifted (os : Os) (started : os.Started) (H : Type) (enc : TypeId × Value → H) :
 ReturnsInHanded {} Tryz.checked os 3 .any (Rows.topSoldSpec.pre6 enc Tryz.prog Tryz.f3 Rows.topSoldRow.domain false) (Rows.topSoldSpec.post enc Tryz.prog Tryz.f3 false true false false) := by
 refine returnsInHanded_of_change (C := Tryz.checked) own_knob started (by kernel_rfl) Tryz.func3
  (ChangeSpec.witness6 (enc := enc) (C := Tryz.checked) false ⟨#[], #[.agg #[.int .i64 0, .int .i64 0, .slice none 0 0], .slice none 0 0, .slice none 0 0], []⟩ 8 (by kernel_rfl) (by kernel_rfl) (by kernel_rfl) (by kernel_rfl)) ?_
 intro W base args ds gs before hval0 hW _ _
 have hval : ∀ (j : Nat) t v, Tryz.f3.params[j]? = some t → args[j]? = some v → Value.okWide Tryz.prog W .any base t v := hval0
 have hW' := hW
 obtain ⟨p, q, hA0, hV, -, -, -⟩ := hW
 have hA : DataW.TrodAll enc Tryz.prog W 0 (fun _ => true) true Tryz.f3.params.toList args.toList ds p := hA0
 rw [Tryz.params3] at hA hval
 obtain ⟨v0, v1, v2, d0, d1, d2, p0, p1, p2, rfl, rfl, rfl, h0, h1, h2⟩ := trodAll_three hA
 obtain ⟨rfl, rfl⟩ := trodVars_none hV
 obtain ⟨W0, H0, A0, n0, c0, bs0, rfl, hc0, hm0, hz0, hn0, hp0⟩ := open_task (hval 0 24 v0 rfl rfl) h0
 obtain ⟨TA, tn, tc, ts, rfl, -, -, -, htn, htp, -⟩ := open_ints5 (hval 1 25 v1 rfl rfl) h1
 obtain ⟨OA, on, oc, ol, rfl, -, -, -, hon, hop, -⟩ := open_ints5 (hval 2 25 v2 rfl rfl) h2
 refine (lawSold_any W0 H0 A0 n0 c0 bs0 TA tn tc ts OA on oc ol W hn0 (by unfold maxLen at hm0; omega) hp0 htn htp hon hop).mono fun e W' ⟨he, hg⟩ => ?_
 subst he
 exact ⟨_, rfl, law_post laid_out (fun t ht => by rw [Tryz.params3] at ht; simp at ht; rcases ht with rfl | rfl | rfl <;> exact ⟨by kernel_rfl, of_decide_eq_true (by kernel_rfl)⟩) rfl rfl Tryz.underlying4 ⟨rfl, rfl, rfl⟩ hW' hg⟩

set_option maxHeartbeats 40000000 in
theorem topSold_closed : joinedFacts Tryz.pinned.checked.prog 3 Tryz.f3 Rows.topSoldSpec Rows.topSoldRow = true := by
 unfold joinedFacts
 simp only [Bool.and_eq_true]
 repeat' apply And.intro
 all_goals first
  | (with_reducible exact may_enter)
  | ((with_reducible_and_instances refine no_lifts ?_); rfl)
  | ((with_reducible_and_instances refine make_cut ?_); rfl)
  | (as_aux_lemma => kernel_rfl)
theorem topSold : Rows.TopSoldSaid :=
 OpenClaim.holds_of_wide 3 Tryz.f3 rfl rfl rfl rfl rfl rfl rfl ⟨rfl, rfl, rfl, rfl, rfl⟩ rfl rfl rfl rfl rfl (by kernel_rfl) Tryz.func3 topSold_closed
  (of_decide_eq_true (by kernel_rfl)) (by unfold Func.isWrapper; first | (rw [if_pos (by decide +kernel)]; kernel_rfl) | (rw [if_neg (by decide +kernel)]; exact ⟨rfl, rfl⟩))
  (fun os started H enc _ => topSold_lifted os started H enc)

end Go.Proofs.YtobcdkjomehdkaaGreat
