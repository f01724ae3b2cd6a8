/- For any act, the law silversidelaw05.PactVoid returns true, its arguments read behind the call as before it, and memory that was there and the outside world are as they were. No condition on the arguments. -/
import Derived.Test.YtnoeiocbmhkmeaaPtLv
import Derived.Test.YtnoeiocbmhkmeaaPtOp
import Derived.Test.YtnoeiocbmhkmeaaSeat
namespace Go.Proofs.Ytnoeiocbmhkmeaa
open Go.RowKit Go.Deep Go.Joins Go.ChangeShapes Go.WideShapes Go.ChangeAt

set_option maxRecDepth 100000 in
theorem pactVoid_lifted (os : Os) (started : os.Started) (H : Type) (enc : TypeId × Value → H) :
    ReturnsInHanded {} Try.checked os 4 .any (Rows.pactVoidSpec.pre6 enc Try.prog Try.f4 Rows.pactVoidRow.domain false) (Rows.pactVoidSpec.post enc Try.prog Try.f4 false true false false) := by
  refine returnsInHanded_of_change (C := Try.checked) own_knob started (by kernel_rfl) Try.func4
    (ChangeSpec.witness6 (enc := enc) (C := Try.checked) false ⟨#[], #[.agg #[.int .i64 0, .int .i64 0, .int .i64 0, .slice none 0 0]], []⟩ 8 (by kernel_rfl) (by kernel_rfl) (by kernel_rfl) (by kernel_rfl)) ?_
  intro W base args ds gs before hval0 hW _ _
  have hval : ∀ (j : Nat) t v, Try.f4.params[j]? = some t → args[j]? = some v → Value.okWide Try.prog W .any base t v := hval0
  have hW' := hW
  obtain ⟨p, q, hA0, hV, -, -, -⟩ := hW
  have hA : DataW.TrodAll enc Try.prog W 0 (fun _ => true) true Try.f4.params.toList args.toList ds p := hA0
  rw [Try.params4] at hA hval
  obtain ⟨v0, d0, rfl, rfl, h0⟩ := trodAll_one hA
  obtain ⟨rfl, rfl⟩ := trodVars_none hV
  obtain ⟨kd, st, nn, A, n, c, l, rfl, ha⟩ := open_act (hval 0 40 v0 rfl rfl) h0
  refine (lawVoid_any kd st nn A n c l W ha.ino ha.parts.len ha.parts.le ha.parts.max ha.parts.nil ha.parts.rd (fun p hp => (ha.parts.small p hp).1)).mono fun e W' ⟨he, hg⟩ => ?_
  subst he
  exact ⟨_, rfl, law_post laid_out (fun t ht => by rw [Try.params4] at ht; simp at ht; subst ht; exact ⟨by kernel_rfl, of_decide_eq_true (by kernel_rfl)⟩) rfl rfl Try.underlying4 ⟨rfl, rfl, rfl⟩ hW' hg⟩

set_option maxHeartbeats 40000000 in
theorem pactVoid_closed : joinedFacts Try.pinned.checked.prog 4 Try.f4 Rows.pactVoidSpec Rows.pactVoidRow = true := by
  unfold joinedFacts
  simp only [Bool.and_eq_true]
  repeat' apply And.intro
  all_goals first
    | (with_reducible exact may_enter)
    | ((with_reducible_and_instances refine no_lifts ?_); rfl)
    | ((with_reducible_and_instances refine make_cut ?_); rfl)
    | (as_aux_lemma => kernel_rfl)
theorem pactVoid : Rows.PactVoidSaid :=
  OpenClaim.holds_of_wide 4 Try.f4 rfl rfl rfl rfl rfl rfl rfl ⟨rfl, rfl, rfl, rfl, rfl⟩ rfl rfl rfl rfl rfl (by kernel_rfl) Try.func4 pactVoid_closed
    (of_decide_eq_true (by kernel_rfl)) (by unfold Func.isWrapper; first | (rw [if_pos (by decide +kernel)]; kernel_rfl) | (rw [if_neg (by decide +kernel)]; exact ⟨rfl, rfl⟩))
    (fun os started H enc _ => pactVoid_lifted os started H enc)

end Go.Proofs.Ytnoeiocbmhkmeaa
