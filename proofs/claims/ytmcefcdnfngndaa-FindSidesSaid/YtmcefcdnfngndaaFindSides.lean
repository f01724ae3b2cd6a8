/- For any two strings (a text and a pattern), the law silversidelaw07.FindSides returns true, its arguments read behind the call as before it, and memory that was there and the outside world are as they were. No condition on the arguments. -/
import Derived.Test.YtmcefcdnfngndaaFdLn
import Derived.Test.YtmcefcdnfngndaaFdOpen2
import Derived.Test.YtmcefcdnfngndaaSeat
namespace Go.Proofs.Ytmcefcdnfngndaa
open Go.RowKit Go.Deep Go.Joins Go.ChangeShapes Go.WideShapes Go.ChangeAt

set_option maxRecDepth 100000 in
theorem findSides_lifted (os : Os) (started : os.Started) (H : Type) (enc : TypeId × Value → H) :
    ReturnsInHanded {} Try.checked os 7 .any (Rows.findSidesSpec.pre6 enc Try.prog Try.f7 Rows.findSidesRow.domain false) (Rows.findSidesSpec.post enc Try.prog Try.f7 false true false false) := by
  refine returnsInHanded_of_change (C := Try.checked) own_knob started (by kernel_rfl) Try.func7
    (ChangeSpec.witness6 (enc := enc) (C := Try.checked) false ⟨#[], #[.string ⟨#[]⟩, .string ⟨#[]⟩], []⟩ 8 (by kernel_rfl) (by kernel_rfl) (by kernel_rfl) (by kernel_rfl)) ?_
  intro W base args ds gs before hval0 hW _ _
  have hval : ∀ (j : Nat) t v, Try.f7.params[j]? = some t → args[j]? = some v → Value.okWide Try.prog W .any base t v := hval0
  have hW' := hW
  obtain ⟨p, q, hA0, hV, -, -, -⟩ := hW
  have hA : DataW.TrodAll enc Try.prog W 0 (fun _ => true) true Try.f7.params.toList args.toList ds p := hA0
  rw [Try.params7] at hA hval
  obtain ⟨v0, v1, d0, d1, p0, p1, rfl, rfl, rfl, h0, h1⟩ := trodAll_two hA
  obtain ⟨rfl, rfl⟩ := trodVars_none hV
  obtain ⟨s0, rfl⟩ := okWide_string Try.underlying9 (hval 0 9 v0 rfl rfl)
  obtain ⟨s1, rfl, hs1⟩ := okWide_str Try.underlying9 (hval 1 9 v1 rfl rfl)
  refine (lawSides_any s0 s1 W hs1).mono fun e W' ⟨he, hg⟩ => ?_
  subst he
  exact ⟨_, rfl, law_post laid_out (fun t ht => by rw [Try.params7] at ht; simp at ht; rcases ht with rfl | rfl <;> exact ⟨by kernel_rfl, of_decide_eq_true (by kernel_rfl)⟩) rfl rfl Try.underlying4 ⟨rfl, rfl, rfl⟩ hW' hg⟩

set_option maxHeartbeats 40000000 in
theorem findSides_closed : joinedFacts Try.pinned.checked.prog 7 Try.f7 Rows.findSidesSpec Rows.findSidesRow = true := by
  unfold joinedFacts
  simp only [Bool.and_eq_true]
  repeat' apply And.intro
  all_goals first
    | (with_reducible exact may_enter)
    | ((with_reducible_and_instances refine no_lifts ?_); rfl)
    | ((with_reducible_and_instances refine make_cut ?_); rfl)
    | (as_aux_lemma => kernel_rfl)
theorem findSides : Rows.FindSidesSaid :=
  OpenClaim.holds_of_wide 7 Try.f7 rfl rfl rfl rfl rfl rfl rfl ⟨rfl, rfl, rfl, rfl, rfl⟩ rfl rfl rfl rfl rfl (by kernel_rfl) Try.func7 findSides_closed
    (of_decide_eq_true (by kernel_rfl)) (by unfold Func.isWrapper; first | (rw [if_pos (by decide +kernel)]; kernel_rfl) | (rw [if_neg (by decide +kernel)]; exact ⟨rfl, rfl⟩))
    (fun os started H enc _ => findSides_lifted os started H enc)

end Go.Proofs.Ytmcefcdnfngndaa
