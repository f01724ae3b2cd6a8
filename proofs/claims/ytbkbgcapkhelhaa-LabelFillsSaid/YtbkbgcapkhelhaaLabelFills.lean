/- For any string, any number and any two lists of changes, the law silversidelaw03.LabelFills returns true, its arguments read behind the call as before it, and memory that was there and the outside world are as they were. No condition on the arguments. -/
import Derived.Test.YtbkbgcapkhelhaaLLawFills
import Derived.Test.YtbkbgcapkhelhaaLOpenC
import Derived.Test.YtbkbgcapkhelhaaSeat
namespace Go.Proofs.Ytbkbgcapkhelhaa
open Go.RowKit Go.Deep Go.Joins Go.ChangeShapes Go.WideShapes Go.ChangeAt

set_option maxRecDepth 100000 in
theorem labelFills_lifted (os : Os) (started : os.Started) (H : Type) (enc : TypeId × Value → H) :
    ReturnsInHanded {} Try.checked os 9 .any (Rows.labelFillsSpec.pre6 enc Try.prog Try.f9 Rows.labelFillsRow.domain false) (Rows.labelFillsSpec.post enc Try.prog Try.f9 false true false false) := by
  refine returnsInHanded_of_change_sized (C := Try.checked) own_knob started (by kernel_rfl) Try.func9
    (ChangeSpec.witness6 (enc := enc) (C := Try.checked) false ⟨#[], #[.string ⟨#[]⟩, .int .i64 0, .slice none 0 0, .slice none 0 0], []⟩ 8 (by kernel_rfl) (by kernel_rfl) (by kernel_rfl) (by kernel_rfl)) ?_
  intro W base args ds gs before hval0 hW _ hz0 _
  have hval : ∀ (j : Nat) t v, Try.f9.params[j]? = some t → args[j]? = some v → Value.okWide Try.prog W .any base t v := hval0
  have hz : (DataW.weightsEach Try.prog (Try.f9.params.toList ++ Rows.labelFillsSpec.plain.varTypes Try.prog) (ds ++ gs)).all (· ≤ reachBytes) = true := hz0
  have hW' := hW
  obtain ⟨p, q, hA0, hV, -, -, -⟩ := hW
  have hA : DataW.TrodAll enc Try.prog W 0 (fun _ => true) true Try.f9.params.toList args.toList ds p := hA0
  rw [Try.params9] at hA hval hz
  obtain ⟨v0, v1, v2, v3, d0, d1, d2, d3, p0, p1, p2, p3, rfl, rfl, rfl, h0, h1, h2, h3⟩ := trodAll_four hA
  obtain ⟨rfl, rfl⟩ := trodVars_none hV
  obtain ⟨s0, rfl⟩ := okWide_string Try.underlying9 (hval 0 9 v0 rfl rfl)
  obtain ⟨x1, rfl, rfl, rfl, hwf1⟩ := open_int Try.underlying3 (hval 1 3 v1 rfl rfl) h1
  obtain ⟨A2, n2, c2, ns2, rfl, hc2, hn2, hl2, hp2, hz2⟩ := open_changes (hval 2 50 v2 rfl rfl) h2 hz (j := 2) rfl rfl
  obtain ⟨A3, n3, c3, ns3, rfl, hc3, hn3, hl3, hp3, hz3⟩ := open_changes (hval 3 50 v3 rfl rfl) h3 hz (j := 3) rfl rfl
  refine (lawFills_any s0 x1 A2 n2 c2 ns2 A3 n3 c3 ns3 W (int_bound hwf1) hn2 (by omega) hc2 hz2 hp2 hn3 (by omega) hc3 hz3 hp3).mono fun e W' ⟨he, hg⟩ => ?_
  subst he
  exact ⟨_, rfl, law_post laid_out (fun t ht => by rw [Try.params9] at ht; simp at ht; rcases ht with rfl | rfl | rfl | rfl <;> exact ⟨by kernel_rfl, of_decide_eq_true (by kernel_rfl)⟩) rfl rfl Try.underlying4 ⟨rfl, rfl, rfl⟩ hW' hg⟩

set_option maxHeartbeats 40000000 in
theorem labelFills_closed : joinedFacts Try.pinned.checked.prog 9 Try.f9 Rows.labelFillsSpec Rows.labelFillsRow = true := by
  unfold joinedFacts
  simp only [Bool.and_eq_true]
  repeat' apply And.intro
  all_goals first
    | (with_reducible exact may_enter)
    | ((with_reducible_and_instances refine no_lifts ?_); rfl)
    | ((with_reducible_and_instances refine make_cut ?_); rfl)
    | (as_aux_lemma => kernel_rfl)
theorem labelFills : Rows.LabelFillsSaid :=
  OpenClaim.holds_of_wide 9 Try.f9 rfl rfl rfl rfl rfl rfl rfl ⟨rfl, rfl, rfl, rfl, rfl⟩ rfl rfl rfl rfl rfl (by kernel_rfl) Try.func9 labelFills_closed
    (of_decide_eq_true (by kernel_rfl)) (by unfold Func.isWrapper; first | (rw [if_pos (by decide +kernel)]; kernel_rfl) | (rw [if_neg (by decide +kernel)]; exact ⟨rfl, rfl⟩))
    (fun os started H enc _ => labelFills_lifted os started H enc)

end Go.Proofs.Ytbkbgcapkhelhaa
