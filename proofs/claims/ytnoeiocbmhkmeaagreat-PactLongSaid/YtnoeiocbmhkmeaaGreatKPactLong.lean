/- For any list of numbers and any list of acts, the law silversidelaw05.PactLong returns true, its arguments read behind the call as before it, and memory that was there and the outside world are as they were. No condition on the arguments. -/
import Derived.Test.YtnoeiocbmhkmeaaGreatBu43
import Derived.Test.YtnoeiocbmhkmeaaGreatBu40
import Derived.Test.YtnoeiocbmhkmeaaGreatBu44
namespace Go.Proofs.YtnoeiocbmhkmeaaGreat
open Go.RowKit Go.Deep Go.Joins Go.ChangeShapes Go.WideShapes Go.ChangeAt

set_option maxRecDepth 100000 in
theorem pactLong_lifted (os : Os) (started : os.Started) (H : Type) (enc : TypeId × Value → H) :
 ReturnsInHanded {} Tryz.checked os 4 .any (Rows.pactLongSpec.pre6 enc Tryz.prog Tryz.f4 Rows.pactLongRow.domain false) (Rows.pactLongSpec.post enc Tryz.prog Tryz.f4 false true false false) := by
 refine returnsInHanded_of_change (C := Tryz.checked) own_knob started (by kernel_rfl) Tryz.func4
  (ChangeSpec.witness6 (enc := enc) (C := Tryz.checked) false ⟨#[], #[.slice none 0 0, .slice none 0 0], []⟩ 8 (by kernel_rfl) (by kernel_rfl) (by kernel_rfl) (by kernel_rfl)) ?_
 intro W base args ds gs before hval0 hW _ _
 have hval : ∀ (j : Nat) t v, Tryz.f4.params[j]? = some t → args[j]? = some v → Value.okWide Tryz.prog W .any base t v := hval0
 have hW' := hW
 obtain ⟨p, q, hA0, hV, -, -, -⟩ := hW
 have hA : DataW.TrodAll enc Tryz.prog W 0 (fun _ => true) true Tryz.f4.params.toList args.toList ds p := hA0
 rw [Tryz.params4] at hA hval
 obtain ⟨v0, v1, d0, d1, p0, p1, rfl, rfl, rfl, h0, h1⟩ := trodAll_two hA
 obtain ⟨rfl, rfl⟩ := trodVars_none hV
 obtain ⟨A, n, c, l, rfl, hc, hm, hz, hl, hp, -⟩ := open_ints5 (hval 0 22 v0 rfl rfl) h0
 obtain ⟨AA, an, ac, acts, rfl, hac, ham, han, har, hok⟩ := open_acts (hval 1 23 v1 rfl rfl) h1
 refine (lawLong_any A n c l AA an ac acts W hl (Nat.le_trans hc hm) hp han hac ham har hok).mono fun e W' ⟨he, hg⟩ => ?_
 subst he
 exact ⟨_, rfl, law_post laid_out (fun t ht => by rw [Tryz.params4] at ht; simp at ht; rcases ht with rfl | rfl <;> exact ⟨by kernel_rfl, of_decide_eq_true (by kernel_rfl)⟩) rfl rfl Tryz.underlying4 ⟨rfl, rfl, rfl⟩ hW' hg⟩

set_option maxHeartbeats 40000000 in
theorem pactLong_closed : joinedFacts Tryz.pinned.checked.prog 4 Tryz.f4 Rows.pactLongSpec Rows.pactLongRow = true := by
 unfold joinedFacts
 simp only [Bool.and_eq_true]
 repeat' apply And.intro
 all_goals first
  | (with_reducible exact may_enter)
  | ((with_reducible_and_instances refine no_lifts ?_); rfl)
  | ((with_reducible_and_instances refine make_cut ?_); rfl)
  | (as_aux_lemma => kernel_rfl)
theorem pactLong : Rows.PactLongSaid :=
 OpenClaim.holds_of_wide 4 Tryz.f4 rfl rfl rfl rfl rfl rfl rfl ⟨rfl, rfl, rfl, rfl, rfl⟩ rfl rfl rfl rfl rfl (by kernel_rfl) Tryz.func4 pactLong_closed
  (of_decide_eq_true (by kernel_rfl)) (by unfold Func.isWrapper; first | (rw [if_pos (by decide +kernel)]; kernel_rfl) | (rw [if_neg (by decide +kernel)]; exact ⟨rfl, rfl⟩))
  (fun os started H enc _ => pactLong_lifted os started H enc)

end Go.Proofs.YtnoeiocbmhkmeaaGreat
