/- Turn, the reference's Valids, and the law PlaneTurns as a walk. -/
import Derived.Test.YtjkdjfagaakijaaAwake
namespace Go.Proofs.Ytjkdjfagaakijaa
open Go.RowKit
set_option linter.unusedSimpArgs false

theorem box6 {w W : World} {t : TypeId} {a b c d e f : Value} (hW : ((w.alloc (.cells #[a, b] t)).alloc (.cells #[c, d] t)).alloc (.cells #[e, f] t) = W) :
    Gr w W ∧ W.cell? ⟨w.heap.size, 0, none⟩ = some a ∧ W.cell? ⟨w.heap.size, 1, none⟩ = some b ∧ W.cell? ⟨w.heap.size + 1, 0, none⟩ = some c ∧ W.cell? ⟨w.heap.size + 1, 1, none⟩ = some d ∧ W.cell? ⟨w.heap.size + 1 + 1, 0, none⟩ = some e ∧ W.cell? ⟨w.heap.size + 1 + 1, 1, none⟩ = some f := by
  subst hW
  refine ⟨(((Gr.refl _).alloc _).alloc _).alloc _, ?_, ?_, ?_, ?_, ?_, ?_⟩
  · exact alloc_old (alloc_old (alloc_new rfl rfl))
  · exact alloc_old (alloc_old (alloc_new rfl rfl))
  · exact alloc_old (alloc_new (by simp) rfl)
  · exact alloc_old (alloc_new (by simp) rfl)
  all_goals exact alloc_new (by simp) rfl

set_option maxHeartbeats 1000000 in
theorem rValids_any (A : Option Addr) (n c : Nat) (ps : List (Int × Int)) (w : World) (hn : ps.length = n) (hl : n ≤ 281474976710656) (hp : Pts w A ps) (r : Bool) (hr : (ps.all fun p => vld p.1 p.2) = r) :
    Calls Try.prog 26 #[.slice A n c] w fun e w' => e = .returned (.bool r) ∧ Gr w w' := by
  subst hr
  have HN := Lib.hid hn
  clear hn
  have HP := Lib.hid hp
  clear hp
  go_enter Try.func26, Try.ntmps26
  go_wp2_with fail
  go_loopw [3] (fun i wr => ∃ k : Nat, k ≤ n ∧ i = .int .i64 k ∧ Hid ((ps.take k).all (fun p => vld p.1 p.2) = true) ∧ Gr w wr) (fun i _ => n - (intOf i).toNat)
  case atStart => exact ⟨0, Nat.zero_le _, rfl, Lib.hid (by simp), Gr.refl _⟩
  case round =>
    obtain ⟨k, hk, rfl, hall, hg⟩ := hrel
    by_cases hlt : k < n
    · obtain ⟨b, off, rfl, hx, hy⟩ := Pts_at (HP.out.keep hg) (k := k) (by have := HN.out; omega)
      have hkl : k < ps.length := by have := HN.out; omega
      rcases hv : vld (ps.getD k (0, 0)).1 (ps.getD k (0, 0)).2 with _ | _
      · have HR := Lib.hid (all_false (fun p => vld p.1 p.2) ps (0, 0) k hkl hv)
        generalize ps.getD k (0, 0) = q at hx hy hv
        obtain ⟨x, y⟩ := q
        have HV := Lib.hid hv
        clear hv
        go_wp2_with fail
        refine (rValid_any x y _ _ HV.out).mono ?_
        rintro e w1 ⟨rfl, hb⟩
        go_wp2_with fail
        go_ret
        exact ⟨ret_bool HR.out.symm, by (repeat (first | exact Gr.refl _ | assumption | (refine Gr.drew ?_) | (refine Gr.drewN ?_ _) | (refine Gr.alloc ?_ _) | (refine Gr.trans ?_ (by assumption))))⟩
      · have HR : Hid ((ps.take (k + 1)).all (fun p => vld p.1 p.2) = true) := Lib.hid (by rw [all_take_succ _ _ (0, 0) _ hkl, hall.out, hv]; rfl)
        generalize ps.getD k (0, 0) = q at hx hy hv
        obtain ⟨x, y⟩ := q
        have HV := Lib.hid hv
        clear hv
        go_wp2_with fail
        refine (rValid_any x y _ _ HV.out).mono ?_
        rintro e w1 ⟨rfl, hb⟩
        go_wp2_with fail
        go_roundw
        case rel => exact ⟨k + 1, by omega, by go_num, HR, by (repeat (first | exact Gr.refl _ | assumption | (refine Gr.drew ?_) | (refine Gr.drewN ?_ _) | (refine Gr.alloc ?_ _) | (refine Gr.trans ?_ (by assumption))))⟩
        case measure => simp [intOf]; omega
    · go_wp2_with fail
      go_ret
      exact ⟨ret_bool (by have h := hall.out; rw [List.take_of_length_le (by have := HN.out; omega)] at h; exact h.symm), hg⟩

end Go.Proofs.Ytjkdjfagaakijaa
