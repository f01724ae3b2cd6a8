/- A simple polygon, as the reference tells it, whatever the list. -/
import Derived.Test.YtjkdjfagaakijaaRSimple
namespace Go.Proofs.Ytjkdjfagaakijaa
open Go.RowKit
set_option linter.unusedSimpArgs false

set_option maxRecDepth 100000 in
set_option maxHeartbeats 2000000 in
theorem rSimple_any (A : Option Addr) (n c : Nat) (ps : List (Int × Int)) (w : World) (hn : ps.length = n) (hl : n ≤ 1048576) (hp : Pts w A ps) :
    Calls Try.prog 12 #[.slice A n c] w (BoolPost (SimpleP ps) w) := by
  by_cases h3 : n < 3
  · have HN := Lib.hid hn
    clear hn hp
    go_enter Try.func12, Try.ntmps12
    go_wp2_with fail
    go_ret
    exact ⟨false, rfl, ⟨fun h => absurd h (by decide), fun h => absurd h.1 (by rw [HN.out]; omega)⟩, by (repeat (first | exact Gr.refl _ | assumption | (refine Gr.drew ?_) | (refine Gr.drewN ?_ _) | (refine Gr.alloc ?_ _) | (refine Gr.trans ?_ (by assumption))))⟩
  · by_cases h5 : 512 < n
    · have HN := Lib.hid hn
      clear hn hp
      go_enter Try.func12, Try.ntmps12
      go_wp2_with fail
      go_ret
      exact ⟨false, rfl, ⟨fun h => absurd h (by decide), fun h => absurd h.2.1 (by rw [HN.out]; omega)⟩, by (repeat (first | exact Gr.refl _ | assumption | (refine Gr.drew ?_) | (refine Gr.drewN ?_ _) | (refine Gr.alloc ?_ _) | (refine Gr.trans ?_ (by assumption))))⟩
    · rcases hv : (ps.all fun p => vld p.1 p.2) with _ | _
      · have HN := Lib.hid hn
        have HP := Lib.hid hp
        have HV := Lib.hid hv
        clear hn hp hv
        go_enter Try.func12, Try.ntmps12
        go_wp2_with fail
        refine (rValids_any A n c ps _ HN.out (by omega) HP.out false HV.out).mono ?_
        rintro e w1 ⟨rfl, hb⟩
        go_wp2_with fail
        go_ret
        exact ⟨false, rfl, ⟨fun h => absurd h (by decide), fun h => by have h1 := h.2.2.1; rw [HV.out] at h1; cases h1⟩, hb⟩
      · exact rSimple_loop A n c ps w hn (by omega) (by omega) hp hv

end Go.Proofs.Ytjkdjfagaakijaa
