/- Layer 5: is a site settled? -/
import Derived.Test.YtnoeiocbmhkmeaaPtAB
namespace Go.Proofs.Ytnoeiocbmhkmeaa
open Go.RowKit
set_option linter.unusedSimpArgs false

def setS (s : Sx) : Bool := s.opn.isEmpty && s.grt.isEmpty && s.prom.isEmpty
set_option maxRecDepth 100000 in
set_option maxHeartbeats 4000000 in
theorem setS_any {B : Nat} {s : Sx} (w : World) (h : Its B w (siteIt s)) : Calls Try.prog 47 #[.pointer (some ⟨s.p, 0, none⟩)] w fun e w' => e = .returned (.bool (setS s)) ∧ w' = w := by
  obtain ⟨-, -, -, c3, -, -, c6, c7⟩ := h.sCells
  have q1 := fun ty => h.sOpn.len Try.underlying79 ty
  have q2 := fun ty => h.sGrt.len Try.underlying79 ty
  have q3 := fun ty => h.sProm.len Try.underlying77 ty
  have e1 : ((s.opn.length : Int) == 0) = s.opn.isEmpty := by cases s.opn <;> simp; omega
  have e2 : ((s.grt.length : Int) == 0) = s.grt.isEmpty := by cases s.grt <;> simp; omega
  have e3 : ((s.prom.length : Int) == 0) = s.prom.isEmpty := by cases s.prom <;> simp; omega
  have HS : Hid (setS s = (s.opn.isEmpty && s.grt.isEmpty && s.prom.isEmpty)) := Lib.hid rfl
  obtain ⟨r, hr⟩ : ∃ r, setS s = r := ⟨_, rfl⟩
  rw [hr] at HS ⊢
  clear h hr
  generalize s.opn.isEmpty = b1 at e1 HS
  generalize s.grt.isEmpty = b2 at e2 HS
  generalize s.prom.isEmpty = b3 at e3 HS
  cases b1 <;> cases b2 <;> cases b3
  all_goals
    go_enter Try.func47, Try.ntmps47
    go_wp2_with fail
    first
    | (go_ret; exact ⟨ret_bool (by rw [HS.out]; rfl), rfl⟩)
    | exact ⟨ret_bool (by rw [HS.out]; rfl), rfl⟩
    | (go_wp2_with fail; go_ret; exact ⟨ret_bool (by rw [HS.out]; rfl), rfl⟩)

end Go.Proofs.Ytnoeiocbmhkmeaa
