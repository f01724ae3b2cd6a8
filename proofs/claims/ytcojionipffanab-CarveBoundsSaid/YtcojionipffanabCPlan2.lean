/- Layer 2: a plan out of the table, as deep as it goes. -/
import Derived.Test.YtcojionipffanabCPlan
namespace Go.Proofs.Ytcojionipffanab
open Go.RowKit
set_option linter.unusedSimpArgs false

def PPost (bs : List Bl) (x y : Nat) (w : World) (e : Ending) (w' : World) : Prop :=
  ∃ P m, Makes bs x y P m ∧ sumV m = mst bs x y ∧ PlanPost P w e w'
theorem PlanPost.pts {P : List St} {w w' : World} {g c : Nat} (h : w'.ownsRow w.heap.size 56 2 (.slice (some ⟨g, 0, none⟩) P.length c) P.length (flatE enc2 P)) : Pts w' (some ⟨g, 0, none⟩) P := Rd_of_owns enc2_len rfl h

set_option maxRecDepth 100000 in
set_option maxHeartbeats 1000000 in
theorem plan_leaf (bs : List Bl) (W H g x y : Nat) (w : World) (hW : W ≤ 48) (hH : H ≤ 48) (hx1 : 1 ≤ x) (hx : x ≤ W) (hy1 : 1 ≤ y) (hy : y ≤ H) (wt : Nat → Nat → Int) (ft : Nat → Nat → St) (hT : Tab w g wt ft) (m : List Bl) (hM : Makes bs x y [ft x y] m) (hs : sumV m = mst bs x y) (hk : (ft x y).1 = 0 ∨ (ft x y).1 = 1) :
    Calls Try.prog 42 #[.pointer (some ⟨g, 0, none⟩), .int .i64 (x : Int), .int .i64 (y : Int)] w (PPost bs x y w) := by
  obtain ⟨c1, c2⟩ := hT.first (x := x) (y := y) (by omega) (by omega)
  have HM := Lib.hid hM
  have HS := Lib.hid hs
  have HO := Lib.hid (fun W' => planOf_any (ft x y) none 0 0 [] W' rfl (by omega) (fun p hp => by cases hp) (fun k => by simp) (fun i part hp => by simp at hp))
  have i1 : (0 : Int) ≤ (x : Int) := by omega
  have i2 : (x : Int) < 49 := by omega
  have i3 : (0 : Int) ≤ (y : Int) := by omega
  have i4 : (y : Int) < 49 := by omega
  generalize ft x y = s at c1 c2 HM HO hk
  obtain ⟨kd, arg⟩ := s
  clear hM hs hT
  dsimp only at hk HO c1 c2
  rcases hk with rfl | rfl
  all_goals
    go_enter Try.func42, Try.ntmps42
    go_wp2_with fail
    refine (HO.out _).mono ?_
    rintro e w2 ⟨g2, c2, rfl, h1, h2, h3, h4⟩
    have H3 := Lib.hid h3
    clear h3
    go_wp2_with fail
    go_ret
    refine ⟨_, m, HM.out, HS.out, g2, c2, rfl, h1, ?_, ?_, ((Gr.refl w).alloc _).trans h4⟩
    · simp at h2; omega
    · exact ⟨H3.out.1, H3.out.2.imp (fun h => h) (fun ⟨g', cap, cur, e1, e2, r⟩ => ⟨g', cap, cur, e1, by simp at e2; omega, r⟩)⟩

end Go.Proofs.Ytcojionipffanab
