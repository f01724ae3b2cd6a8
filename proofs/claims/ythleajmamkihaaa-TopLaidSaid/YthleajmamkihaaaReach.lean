/- How far a hull reaches in a direction. -/
import Derived.Test.YthleajmamkihaaaDirs
import Derived.Deep.QuietTactic
import Derived.BigQuiet
namespace Go.Proofs.Ythleajmamkihaaa
open Go.RowKit
set_option linter.unusedSimpArgs false

def pr (v p : Int × Int) : Int := v.1 * p.1 + v.2 * p.2
def loT (v : Int × Int) (ps : List (Int × Int)) : Nat → Int
  | 0 => pr v (ps.getD 0 (0, 0))
  | k + 1 => min (loT v ps k) (pr v (ps.getD (k + 1) (0, 0)))
def hiT (v : Int × Int) (ps : List (Int × Int)) : Nat → Int
  | 0 => pr v (ps.getD 0 (0, 0))
  | k + 1 => max (hiT v ps k) (pr v (ps.getD (k + 1) (0, 0)))
def loL (v : Int × Int) (ps : List (Int × Int)) : Int := loT v ps (ps.length - 1)
def hiL (v : Int × Int) (ps : List (Int × Int)) : Int := hiT v ps (ps.length - 1)
def Vc (v : Int × Int) : Prop := (-1073741824 ≤ v.1 ∧ v.1 ≤ 1073741824) ∧ (-1073741824 ≤ v.2 ∧ v.2 ≤ 1073741824)
theorem pr_bd {v : Int × Int} {ps : List (Int × Int)} (h : Vc v) (hc : Cos ps) (k : Nat) : -8796093022208 ≤ pr v (ps.getD k (0, 0)) ∧ pr v (ps.getD k (0, 0)) ≤ 8796093022208 := by
  obtain ⟨c1, c2⟩ := hc k
  have b1 := mul_bd (A := 1073741824) (B := 4096) h.1 c1
  have b2 := mul_bd (A := 1073741824) (B := 4096) h.2 c2
  unfold pr; omega
theorem loT_bd {v : Int × Int} {ps : List (Int × Int)} (h : Vc v) (hc : Cos ps) : ∀ k, -8796093022208 ≤ loT v ps k ∧ loT v ps k ≤ 8796093022208
  | 0 => pr_bd h hc 0
  | k + 1 => by have := loT_bd h hc k; have := pr_bd h hc (k + 1); unfold loT; omega
theorem hiT_bd {v : Int × Int} {ps : List (Int × Int)} (h : Vc v) (hc : Cos ps) : ∀ k, -8796093022208 ≤ hiT v ps k ∧ hiT v ps k ≤ 8796093022208
  | 0 => pr_bd h hc 0
  | k + 1 => by have := hiT_bd h hc k; have := pr_bd h hc (k + 1); unfold hiT; omega

set_option maxRecDepth 100000 in
set_option maxHeartbeats 1000000 in
theorem reach_any (g n c : Nat) (ps : List (Int × Int)) (u v : Int) (w : World) (hn : ps.length = n) (h1 : 1 ≤ n) (hl : n ≤ 1048576) (hc : n ≤ c) (hp : Pts w (some ⟨g, 0, none⟩) ps) (hv : Cos ps) (hV : Vc (u, v)) :
    Calls Try.prog 61 #[.slice (some ⟨g, 0, none⟩) n c, .agg #[.int .i64 u, .int .i64 v]] w fun e w' => e = .returned (.tuple #[.int .i64 (loL (u, v) ps), .int .i64 (hiL (u, v) ps)]) ∧ Gr w w' := by
  have HN := Lib.hid hn
  have HV := Lib.hid hv
  have HVV := Lib.hid hV
  obtain ⟨b', o', e', x0, x1⟩ := Pts_at hp (k := 0) (by omega)
  obtain ⟨rfl, rfl⟩ : g = b' ∧ 0 = o' := by simpa using e'
  simp only [Nat.zero_add, Nat.zero_mul] at x0 x1
  have HP := Lib.hid hp
  have HL0 : Hid (loT (u, v) ps 0 = pr (u, v) (ps.getD 0 (0, 0))) := Lib.hid rfl
  have HH0 : Hid (hiT (u, v) ps 0 = pr (u, v) (ps.getD 0 (0, 0))) := Lib.hid rfl
  obtain ⟨a0, a1⟩ := hv 0
  have hpr : pr (u, v) (ps.getD 0 (0, 0)) = u * (ps.getD 0 (0, 0)).1 + v * (ps.getD 0 (0, 0)).2 := rfl
  rw [hpr] at HL0 HH0
  clear hpr
  obtain ⟨⟨u1, u2⟩, v1, v2⟩ := hV
  dsimp only at u1 u2 v1 v2
  generalize ps.getD 0 (0, 0) = p at x0 x1 a0 a1 HL0 HH0
  obtain ⟨x, y⟩ := p
  dsimp only at x0 x1 a0 a1 HL0 HH0
  unfold Co at a0 a1
  have b1 := mul_bd (A := 1073741824) (B := 4096) ⟨u1, u2⟩ a0
  have b2 := mul_bd (A := 1073741824) (B := 4096) ⟨v1, v2⟩ a1
  have w1 : IntKind.i64.wrap (u * x) = u * x := IntWalk.i64_in _ (by omega)
  have w2 : IntKind.i64.wrap (v * y) = v * y := IntWalk.i64_in _ (by omega)
  have w3 : IntKind.i64.wrap (u * x + v * y) = u * x + v * y := IntWalk.i64_in _ (by omega)
  have n1 : (0 : Int) < n := by omega
  have n2 : 0 < n := by omega
  clear hn hp hv e'
  go_enter Try.func61, Try.ntmps61
  go_wp2_with fail
  generalize hW : World.alloc w _ = W
  have hgW : Gr w W := by rw [← hW]; exact (Gr.refl _).alloc _
  have c0 : W.cell? ⟨w.heap.size, 0, none⟩ = some (.int .i64 u) := by rw [← hW]; exact alloc_new rfl rfl
  have c1 : W.cell? ⟨w.heap.size, 1, none⟩ = some (.int .i64 v) := by rw [← hW]; exact alloc_new rfl rfl
  replace x0 := hgW.keep x0
  replace x1 := hgW.keep x1
  clear hW
  go_quiet (fail)
  generalize hW : World.drewN W _ = W2
  have hg2 : Gr W W2 := by rw [← hW]; exact (Gr.refl _).drewN _
  replace c0 := hg2.keep c0
  replace c1 := hg2.keep c1
  replace hgW := hgW.trans hg2
  clear hW x0 x1 w1 w2 w3 hg2
  rw [← HL0.out]
  go_wp2_with fail
  · go_loopw [4, 5, 28] (fun lo hi i wr => ∃ k : Nat, k + 1 ≤ n ∧ i = .int .i64 k ∧ lo = .int .i64 (loT (u, v) ps k) ∧ hi = .int .i64 (hiT (u, v) ps k) ∧ Gr W2 wr) (fun _ _ i _ => n - (intOf i).toNat)
    case atStart => exact ⟨0, by omega, rfl, rfl, congrArg (Value.int .i64) (HL0.out.trans HH0.out.symm), Gr.refl _⟩
    case round =>
      obtain ⟨k, hk, rfl, rfl, rfl, hg⟩ := hrel
      · have hkn : k = n - 1 := by omega
        go_wp2_with fail
        go_ret2
        refine ⟨?_, hgW.trans hg⟩
        unfold loL hiL
        rw [HN.out, ← hkn]
        rfl
  · go_loopw [4, 5, 28] (fun lo hi i wr => ∃ k : Nat, k + 1 ≤ n ∧ i = .int .i64 k ∧ lo = .int .i64 (loT (u, v) ps k) ∧ hi = .int .i64 (hiT (u, v) ps k) ∧ Gr W2 wr) (fun _ _ i _ => n - (intOf i).toNat)
    case atStart => exact ⟨0, by omega, rfl, rfl, congrArg (Value.int .i64) (HL0.out.trans HH0.out.symm), Gr.refl _⟩
    case round =>
      obtain ⟨k, hk, rfl, rfl, rfl, hg⟩ := hrel
      by_cases hlt : k + 1 < n
      · obtain ⟨b', o', e', z0, z1⟩ := Pts_at (HP.out.keep (hgW.trans hg)) (k := k + 1) (by have := HN.out; omega)
        obtain ⟨rfl, rfl⟩ : g = b' ∧ 0 = o' := by simpa using e'
        clear e'
        rw [show 0 + (k + 1) * 2 = 2 + k * 2 by omega] at z0 z1
        have d0 : ∀ o, (wr.alloc o).cell? ⟨w.heap.size, 0, none⟩ = some (.int .i64 u) := fun o => alloc_old (hg.keep c0)
        have d1 : ∀ o, (wr.alloc o).cell? ⟨w.heap.size, 1, none⟩ = some (.int .i64 v) := fun o => alloc_old (hg.keep c1)
        have q1 := pr_bd HVV.out HV.out (k + 1)
        have q2 := loT_bd HVV.out HV.out k
        have q3 := hiT_bd HVV.out HV.out k
        have HS1 : Hid (loT (u, v) ps (k + 1) = min (loT (u, v) ps k) (u * (ps.getD (k + 1) (0, 0)).1 + v * (ps.getD (k + 1) (0, 0)).2)) := Lib.hid rfl
        have HS2 : Hid (hiT (u, v) ps (k + 1) = max (hiT (u, v) ps k) (u * (ps.getD (k + 1) (0, 0)).1 + v * (ps.getD (k + 1) (0, 0)).2)) := Lib.hid rfl
        have hpr : pr (u, v) (ps.getD (k + 1) (0, 0)) = u * (ps.getD (k + 1) (0, 0)).1 + v * (ps.getD (k + 1) (0, 0)).2 := rfl
        rw [hpr] at q1
        clear hpr
        obtain ⟨g0, g1⟩ := HV.out (k + 1)
        generalize loT (u, v) ps k = lo at q2 HS1 ⊢
        generalize hiT (u, v) ps k = hi at q3 HS2 ⊢
        generalize ps.getD (k + 1) (0, 0) = q at z0 z1 q1 g0 g1 HS1 HS2
        obtain ⟨x', y'⟩ := q
        dsimp only at z0 z1 q1 g0 g1 HS1 HS2
        unfold Co at g0 g1
        have f1 := mul_bd (A := 1073741824) (B := 4096) ⟨u1, u2⟩ g0
        have f2 := mul_bd (A := 1073741824) (B := 4096) ⟨v1, v2⟩ g1
        go_wp2_with fail
        go_roundw
        case rel => exact ⟨k + 1, by omega, by go_num, congrArg (Value.int .i64) HS1.out.symm, congrArg (Value.int .i64) HS2.out.symm, hg.alloc _⟩
        case measure => simp [intOf]; omega
      · have hkn : k = n - 1 := by omega
        go_wp2_with fail
        go_ret2
        refine ⟨?_, hgW.trans hg⟩
        unfold loL hiL
        rw [HN.out, ← hkn]
        rfl

end Go.Proofs.Ythleajmamkihaaa
