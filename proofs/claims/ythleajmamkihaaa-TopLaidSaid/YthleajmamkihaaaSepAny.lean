/- Separate, by what it says. -/
import Derived.Test.YthleajmamkihaaaMeetsM
import Derived.Test.YthleajmamkihaaaSeparate
namespace Go.Proofs.Ythleajmamkihaaa
open Go.RowKit
set_option linter.unusedSimpArgs false

theorem Separate_m (A B : Option Addr) (n c n' c' : Nat) (ps qs : List (Int × Int)) (m : Bool) (w : World) (hn : ps.length = n) (hn' : qs.length = n') (h1 : 1 ≤ n) (h1' : 1 ≤ n') (hl : n ≤ 512) (hl' : n' ≤ 512)
    (hp : Pts w A ps) (hq : Pts w B qs) (hv : (ps.all fun p => vld p.1 p.2) = true) (hv' : (qs.all fun p => vld p.1 p.2) = true) (hm : (sepT (cornersL ps) (cornersL qs)).m = m) :
    Calls Try.prog 28 #[.slice A n c, .slice B n' c'] w fun e w' => ∃ x y d u v t, e = .returned (.tuple #[.agg #[.bool m, .int .i64 x, .int .i64 y, .int .i64 d, .int .i64 u, .int .i64 v, .int .i64 t], .int .i64 0]) ∧ sepT (cornersL ps) (cornersL qs) = ⟨m, x, y, d, u, v, t⟩ ∧ Gr w w' := by
  refine (Separate_yes A B n c n' c' ps qs w hn hn' h1 h1' hl hl' hp hq hv hv').mono fun e w' ⟨he, hg⟩ => ?_
  rw [sep_val] at he
  generalize sepT (cornersL ps) (cornersL qs) = T at he hm ⊢
  obtain ⟨m', x, y, d, u, v, t⟩ := T
  dsimp only at hm
  subst hm
  exact ⟨x, y, d, u, v, t, he, rfl, hg⟩
theorem box7a {w W : World} {t : TypeId} {a0 a1 a2 a3 a4 a5 a6 : Value} (hW : w.alloc (.cells #[a0, a1, a2, a3, a4, a5, a6] t) = W) : Gr w W ∧ Blk W w.heap.size t #[a0, a1, a2, a3, a4, a5, a6] := by
  subst hW; exact ⟨(Gr.refl _).alloc _, heap_alloc_new w _⟩

end Go.Proofs.Ythleajmamkihaaa
