/- Layer 5: deals that turn, and deals that end. -/
import Derived.Test.YtnoeiocbmhkmeaaPtF
namespace Go.Proofs.Ytnoeiocbmhkmeaa
open Go.RowKit
open Go.Maps (Keyed)
set_option linter.unusedSimpArgs false

theorem Mp.swap {α β : Type} {P : Program} {k : TypeId} {K : α → Value} {V : β → Value} {w : World} {g : Nat} {l l' : List (α × β)} (h : Mp P k K V w g l) (hm : l'.map (fun p => (K p.1, V p.2)) = l.map (fun p => (K p.1, V p.2))) : Mp P k K V w g l' := by
  obtain ⟨es, clock, h1, h2, h3, h4⟩ := h
  refine ⟨es, clock, h1, h2, h3.trans hm.symm, fun p hp => ?_⟩
  have h5 : (K p.1, V p.2) ∈ l.map (fun p => (K p.1, V p.2)) := by rw [← hm]; exact List.mem_map_of_mem hp
  obtain ⟨q, hq, e⟩ := List.mem_map.1 h5
  obtain ⟨kl, hk⟩ := h4 q hq
  injection e with e1 e2
  exact ⟨kl, by rw [← e1]; exact hk⟩
theorem mget_split {β : Type} {l : List (Int × β)} {a : Int} {x : β} (hp : l.Pairwise (fun p q => p.1 ≠ q.1)) (h : mget l a = some x) : ∃ l1 l2, l = l1 ++ (a, x) :: l2 ∧ mdel l a = l1 ++ l2 := by
  obtain ⟨l1, l2, rfl⟩ := List.append_of_mem (mget_some h)
  refine ⟨l1, l2, rfl, ?_⟩
  obtain ⟨-, h2, h3⟩ := List.pairwise_append.1 hp
  obtain ⟨h4, -⟩ := List.pairwise_cons.1 h2
  unfold mdel
  rw [List.filter_append, List.filter_cons_of_neg (by simp)]
  have e1 : l1.filter (fun p => !decide (p.1 = a)) = l1 := List.filter_eq_self.2 (fun p hp => by simpa using h3 p hp (a, x) List.mem_cons_self)
  have e2 : l2.filter (fun p => !decide (p.1 = a)) = l2 := List.filter_eq_self.2 (fun p hp => by simpa using (h4 p hp).symm)
  rw [e1, e2]
section
variable {B : Nat} {w w1 : World} {s : Sx} {tx : Int} {d : Dl} {l1 l2 : List (Int × Dl)} {x : List (Int × Bool)}
theorem dlV_miss (d : Dl) (x : List (Int × Bool)) : dlV { d with miss := x } = dlV d := rfl
/-- A granted deal's map turns. -/
theorem siteMissG (h : Its B w (siteIt s)) (hs : s.grt = l1 ++ (tx, d) :: l2) (hb : Gb d.g w w1) (hm : Mp Try.prog 3 intK boolV w1 d.g x) : Its B w1 (siteIt { s with grt := l1 ++ (tx, { d with miss := x }) :: l2 }) := by
  have h2 : Its B w (([(s.p, .cells 81 (siteCs s)), (s.mp, .proms s.prom), (s.mq, .bools s.kept), (s.mr, .bools s.drop), (s.mo, .deals s.opn), (s.mg, .deals s.grt)] ++ (s.opn.flatMap dlIt ++ l1.flatMap dlIt) ++ [(d.b, .moves d.parts)]) ++ [(d.g, .bools d.miss)] ++ l2.flatMap dlIt) := by
    unfold siteIt at h
    rw [hs, List.flatMap_append, List.flatMap_cons] at h
    rw [hs]
    simpa [dlIt] using h
  have h3 := h2.turn (D' := .bools x) hb hm
  have h4 : Its B w1 ([(s.p, .cells 81 (siteCs s)), (s.mp, .proms s.prom), (s.mq, .bools s.kept), (s.mr, .bools s.drop), (s.mo, .deals s.opn)] ++ [(s.mg, .deals s.grt)] ++ ((s.opn.flatMap dlIt ++ l1.flatMap dlIt) ++ [(d.b, .moves d.parts)] ++ [(d.g, .bools x)] ++ l2.flatMap dlIt)) := by
    simpa using h3
  have h5 : Mp Try.prog 3 intK dlV w1 s.mg s.grt := h4.at (D := .deals _) (by simp)
  have h6 := h4.turn (D' := .deals (l1 ++ (tx, { d with miss := x }) :: l2)) (Gb.refl _ _) (h5.swap (by rw [hs]; simp [dlV]))
  unfold siteIt
  simpa [dlIt, siteCs] using h6
theorem siteMissO (h : Its B w (siteIt s)) (hs : s.opn = l1 ++ (tx, d) :: l2) (hb : Gb d.g w w1) (hm : Mp Try.prog 3 intK boolV w1 d.g x) : Its B w1 (siteIt { s with opn := l1 ++ (tx, { d with miss := x }) :: l2 }) := by
  have h2 : Its B w (([(s.p, .cells 81 (siteCs s)), (s.mp, .proms s.prom), (s.mq, .bools s.kept), (s.mr, .bools s.drop), (s.mo, .deals s.opn), (s.mg, .deals s.grt)] ++ l1.flatMap dlIt ++ [(d.b, .moves d.parts)]) ++ [(d.g, .bools d.miss)] ++ (l2.flatMap dlIt ++ s.grt.flatMap dlIt)) := by
    unfold siteIt at h
    rw [hs, List.flatMap_append, List.flatMap_cons] at h
    rw [hs]
    simpa [dlIt] using h
  have h3 := h2.turn (D' := .bools x) hb hm
  have h4 : Its B w1 ([(s.p, .cells 81 (siteCs s)), (s.mp, .proms s.prom), (s.mq, .bools s.kept), (s.mr, .bools s.drop)] ++ [(s.mo, .deals s.opn)] ++ ([(s.mg, .deals s.grt)] ++ l1.flatMap dlIt ++ [(d.b, .moves d.parts)] ++ [(d.g, .bools x)] ++ (l2.flatMap dlIt ++ s.grt.flatMap dlIt))) := by
    simpa using h3
  have h5 : Mp Try.prog 3 intK dlV w1 s.mo s.opn := h4.at (D := .deals _) (by simp)
  have h6 := h4.turn (D' := .deals (l1 ++ (tx, { d with miss := x }) :: l2)) (Gb.refl _ _) (h5.swap (by rw [hs]; simp [dlV]))
  unfold siteIt
  simpa [dlIt, siteCs] using h6
/-- A granted deal ends. -/
theorem siteUngrant (h : Its B w (siteIt s)) (hs : s.grt = l1 ++ (tx, d) :: l2) (hb : Gb s.mg w w1) (hm : Mp Try.prog 3 intK dlV w1 s.mg (l1 ++ l2)) : Its B w1 (siteIt { s with grt := l1 ++ l2 }) := by
  have h2 : Its B w ([(s.p, .cells 81 (siteCs s)), (s.mp, .proms s.prom), (s.mq, .bools s.kept), (s.mr, .bools s.drop), (s.mo, .deals s.opn)] ++ [(s.mg, .deals s.grt)] ++ ((s.opn.flatMap dlIt ++ l1.flatMap dlIt) ++ dlIt (tx, d) ++ l2.flatMap dlIt)) := by
    unfold siteIt at h
    rw [hs, List.flatMap_append, List.flatMap_cons] at h
    rw [hs]
    simpa using h
  have h3 := h2.turn (D' := .deals (l1 ++ l2)) hb hm
  have h4 : Its B w1 (([(s.p, .cells 81 (siteCs s)), (s.mp, .proms s.prom), (s.mq, .bools s.kept), (s.mr, .bools s.drop), (s.mo, .deals s.opn), (s.mg, .deals (l1 ++ l2))] ++ (s.opn.flatMap dlIt ++ l1.flatMap dlIt)) ++ dlIt (tx, d) ++ l2.flatMap dlIt) := by
    simpa using h3
  have h5 := h4.less
  unfold siteIt
  simpa [siteCs] using h5
theorem siteUnopen (h : Its B w (siteIt s)) (hs : s.opn = l1 ++ (tx, d) :: l2) (hb : Gb s.mo w w1) (hm : Mp Try.prog 3 intK dlV w1 s.mo (l1 ++ l2)) : Its B w1 (siteIt { s with opn := l1 ++ l2 }) := by
  have h2 : Its B w ([(s.p, .cells 81 (siteCs s)), (s.mp, .proms s.prom), (s.mq, .bools s.kept), (s.mr, .bools s.drop)] ++ [(s.mo, .deals s.opn)] ++ ([(s.mg, .deals s.grt)] ++ l1.flatMap dlIt ++ dlIt (tx, d) ++ (l2.flatMap dlIt ++ s.grt.flatMap dlIt))) := by
    unfold siteIt at h
    rw [hs, List.flatMap_append, List.flatMap_cons] at h
    rw [hs]
    simpa using h
  have h3 := h2.turn (D' := .deals (l1 ++ l2)) hb hm
  have h4 : Its B w1 (([(s.p, .cells 81 (siteCs s)), (s.mp, .proms s.prom), (s.mq, .bools s.kept), (s.mr, .bools s.drop), (s.mo, .deals (l1 ++ l2)), (s.mg, .deals s.grt)] ++ l1.flatMap dlIt) ++ dlIt (tx, d) ++ (l2.flatMap dlIt ++ s.grt.flatMap dlIt)) := by
    simpa using h3
  have h5 := h4.less
  unfold siteIt
  simpa [siteCs] using h5
end
def zeroD : Value := .agg #[.slice none 0 0, .map none]
theorem look_deal {w : World} {g : Nat} {l : List (Int × Dl)} {tx : Int} (h : Mp Try.prog 3 intK dlV w g l) (htx : I64 tx) : (Instr.lookup 79 (.map (some g)) (.int .i64 tx) true).run Try.prog w = .ok (.tuple #[((mget l tx).map dlV).getD zeroD, .bool (mget l tx).isSome]) w := by
  obtain ⟨kl, hk⟩ := intp_key htx
  have := h.look intK_inj intp_law Try.underlying79 (z := zeroD) (by kernel_rfl) true hk
  rw [show (.int .i64 tx : Value) = intK tx from rfl, this]
  cases mget l tx <;> rfl

end Go.Proofs.Ytnoeiocbmhkmeaa
