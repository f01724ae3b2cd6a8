/- Layer 5: new sites. -/
import Derived.Test.YtnoeiocbmhkmeaaPtA
namespace Go.Proofs.Ytnoeiocbmhkmeaa
open Go.RowKit
set_option linter.unusedSimpArgs false

set_option maxRecDepth 100000 in
theorem newSite_any (i st : Int) (w : World) {B : Nat} (hB : B ≤ w.heap.size) : Calls Try.prog 35 #[.int .i64 i, .int .i64 st] w fun e w' => ∃ s : Sx, e = .returned (.pointer (some ⟨s.p, 0, none⟩)) ∧ Its B w' (siteIt s) ∧
    ((s.num = i ∧ s.stock = st ∧ s.up = true) ∧ s.prom = [] ∧ s.kept = [] ∧ s.drop = [] ∧ s.opn = [] ∧ s.grt = []) ∧ (∀ g ∈ blks (siteIt s), w.heap.size ≤ g) ∧ Gr w w' := by
  have hmm := @run_makeMap Try.prog
  go_enter Try.func35, Try.ntmps35
  go_wp2_with (simp only [hmm])
  go_ret
  obtain ⟨w1, h1⟩ : ∃ w1, w.alloc (.map #[] 0) = w1 := ⟨_, rfl⟩
  rw [h1]
  have m1 : ∀ {β : Type} (V : β → Value), Mp Try.prog 3 intK V w1 w.heap.size ([] : List (Int × β)) := fun V => by rw [← h1]; exact Mp_made w
  have z1 : w1.heap.size = w.heap.size + 1 := by rw [← h1]; simp
  have g1 : Gr w w1 := by rw [← h1]; exact (Gr.refl w).alloc _
  obtain ⟨w2, h2⟩ : ∃ w2, w1.alloc (.map #[] 0) = w2 := ⟨_, rfl⟩
  rw [h2]
  have m2 : ∀ {β : Type} (V : β → Value), Mp Try.prog 3 intK V w2 w1.heap.size ([] : List (Int × β)) := fun V => by rw [← h2]; exact Mp_made w1
  have z2 : w2.heap.size = w1.heap.size + 1 := by rw [← h2]; simp
  have g2 : Gr w1 w2 := by rw [← h2]; exact (Gr.refl w1).alloc _
  obtain ⟨w3, h3⟩ : ∃ w3, w2.alloc (.map #[] 0) = w3 := ⟨_, rfl⟩
  rw [h3]
  have m3 : ∀ {β : Type} (V : β → Value), Mp Try.prog 3 intK V w3 w2.heap.size ([] : List (Int × β)) := fun V => by rw [← h3]; exact Mp_made w2
  have z3 : w3.heap.size = w2.heap.size + 1 := by rw [← h3]; simp
  have g3 : Gr w2 w3 := by rw [← h3]; exact (Gr.refl w2).alloc _
  obtain ⟨w4, h4⟩ : ∃ w4, w3.alloc (.map #[] 0) = w4 := ⟨_, rfl⟩
  rw [h4]
  have m4 : ∀ {β : Type} (V : β → Value), Mp Try.prog 3 intK V w4 w3.heap.size ([] : List (Int × β)) := fun V => by rw [← h4]; exact Mp_made w3
  have z4 : w4.heap.size = w3.heap.size + 1 := by rw [← h4]; simp
  have g4 : Gr w3 w4 := by rw [← h4]; exact (Gr.refl w3).alloc _
  obtain ⟨w5, h5⟩ : ∃ w5, w4.alloc (.map #[] 0) = w5 := ⟨_, rfl⟩
  rw [h5]
  have m5 : ∀ {β : Type} (V : β → Value), Mp Try.prog 3 intK V w5 w4.heap.size ([] : List (Int × β)) := fun V => by rw [← h5]; exact Mp_made w4
  have z5 : w5.heap.size = w4.heap.size + 1 := by rw [← h5]; simp
  have g5 : Gr w4 w5 := by rw [← h5]; exact (Gr.refl w4).alloc _
  obtain ⟨w6, h6⟩ : ∃ w6, w5.alloc (.cells #[.int .i64 i, .int .i64 st, .bool true, .map (some w.heap.size), .map (some (w.heap.size + 1)), .map (some (w.heap.size + 1 + 1)), .map (some (w.heap.size + 1 + 1 + 1)), .map (some (w.heap.size + 1 + 1 + 1 + 1))] 81) = w6 := ⟨_, rfl⟩
  rw [h6]
  have hb : Blk w6 (w.heap.size + 1 + 1 + 1 + 1 + 1) 81 #[.int .i64 i, .int .i64 st, .bool true, .map (some w.heap.size), .map (some (w.heap.size + 1)), .map (some (w.heap.size + 1 + 1)), .map (some (w.heap.size + 1 + 1 + 1)), .map (some (w.heap.size + 1 + 1 + 1 + 1))] := by rw [← h6]; exact Blk.new w5 _ _ (by omega)
  have g6 : Gr w5 w6 := by rw [← h6]; exact (Gr.refl w5).alloc _
  have k1 := fun {β : Type} (V : β → Value) => (m1 V).keep (((((g2.trans g3).trans g4).trans g5).trans g6))
  have k2 := fun {β : Type} (V : β → Value) => (m2 V).keep ((((g3.trans g4).trans g5).trans g6))
  have k3 := fun {β : Type} (V : β → Value) => (m3 V).keep (((g4.trans g5).trans g6))
  have k4 := fun {β : Type} (V : β → Value) => (m4 V).keep ((g5.trans g6))
  have k5 := fun {β : Type} (V : β → Value) => (m5 V).keep g6
  rw [z1] at k2
  rw [z2, z1] at k3
  rw [z3, z2, z1] at k4
  rw [z4, z3, z2, z1] at k5
  refine ⟨⟨i, st, true, [], [], [], [], [], w.heap.size + 1 + 1 + 1 + 1 + 1, w.heap.size, w.heap.size + 1, w.heap.size + 1 + 1, w.heap.size + 1 + 1 + 1, w.heap.size + 1 + 1 + 1 + 1⟩, rfl, ⟨?_, ?_⟩, ⟨⟨rfl, rfl, rfl⟩, rfl, rfl, rfl, rfl, rfl⟩, ?_, ((((g1.trans g2).trans g3).trans g4).trans g5).trans g6⟩
  · intro it hm
    simp only [siteIt, List.flatMap_nil, List.append_nil, List.mem_cons, List.not_mem_nil, or_false] at hm
    rcases hm with rfl | rfl | rfl | rfl | rfl | rfl
    · exact ⟨hb, by dsimp only; omega⟩
    · exact ⟨k1 promV, by dsimp only; omega⟩
    · exact ⟨k2 boolV, by dsimp only; omega⟩
    · exact ⟨k3 boolV, by dsimp only; omega⟩
    · exact ⟨k4 dlV, by dsimp only; omega⟩
    · exact ⟨k5 dlV, by dsimp only; omega⟩
  · simp [siteIt, blks]
    omega
  · intro g hg
    simp [siteIt, blks] at hg
    omega

theorem Try.infoPtS : (Try.prog.info? 69).map (fun i => (i.zero, i.size, i.bytes)) = some (some (.pointer none), 1, 8) := by kernel_rfl
/-- A new site. -/
structure NewS (i : Nat) (st : Int) (s : Sx) : Prop where
  num : s.num = i
  stock : s.stock = st
  up : s.up = true
  prom : s.prom = []
  kept : s.kept = []
  drop : s.drop = []
  opn : s.opn = []
  grt : s.grt = []
def NewL (l : List Int) (ss : List Sx) : Prop := ss.length = l.length ∧ ∀ i s x, ss[i]? = some s → l[i]? = some x → NewS i x s
def okStocks (l : List Int) : Bool := decide (1 ≤ l.length) && decide (l.length ≤ 8) && l.all fun x => decide (0 ≤ x) && decide (x ≤ 1099511627776)
/-- What New answers. -/
def NewP (l : List Int) (w : World) (e : Ending) (w' : World) : Prop :=
  (okStocks l = false ∧ e = .returned (.tuple #[.pointer none, .int .i64 2]) ∧ Gr w w') ∨
  (okStocks l = true ∧ ∃ N, e = .returned (.tuple #[.pointer (some ⟨N.p, 0, none⟩), .int .i64 0]) ∧ NetR w.heap.size w' N ∧ NewL l N.sites ∧ N.mail = [] ∧ N.begun = 0 ∧ Gr w w')
theorem NewL.snoc {l : List Int} {ss : List Sx} {k : Nat} {x : Int} {s : Sx} (h : NewL (l.take k) ss) (hk : k < l.length) (hx : l[k]? = some x) (hs : NewS k x s) : NewL (l.take (k + 1)) (ss ++ [s]) := by
  have hl : ss.length = k := by rw [h.1, List.length_take]; omega
  refine ⟨by rw [List.length_append, hl, List.length_take]; simp; omega, fun i t y ht hy => ?_⟩
  rcases Nat.lt_trichotomy i k with c | c | c
  · rw [List.getElem?_append_left (by omega)] at ht
    refine h.2 i t y ht ?_
    rw [List.getElem?_take, if_pos c]
    rw [List.getElem?_take, if_pos (by omega)] at hy
    exact hy
  · subst c
    rw [List.getElem?_append_right (by omega), hl] at ht
    rw [List.getElem?_take, if_pos (by omega), hx] at hy
    simp at ht
    injection hy with hy
    rw [← ht, ← hy]; exact hs
  · rw [List.getElem?_eq_none (by simp; omega)] at ht
    cases ht

end Go.Proofs.Ytnoeiocbmhkmeaa
