/- Layer 4: a network as the set of its arcs. -/
import Derived.Test.YtfmojiaaoebodaaBnJoin
import Derived.Test.YtfmojiaaoebodaaBnFill
namespace Go.Proofs.Ytfmojiaaoebodaa
open Go.RowKit
set_option linter.unusedSimpArgs false

/-- Only the arcs of D have room. -/
noncomputable def rD (D : Nat → Nat → Prop) (C : Nat → Nat → Int) : Nat → Nat → Int := open Classical in fun u v => if D u v then C u v else 0
def orD (D : Nat → Nat → Prop) (a b : Nat) : Nat → Nat → Prop := fun u v => D u v ∨ (u = a ∧ v = b)
theorem rD_set (D : Nat → Nat → Prop) (C : Nat → Nat → Int) (a b : Nat) : setR (rD D C) a b (C a b) = rD (orD D a b) C := by
  funext u v
  unfold setR rD orD
  by_cases e : u = a ∧ v = b
  · rw [if_pos e, if_pos (Or.inr e), e.1, e.2]
  · rw [if_neg e]
    by_cases d : D u v
    · rw [if_pos d, if_pos (Or.inl d)]
    · rw [if_neg d, if_neg (by rintro (h | h); exact d h; exact e h)]
/-- The lists have the arcs, both ways. -/
structure NxD (N : Nat) (D : Nat → Nat → Prop) (nx : Nat → List Nat) (cnt : Nat) : Prop where
  both : ∀ u v, D u v → v ∈ nx u ∧ u ∈ nx v
  lt : ∀ u, u < N → ∀ v ∈ nx u, v < N
  len : ∀ u, (nx u).length ≤ cnt
theorem NxD.add {N : Nat} {D : Nat → Nat → Prop} {nx : Nat → List Nat} {cnt : Nat} (h : NxD N D nx cnt) {a b : Nat} (ha : a < N) (hb : b < N) (hab : a ≠ b) : NxD N (orD D a b) (addN nx a b) (cnt + 1) := by
  have hmem : ∀ u v, v ∈ nx u → v ∈ addN nx a b u := fun u v hv => by
    unfold addN
    split
    · rename_i e; rw [e] at hv; exact List.mem_append.2 (Or.inl hv)
    · split
      · rename_i e; rw [e] at hv; exact List.mem_append.2 (Or.inl hv)
      · exact hv
  refine ⟨fun u v hd => ?_, fun u hu v hv => ?_, fun u => ?_⟩
  · rcases hd with hd | ⟨rfl, rfl⟩
    · exact ⟨hmem _ _ (h.both u v hd).1, hmem _ _ (h.both u v hd).2⟩
    · constructor
      · unfold addN; rw [if_neg hab, if_pos rfl]; simp
      · unfold addN; rw [if_pos rfl]; simp
  · unfold addN at hv
    split at hv
    · rcases List.mem_append.1 hv with hv | hv
      · exact h.lt b hb v hv
      · simp at hv; omega
    · split at hv
      · rcases List.mem_append.1 hv with hv | hv
        · exact h.lt a ha v hv
        · simp at hv; omega
      · exact h.lt u hu v hv
  · unfold addN
    have h1 := h.len u
    have h2 := h.len a
    have h3 := h.len b
    split
    · rw [List.length_append]; simp; omega
    · split
      · rw [List.length_append]; simp; omega
      · omega
/-- The network that has the arcs D, each with as much room as C says. -/
def NetD (b0 : Nat) (w : World) (g m h N : Nat) (D : Nat → Nat → Prop) (C : Nat → Nat → Int) (cnt : Nat) : Prop :=
  ∃ nx vs, NetW b0 w g m h N nx vs ∧ RM w m (rD D C) ∧ NxD N D nx cnt
theorem NetD.keep {b0 : Nat} {w w' : World} {g m h N : Nat} {D : Nat → Nat → Prop} {C : Nat → Nat → Int} {cnt : Nat} (k : NetD b0 w g m h N D C cnt) (hg : Gr w w') : NetD b0 w' g m h N D C cnt := by
  obtain ⟨nx, vs, h1, h2, h3⟩ := k
  exact ⟨nx, vs, h1.keep hg, h2.keep hg, h3⟩
theorem NetD.more {b0 : Nat} {w : World} {g m h N : Nat} {D : Nat → Nat → Prop} {C : Nat → Nat → Int} {cnt cnt' : Nat} (k : NetD b0 w g m h N D C cnt) (hc : cnt ≤ cnt') : NetD b0 w g m h N D C cnt' := by
  obtain ⟨nx, vs, h1, h2, h3⟩ := k
  exact ⟨nx, vs, h1, h2, h3.both, h3.lt, fun u => Nat.le_trans (h3.len u) hc⟩
theorem NetD.same {b0 : Nat} {w : World} {g m h N : Nat} {D D' : Nat → Nat → Prop} {C : Nat → Nat → Int} {cnt : Nat} (k : NetD b0 w g m h N D C cnt) (hd : ∀ u v, D u v ↔ D' u v) : NetD b0 w g m h N D' C cnt := by
  have : D = D' := by funext u v; exact propext (hd u v)
  rw [← this]; exact k
theorem NetD.nil {b0 : Nat} {w : World} {g m h N : Nat} {vs : Nat → Value} (C : Nat → Nat → Int) (k : NetW b0 w g m h N (fun _ => []) vs) (hr : RM w m (fun _ _ => 0)) : NetD b0 w g m h N (fun _ _ => False) C 0 := by
  refine ⟨_, vs, k, ?_, fun u v hd => hd.elim, fun u _ v hv => by simp at hv, fun u => by simp⟩
  have : rD (fun _ _ => False) C = fun _ _ => 0 := by funext u v; simp [rD]
  rw [this]; exact hr

theorem joinD_any {b0 : Nat} {w : World} {g m h N : Nat} {D : Nat → Nat → Prop} {C : Nat → Nat → Int} {cnt : Nat} (k : NetD b0 w g m h N D C cnt) (a b : Nat) (x : Int) (hx : x = C a b) (hN : N ≤ 4096) (ha : a < N) (hb : b < N) (hab : a ≠ b) (hc : cnt ≤ 4095) :
    Calls Try.prog 35 #[.pointer (some ⟨g, 0, none⟩), .int .i64 (a : Int), .int .i64 (b : Int), .int .i64 x] w fun e w' => e = .returned (.tuple #[]) ∧ NetD b0 w' g m h N (orD D a b) C (cnt + 1) ∧ Gn b0 w w' := by
  obtain ⟨nx, vs, h1, h2, h3⟩ := k
  subst hx
  refine (join_any b0 g m h N nx vs _ a b (C a b) w hN ha hb hab (by have := h3.len a; omega) (by have := h3.len b; omega) h1 h2).mono ?_
  rintro e w' ⟨rfl, vs', k1, k2, k3⟩
  exact ⟨rfl, ⟨_, vs', k1, by rw [← rD_set]; exact k2, h3.add ha hb hab⟩, k3⟩

/-- What fill asks of it, and what it leaves. -/
theorem fillD_any {b0 : Nat} {w : World} {g m h N : Nat} {D : Nat → Nat → Prop} {C : Nat → Nat → Int} {cnt : Nat} (k : NetD b0 w g m h N D C cnt) (lim : Int) (hN2 : 2 ≤ N) (hN : N ≤ 4096) (hc : cnt ≤ 4096) (hp : ∀ a b, 0 ≤ C a b) (hC : ∀ a b, C a b ≤ 549755813888) (hl : cnt = 0 ∨ 1 ≤ lim) (hl2 : lim ≤ 1099511627776) :
    Calls Try.prog 39 #[.pointer (some ⟨g, 0, none⟩), .int .i64 lim] w fun e w' => ∃ nx fb F r', e = .returned (.map (some fb)) ∧ w.heap.size ≤ fb ∧ FM w' fb F ∧ RM w' m r' ∧ Found r' nx N F ∧ F 1 = none ∧ Flowed N (rD D C) r' ∧ NxD N D nx cnt ∧ Gb m w w' := by
  obtain ⟨nx, vs, h1, h2, h3⟩ := k
  have hb : ∀ a b, 0 ≤ rD D C a b ∧ rD D C a b ≤ 549755813888 := fun a b => by
    unfold rD
    split
    · exact ⟨hp a b, hC a b⟩
    · omega
  refine (fillN_any g m h N nx ⟨hN2, hN, h3.lt, fun u _ => by have := h3.len u; omega⟩ (rD D C) lim w h1.read h2 (fun a b => (hb a b).1) (fun a b => by have := hb a b; have := hb b a; omega) (hl.imp (fun e => List.eq_nil_of_length_eq_zero (by have := h3.len 0; omega)) id) hl2).mono ?_
  rintro e w' ⟨fb, F, r', rfl, k1, k2, k3, k4, k5, k6, k7⟩
  exact ⟨nx, fb, F, r', rfl, k1, k2, k3, k4, k5, k6, h3, k7⟩

set_option maxRecDepth 100000 in
set_option maxHeartbeats 1000000 in
theorem length_any (x y : Int) (w : World) (h : IntKind.i64.wrap (y - x) = y - x) : Calls Try.prog 38 #[.agg #[.int .i64 x, .int .i64 y]] w fun e w' => e = .returned (.int .i64 (y - x)) ∧ Gr w w' := by
  go_enter Try.func38, Try.ntmps38
  go_wp2_with fail
  go_ret
  exact ⟨rfl, (Gr.refl w).alloc _⟩
set_option maxRecDepth 100000 in
set_option maxHeartbeats 1000000 in
theorem jobNode_any (p : Value) (j : Nat) (w : World) (h : j ≤ 4096) : Calls Try.prog 36 #[p, .int .i64 (j : Int)] w fun e w' => e = .returned (.int .i64 (2 + (j : Int))) ∧ w' = w := by
  go_enter Try.func36, Try.ntmps36
  go_wp2_with fail
  go_ret
  exact ⟨rfl, rfl⟩
set_option maxRecDepth 100000 in
set_option maxHeartbeats 1000000 in
theorem spanNode_any (p : Nat) (A : Option Addr) (n c s : Nat) (w : World) (hn : n ≤ 4096) (h : s ≤ 4096) (hc : w.cell? ⟨p, 2, none⟩ = some (.slice A n c)) : Calls Try.prog 37 #[.pointer (some ⟨p, 0, none⟩), .int .i64 (s : Int)] w fun e w' => e = .returned (.int .i64 (2 + (n : Int) + (s : Int))) ∧ w' = w := by
  go_enter Try.func37, Try.ntmps37
  go_wp2_with fail
  go_ret
  exact ⟨rfl, rfl⟩

end Go.Proofs.Ytfmojiaaoebodaa
