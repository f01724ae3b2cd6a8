/- Layer 4: what a plan is asked: isPossible, flow. -/
import Derived.Test.YtfmojiaaoebodaaBnPlanW
import Derived.Test.YtfmojiaaoebodaaBnCut
namespace Go.Proofs.Ytfmojiaaoebodaa
open Go.RowKit
set_option linter.unusedSimpArgs false

/-- A plan as it lies in memory. -/
structure PlanR (w : World) (p g m fb B : Nat) (A : Option Addr) (n c : Nat) (SA : Option Addr) (K sc : Nat) (T : List Int) (F : Nat → Option Nat) (r' : Nat → Nat → Int) : Prop where
  blk : Blk w p 63 #[.pointer (some ⟨g, 0, none⟩), .int .i64 (B : Int), .slice A n c, .slice SA K sc, .map (some fb)]
  g0 : w.cell? ⟨g, 0, none⟩ = some (.map (some m))
  sp : Pts w SA (spanL T)
  fm : FM w fb F
  rm : RM w m r'
theorem PlanR.keep {w w' : World} {p g m fb B : Nat} {A : Option Addr} {n c : Nat} {SA : Option Addr} {K sc : Nat} {T : List Int} {F : Nat → Option Nat} {r' : Nat → Nat → Int} (h : PlanR w p g m fb B A n c SA K sc T F r') (hg : Gr w w') : PlanR w' p g m fb B A n c SA K sc T F r' :=
  ⟨h.blk.keep hg, hg.keep h.g0, h.sp.keep hg, h.fm.keep hg, h.rm.keep hg⟩

/-- One entry: the source alone. -/
theorem FM.alone {w : World} {fb : Nat} {F : Nat → Option Nat} (h : FM w fb F) (h0 : F 0 = some 0) : ∃ l : List (Int × Int), Mp Try.prog 3 intV intV w fb l ∧ (l.length = 1 ↔ ∀ v, F v ≠ none → v = 0) := by
  obtain ⟨l, h1, h2, h3⟩ := h
  refine ⟨l, h1, ?_, ?_⟩
  · intro hl v hv
    obtain ⟨q, rfl⟩ : ∃ q, l = [q] := by
      match l, hl with
      | [q], _ => exact ⟨q, rfl⟩
    have a0 := h2 0
    rw [h0] at a0
    have e0 := mget_some a0
    simp only [List.mem_singleton] at e0
    obtain ⟨d, hd⟩ := Option.ne_none_iff_exists'.1 hv
    have av := h2 v
    rw [hd] at av
    have ev := mget_some av
    simp only [List.mem_singleton] at ev
    rw [← e0] at ev
    have := congrArg Prod.fst ev
    dsimp only at this
    omega
  · intro hall
    have hk : ∀ p ∈ l, p.1 = 0 := fun p hp => by
      have hg := mget_of h1.apart hp
      have hn := h3 p hp
      have a := h2 p.1.toNat
      rw [show ((p.1.toNat : Nat) : Int) = p.1 by omega, hg] at a
      have : F p.1.toNat ≠ none := fun e => by rw [e] at a; cases a
      have := hall _ this
      omega
    match l, h1.apart, hk with
    | [], _, _ => have := h2 0; rw [h0] at this; simp [mget] at this
    | [q], _, _ => rfl
    | q :: s :: r, hap, hk =>
      have hne := (List.pairwise_cons.1 hap).1 s (by simp)
      have e1 := hk q (by simp)
      have e2 := hk s (by simp)
      exact absurd (e1.trans e2.symm) hne

set_option maxRecDepth 100000 in
set_option maxHeartbeats 1000000 in
theorem isPossible_any {p g m fb B : Nat} {A : Option Addr} {n c : Nat} {SA : Option Addr} {K sc : Nat} {T : List Int} {F : Nat → Option Nat} {r' : Nat → Nat → Int} (w : World) (h : PlanR w p g m fb B A n c SA K sc T F r') (h0 : F 0 = some 0) :
    Calls Try.prog 26 #[.pointer (some ⟨p, 0, none⟩)] w fun e w' => ∃ b : Bool, e = .returned (.bool b) ∧ (b = true ↔ ∀ v, F v ≠ none → v = 0) ∧ w' = w := by
  obtain ⟨l, hl, hiff⟩ := h.fm.alone h0
  have HL := Lib.hid hl
  have HI := Lib.hid hiff
  have p4 := h.blk.cell 4
  clear h hl hiff
  go_enter Try.func26, Try.ntmps26
  obtain ⟨k, hk⟩ : ∃ k, l.length = k := ⟨_, rfl⟩
  have HK := Lib.hid hk
  clear hk
  go_wp2_with (first | (refine step_len rfl _ _ rfl HL.out _ Try.underlying61 rfl ?_; rw [HK.out]) | fail)
  go_ret
  refine ⟨_, rfl, ?_, rfl⟩
  rw [← HI.out, HK.out]
  simp; omega

set_option maxRecDepth 100000 in
set_option maxHeartbeats 4000000 in
theorem flow_any (g m : Nat) (r : Nat → Nat → Int) (u v : Nat) (w : World) (hu : u ≤ 4096) (hv : v ≤ 4096) (h0 : w.cell? ⟨g, 0, none⟩ = some (.map (some m))) (hr : RM w m r) :
    Calls Try.prog 54 #[.pointer (some ⟨g, 0, none⟩), .agg #[.int .i64 (u : Int), .int .i64 (v : Int)]] w fun e w' => e = .returned (.int .i64 (r v u)) ∧ Gr w w' := by
  have HR := Lib.hid hr
  have H0 := Lib.hid h0
  clear hr h0
  go_enter Try.func54, Try.ntmps54
  go_upto_region 1 with fail
  generalize hW1 : World.alloc w _ = w1
  have hg1 : Gr w w1 := by rw [← hW1]; exact (Gr.refl w).alloc _
  have hB : Blk w1 w.heap.size 86 #[.int .i64 (u : Int), .int .i64 (v : Int)] := by rw [← hW1]; exact heap_alloc_new w _
  generalize w.heap.size = Z at hB ⊢
  have n0 := hg1.keep H0.out
  have z0 := hB.cell 0
  have z1 := hB.cell 1
  have HR1 := Lib.hid (HR.out.keep hg1)
  have HL : Hid (∀ W, RM W m r → (Instr.lookup 82 (.map (some m)) (.agg #[.int .i64 (v : Int), .int .i64 (u : Int)]) false).run Try.prog W = .ok (.int .i64 (r v u)) W) := Lib.hid (fun W hW => hW.look (by unfold nodeB; omega) (by unfold nodeB; omega))
  clear hW1 hB
  refine wp_region_held_drew (S := (fun W' => W'.cell? ⟨g, 0, none⟩ = some (.map (some m)) ∧ W'.cell? ⟨Z, 0, none⟩ = some (.int .i64 (u : Int)) ∧ W'.cell? ⟨Z, 1, none⟩ = some (.int .i64 (v : Int)))) ?_ ?_ (fun hHeld => ?_)
  · kernel_rfl
  · ((try dsimp only); (first | exact hHeld | exact ⟨n0, z0, z1⟩ | exact ⟨HG.out.keep hHeld.1, HG.out.keep hHeld.2.1, HG.out.keep hHeld.2.2⟩))
  refine take_in (i := 0) (v := ?_) (d := (some 5)) rfl rfl ?_ ?_ ?_ ?_ ?_ ?_ ?_ ?_
  rotate_left
  · kernel_rfl
  · kernel_rfl
  · kernel_rfl
  · (intro _ _ _ hq; exact hq)
  · rfl
  · (intro _w hSw; (try dsimp only at hSw); go_simp; try with_reducible rfl)
  · assumption
  try simp only [Act.put, List.setIfInBounds_toArray, List.set_cons_zero, List.set_cons_succ]
  refine take_in (i := 1) (v := ?_) (d := (some 6)) rfl rfl ?_ ?_ ?_ ?_ ?_ ?_ ?_ ?_
  rotate_left
  · kernel_rfl
  · kernel_rfl
  · kernel_rfl
  · (intro _ _ _ hq; exact hq)
  · rfl
  · (intro _w hSw; (try dsimp only at hSw); go_simp; try with_reducible rfl)
  · assumption
  try simp only [Act.put, List.setIfInBounds_toArray, List.set_cons_zero, List.set_cons_succ]
  refine take_in (i := 2) (v := ?_) (d := (some 7)) rfl rfl ?_ ?_ ?_ ?_ ?_ ?_ ?_ ?_
  rotate_left
  · kernel_rfl
  · kernel_rfl
  · kernel_rfl
  · (intro _ _ _ hq; exact hq)
  · rfl
  · (intro _w hSw; (try dsimp only at hSw); go_simp; try with_reducible rfl)
  · assumption
  try simp only [Act.put, List.setIfInBounds_toArray, List.set_cons_zero, List.set_cons_succ]
  refine take_in (i := 3) (v := ?_) (d := (some 8)) rfl rfl ?_ ?_ ?_ ?_ ?_ ?_ ?_ ?_
  rotate_left
  · kernel_rfl
  · kernel_rfl
  · kernel_rfl
  · (intro _ _ _ hq; exact hq)
  · rfl
  · (intro _w hSw; (try dsimp only at hSw); go_simp; try with_reducible rfl)
  · assumption
  try simp only [Act.put, List.setIfInBounds_toArray, List.set_cons_zero, List.set_cons_succ]
  refine take_in (i := 4) (v := ?_) (d := (some 9)) rfl rfl ?_ ?_ ?_ ?_ ?_ ?_ ?_ ?_
  rotate_left
  · kernel_rfl
  · kernel_rfl
  · kernel_rfl
  · (intro _ _ _ hq; exact hq)
  · rfl
  · (intro _w hSw; (try dsimp only at hSw); go_simp; try with_reducible rfl)
  · assumption
  try simp only [Act.put, List.setIfInBounds_toArray, List.set_cons_zero, List.set_cons_succ]
  refine wpAnyH_ready (rs := [5]) ?_ ?_ ?_
  · kernel_rfl
  · simp
  refine (AllReadyH.cons rfl (fun K hK => ?_) AllReadyH.nil)
  go_simp
  first | (go_at_call 67; (with_reducible refine (back_any (u : Int) (v : Int) _).mono ?_); rintro e w2 ⟨rfl, hg2⟩; have HG := Lib.hid hg2; have HR2 := Lib.hid ((HR1.out.keep (Gr.refl _).drew).keep hg2); clear hg2)
  refine hK.out _ _ ?_ (fun hHeld => ?_)
  · ((try dsimp only); (first | exact hHeld | exact ⟨n0, z0, z1⟩ | exact ⟨HG.out.keep hHeld.1, HG.out.keep hHeld.2.1, HG.out.keep hHeld.2.2⟩))
  clear hK K
  try simp only [Act.put, List.setIfInBounds_toArray, List.set_cons_zero, List.set_cons_succ]
  refine wpAnyH_ready (rs := [6]) ?_ ?_ ?_
  · kernel_rfl
  · simp
  refine (AllReadyH.cons rfl (fun K hK => ?_) AllReadyH.nil)
  first | (refine held_look (by rfl) (.tmp 8) (.tmp 10) _ _ (by rfl) (.map (some m)) (.agg #[.int .i64 (v : Int), .int .i64 (u : Int)]) (.int .i64 (r v u)) (by rfl) (by rfl) (HL.out _ HR2.out) ?_)
  refine hK.out _ _ ?_ (fun hHeld => ?_)
  · ((try dsimp only); (first | exact hHeld | exact ⟨n0, z0, z1⟩ | exact ⟨HG.out.keep hHeld.1, HG.out.keep hHeld.2.1, HG.out.keep hHeld.2.2⟩))
  clear hK K
  try simp only [Act.put, List.setIfInBounds_toArray, List.set_cons_zero, List.set_cons_succ]
  refine take_in (i := 7) (v := ?_) (d := (some 4)) rfl rfl ?_ ?_ ?_ ?_ ?_ ?_ ?_ ?_
  rotate_left
  · kernel_rfl
  · kernel_rfl
  · kernel_rfl
  · (intro _ _ _ hq; exact hq)
  · rfl
  · (intro _w hSw; (try dsimp only at hSw); go_simp; try with_reducible rfl)
  · assumption
  try simp only [Act.put, List.setIfInBounds_toArray, List.set_cons_zero, List.set_cons_succ]
  refine wpAnyH_done ?_ ?_ _
  · kernel_rfl
  rotate_left
  all_goals
    go_wp2_with fail
    go_ret
    refine ⟨?_, hg1.trans ((Gr.refl _).drew.trans HG.out)⟩
    first | rfl | simp

end Go.Proofs.Ytfmojiaaoebodaa
