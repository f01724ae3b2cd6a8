/- Layer 4: what a plan is asked: isPossible, flow.
Layer 4: slots in order. -/
import Derived.Test.YtpnkpejnahhajaaGreatBu21
import Derived.Test.YtpnkpejnahhajaaGreatBu13
import Derived.Test.YtpnkpejnahhajaaGreatBu11
import Derived.Test.YtpnkpejnahhajaaGreatBu12
namespace Go.Proofs.YtpnkpejnahhajaaGreat
open Go.RowKit
set_option linter.unusedSimpArgs false

/-- A plan as it lies in memory. -/
structure PlanR (w : World) (p g m fb B : Nat) (A : Option Addr) (n c : Nat) (SA : Option Addr) (K sc : Nat) (T : List Int) (F : Nat → Option Nat) (r' : Nat → Nat → Int) : Prop where
  blk : Blk w p 99 #[.pointer (some ⟨g, 0, none⟩), .int .i64 (B : Int), .slice A n c, .slice SA K sc, .map (some fb)]
  g0 : w.cell? ⟨g, 0, none⟩ = some (.map (some m))
  sp : Pts w SA (spanL T)
  fm : FM w fb F
  rm : RM w m r'
theorem PlanR.keep {w w' : World} {p g m fb B : Nat} {A : Option Addr} {n c : Nat} {SA : Option Addr} {K sc : Nat} {T : List Int} {F : Nat → Option Nat} {r' : Nat → Nat → Int} (h : PlanR w p g m fb B A n c SA K sc T F r') (hg : Gr w w') : PlanR w' p g m fb B A n c SA K sc T F r' :=
  ⟨h.blk.keep hg, hg.keep h.g0, h.sp.keep hg, h.fm.keep hg, h.rm.keep hg⟩

/-- One entry: the source alone. -/
theorem FM.alone {w : World} {fb : Nat} {F : Nat → Option Nat} (h : FM w fb F) (h0 : F 0 = some 0) : ∃ l : List (Int × Int), Mp Tryz.prog 3 intV intV w fb l ∧ (l.length = 1 ↔ ∀ v, F v ≠ none → v = 0) := by
  obtain ⟨l, h1, h2, h3⟩ := h
  refine ⟨l, h1, ?_, ?_⟩
  · intro hl v hv
    obtain ⟨q, rfl⟩ : ∃ q, l = [q] := by
      match l, hl with
      | [q], _ => exact ⟨q, rfl⟩
    have a0 := h2 0
    rw [h0] at a0
    have e0 := mget_some a0
    simp only [List.mem_singleton] at e0
    obtain ⟨d, hd⟩ := Option.ne_none_iff_exists'.1 hv
    have av := h2 v
    rw [hd] at av
    have ev := mget_some av
    simp only [List.mem_singleton] at ev
    rw [← e0] at ev
    have := congrArg Prod.fst ev
    dsimp only at this
    omega
  · intro hall
    have hk : ∀ p ∈ l, p.1 = 0 := fun p hp => by
      have hg := mget_of h1.apart hp
      have hn := h3 p hp
      have a := h2 p.1.toNat
      rw [show ((p.1.toNat : Nat) : Int) = p.1 by omega, hg] at a
      have : F p.1.toNat ≠ none := fun e => by rw [e] at a; cases a
      have := hall _ this
      omega
    match l, h1.apart, hk with
    | [], _, _ => have := h2 0; rw [h0] at this; simp [mget] at this
    | [q], _, _ => rfl
    | q :: s :: r, hap, hk =>
      have hne := (List.pairwise_cons.1 hap).1 s (by simp)
      have e1 := hk q (by simp)
      have e2 := hk s (by simp)
      exact absurd (e1.trans e2.symm) hne

set_option maxRecDepth 100000 in
set_option maxHeartbeats 1000000 in
theorem isPossible_any {p g m fb B : Nat} {A : Option Addr} {n c : Nat} {SA : Option Addr} {K sc : Nat} {T : List Int} {F : Nat → Option Nat} {r' : Nat → Nat → Int} (w : World) (h : PlanR w p g m fb B A n c SA K sc T F r') (h0 : F 0 = some 0) :
    Calls Tryz.prog 27 #[.pointer (some ⟨p, 0, none⟩)] w fun e w' => ∃ b : Bool, e = .returned (.bool b) ∧ (b = true ↔ ∀ v, F v ≠ none → v = 0) ∧ w' = w := by
  obtain ⟨l, hl, hiff⟩ := h.fm.alone h0
  have HL := Lib.hid hl
  have HI := Lib.hid hiff
  have p4 := h.blk.cell 4
  clear h hl hiff
  go_enter Tryz.func27, Tryz.ntmps27
  obtain ⟨k, hk⟩ : ∃ k, l.length = k := ⟨_, rfl⟩
  have HK := Lib.hid hk
  clear hk
  go_wp2_with (first | (refine step_len rfl _ _ rfl HL.out _ Tryz.underlying97 rfl ?_; rw [HK.out]) | fail)
  go_ret
  refine ⟨_, rfl, ?_, rfl⟩
  rw [← HI.out, HK.out]
  simp; omega

set_option maxRecDepth 100000 in
set_option maxHeartbeats 4000000 in
theorem flow_any (g m : Nat) (r : Nat → Nat → Int) (u v : Nat) (w : World) (hu : u ≤ 4096) (hv : v ≤ 4096) (h0 : w.cell? ⟨g, 0, none⟩ = some (.map (some m))) (hr : RM w m r) :
    Calls Tryz.prog 74 #[.pointer (some ⟨g, 0, none⟩), .agg #[.int .i64 (u : Int), .int .i64 (v : Int)]] w fun e w' => e = .returned (.int .i64 (r v u)) ∧ Gr w w' := by
  have HR := Lib.hid hr
  have H0 := Lib.hid h0
  clear hr h0
  go_enter Tryz.func74, Tryz.ntmps74
  go_upto_region 1 with fail
  generalize hW1 : World.alloc w _ = w1
  have hg1 : Gr w w1 := by rw [← hW1]; exact (Gr.refl w).alloc _
  have hB : Blk w1 w.heap.size 151 #[.int .i64 (u : Int), .int .i64 (v : Int)] := by rw [← hW1]; exact heap_alloc_new w _
  generalize w.heap.size = Z at hB ⊢
  have n0 := hg1.keep H0.out
  have z0 := hB.cell 0
  have z1 := hB.cell 1
  have HR1 := Lib.hid (HR.out.keep hg1)
  have HL : Hid (∀ W, RM W m r → (Instr.lookup 147 (.map (some m)) (.agg #[.int .i64 (v : Int), .int .i64 (u : Int)]) false).run Tryz.prog W = .ok (.int .i64 (r v u)) W) := Lib.hid (fun W hW => hW.look (by unfold nodeB; omega) (by unfold nodeB; omega))
  clear hW1 hB
  refine wp_region_held_drew (S := (fun W' => W'.cell? ⟨g, 0, none⟩ = some (.map (some m)) ∧ W'.cell? ⟨Z, 0, none⟩ = some (.int .i64 (u : Int)) ∧ W'.cell? ⟨Z, 1, none⟩ = some (.int .i64 (v : Int)))) ?_ ?_ (fun hHeld => ?_)
  · kernel_rfl
  · ((try dsimp only); (first | exact hHeld | exact ⟨n0, z0, z1⟩ | exact ⟨HG.out.keep hHeld.1, HG.out.keep hHeld.2.1, HG.out.keep hHeld.2.2⟩))
  refine take_in (i := 0) (v := ?_) (d := (some 5)) rfl rfl ?_ ?_ ?_ ?_ ?_ ?_ ?_ ?_
  rotate_left
  · kernel_rfl
  · kernel_rfl
  · kernel_rfl
  · (intro _ _ _ hq; exact hq)
  · rfl
  · (intro _w hSw; (try dsimp only at hSw); go_simp; try with_reducible rfl)
  · assumption
  try simp only [Act.put, List.setIfInBounds_toArray, List.set_cons_zero, List.set_cons_succ]
  refine take_in (i := 1) (v := ?_) (d := (some 6)) rfl rfl ?_ ?_ ?_ ?_ ?_ ?_ ?_ ?_
  rotate_left
  · kernel_rfl
  · kernel_rfl
  · kernel_rfl
  · (intro _ _ _ hq; exact hq)
  · rfl
  · (intro _w hSw; (try dsimp only at hSw); go_simp; try with_reducible rfl)
  · assumption
  try simp only [Act.put, List.setIfInBounds_toArray, List.set_cons_zero, List.set_cons_succ]
  refine take_in (i := 2) (v := ?_) (d := (some 7)) rfl rfl ?_ ?_ ?_ ?_ ?_ ?_ ?_ ?_
  rotate_left
  · kernel_rfl
  · kernel_rfl
  · kernel_rfl
  · (intro _ _ _ hq; exact hq)
  · rfl
  · (intro _w hSw; (try dsimp only at hSw); go_simp; try with_reducible rfl)
  · assumption
  try simp only [Act.put, List.setIfInBounds_toArray, List.set_cons_zero, List.set_cons_succ]
  refine take_in (i := 3) (v := ?_) (d := (some 8)) rfl rfl ?_ ?_ ?_ ?_ ?_ ?_ ?_ ?_
  rotate_left
  · kernel_rfl
  · kernel_rfl
  · kernel_rfl
  · (intro _ _ _ hq; exact hq)
  · rfl
  · (intro _w hSw; (try dsimp only at hSw); go_simp; try with_reducible rfl)
  · assumption
  try simp only [Act.put, List.setIfInBounds_toArray, List.set_cons_zero, List.set_cons_succ]
  refine take_in (i := 4) (v := ?_) (d := (some 9)) rfl rfl ?_ ?_ ?_ ?_ ?_ ?_ ?_ ?_
  rotate_left
  · kernel_rfl
  · kernel_rfl
  · kernel_rfl
  · (intro _ _ _ hq; exact hq)
  · rfl
  · (intro _w hSw; (try dsimp only at hSw); go_simp; try with_reducible rfl)
  · assumption
  try simp only [Act.put, List.setIfInBounds_toArray, List.set_cons_zero, List.set_cons_succ]
  refine wpAnyH_ready (rs := [5]) ?_ ?_ ?_
  · kernel_rfl
  · simp
  refine (AllReadyH.cons rfl (fun K hK => ?_) AllReadyH.nil)
  go_simp
  first | (go_at_call 115; (with_reducible refine (backB_any (u : Int) (v : Int) _).mono ?_); rintro e w2 ⟨rfl, hg2⟩; have HG := Lib.hid hg2; have HR2 := Lib.hid ((HR1.out.keep (Gr.refl _).drew).keep hg2); clear hg2)
  refine hK.out _ _ ?_ (fun hHeld => ?_)
  · ((try dsimp only); (first | exact hHeld | exact ⟨n0, z0, z1⟩ | exact ⟨HG.out.keep hHeld.1, HG.out.keep hHeld.2.1, HG.out.keep hHeld.2.2⟩))
  clear hK K
  try simp only [Act.put, List.setIfInBounds_toArray, List.set_cons_zero, List.set_cons_succ]
  refine wpAnyH_ready (rs := [6]) ?_ ?_ ?_
  · kernel_rfl
  · simp
  refine (AllReadyH.cons rfl (fun K hK => ?_) AllReadyH.nil)
  first | (refine held_look (by rfl) (.tmp 8) (.tmp 10) _ _ (by rfl) (.map (some m)) (.agg #[.int .i64 (v : Int), .int .i64 (u : Int)]) (.int .i64 (r v u)) (by rfl) (by rfl) (HL.out _ HR2.out) ?_)
  refine hK.out _ _ ?_ (fun hHeld => ?_)
  · ((try dsimp only); (first | exact hHeld | exact ⟨n0, z0, z1⟩ | exact ⟨HG.out.keep hHeld.1, HG.out.keep hHeld.2.1, HG.out.keep hHeld.2.2⟩))
  clear hK K
  try simp only [Act.put, List.setIfInBounds_toArray, List.set_cons_zero, List.set_cons_succ]
  refine take_in (i := 7) (v := ?_) (d := (some 4)) rfl rfl ?_ ?_ ?_ ?_ ?_ ?_ ?_ ?_
  rotate_left
  · kernel_rfl
  · kernel_rfl
  · kernel_rfl
  · (intro _ _ _ hq; exact hq)
  · rfl
  · (intro _w hSw; (try dsimp only at hSw); go_simp; try with_reducible rfl)
  · assumption
  try simp only [Act.put, List.setIfInBounds_toArray, List.set_cons_zero, List.set_cons_succ]
  refine wpAnyH_done ?_ ?_ _
  · kernel_rfl
  rotate_left
  all_goals
    go_wp2_with fail
    go_ret
    refine ⟨?_, hg1.trans ((Gr.refl _).drew.trans HG.out)⟩
    first | rfl | simp

end Go.Proofs.YtpnkpejnahhajaaGreat

namespace Go.Proofs.YtpnkpejnahhajaaGreat
open Go.RowKit Go.Shelf Go.Lib Go.Sort
set_option linter.unusedSimpArgs false

theorem orI_any (g : Nat) (a b : Int) (w : World) (ha : w.cell? ⟨g, 0, none⟩ = some (.int .i64 a)) (hb : w.cell? ⟨g, 1, none⟩ = some (.int .i64 b)) :
    Calls Tryz.prog 119 #[.slice (some ⟨g, 0, none⟩) 2 2] w fun e w' => e = .returned (.int .i64 (if a = 0 then b else a)) ∧ w = w' := by
  by_cases h : a = 0
  · subst h
    by_cases h' : b = 0
    · subst h'
      go_enter Tryz.func119, Tryz.ntmps119
      go_wp2_with fail
      go_loop [8] (fun i => i = .int .i64 0 ∨ i = .int .i64 1 ∨ i = .int .i64 2) (fun i => 2 - (intOf i).toNat)
      case atStart => exact Or.inl rfl
      case round =>
        rcases hrel with rfl | rfl | rfl
        · go_wp2_with fail
          go_round
          case rel => exact Or.inr (Or.inl rfl)
          case measure => simp [intOf]
        · go_wp2_with fail
          go_round
          case rel => exact Or.inr (Or.inr rfl)
          case measure => simp [intOf]
        · go_wp2_with fail
          go_ret
          exact ⟨rfl, rfl⟩
    · have hz : (b != 0) = true := by simpa using h'
      go_enter Tryz.func119, Tryz.ntmps119
      go_wp2_with fail
      go_loop [8] (fun i => i = .int .i64 0 ∨ i = .int .i64 1) (fun i => 2 - (intOf i).toNat)
      case atStart => exact Or.inl rfl
      case round =>
        rcases hrel with rfl | rfl
        · go_wp2_with fail
          go_round
          case rel => exact Or.inr rfl
          case measure => simp [intOf]
        · go_wp2_with fail
          go_ret
          exact ⟨rfl, rfl⟩
  · have hz : (a != 0) = true := by simpa using h
    go_enter Tryz.func119, Tryz.ntmps119
    go_wp2_with fail
    go_loop [8] (fun i => i = .int .i64 0) (fun i => 2 - (intOf i).toNat)
    case atStart => rfl
    case round =>
      subst hrel
      go_wp2_with fail
      go_ret
      exact ⟨rfl, rfl⟩

/-- The order of slots of an owner. -/
def cfS (ow : Sl → Int) (x y : Sl) : Int := if sgn (ow x - ow y) = 0 then sgn (x.2.2.1 - y.2.2.1) else sgn (ow x - ow y)
theorem ltS (ow : Sl → Int) (x y : Sl) : ltOf (cfS ow) x y = decide (ow x < ow y ∨ (ow x = ow y ∧ x.2.2.1 < y.2.2.1)) := by
  unfold ltOf cfS
  congr 1
  apply propext
  unfold sgn
  constructor
  · intro h; split at h <;> (repeat' split at h) <;> omega
  · intro h; split <;> (repeat' split) <;> omega
theorem swoS (ow : Sl → Int) : SWO (ltOf (cfS ow)) where
  irrefl x := by rw [ltS]; simp
  trans x y z h1 h2 := by rw [ltS] at *; simp only [decide_eq_true_eq] at *; omega
  ntrans x y z h1 h2 := by rw [ltS] at *; simp only [decide_eq_false_iff_not] at *; omega

set_option maxRecDepth 100000 in
set_option maxHeartbeats 1000000 in
theorem benchOf_any (x : Sl) (w : World) : Calls Tryz.prog 77 #[.agg #[.int .i64 x.1, .int .i64 x.2.1, .int .i64 x.2.2.1, .int .i64 x.2.2.2]] w fun e w' => e = .returned (.int .i64 x.2.1) ∧ ∃ n os, w' = Sort.grow (w.drewN n) os := by
  go_enter Tryz.func77, Tryz.ntmps77
  go_wp2_with fail
  go_ret
  exact ⟨rfl, 0, #[_], by rw [Sort.alloc_eq_grow]; rfl⟩
/-- Nothing but new blocks and draws. -/
def Gw (w w' : World) : Prop := ∃ n os, w' = Sort.grow (w.drewN n) os
theorem Gw.refl (w : World) : Gw w w := ⟨0, #[], by simp [Sort.grow, World.drewN]⟩
theorem grow_drewN (w : World) (n m : Nat) (os : Array Obj) : (Sort.grow (w.drewN n) os).drewN m = Sort.grow (w.drewN (n + m)) os := by simp [Sort.grow, World.drewN, Nat.add_assoc]
theorem Gw.trans {a b c : World} (h : Gw a b) (k : Gw b c) : Gw a c := by
  obtain ⟨n, os, rfl⟩ := h
  obtain ⟨m, os', rfl⟩ := k
  exact ⟨n + m, os ++ os', by rw [grow_drewN, Sort.grow_grow]⟩
theorem Gw.alloc {a w : World} (h : Gw a w) (o : Obj) : Gw a (w.alloc o) := h.trans ⟨0, #[o], by rw [Sort.alloc_eq_grow]; rfl⟩
theorem drew_grow (w : World) : w.drew = Sort.grow (w.drewN 1) #[] := by
  show w.drewN 1 = Sort.grow (w.drewN 1) #[]
  unfold Sort.grow World.drewN
  simp
theorem Gw.drew {a w : World} (h : Gw a w) : Gw a w.drew := h.trans ⟨1, #[], drew_grow w⟩
theorem Gw.gr {w w' : World} (h : Gw w w') : Gr w w' := by
  obtain ⟨n, os, rfl⟩ := h
  exact ((Gr.refl w).drewN n).trans (gr_grow _ os)

set_option maxRecDepth 100000 in
set_option maxHeartbeats 8000000 in
theorem cmp_benchOf (ob : Nat) (a b : Sl) (w : World) (h : w.cell? ⟨ob, 0, none⟩ = some (.func (.func 77) #[] #[])) :
    Calls Tryz.prog 118 #[.agg #[.int .i64 a.1, .int .i64 a.2.1, .int .i64 a.2.2.1, .int .i64 a.2.2.2], .agg #[.int .i64 b.1, .int .i64 b.2.1, .int .i64 b.2.2.1, .int .i64 b.2.2.2], .pointer (some ⟨ob, 0, none⟩)] w fun e w' => e = .returned (.int .i64 (cfS (fun x => x.2.1) a b)) ∧ Gw w w' := by
  have HA := Lib.hid (fun W => benchOf_any a W)
  have HB := Lib.hid (fun W => benchOf_any b W)
  obtain ⟨a1, a2, a3, a4⟩ := a
  obtain ⟨b1, b2, b3, b4⟩ := b
  dsimp only at HA HB
  obtain ⟨cf, hcf⟩ : ∃ v, cfS (fun x => x.2.1) (a1, a2, a3, a4) (b1, b2, b3, b4) = v := ⟨_, rfl⟩
  rw [hcf]
  have HCF : Hid ((if sgn (a2 - b2) = 0 then sgn (a3 - b3) else sgn (a2 - b2)) = cf) := Lib.hid hcf
  clear hcf
  go_enter Tryz.func118, Tryz.ntmps118
  go_upto_region 1 with fail
  generalize hW1 : World.alloc (World.alloc w _) _ = w1
  have hg1 : Gw w w1 := by rw [← hW1]; exact ((Gw.refl w).alloc _).alloc _
  have hX : Blk w1 w.heap.size 35 #[.int .i64 a1, .int .i64 a2, .int .i64 a3, .int .i64 a4] := by rw [← hW1]; exact (Blk.new w _ _ rfl).alloc _
  have hY : Blk w1 (w.heap.size + 1) 35 #[.int .i64 b1, .int .i64 b2, .int .i64 b3, .int .i64 b4] := by rw [← hW1]; exact Blk.new _ _ _ (by simp)
  generalize w.heap.size = X at hX hY ⊢
  have h' := hg1.gr.keep h
  have HX := Lib.hid hX
  have HY := Lib.hid hY
  have KS : Hid (∀ W', Gw w1 W' → Gw w1 W' ∧ W'.cell? ⟨ob, 0, none⟩ = some (.func (.func 77) #[] #[]) ∧ W'.cell? ⟨X, 0, none⟩ = some (.int .i64 a1) ∧ W'.cell? ⟨X, 1, none⟩ = some (.int .i64 a2) ∧ W'.cell? ⟨X, 2, none⟩ = some (.int .i64 a3) ∧ W'.cell? ⟨X, 3, none⟩ = some (.int .i64 a4) ∧ W'.cell? ⟨X + 1, 0, none⟩ = some (.int .i64 b1) ∧ W'.cell? ⟨X + 1, 1, none⟩ = some (.int .i64 b2) ∧ W'.cell? ⟨X + 1, 2, none⟩ = some (.int .i64 b3) ∧ W'.cell? ⟨X + 1, 3, none⟩ = some (.int .i64 b4)) := Lib.hid (fun W' hg => ⟨hg, hg.gr.keep h', (HX.out.keep hg.gr).cell 0, (HX.out.keep hg.gr).cell 1, (HX.out.keep hg.gr).cell 2, (HX.out.keep hg.gr).cell 3, (HY.out.keep hg.gr).cell 0, (HY.out.keep hg.gr).cell 1, (HY.out.keep hg.gr).cell 2, (HY.out.keep hg.gr).cell 3⟩)
  clear hW1 hX hY
  refine wp_region_held_drew (S := (fun W' => Gw w1 W' ∧ W'.cell? ⟨ob, 0, none⟩ = some (.func (.func 77) #[] #[]) ∧ W'.cell? ⟨X, 0, none⟩ = some (.int .i64 a1) ∧ W'.cell? ⟨X, 1, none⟩ = some (.int .i64 a2) ∧ W'.cell? ⟨X, 2, none⟩ = some (.int .i64 a3) ∧ W'.cell? ⟨X, 3, none⟩ = some (.int .i64 a4) ∧ W'.cell? ⟨X + 1, 0, none⟩ = some (.int .i64 b1) ∧ W'.cell? ⟨X + 1, 1, none⟩ = some (.int .i64 b2) ∧ W'.cell? ⟨X + 1, 2, none⟩ = some (.int .i64 b3) ∧ W'.cell? ⟨X + 1, 3, none⟩ = some (.int .i64 b4))) ?_ ?_ (fun hHeld => ?_)
  · kernel_rfl
  · ((try dsimp only); (first | exact hHeld | exact KS.out _ (Gw.refl w1).drew | exact KS.out _ HGA.out | exact KS.out _ HGB.out | exact KS.out _ (hHeld.1.alloc _)))
  refine take_in (i := 0) (v := ?_) (d := (some 6)) rfl rfl ?_ ?_ ?_ ?_ ?_ ?_ ?_ ?_
  rotate_left
  · kernel_rfl
  · kernel_rfl
  · kernel_rfl
  · (intro _ _ _ hq; exact hq)
  · rfl
  · (intro _w hSw; (try dsimp only at hSw); go_simp; try with_reducible rfl)
  · assumption
  try simp only [Act.put, List.setIfInBounds_toArray, List.set_cons_zero, List.set_cons_succ]
  refine take_in (i := 1) (v := ?_) (d := (some 7)) rfl rfl ?_ ?_ ?_ ?_ ?_ ?_ ?_ ?_
  rotate_left
  · kernel_rfl
  · kernel_rfl
  · kernel_rfl
  · (intro _ _ _ hq; exact hq)
  · rfl
  · (intro _w hSw; (try dsimp only at hSw); go_simp; try with_reducible rfl)
  · assumption
  try simp only [Act.put, List.setIfInBounds_toArray, List.set_cons_zero, List.set_cons_succ]
  refine take_in (i := 3) (v := ?_) (d := (some 9)) rfl rfl ?_ ?_ ?_ ?_ ?_ ?_ ?_ ?_
  rotate_left
  · kernel_rfl
  · kernel_rfl
  · kernel_rfl
  · (intro _ _ _ hq; exact hq)
  · rfl
  · (intro _w hSw; (try dsimp only at hSw); go_simp; try with_reducible rfl)
  · assumption
  try simp only [Act.put, List.setIfInBounds_toArray, List.set_cons_zero, List.set_cons_succ]
  refine take_in (i := 4) (v := ?_) (d := (some 10)) rfl rfl ?_ ?_ ?_ ?_ ?_ ?_ ?_ ?_
  rotate_left
  · kernel_rfl
  · kernel_rfl
  · kernel_rfl
  · (intro _ _ _ hq; exact hq)
  · rfl
  · (intro _w hSw; (try dsimp only at hSw); go_simp; try with_reducible rfl)
  · assumption
  try simp only [Act.put, List.setIfInBounds_toArray, List.set_cons_zero, List.set_cons_succ]
  refine take_in (i := 7) (v := ?_) (d := (some 13)) rfl rfl ?_ ?_ ?_ ?_ ?_ ?_ ?_ ?_
  rotate_left
  · kernel_rfl
  · kernel_rfl
  · kernel_rfl
  · (intro _ _ _ hq; exact hq)
  · rfl
  · (intro _w hSw; (try dsimp only at hSw); go_simp; try with_reducible rfl)
  · assumption
  try simp only [Act.put, List.setIfInBounds_toArray, List.set_cons_zero, List.set_cons_succ]
  refine take_in (i := 8) (v := ?_) (d := (some 14)) rfl rfl ?_ ?_ ?_ ?_ ?_ ?_ ?_ ?_
  rotate_left
  · kernel_rfl
  · kernel_rfl
  · kernel_rfl
  · (intro _ _ _ hq; exact hq)
  · rfl
  · (intro _w hSw; (try dsimp only at hSw); go_simp; try with_reducible rfl)
  · assumption
  try simp only [Act.put, List.setIfInBounds_toArray, List.set_cons_zero, List.set_cons_succ]
  refine take_in (i := 9) (v := ?_) (d := (some 15)) rfl rfl ?_ ?_ ?_ ?_ ?_ ?_ ?_ ?_
  rotate_left
  · kernel_rfl
  · kernel_rfl
  · kernel_rfl
  · (intro _ _ _ hq; exact hq)
  · rfl
  · (intro _w hSw; (try dsimp only at hSw); go_simp; try with_reducible rfl)
  · assumption
  try simp only [Act.put, List.setIfInBounds_toArray, List.set_cons_zero, List.set_cons_succ]
  refine take_in (i := 10) (v := ?_) (d := (some 16)) rfl rfl ?_ ?_ ?_ ?_ ?_ ?_ ?_ ?_
  rotate_left
  · kernel_rfl
  · kernel_rfl
  · kernel_rfl
  · (intro _ _ _ hq; exact hq)
  · rfl
  · (intro _w hSw; (try dsimp only at hSw); go_simp; try with_reducible rfl)
  · assumption
  try simp only [Act.put, List.setIfInBounds_toArray, List.set_cons_zero, List.set_cons_succ]
  refine wpAnyH_ready (rs := [2]) ?_ ?_ ?_
  · kernel_rfl
  · simp
  refine (AllReadyH.cons rfl (fun K hK => ?_) AllReadyH.nil)
  go_simp
  first | (go_at_call 77; (with_reducible refine (HA.out _).mono ?_); rintro e w3 ⟨rfl, n3, os3, hw3⟩; have HGA := Lib.hid (hHeld.1.trans ⟨n3, os3, hw3⟩); clear hw3) | (go_at_call 77; (with_reducible refine (HB.out _).mono ?_); rintro e w4 ⟨rfl, n4, os4, hw4⟩; have HGB := Lib.hid (hHeld.1.trans ⟨n4, os4, hw4⟩); clear hw4) | (go_at_call 71; refine (cmp_any _ _ _).mono ?_; rintro e w5 ⟨rfl, rfl⟩) | (go_at_call 119; refine (orI_any _ _ _ _ (alloc_new rfl rfl) (alloc_new rfl rfl)).mono ?_; rintro e w6 ⟨rfl, rfl⟩; rw [HCF.out])
  refine hK.out _ _ ?_ (fun hHeld => ?_)
  · ((try dsimp only); (first | exact hHeld | exact KS.out _ (Gw.refl w1).drew | exact KS.out _ HGA.out | exact KS.out _ HGB.out | exact KS.out _ (hHeld.1.alloc _)))
  clear hK K
  try simp only [Act.put, List.setIfInBounds_toArray, List.set_cons_zero, List.set_cons_succ]
  refine wpAnyH_ready (rs := [5]) ?_ ?_ ?_
  · kernel_rfl
  · simp
  refine (AllReadyH.cons rfl (fun K hK => ?_) AllReadyH.nil)
  go_simp
  first | (go_at_call 77; (with_reducible refine (HA.out _).mono ?_); rintro e w3 ⟨rfl, n3, os3, hw3⟩; have HGA := Lib.hid (hHeld.1.trans ⟨n3, os3, hw3⟩); clear hw3) | (go_at_call 77; (with_reducible refine (HB.out _).mono ?_); rintro e w4 ⟨rfl, n4, os4, hw4⟩; have HGB := Lib.hid (hHeld.1.trans ⟨n4, os4, hw4⟩); clear hw4) | (go_at_call 71; refine (cmp_any _ _ _).mono ?_; rintro e w5 ⟨rfl, rfl⟩) | (go_at_call 119; refine (orI_any _ _ _ _ (alloc_new rfl rfl) (alloc_new rfl rfl)).mono ?_; rintro e w6 ⟨rfl, rfl⟩; rw [HCF.out])
  refine hK.out _ _ ?_ (fun hHeld => ?_)
  · ((try dsimp only); (first | exact hHeld | exact KS.out _ (Gw.refl w1).drew | exact KS.out _ HGA.out | exact KS.out _ HGB.out | exact KS.out _ (hHeld.1.alloc _)))
  clear hK K
  try simp only [Act.put, List.setIfInBounds_toArray, List.set_cons_zero, List.set_cons_succ]
  refine wpAnyH_ready (rs := [6]) ?_ ?_ ?_
  · kernel_rfl
  · simp
  refine (AllReadyH.cons rfl (fun K hK => ?_) AllReadyH.nil)
  go_simp
  first | (go_at_call 77; (with_reducible refine (HA.out _).mono ?_); rintro e w3 ⟨rfl, n3, os3, hw3⟩; have HGA := Lib.hid (hHeld.1.trans ⟨n3, os3, hw3⟩); clear hw3) | (go_at_call 77; (with_reducible refine (HB.out _).mono ?_); rintro e w4 ⟨rfl, n4, os4, hw4⟩; have HGB := Lib.hid (hHeld.1.trans ⟨n4, os4, hw4⟩); clear hw4) | (go_at_call 71; refine (cmp_any _ _ _).mono ?_; rintro e w5 ⟨rfl, rfl⟩) | (go_at_call 119; refine (orI_any _ _ _ _ (alloc_new rfl rfl) (alloc_new rfl rfl)).mono ?_; rintro e w6 ⟨rfl, rfl⟩; rw [HCF.out])
  refine hK.out _ _ ?_ (fun hHeld => ?_)
  · ((try dsimp only); (first | exact hHeld | exact KS.out _ (Gw.refl w1).drew | exact KS.out _ HGA.out | exact KS.out _ HGB.out | exact KS.out _ (hHeld.1.alloc _)))
  clear hK K
  try simp only [Act.put, List.setIfInBounds_toArray, List.set_cons_zero, List.set_cons_succ]
  refine wpAnyH_ready (rs := [11]) ?_ ?_ ?_
  · kernel_rfl
  · simp
  refine (AllReadyH.cons rfl (fun K hK => ?_) AllReadyH.nil)
  go_simp
  first | (go_at_call 77; (with_reducible refine (HA.out _).mono ?_); rintro e w3 ⟨rfl, n3, os3, hw3⟩; have HGA := Lib.hid (hHeld.1.trans ⟨n3, os3, hw3⟩); clear hw3) | (go_at_call 77; (with_reducible refine (HB.out _).mono ?_); rintro e w4 ⟨rfl, n4, os4, hw4⟩; have HGB := Lib.hid (hHeld.1.trans ⟨n4, os4, hw4⟩); clear hw4) | (go_at_call 71; refine (cmp_any _ _ _).mono ?_; rintro e w5 ⟨rfl, rfl⟩) | (go_at_call 119; refine (orI_any _ _ _ _ (alloc_new rfl rfl) (alloc_new rfl rfl)).mono ?_; rintro e w6 ⟨rfl, rfl⟩; rw [HCF.out])
  refine hK.out _ _ ?_ (fun hHeld => ?_)
  · ((try dsimp only); (first | exact hHeld | exact KS.out _ (Gw.refl w1).drew | exact KS.out _ HGA.out | exact KS.out _ HGB.out | exact KS.out _ (hHeld.1.alloc _)))
  clear hK K
  try simp only [Act.put, List.setIfInBounds_toArray, List.set_cons_zero, List.set_cons_succ]
  refine wpAnyH_ready (rs := [12]) ?_ ?_ ?_
  · kernel_rfl
  · simp
  refine (AllReadyH.cons rfl (fun K hK => ?_) AllReadyH.nil)
  go_simp
  refine hK.out _ _ ?_ (fun hHeld => ?_)
  · ((try dsimp only); (first | exact hHeld | exact KS.out _ (Gw.refl w1).drew | exact KS.out _ HGA.out | exact KS.out _ HGB.out | exact KS.out _ (hHeld.1.alloc _)))
  clear hK K
  try simp only [Act.put, List.setIfInBounds_toArray, List.set_cons_zero, List.set_cons_succ]
  refine wpAnyH_ready (rs := [13]) ?_ ?_ ?_
  · kernel_rfl
  · simp
  refine (AllReadyH.cons rfl (fun K hK => ?_) AllReadyH.nil)
  go_simp
  first | (go_at_call 77; (with_reducible refine (HA.out _).mono ?_); rintro e w3 ⟨rfl, n3, os3, hw3⟩; have HGA := Lib.hid (hHeld.1.trans ⟨n3, os3, hw3⟩); clear hw3) | (go_at_call 77; (with_reducible refine (HB.out _).mono ?_); rintro e w4 ⟨rfl, n4, os4, hw4⟩; have HGB := Lib.hid (hHeld.1.trans ⟨n4, os4, hw4⟩); clear hw4) | (go_at_call 71; refine (cmp_any _ _ _).mono ?_; rintro e w5 ⟨rfl, rfl⟩) | (go_at_call 119; refine (orI_any _ _ _ _ (alloc_new rfl rfl) (alloc_new rfl rfl)).mono ?_; rintro e w6 ⟨rfl, rfl⟩; rw [HCF.out])
  refine hK.out _ _ ?_ (fun hHeld => ?_)
  · ((try dsimp only); (first | exact hHeld | exact KS.out _ (Gw.refl w1).drew | exact KS.out _ HGA.out | exact KS.out _ HGB.out | exact KS.out _ (hHeld.1.alloc _)))
  clear hK K
  try simp only [Act.put, List.setIfInBounds_toArray, List.set_cons_zero, List.set_cons_succ]
  refine take_in (i := 14) (v := ?_) (d := (some 5)) rfl rfl ?_ ?_ ?_ ?_ ?_ ?_ ?_ ?_
  rotate_left
  · kernel_rfl
  · kernel_rfl
  · kernel_rfl
  · (intro _ _ _ hq; exact hq)
  · rfl
  · (intro _w hSw; (try dsimp only at hSw); go_simp; try with_reducible rfl)
  · assumption
  try simp only [Act.put, List.setIfInBounds_toArray, List.set_cons_zero, List.set_cons_succ]
  refine wpAnyH_done ?_ ?_ _
  · kernel_rfl
  rotate_left
  all_goals
    go_wp2_with fail
    go_ret
    exact ⟨rfl, hg1.trans hHeld.1⟩

end Go.Proofs.YtpnkpejnahhajaaGreat
