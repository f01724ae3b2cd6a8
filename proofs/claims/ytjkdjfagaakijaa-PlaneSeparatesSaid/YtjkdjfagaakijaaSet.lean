/- The law's own sets of points. -/
import Derived.Test.YtjkdjfagaakijaaSome
import Derived.Test.YtjkdjfagaakijaaDirs
import Derived.Test.YtjkdjfagaakijaaTurns
namespace Go.Proofs.Ytjkdjfagaakijaa
open Go.RowKit
set_option linter.unusedSimpArgs false

def modL (x n : Int) : Int := wrap64 ((IntKind.u64.wrap x).tmod n)
theorem modL_bd (x n : Int) (h : 0 < n ∧ n ≤ 65535) : 0 ≤ modL x n ∧ modL x n < n := by
  have h0 : 0 ≤ IntKind.u64.wrap x := by simp [IntKind.wrap, IntKind.bits, IntKind.signed]; omega
  have h1 := Int.tmod_lt_of_pos (IntKind.u64.wrap x) h.1
  have h2 := Int.tmod_nonneg n h0
  unfold modL
  generalize (IntKind.u64.wrap x).tmod n = r at *
  have : wrap64 r = r := by unfold wrap64; omega
  rw [this]; omega

theorem mod_any (x n : Int) (w : World) (h : 0 < n ∧ n ≤ 65535) : Calls Try.prog 49 #[.int .i64 x, .int .i64 n] w fun e w' => e = .returned (.int .i64 (modL x n)) ∧ w = w' := by
  go_enter Try.func49, Try.ntmps49
  go_wp2_with fail
  go_ret
  exact ⟨rfl, rfl⟩

def gridP (p : Int × Int) : Int × Int := if vld p.1 p.2 then p else (modL p.1 41 - 20, modL p.2 41 - 20)
theorem gridP_co (p : Int × Int) : Co (gridP p).1 ∧ Co (gridP p).2 := by
  unfold gridP
  split
  · rename_i h; exact (vld_iff _ _).1 h
  · have h1 := modL_bd p.1 41 (by omega)
    have h2 := modL_bd p.2 41 (by omega)
    unfold Co; dsimp only; omega

theorem box22 {w W : World} {t u : TypeId} {a b c d : Value} (hW : (w.alloc (.cells #[a, b] t)).alloc (.cells #[c, d] u) = W) :
    Gr w W ∧ W.cell? ⟨w.heap.size, 0, none⟩ = some a ∧ W.cell? ⟨w.heap.size, 1, none⟩ = some b ∧ Blk W (w.heap.size + 1) u #[c, d] := by
  subst hW
  refine ⟨((Gr.refl _).alloc _).alloc _, alloc_old (alloc_new rfl rfl), alloc_old (alloc_new rfl rfl), ?_⟩
  have h := heap_alloc_new (w.alloc (.cells #[a, b] t)) (.cells #[c, d] u)
  rw [show (w.alloc (.cells #[a, b] t)).heap.size = w.heap.size + 1 by simp] at h
  exact h

theorem set2_old {W : World} {g o b : Nat} {v u u' : Value} (h : W.cell? ⟨g, o, none⟩ = some v) (hn : g ≠ b) : ((W.setCell ⟨b, 0, none⟩ u).setCell ⟨b, 1, none⟩ u').drew.cell? ⟨g, o, none⟩ = some v := by
  show ((W.setCell ⟨b, 0, none⟩ u).setCell ⟨b, 1, none⟩ u').cell? ⟨g, o, none⟩ = some v
  rw [World.cell?_setCell_other _ _ _ _ (fun e => hn (congrArg Addr.block e).symm), World.cell?_setCell_other _ _ _ _ (fun e => hn (congrArg Addr.block e).symm)]
  exact h
theorem set2_frozen {W : World} {g o b : Nat} {u u' : Value} {z : Bool} (h : W.frozen? ⟨g, o, none⟩ = z) : ((W.setCell ⟨b, 0, none⟩ u).setCell ⟨b, 1, none⟩ u').drew.frozen? ⟨g, o, none⟩ = z := by
  show ((W.setCell ⟨b, 0, none⟩ u).setCell ⟨b, 1, none⟩ u').frozen? ⟨g, o, none⟩ = z
  rw [frozen_put, frozen_put]; exact h

set_option maxRecDepth 100000 in
set_option maxHeartbeats 1000000 in
theorem grid_any (x y : Int) (w : World) : Calls Try.prog 22 #[.agg #[.int .i64 x, .int .i64 y]] w fun e w' => e = .returned (.agg #[.int .i64 (gridP (x, y)).1, .int .i64 (gridP (x, y)).2]) ∧ Gr w w' := by
  rcases hv : vld x y with _ | _
  · have HG : Hid (gridP (x, y) = (modL x 41 - 20, modL y 41 - 20)) := Lib.hid (by unfold gridP; rw [hv]; rfl)
    have HV := Lib.hid hv
    have m1 := modL_bd x 41 (by omega)
    have m2 := modL_bd y 41 (by omega)
    have M1 := Lib.hid (fun W => mod_any x 41 W (by omega))
    have M2 := Lib.hid (fun W => mod_any y 41 W (by omega))
    clear hv
    generalize modL x 41 = a at *
    generalize modL y 41 = b at *
    have w1 : IntKind.i64.wrap (a - 20) = a - 20 := IntWalk.i64_in _ (by omega)
    have w2 : IntKind.i64.wrap (b - 20) = b - 20 := IntWalk.i64_in _ (by omega)
    rw [HG.out]
    go_enter Try.func22, Try.ntmps22
    go_wp2_with fail
    generalize hW : World.alloc (World.alloc w _) _ = W
    obtain ⟨hg, b0, b1, hBk⟩ := box22 hW
    clear hW
    refine (rValid_any x y _ _ HV.out).mono ?_
    rintro e w3 ⟨rfl, hb⟩
    replace b0 := hb.keep b0
    replace b1 := hb.keep b1
    replace hBk := hBk.keep hb
    replace hg := hg.trans hb
    have r0 : w3.cell? ⟨w.heap.size + 1, 0, none⟩ = some (.int .i64 0) := by rw [hBk.cell]; rfl
    have r1 : w3.cell? ⟨w.heap.size + 1, 1, none⟩ = some (.int .i64 0) := by rw [hBk.cell]; rfl
    have z0 : w3.frozen? ⟨w.heap.size + 1, 0, none⟩ = false := hBk.free _
    have z1 : w3.frozen? ⟨w.heap.size + 1, 1, none⟩ = false := hBk.free _
    clear hb hBk
    go_wp2_with fail
    refine wp_region_held_drew (S := (fun W' => Gr w W' ∧ W'.cell? ⟨w.heap.size, 0, none⟩ = some (.int .i64 x) ∧ W'.cell? ⟨w.heap.size, 1, none⟩ = some (.int .i64 y) ∧ W'.frozen? ⟨w.heap.size + 1, 0, none⟩ = false ∧ W'.frozen? ⟨w.heap.size + 1, 1, none⟩ = false)) ?_ ?_ (fun hHeld => ?_)
    · kernel_rfl
    · ((try dsimp only); (first | exact hHeld | exact ⟨hg.drew, b0, b1, z0, z1⟩ | exact ⟨((hg.setCell (p := ⟨w.heap.size + 1, 0, none⟩) (by simp) _).setCell (p := ⟨w.heap.size + 1, 1, none⟩) (by simp) _).drew, set2_old b0 (by omega), set2_old b1 (by omega), set2_frozen z0, set2_frozen z1⟩))
    refine take_in (i := 0) (v := ?_) (d := (some 6)) rfl rfl ?_ ?_ ?_ ?_ ?_ ?_ ?_ ?_
    rotate_left
    · kernel_rfl
    · kernel_rfl
    · kernel_rfl
    · (intro _ _ _ hq; exact hq)
    · rfl
    · (intro _w hSw; (try dsimp only at hSw); go_simp; try with_reducible rfl)
    · assumption
    try simp only [Act.put, List.setIfInBounds_toArray, List.set_cons_zero, List.set_cons_succ]
    refine take_in (i := 1) (v := ?_) (d := (some 7)) rfl rfl ?_ ?_ ?_ ?_ ?_ ?_ ?_ ?_
    rotate_left
    · kernel_rfl
    · kernel_rfl
    · kernel_rfl
    · (intro _ _ _ hq; exact hq)
    · rfl
    · (intro _w hSw; (try dsimp only at hSw); go_simp; try with_reducible rfl)
    · assumption
    try simp only [Act.put, List.setIfInBounds_toArray, List.set_cons_zero, List.set_cons_succ]
    refine take_in (i := 4) (v := ?_) (d := (some 10)) rfl rfl ?_ ?_ ?_ ?_ ?_ ?_ ?_ ?_
    rotate_left
    · kernel_rfl
    · kernel_rfl
    · kernel_rfl
    · (intro _ _ _ hq; exact hq)
    · rfl
    · (intro _w hSw; (try dsimp only at hSw); go_simp; try with_reducible rfl)
    · assumption
    try simp only [Act.put, List.setIfInBounds_toArray, List.set_cons_zero, List.set_cons_succ]
    refine take_in (i := 5) (v := ?_) (d := (some 11)) rfl rfl ?_ ?_ ?_ ?_ ?_ ?_ ?_ ?_
    rotate_left
    · kernel_rfl
    · kernel_rfl
    · kernel_rfl
    · (intro _ _ _ hq; exact hq)
    · rfl
    · (intro _w hSw; (try dsimp only at hSw); go_simp; try with_reducible rfl)
    · assumption
    try simp only [Act.put, List.setIfInBounds_toArray, List.set_cons_zero, List.set_cons_succ]
    refine wpAnyH_ready (rs := [2]) ?_ ?_ ?_
    · kernel_rfl
    · simp
    refine (AllReadyH.cons rfl (fun K hK => ?_) AllReadyH.nil)
    go_simp
    first | (go_at_call 49; (with_reducible refine (M1.out _).mono ?_); rintro e w4 ⟨rfl, rfl⟩) | (go_at_call 49; (with_reducible refine (M2.out _).mono ?_); rintro e w4 ⟨rfl, rfl⟩)
    refine hK.out _ _ ?_ (fun hHeld => ?_)
    · ((try dsimp only); (first | exact hHeld | exact ⟨hg.drew, b0, b1, z0, z1⟩ | exact ⟨((hg.setCell (p := ⟨w.heap.size + 1, 0, none⟩) (by simp) _).setCell (p := ⟨w.heap.size + 1, 1, none⟩) (by simp) _).drew, set2_old b0 (by omega), set2_old b1 (by omega), set2_frozen z0, set2_frozen z1⟩))
    clear hK K
    try simp only [Act.put, List.setIfInBounds_toArray, List.set_cons_zero, List.set_cons_succ]
    refine take_in (i := 3) (v := ?_) (d := (some 9)) rfl rfl ?_ ?_ ?_ ?_ ?_ ?_ ?_ ?_
    rotate_left
    · kernel_rfl
    · kernel_rfl
    · kernel_rfl
    · (intro _ _ _ hq; exact hq)
    · rfl
    · (intro _w hSw; (try dsimp only at hSw); go_simp; try with_reducible rfl)
    · assumption
    try simp only [Act.put, List.setIfInBounds_toArray, List.set_cons_zero, List.set_cons_succ]
    refine wpAnyH_ready (rs := [6]) ?_ ?_ ?_
    · kernel_rfl
    · simp
    refine (AllReadyH.cons rfl (fun K hK => ?_) AllReadyH.nil)
    go_simp
    first | (go_at_call 49; (with_reducible refine (M1.out _).mono ?_); rintro e w4 ⟨rfl, rfl⟩) | (go_at_call 49; (with_reducible refine (M2.out _).mono ?_); rintro e w4 ⟨rfl, rfl⟩)
    refine hK.out _ _ ?_ (fun hHeld => ?_)
    · ((try dsimp only); (first | exact hHeld | exact ⟨hg.drew, b0, b1, z0, z1⟩ | exact ⟨((hg.setCell (p := ⟨w.heap.size + 1, 0, none⟩) (by simp) _).setCell (p := ⟨w.heap.size + 1, 1, none⟩) (by simp) _).drew, set2_old b0 (by omega), set2_old b1 (by omega), set2_frozen z0, set2_frozen z1⟩))
    clear hK K
    try simp only [Act.put, List.setIfInBounds_toArray, List.set_cons_zero, List.set_cons_succ]
    refine take_in (i := 7) (v := ?_) (d := (some 13)) rfl rfl ?_ ?_ ?_ ?_ ?_ ?_ ?_ ?_
    rotate_left
    · kernel_rfl
    · kernel_rfl
    · kernel_rfl
    · (intro _ _ _ hq; exact hq)
    · rfl
    · (intro _w hSw; (try dsimp only at hSw); go_simp; try with_reducible rfl)
    · assumption
    try simp only [Act.put, List.setIfInBounds_toArray, List.set_cons_zero, List.set_cons_succ]
    refine take_in (i := 8) (v := ?_) (d := (some 14)) rfl rfl ?_ ?_ ?_ ?_ ?_ ?_ ?_ ?_
    rotate_left
    · kernel_rfl
    · kernel_rfl
    · kernel_rfl
    · (intro _ _ _ hq; exact hq)
    · rfl
    · (intro _w hSw; (try dsimp only at hSw); go_simp; try with_reducible rfl)
    · assumption
    try simp only [Act.put, List.setIfInBounds_toArray, List.set_cons_zero, List.set_cons_succ]
    refine wpAnyH_ready (rs := [9]) ?_ ?_ ?_
    · kernel_rfl
    · simp
    refine (AllReadyH.cons rfl (fun K hK => ?_) AllReadyH.nil)
    go_simp
    refine hK.out _ _ ?_ (fun hHeld => ?_)
    · ((try dsimp only); (first | exact hHeld | exact ⟨hg.drew, b0, b1, z0, z1⟩ | exact ⟨((hg.setCell (p := ⟨w.heap.size + 1, 0, none⟩) (by simp) _).setCell (p := ⟨w.heap.size + 1, 1, none⟩) (by simp) _).drew, set2_old b0 (by omega), set2_old b1 (by omega), set2_frozen z0, set2_frozen z1⟩))
    clear hK K
    try simp only [Act.put, List.setIfInBounds_toArray, List.set_cons_zero, List.set_cons_succ]
    refine wpAnyH_done ?_ ?_ _
    · kernel_rfl
    rotate_left
    all_goals
      go_wp2_with fail
      refine bodyPost_ret (v := .agg #[.int .i64 (a - 20), .int .i64 (b - 20)]) ?_ rfl ⟨rfl, ?_⟩
      · simp [results, Try.results22, r0, r1, go_sem]
      · exact hHeld.1
  · have HG : Hid (gridP (x, y) = (x, y)) := Lib.hid (by unfold gridP; rw [hv]; rfl)
    have HV := Lib.hid hv
    clear hv
    rw [HG.out]
    go_enter Try.func22, Try.ntmps22
    go_wp2_with fail
    generalize hW : World.alloc (World.alloc w _) _ = W
    obtain ⟨hg, b0, b1, hBk⟩ := box22 hW
    clear hW
    refine (rValid_any x y _ _ HV.out).mono ?_
    rintro e w3 ⟨rfl, hb⟩
    replace b0 := hb.keep b0
    replace b1 := hb.keep b1
    replace hBk := hBk.keep hb
    replace hg := hg.trans hb
    have r0 : w3.cell? ⟨w.heap.size + 1, 0, none⟩ = some (.int .i64 0) := by rw [hBk.cell]; rfl
    have r1 : w3.cell? ⟨w.heap.size + 1, 1, none⟩ = some (.int .i64 0) := by rw [hBk.cell]; rfl
    have z0 : w3.frozen? ⟨w.heap.size + 1, 0, none⟩ = false := hBk.free _
    have z1 : w3.frozen? ⟨w.heap.size + 1, 1, none⟩ = false := hBk.free _
    clear hb hBk
    go_wp2_with fail
    refine bodyPost_ret (v := .agg #[.int .i64 x, .int .i64 y]) ?_ rfl ⟨rfl, ?_⟩
    · simp [results, Try.results22, r0, r1, go_sem]
    · exact ((hg.setCell (p := ⟨w.heap.size + 1, 0, none⟩) (by simp) _).setCell (p := ⟨w.heap.size + 1, 1, none⟩) (by simp) _)

/-- The set that the law makes of a list. -/
def setL (ps : List (Int × Int)) (m : Nat) : List (Int × Int) := if (ps.take m).length = 0 then [(0, 0)] else (ps.take m).map gridP
theorem setL_co (ps : List (Int × Int)) (m : Nat) : AllCo (setL ps m) := fun p hp => by
  unfold setL at hp
  split at hp
  · obtain rfl : p = (0, 0) := by simpa using hp
    unfold Co; simp
  · obtain ⟨q, -, rfl⟩ := List.mem_map.1 hp
    exact gridP_co q
theorem setL_len (ps : List (Int × Int)) (m : Nat) (hm : 1 ≤ m) : 1 ≤ (setL ps m).length ∧ (setL ps m).length ≤ m := by
  unfold setL
  split
  · exact ⟨Nat.le_refl _, hm⟩
  · rename_i h
    rw [List.length_map]
    have := List.length_take_le m ps
    omega
def SetPost (qs : List (Int × Int)) (w : World) (e : Ending) (w' : World) : Prop :=
  ∃ g c, e = .returned (.slice (some ⟨g, 0, none⟩) qs.length c) ∧ qs.length ≤ c ∧ w.heap.size ≤ g ∧ w'.ownsRow w.heap.size 40 2 (.slice (some ⟨g, 0, none⟩) qs.length c) qs.length (flat2 qs) ∧ Gr w w'
theorem SetPost.of {w w' : World} {v : Value} {k : Nat} {qs : List (Int × Int)} (hk : qs.length = k) (h1 : 1 ≤ k) (h : w'.ownsRow w.heap.size 40 2 v k (flat2 qs)) (hg : Gr w w') : SetPost qs w (.returned v) w' := by
  rcases h.2 with ⟨_, hz⟩ | ⟨g, cap, cur, rfl, hgs, _, hnc, _⟩
  · omega
  · subst hk
    exact ⟨g, cap, rfl, hnc, hgs, h, hg⟩

set_option maxRecDepth 100000 in
set_option maxHeartbeats 2000000 in
theorem set_any (A : Option Addr) (n c m : Nat) (ps : List (Int × Int)) (w : World) (hn : ps.length = n) (hl : n ≤ 8796093022208) (hm1 : 1 ≤ m) (hm : m ≤ 512) (hp : Pts w A ps) :
    Calls Try.prog 21 #[.slice A n c, .int .i64 m] w (SetPost (setL ps m) w) := by
  obtain ⟨i0, hi, hz0, hz1, hz2⟩ := info_parts Try.info23
  have HI := Lib.hid (And.intro hi (And.intro hz0 (And.intro hz1 hz2)))
  have HN := Lib.hid hn
  have HP := Lib.hid hp
  clear hi hz0 hz1 hz2 hn hp
  go_enter Try.func21, Try.ntmps21
  go_wp2_with fail
  go_loopw [5, 6] (fun v i wr => ∃ k : Nat, k ≤ n ∧ k ≤ m ∧ i = .int .i64 k ∧ (k = 0 → v = .slice none 0 0) ∧ Hid (wr.ownsRow w.heap.size 40 2 v k (flat2 ((ps.take k).map gridP))) ∧ Gr w wr) (fun _ i _ => n - (intOf i).toNat)
  case atStart => exact ⟨0, Nat.zero_le _, Nat.zero_le _, rfl, fun _ => rfl, Lib.hid (World.ownsRow_nil w _ _ _), Gr.refl _⟩
  case round =>
    obtain ⟨k, hk, hkm, rfl, hv0, hown, hg⟩ := hrel
    have HV0 := Lib.hid hv0
    clear hv0
    by_cases hlt : k < n
    · by_cases hltm : k < m
      · obtain ⟨b, off, rfl, p0, p1⟩ := Pts_at (HP.out.keep hg) (k := k) (by have := HN.out; omega)
        have HTK : Hid ((ps.take (k + 1)).map gridP = (ps.take k).map gridP ++ [gridP (ps.getD k (0, 0))]) := Lib.hid (by
          rw [List.take_add_one, getD_of (0, 0) (by have := HN.out; omega)]; simp)
        generalize ps.getD k (0, 0) = q at p0 p1 HTK
        obtain ⟨x, y⟩ := q
        dsimp only at p0 p1
        go_wp2_with fail
        refine (grid_any x y _).mono ?_
        rintro e w3 ⟨rfl, hb⟩
        generalize gridP (x, y) = r at HTK ⊢
        obtain ⟨x', y'⟩ := r
        dsimp only
        have hgw := hg.trans hb
        have hown2 := Lib.hid (owns_gr hown.out hb)
        obtain ⟨hi, hz0, hz1, hz2⟩ := HI.out
        clear p0 p1
        go_wp2_with (at_builtin; refine wpList_append_own _ rfl _ _ 22 rfl w.heap.size 40 i0 _ 2 16 Try.underlying22 hi hz0 hz1 hz2 rfl (by decide) _ _ _ rfl (hown2.out.alloc _) ⟨w3.heap.size, 0, none⟩ 1 1 [.int .i64 x', .int .i64 y'] rfl rfl ?a1 ?a2 ?a3 ?a4 ?a5 ?_)
        case a1 =>
          intro t u ht
          rw [Addr.add_lit]
          exact alloc_new rfl (by rw [Nat.zero_add]; simpa using ht)
        case a2 =>
          intro u hu
          simp at hu
          rcases hu with rfl | rfl <;> rfl
        case a3 => unfold maxLen; omega
        case a4 => omega
        case a5 => have := hgw.size; simp; omega
        intro v' w2 hown' hgrow _
        have hga : Gr w (w3.alloc _) := hgw.alloc (.cells #[.int .i64 x', .int .i64 y'] 40)
        have hgb : Gr w w2 := Below.grown hga hgrow hga.size (fun t ht => (hown2.out.lt t ht).1)
        have HO2 := Lib.hid hown'
        clear hown' hgrow hi hz0 hz1 hz2 hga
        go_wp2_with fail
        go_roundw
        case rel => exact ⟨k + 1, by omega, by omega, by go_num, fun h => by omega, Lib.hid (by
          have h := HO2.out
          rw [← List.map_take] at h
          rw [HTK.out, flat2_snoc]
          exact h), hgb⟩
        case measure => simp [intOf]; omega
      · obtain ⟨v0, v1, hvv⟩ : ∃ v0 v1, u5 = .slice (some ⟨v0, 0, none⟩) k v1 := by
          rcases hown.out.2 with ⟨_, hz⟩ | ⟨gv, cv, _, hv, _⟩
          · omega
          · exact ⟨gv, cv, hv⟩
        subst hvv
        have hk0 : ((k : Int) == 0) = false := by simp; omega
        have HE : Hid (setL ps m = (ps.take k).map gridP ∧ ((ps.take k).map gridP).length = k) := Lib.hid (by
          obtain rfl : k = m := by omega
          have h1 : (ps.take k).length = k := by rw [List.length_take, HN.out]; omega
          exact ⟨by unfold setL; rw [if_neg (by omega)], by rw [List.length_map, h1]⟩)
        have hk1 : 1 ≤ k := by omega
        go_wp2_with fail
        go_ret
        rw [HE.out.1]
        exact SetPost.of HE.out.2 hk1 hown.out hg
    · have HKN : Hid (k = n) := Lib.hid (by omega)
      by_cases hk0 : k = 0
      · have hv := HV0.out hk0
        have HK0 := Lib.hid hk0
        subst hv
        clear hk0
        have HE : Hid (setL ps m = [(0, 0)]) := Lib.hid (by
          have h1 : ps = [] := List.eq_nil_of_length_eq_zero (HN.out.trans (HKN.out.symm.trans HK0.out))
          subst h1; unfold setL; simp)
        obtain ⟨hi, hz0, hz1, hz2⟩ := HI.out
        go_wp2_with (at_builtin; refine wpList_append_own _ rfl _ _ 22 rfl w.heap.size 40 i0 _ 2 16 Try.underlying22 hi hz0 hz1 hz2 rfl (by decide) _ _ _ rfl (World.ownsRow_nil _ _ _ _) ⟨wr.heap.size, 0, none⟩ 1 1 [.int .i64 0, .int .i64 0] rfl rfl ?b1 ?b2 ?b3 ?b4 ?b5 ?_)
        case b2 => rfl
        case b3 => unfold maxLen; omega
        case b5 => have := hg.size; simp; omega
        intro v' w2 hown' hgrow _
        have hga : Gr w (wr.alloc _) := hg.alloc (.cells #[.int .i64 0, .int .i64 0] 40)
        have hgb : Gr w w2 := Below.grown hga hgrow hga.size (fun t ht => by simp [Value.ownBlock] at ht)
        have HO2 := Lib.hid hown'
        clear hown' hgrow hi hz0 hz1 hz2 hga
        go_wp2_with fail
        go_ret
        rw [HE.out]
        exact SetPost.of (k := 1) rfl (Nat.le_refl _) HO2.out hgb
      · obtain ⟨v0, v1, hvv⟩ : ∃ v0 v1, u5 = .slice (some ⟨v0, 0, none⟩) k v1 := by
          rcases hown.out.2 with ⟨_, hz⟩ | ⟨gv, cv, _, hv, _⟩
          · omega
          · exact ⟨gv, cv, hv⟩
        subst hvv
        have hk1 : ((k : Int) == 0) = false := by simp; omega
        have HE : Hid (setL ps m = (ps.take k).map gridP ∧ ((ps.take k).map gridP).length = k) := Lib.hid (by
          have h1 : (ps.take k).length = k := by rw [List.length_take, HN.out, HKN.out]; omega
          have h2 : ps.take m = ps.take k := by rw [List.take_of_length_le (by rw [HN.out, ← HKN.out]; omega), List.take_of_length_le (by rw [HN.out, HKN.out]; omega)]
          exact ⟨by unfold setL; rw [h2, if_neg (by omega)], by rw [List.length_map, h1]⟩)
        have hk2 : 1 ≤ k := by omega
        clear hk0
        go_wp2_with fail
        go_ret
        rw [HE.out.1]
        exact SetPost.of HE.out.2 hk2 hown.out hg

end Go.Proofs.Ytjkdjfagaakijaa
