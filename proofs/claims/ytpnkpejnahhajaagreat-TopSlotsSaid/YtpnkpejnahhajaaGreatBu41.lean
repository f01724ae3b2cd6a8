/- The library's Compact on a row of points. -/
import Derived.Test.YtpnkpejnahhajaaGreatBu40
namespace Go.Proofs.YtpnkpejnahhajaaGreat
open Go.RowKit
set_option linter.unusedSimpArgs false

/-- What is left of the first r points when each that equals the one before it is dropped. -/
def ddT (ps : List (Int × Int)) : Nat → List (Int × Int)
  | 0 => []
  | r + 1 => if r ≠ 0 ∧ ps.getD r (0, 0) = ps.getD (r - 1) (0, 0) then ddT ps r else ddT ps r ++ [ps.getD r (0, 0)]
def ddL (ps : List (Int × Int)) : List (Int × Int) := ddT ps ps.length
theorem ddT_le (ps : List (Int × Int)) : ∀ r, (ddT ps r).length ≤ r
  | 0 => by simp [ddT]
  | r + 1 => by have := ddT_le ps r; unfold ddT; split <;> simp <;> omega
theorem ddT_take (ps : List (Int × Int)) : ∀ r, r ≤ ps.length → (∀ j, 0 < j → j < r → ps.getD j (0, 0) ≠ ps.getD (j - 1) (0, 0)) → ddT ps r = ps.take r
  | 0, _, _ => by simp [ddT]
  | r + 1, hr, h => by
    unfold ddT
    rw [ddT_take ps r (by omega) (fun j h1 h2 => h j h1 (by omega)), if_neg, List.take_add_one, getD_of (0, 0) (by omega)]
    · rfl
    · rintro ⟨h1, h2⟩
      exact h r (by omega) (by omega) h2

/-- In the midst of the second loop: r points read, cur what the row holds. -/
structure CI (ps cur : List (Int × Int)) (r kk : Nat) : Prop where
  ln : cur.length = ps.length
  ct : (ddT ps r).length = kk
  lt : kk < r
  low : ∀ i, i < kk → cur.getD i (0, 0) = (ddT ps r).getD i (0, 0)
  high : ∀ i, r ≤ i + 1 → cur.getD i (0, 0) = ps.getD i (0, 0)
theorem CI.skip {ps cur : List (Int × Int)} {r kk : Nat} (h : CI ps cur r kk) (h1 : 0 < r) (he : ps.getD r (0, 0) = ps.getD (r - 1) (0, 0)) : CI ps cur (r + 1) kk := by
  have e : ddT ps (r + 1) = ddT ps r := by rw [ddT, if_pos ⟨by omega, he⟩]
  exact ⟨h.ln, by rw [e]; exact h.ct, by have := h.lt; omega, by rw [e]; exact h.low, fun i hi => h.high i (by omega)⟩
theorem CI.take {ps cur : List (Int × Int)} {r kk : Nat} (h : CI ps cur r kk) (hr : r < ps.length) (he : ps.getD r (0, 0) ≠ ps.getD (r - 1) (0, 0)) : CI ps (cur.set kk (ps.getD r (0, 0))) (r + 1) (kk + 1) := by
  have hlt := h.lt
  have hl := h.ln
  have e : ddT ps (r + 1) = ddT ps r ++ [ps.getD r (0, 0)] := by rw [ddT, if_neg (fun h => he h.2)]
  have hset : ∀ i, (cur.set kk (ps.getD r (0, 0))).getD i (0, 0) = if i = kk then ps.getD r (0, 0) else cur.getD i (0, 0) := fun i => by
    rw [List.getD_eq_getElem?_getD, List.getElem?_set]
    by_cases e : kk = i
    · subst e; simp [show kk < cur.length by omega]
    · rw [if_neg e, if_neg (fun h => e h.symm), ← List.getD_eq_getElem?_getD]
  refine ⟨by simpa using hl, by rw [e]; simp [h.ct], by omega, fun i hi => ?_, fun i hi => ?_⟩
  · rw [hset, e]
    by_cases ei : i = kk
    · subst ei
      rw [if_pos rfl]
      generalize ps.getD r (0, 0) = z
      rw [List.getD_eq_getElem?_getD, List.getElem?_append_right (by rw [h.ct]; exact Nat.le_refl _), h.ct]; simp
    · rw [if_neg ei, h.low i (by omega), List.getD_eq_getElem?_getD, List.getD_eq_getElem?_getD, List.getElem?_append_left (by rw [h.ct]; omega)]
  · rw [hset, if_neg (by omega)]
    exact h.high i (by omega)

/-- clear on a row of elements of two integers. -/
theorem run_clear2 {P : Program} (w : World) (t e ty : TypeId) (ht : P.underlying t = some (.slice e)) (hv : ∀ w, (zeroValue e).run P w = .ok (.agg #[.int .i64 0, .int .i64 0]) w) (b o n c : Nat) (hn : 0 < n)
    (hc : ∀ j, j < n * 2 → (w.cell? ⟨b, o + j, none⟩).isSome = true) (hf : ∀ j, j < n * 2 → w.frozen? ⟨b, o + j, none⟩ = false) :
    (Builtin.clear_ #[t] ty #[.slice (some ⟨b, o, none⟩) n c]).run P w = .ok (.tuple #[]) (w.setCells b o (List.replicate (n * 2) (.int .i64 0))) := by
  have hzc : (Builtin.zeroCells (Value.agg #[.int .i64 0, .int .i64 0]).cells n).toList = List.replicate (n * 2) (.int .i64 0) := by
    simp only [Builtin.zeroCells, Value.cells]
    apply List.ext_getElem
    · simp
    · intro i h1 h2
      simp
      rcases Nat.mod_two_eq_zero_or_one i with h | h <;> simp [h]
  have hst := run_storeCells_cells (P := P) b o (List.replicate (n * 2) (.int .i64 0)) 0 w (by simpa using hc) (by simpa using hf) (by intro v hv'; rw [List.eq_of_mem_replicate hv']; rfl)
  simp only [Nat.add_zero] at hst
  obtain ⟨m, rfl⟩ : ∃ m, n = m + 1 := ⟨n - 1, by omega⟩
  simp [Builtin.clear_, run_underlying ht, hv, hzc, hst]

theorem zero_pt (w : World) : (zeroValue 108).run Tryz.prog w = .ok (.agg #[.int .i64 0, .int .i64 0]) w := by kernel_rfl

def CompPost (ps : List (Int × Int)) (g off c : Nat) (w : World) (e : Ending) (w' : World) : Prop :=
  e = .returned (.slice (some ⟨g, off, none⟩) (ddL ps).length c) ∧ Own w' g off (ddL ps) ∧ Gb g w w'

set_option maxRecDepth 100000 in
set_option maxHeartbeats 4000000 in
theorem compact_any (g off n c : Nat) (ps : List (Int × Int)) (w : World) (hn : ps.length = n) (hl : n ≤ 512) (hc : n ≤ c) (hO : Own w g off ps) :
    Calls Tryz.prog 84 #[.slice (some ⟨g, off, none⟩) n c] w (CompPost ps g off c w) := by
  have HN := Lib.hid hn
  have HO := Lib.hid hO
  clear hn hO
  by_cases h2 : n < 2
  · go_enter Tryz.func84, Tryz.ntmps84
    go_wp2_with fail
    go_ret
    have e : ddL ps = ps := by
      unfold ddL
      rw [ddT_take ps _ (Nat.le_refl _) (fun j h1 h2 => by have := HN.out; omega), List.take_length]
    refine ⟨?_, by rw [e]; exact HO.out, Gb.refl _ _⟩
    rw [e, HN.out]; rfl
  · go_enter Tryz.func84, Tryz.ntmps84
    go_wp2_with fail
    go_loopw [3] (fun i wr => ∃ k1 : Nat, k1 + 1 ≤ n ∧ i = .int .i64 ((k1 : Int) + 1) ∧ Hid (∀ j, 0 < j → j < k1 + 1 → ps.getD j (0, 0) ≠ ps.getD (j - 1) (0, 0)) ∧ Gr w wr) (fun i _ => n - (intOf i).toNat)
    case atStart => exact ⟨0, by omega, rfl, Lib.hid (fun j h1 h2 => by omega), Gr.refl _⟩
    case round =>
      obtain ⟨wo, rfl⟩ : ∃ wo : World, wo = wr := ⟨_, rfl⟩
      obtain ⟨k1, hk, rfl, hall, hg⟩ := hrel
      by_cases hlt : k1 + 1 < n
      · obtain ⟨⟨a0, a1⟩, -⟩ := (HO.out.keep hg) (k1 + 1) (by have := HN.out; omega)
        obtain ⟨⟨b0, b1⟩, -⟩ := (HO.out.keep hg) k1 (by have := HN.out; omega)
        obtain ⟨q, hq⟩ : ∃ q, ps.getD (k1 + 1) (0, 0) = q := ⟨_, rfl⟩
        obtain ⟨q', hq'⟩ : ∃ q, ps.getD k1 (0, 0) = q := ⟨_, rfl⟩
        rw [hq] at a0 a1
        rw [hq'] at b0 b1
        have HQ := Lib.hid hq
        have HQ' := Lib.hid hq'
        clear hq hq'
        obtain ⟨x, y⟩ := q
        obtain ⟨x', y'⟩ := q'
        dsimp only at a0 a1 b0 b1
        have i1 : (0 : Int) ≤ (k1 : Int) + 1 := by omega
        have i2 : (k1 : Int) + 1 < (n : Int) := by omega
        have i3 : ((k1 : Int) + 1).toNat = k1 + 1 := by omega
        have i4 : IntKind.i64.wrap (k1 : Int) = (k1 : Int) := IntWalk.i64_in _ (by omega)
        have i5 : (0 : Int) ≤ (k1 : Int) := by omega
        have i6 : (k1 : Int) < (n : Int) := by omega
        cases e1 : (x == x')
        · have hne : ps.getD (k1 + 1) (0, 0) ≠ ps.getD (k1 + 1 - 1) (0, 0) := by
            rw [show k1 + 1 - 1 = k1 by omega, HQ.out, HQ'.out]
            intro h
            injection h with h1 h2
            simp [h1, h2] at e1
          have HNE := Lib.hid hne
          clear hne
          go_wp2_with fail
          refine wp_region_held_drew (S := (fun W' => W'.cell? ⟨g, off + (k1 + 1) * 2, none⟩ = some (.int .i64 x) ∧ W'.cell? ⟨g, off + (k1 + 1) * 2 + 1, none⟩ = some (.int .i64 y) ∧ W'.cell? ⟨g, off + k1 * 2, none⟩ = some (.int .i64 x') ∧ W'.cell? ⟨g, off + k1 * 2 + 1, none⟩ = some (.int .i64 y'))) ?_ ?_ (fun hHeld => ?_)
          · kernel_rfl
          · ((try dsimp only); (first | go_keep | assumption))
          refine take_in (i := 0) (v := ?_) (d := (some 16)) rfl rfl ?_ ?_ ?_ ?_ ?_ ?_ ?_ ?_
          rotate_left
          · kernel_rfl
          · kernel_rfl
          · kernel_rfl
          · (intro _ _ _ hq; exact hq)
          · rfl
          · (intro _w hSw; (try dsimp only at hSw); go_simp; try with_reducible rfl)
          · assumption
          try simp only [Act.put, List.setIfInBounds_toArray, List.set_cons_zero, List.set_cons_succ]
          refine take_in (i := 1) (v := ?_) (d := (some 17)) rfl rfl ?_ ?_ ?_ ?_ ?_ ?_ ?_ ?_
          rotate_left
          · kernel_rfl
          · kernel_rfl
          · kernel_rfl
          · (intro _ _ _ hq; exact hq)
          · rfl
          · (intro _w hSw; (try dsimp only at hSw); go_simp; try with_reducible rfl)
          · assumption
          try simp only [Act.put, List.setIfInBounds_toArray, List.set_cons_zero, List.set_cons_succ]
          refine take_in (i := 2) (v := ?_) (d := (some 18)) rfl rfl ?_ ?_ ?_ ?_ ?_ ?_ ?_ ?_
          rotate_left
          · kernel_rfl
          · kernel_rfl
          · kernel_rfl
          · (intro _ _ _ hq; exact hq)
          · rfl
          · (intro _w hSw; (try dsimp only at hSw); go_simp; try with_reducible rfl)
          · assumption
          try simp only [Act.put, List.setIfInBounds_toArray, List.set_cons_zero, List.set_cons_succ]
          refine take_in (i := 3) (v := ?_) (d := (some 19)) rfl rfl ?_ ?_ ?_ ?_ ?_ ?_ ?_ ?_
          rotate_left
          · kernel_rfl
          · kernel_rfl
          · kernel_rfl
          · (intro _ _ _ hq; exact hq)
          · rfl
          · (intro _w hSw; (try dsimp only at hSw); go_simp; try with_reducible rfl)
          · assumption
          try simp only [Act.put, List.setIfInBounds_toArray, List.set_cons_zero, List.set_cons_succ]
          refine take_in (i := 4) (v := ?_) (d := (some 20)) rfl rfl ?_ ?_ ?_ ?_ ?_ ?_ ?_ ?_
          rotate_left
          · kernel_rfl
          · kernel_rfl
          · kernel_rfl
          · (intro _ _ _ hq; exact hq)
          · rfl
          · (intro _w hSw; (try dsimp only at hSw); go_simp; try with_reducible rfl)
          · assumption
          try simp only [Act.put, List.setIfInBounds_toArray, List.set_cons_zero, List.set_cons_succ]
          refine take_in (i := 5) (v := ?_) (d := (some 21)) rfl rfl ?_ ?_ ?_ ?_ ?_ ?_ ?_ ?_
          rotate_left
          · kernel_rfl
          · kernel_rfl
          · kernel_rfl
          · (intro _ _ _ hq; exact hq)
          · rfl
          · (intro _w hSw; (try dsimp only at hSw); go_simp; try with_reducible rfl)
          · assumption
          try simp only [Act.put, List.setIfInBounds_toArray, List.set_cons_zero, List.set_cons_succ]
          refine take_in (i := 6) (v := ?_) (d := (some 22)) rfl rfl ?_ ?_ ?_ ?_ ?_ ?_ ?_ ?_
          rotate_left
          · kernel_rfl
          · kernel_rfl
          · kernel_rfl
          · (intro _ _ _ hq; exact hq)
          · rfl
          · (intro _w hSw; (try dsimp only at hSw); go_simp; try with_reducible rfl)
          · assumption
          try simp only [Act.put, List.setIfInBounds_toArray, List.set_cons_zero, List.set_cons_succ]
          refine take_in (i := 7) (v := ?_) (d := (some 23)) rfl rfl ?_ ?_ ?_ ?_ ?_ ?_ ?_ ?_
          rotate_left
          · kernel_rfl
          · kernel_rfl
          · kernel_rfl
          · (intro _ _ _ hq; exact hq)
          · rfl
          · (intro _w hSw; (try dsimp only at hSw); go_simp; try with_reducible rfl)
          · assumption
          try simp only [Act.put, List.setIfInBounds_toArray, List.set_cons_zero, List.set_cons_succ]
          refine take_in (i := 8) (v := ?_) (d := (some 24)) rfl rfl ?_ ?_ ?_ ?_ ?_ ?_ ?_ ?_
          rotate_left
          · kernel_rfl
          · kernel_rfl
          · kernel_rfl
          · (intro _ _ _ hq; exact hq)
          · rfl
          · (intro _w hSw; (try dsimp only at hSw); go_simp; try with_reducible rfl)
          · assumption
          try simp only [Act.put, List.setIfInBounds_toArray, List.set_cons_zero, List.set_cons_succ]
          refine take_in (i := 9) (v := ?_) (d := (some 25)) rfl rfl ?_ ?_ ?_ ?_ ?_ ?_ ?_ ?_
          rotate_left
          · kernel_rfl
          · kernel_rfl
          · kernel_rfl
          · (intro _ _ _ hq; exact hq)
          · rfl
          · (intro _w hSw; (try dsimp only at hSw); go_simp; try with_reducible rfl)
          · assumption
          try simp only [Act.put, List.setIfInBounds_toArray, List.set_cons_zero, List.set_cons_succ]
          refine wpAnyH_done ?_ ?_ _
          · kernel_rfl
          rotate_left
          clear hHeld e1
          go_wp2_with fail
          go_roundw
          case rel => exact ⟨k1 + 1, by omega, by go_num, Lib.hid (fun j h1 h2 => by
            rcases Nat.lt_succ_iff_lt_or_eq.1 h2 with h | rfl
            · exact hall.out j h1 h
            · exact HNE.out), hg.drew⟩
          case measure => simp [intOf]; omega
        cases e2 : (y == y')
        · have hne : ps.getD (k1 + 1) (0, 0) ≠ ps.getD (k1 + 1 - 1) (0, 0) := by
            rw [show k1 + 1 - 1 = k1 by omega, HQ.out, HQ'.out]
            intro h
            injection h with h1 h2
            simp [h1, h2] at e2
          have HNE := Lib.hid hne
          clear hne
          go_wp2_with fail
          refine wp_region_held_drew (S := (fun W' => W'.cell? ⟨g, off + (k1 + 1) * 2, none⟩ = some (.int .i64 x) ∧ W'.cell? ⟨g, off + (k1 + 1) * 2 + 1, none⟩ = some (.int .i64 y) ∧ W'.cell? ⟨g, off + k1 * 2, none⟩ = some (.int .i64 x') ∧ W'.cell? ⟨g, off + k1 * 2 + 1, none⟩ = some (.int .i64 y'))) ?_ ?_ (fun hHeld => ?_)
          · kernel_rfl
          · ((try dsimp only); (first | go_keep | assumption))
          refine take_in (i := 0) (v := ?_) (d := (some 16)) rfl rfl ?_ ?_ ?_ ?_ ?_ ?_ ?_ ?_
          rotate_left
          · kernel_rfl
          · kernel_rfl
          · kernel_rfl
          · (intro _ _ _ hq; exact hq)
          · rfl
          · (intro _w hSw; (try dsimp only at hSw); go_simp; try with_reducible rfl)
          · assumption
          try simp only [Act.put, List.setIfInBounds_toArray, List.set_cons_zero, List.set_cons_succ]
          refine take_in (i := 1) (v := ?_) (d := (some 17)) rfl rfl ?_ ?_ ?_ ?_ ?_ ?_ ?_ ?_
          rotate_left
          · kernel_rfl
          · kernel_rfl
          · kernel_rfl
          · (intro _ _ _ hq; exact hq)
          · rfl
          · (intro _w hSw; (try dsimp only at hSw); go_simp; try with_reducible rfl)
          · assumption
          try simp only [Act.put, List.setIfInBounds_toArray, List.set_cons_zero, List.set_cons_succ]
          refine take_in (i := 2) (v := ?_) (d := (some 18)) rfl rfl ?_ ?_ ?_ ?_ ?_ ?_ ?_ ?_
          rotate_left
          · kernel_rfl
          · kernel_rfl
          · kernel_rfl
          · (intro _ _ _ hq; exact hq)
          · rfl
          · (intro _w hSw; (try dsimp only at hSw); go_simp; try with_reducible rfl)
          · assumption
          try simp only [Act.put, List.setIfInBounds_toArray, List.set_cons_zero, List.set_cons_succ]
          refine take_in (i := 3) (v := ?_) (d := (some 19)) rfl rfl ?_ ?_ ?_ ?_ ?_ ?_ ?_ ?_
          rotate_left
          · kernel_rfl
          · kernel_rfl
          · kernel_rfl
          · (intro _ _ _ hq; exact hq)
          · rfl
          · (intro _w hSw; (try dsimp only at hSw); go_simp; try with_reducible rfl)
          · assumption
          try simp only [Act.put, List.setIfInBounds_toArray, List.set_cons_zero, List.set_cons_succ]
          refine take_in (i := 4) (v := ?_) (d := (some 20)) rfl rfl ?_ ?_ ?_ ?_ ?_ ?_ ?_ ?_
          rotate_left
          · kernel_rfl
          · kernel_rfl
          · kernel_rfl
          · (intro _ _ _ hq; exact hq)
          · rfl
          · (intro _w hSw; (try dsimp only at hSw); go_simp; try with_reducible rfl)
          · assumption
          try simp only [Act.put, List.setIfInBounds_toArray, List.set_cons_zero, List.set_cons_succ]
          refine take_in (i := 5) (v := ?_) (d := (some 21)) rfl rfl ?_ ?_ ?_ ?_ ?_ ?_ ?_ ?_
          rotate_left
          · kernel_rfl
          · kernel_rfl
          · kernel_rfl
          · (intro _ _ _ hq; exact hq)
          · rfl
          · (intro _w hSw; (try dsimp only at hSw); go_simp; try with_reducible rfl)
          · assumption
          try simp only [Act.put, List.setIfInBounds_toArray, List.set_cons_zero, List.set_cons_succ]
          refine take_in (i := 6) (v := ?_) (d := (some 22)) rfl rfl ?_ ?_ ?_ ?_ ?_ ?_ ?_ ?_
          rotate_left
          · kernel_rfl
          · kernel_rfl
          · kernel_rfl
          · (intro _ _ _ hq; exact hq)
          · rfl
          · (intro _w hSw; (try dsimp only at hSw); go_simp; try with_reducible rfl)
          · assumption
          try simp only [Act.put, List.setIfInBounds_toArray, List.set_cons_zero, List.set_cons_succ]
          refine take_in (i := 7) (v := ?_) (d := (some 23)) rfl rfl ?_ ?_ ?_ ?_ ?_ ?_ ?_ ?_
          rotate_left
          · kernel_rfl
          · kernel_rfl
          · kernel_rfl
          · (intro _ _ _ hq; exact hq)
          · rfl
          · (intro _w hSw; (try dsimp only at hSw); go_simp; try with_reducible rfl)
          · assumption
          try simp only [Act.put, List.setIfInBounds_toArray, List.set_cons_zero, List.set_cons_succ]
          refine take_in (i := 8) (v := ?_) (d := (some 24)) rfl rfl ?_ ?_ ?_ ?_ ?_ ?_ ?_ ?_
          rotate_left
          · kernel_rfl
          · kernel_rfl
          · kernel_rfl
          · (intro _ _ _ hq; exact hq)
          · rfl
          · (intro _w hSw; (try dsimp only at hSw); go_simp; try with_reducible rfl)
          · assumption
          try simp only [Act.put, List.setIfInBounds_toArray, List.set_cons_zero, List.set_cons_succ]
          refine take_in (i := 9) (v := ?_) (d := (some 25)) rfl rfl ?_ ?_ ?_ ?_ ?_ ?_ ?_ ?_
          rotate_left
          · kernel_rfl
          · kernel_rfl
          · kernel_rfl
          · (intro _ _ _ hq; exact hq)
          · rfl
          · (intro _w hSw; (try dsimp only at hSw); go_simp; try with_reducible rfl)
          · assumption
          try simp only [Act.put, List.setIfInBounds_toArray, List.set_cons_zero, List.set_cons_succ]
          refine wpAnyH_done ?_ ?_ _
          · kernel_rfl
          rotate_left
          clear hHeld e1 e2
          go_wp2_with fail
          go_roundw
          case rel => exact ⟨k1 + 1, by omega, by go_num, Lib.hid (fun j h1 h2 => by
            rcases Nat.lt_succ_iff_lt_or_eq.1 h2 with h | rfl
            · exact hall.out j h1 h
            · exact HNE.out), hg.drew⟩
          case measure => simp [intOf]; omega
        have hcne : ¬ c = k1 + 1 := by omega
        have hdup : ps.getD (k1 + 1) (0, 0) = ps.getD (k1 + 1 - 1) (0, 0) := by
          simp at e1 e2
          rw [show k1 + 1 - 1 = k1 by omega, HQ.out, HQ'.out, e1, e2]
        have HD := Lib.hid hdup
        clear hdup
        go_wp2_with fail
        refine wp_region_held_drew (S := (fun W' => W'.cell? ⟨g, off + (k1 + 1) * 2, none⟩ = some (.int .i64 x) ∧ W'.cell? ⟨g, off + (k1 + 1) * 2 + 1, none⟩ = some (.int .i64 y) ∧ W'.cell? ⟨g, off + k1 * 2, none⟩ = some (.int .i64 x') ∧ W'.cell? ⟨g, off + k1 * 2 + 1, none⟩ = some (.int .i64 y'))) ?_ ?_ (fun hHeld => ?_)
        · kernel_rfl
        · ((try dsimp only); (first | go_keep | assumption))
        refine take_in (i := 0) (v := ?_) (d := (some 16)) rfl rfl ?_ ?_ ?_ ?_ ?_ ?_ ?_ ?_
        rotate_left
        · kernel_rfl
        · kernel_rfl
        · kernel_rfl
        · (intro _ _ _ hq; exact hq)
        · rfl
        · (intro _w hSw; (try dsimp only at hSw); go_simp; try with_reducible rfl)
        · assumption
        try simp only [Act.put, List.setIfInBounds_toArray, List.set_cons_zero, List.set_cons_succ]
        refine take_in (i := 1) (v := ?_) (d := (some 17)) rfl rfl ?_ ?_ ?_ ?_ ?_ ?_ ?_ ?_
        rotate_left
        · kernel_rfl
        · kernel_rfl
        · kernel_rfl
        · (intro _ _ _ hq; exact hq)
        · rfl
        · (intro _w hSw; (try dsimp only at hSw); go_simp; try with_reducible rfl)
        · assumption
        try simp only [Act.put, List.setIfInBounds_toArray, List.set_cons_zero, List.set_cons_succ]
        refine take_in (i := 2) (v := ?_) (d := (some 18)) rfl rfl ?_ ?_ ?_ ?_ ?_ ?_ ?_ ?_
        rotate_left
        · kernel_rfl
        · kernel_rfl
        · kernel_rfl
        · (intro _ _ _ hq; exact hq)
        · rfl
        · (intro _w hSw; (try dsimp only at hSw); go_simp; try with_reducible rfl)
        · assumption
        try simp only [Act.put, List.setIfInBounds_toArray, List.set_cons_zero, List.set_cons_succ]
        refine take_in (i := 3) (v := ?_) (d := (some 19)) rfl rfl ?_ ?_ ?_ ?_ ?_ ?_ ?_ ?_
        rotate_left
        · kernel_rfl
        · kernel_rfl
        · kernel_rfl
        · (intro _ _ _ hq; exact hq)
        · rfl
        · (intro _w hSw; (try dsimp only at hSw); go_simp; try with_reducible rfl)
        · assumption
        try simp only [Act.put, List.setIfInBounds_toArray, List.set_cons_zero, List.set_cons_succ]
        refine take_in (i := 4) (v := ?_) (d := (some 20)) rfl rfl ?_ ?_ ?_ ?_ ?_ ?_ ?_ ?_
        rotate_left
        · kernel_rfl
        · kernel_rfl
        · kernel_rfl
        · (intro _ _ _ hq; exact hq)
        · rfl
        · (intro _w hSw; (try dsimp only at hSw); go_simp; try with_reducible rfl)
        · assumption
        try simp only [Act.put, List.setIfInBounds_toArray, List.set_cons_zero, List.set_cons_succ]
        refine take_in (i := 5) (v := ?_) (d := (some 21)) rfl rfl ?_ ?_ ?_ ?_ ?_ ?_ ?_ ?_
        rotate_left
        · kernel_rfl
        · kernel_rfl
        · kernel_rfl
        · (intro _ _ _ hq; exact hq)
        · rfl
        · (intro _w hSw; (try dsimp only at hSw); go_simp; try with_reducible rfl)
        · assumption
        try simp only [Act.put, List.setIfInBounds_toArray, List.set_cons_zero, List.set_cons_succ]
        refine take_in (i := 6) (v := ?_) (d := (some 22)) rfl rfl ?_ ?_ ?_ ?_ ?_ ?_ ?_ ?_
        rotate_left
        · kernel_rfl
        · kernel_rfl
        · kernel_rfl
        · (intro _ _ _ hq; exact hq)
        · rfl
        · (intro _w hSw; (try dsimp only at hSw); go_simp; try with_reducible rfl)
        · assumption
        try simp only [Act.put, List.setIfInBounds_toArray, List.set_cons_zero, List.set_cons_succ]
        refine take_in (i := 7) (v := ?_) (d := (some 23)) rfl rfl ?_ ?_ ?_ ?_ ?_ ?_ ?_ ?_
        rotate_left
        · kernel_rfl
        · kernel_rfl
        · kernel_rfl
        · (intro _ _ _ hq; exact hq)
        · rfl
        · (intro _w hSw; (try dsimp only at hSw); go_simp; try with_reducible rfl)
        · assumption
        try simp only [Act.put, List.setIfInBounds_toArray, List.set_cons_zero, List.set_cons_succ]
        refine take_in (i := 8) (v := ?_) (d := (some 24)) rfl rfl ?_ ?_ ?_ ?_ ?_ ?_ ?_ ?_
        rotate_left
        · kernel_rfl
        · kernel_rfl
        · kernel_rfl
        · (intro _ _ _ hq; exact hq)
        · rfl
        · (intro _w hSw; (try dsimp only at hSw); go_simp; try with_reducible rfl)
        · assumption
        try simp only [Act.put, List.setIfInBounds_toArray, List.set_cons_zero, List.set_cons_succ]
        refine take_in (i := 9) (v := ?_) (d := (some 25)) rfl rfl ?_ ?_ ?_ ?_ ?_ ?_ ?_ ?_
        rotate_left
        · kernel_rfl
        · kernel_rfl
        · kernel_rfl
        · (intro _ _ _ hq; exact hq)
        · rfl
        · (intro _w hSw; (try dsimp only at hSw); go_simp; try with_reducible rfl)
        · assumption
        try simp only [Act.put, List.setIfInBounds_toArray, List.set_cons_zero, List.set_cons_succ]
        refine wpAnyH_done ?_ ?_ _
        · kernel_rfl
        rotate_left
        clear hHeld e1 e2
        go_wp2_with fail
        have hCI0 : CI ps ps (k1 + 0 + 2) (k1 + 1) := by
          have e : ddT ps (k1 + 1) = ps.take (k1 + 1) := ddT_take ps (k1 + 1) (by have := HN.out; omega) hall.out
          have e' : ddT ps (k1 + 0 + 2) = ps.take (k1 + 1) := by rw [ddT, if_pos ⟨by omega, HD.out⟩, ← e]
          refine ⟨rfl, by rw [e', List.length_take]; have := HN.out; omega, by omega, fun i hi => ?_, fun i _ => rfl⟩
          rw [e', List.getD_eq_getElem?_getD, List.getD_eq_getElem?_getD, List.getElem?_take_of_lt hi]
        have HCI0 := Lib.hid hCI0
        have HO1 := Lib.hid (HO.out.keep hg)
        clear hCI0 a0 a1 b0 b1 i1 i2 i3 i4 i5 i6
        go_loopw [3, 5] (fun kv jv wr => ∃ (j kk : Nat) (cur : List (Int × Int)), k1 + j + 2 ≤ n ∧ kv = .int .i64 kk ∧ jv = .int .i64 ((j : Int) + 1) ∧ Hid (CI ps cur (k1 + j + 2) kk) ∧ Hid (Own wr g off cur) ∧ Gb g wo wr) (fun _ jv _ => n - (intOf jv).toNat)
        case atStart => exact ⟨0, k1 + 1, ps, by omega, by go_num, rfl, HCI0, HO1, (Gb.refl g wo).drew⟩
        case round =>
          obtain ⟨j, kk, cur, hj, rfl, rfl, hCI, hOw, hgb⟩ := hrel
          have hkk : kk < k1 + j + 2 := hCI.out.lt
          have hln := hCI.out.ln
          by_cases hlt2 : k1 + j + 2 < n
          · obtain ⟨⟨a0, a1⟩, -⟩ := hOw.out (k1 + j + 2) (by have := HN.out; omega)
            obtain ⟨⟨b0, b1⟩, -⟩ := hOw.out (k1 + j + 1) (by have := HN.out; omega)
            obtain ⟨⟨c0, c1⟩, f0, f1⟩ := hOw.out kk (by have := HN.out; omega)
            rw [hCI.out.high _ (by omega)] at a0 a1
            rw [hCI.out.high _ (by omega)] at b0 b1
            rw [show off + (k1 + j + 2) * 2 = off + (k1 + 1) * 2 + (j + 1) * 2 by omega] at a0 a1
            rw [show off + (k1 + j + 1) * 2 = off + (k1 + 1) * 2 + j * 2 by omega] at b0 b1
            clear hln
            obtain ⟨q, hq⟩ : ∃ q, ps.getD (k1 + j + 2) (0, 0) = q := ⟨_, rfl⟩
            obtain ⟨q', hq'⟩ : ∃ q, ps.getD (k1 + j + 1) (0, 0) = q := ⟨_, rfl⟩
            rw [hq] at a0 a1
            rw [hq'] at b0 b1
            have HU := Lib.hid hq
            have HU' := Lib.hid hq'
            clear hq hq'
            obtain ⟨u, v⟩ := q
            obtain ⟨u', v'⟩ := q'
            generalize cur.getD kk (0, 0) = old at c0 c1
            dsimp only at a0 a1 b0 b1
            have i1 : (0 : Int) ≤ (j : Int) + 1 := by omega
            have i2 : (j : Int) + 1 < ((n - (k1 + 1) : Nat) : Int) := by omega
            have i3 : ((j : Int) + 1).toNat = j + 1 := by omega
            have i4 : IntKind.i64.wrap (j : Int) = (j : Int) := IntWalk.i64_in _ (by omega)
            have i5 : (0 : Int) ≤ (j : Int) := by omega
            have i6 : (j : Int) < ((n - (k1 + 1) : Nat) : Int) := by omega
            have i7 : (kk : Int) < (n : Int) := by omega
            cases e1 : (u == u')
            · have hne : ps.getD (k1 + j + 2) (0, 0) ≠ ps.getD (k1 + j + 2 - 1) (0, 0) := by
                rw [show k1 + j + 2 - 1 = k1 + j + 1 by omega, HU.out, HU'.out]
                intro h
                injection h with h1 h2
                simp [h1, h2] at e1
              have HNE := Lib.hid hne
              clear hne
              go_wp2_with fail
              refine wp_region_held_drew (S := (fun W' => W'.cell? ⟨g, off + (k1 + 1) * 2 + (j + 1) * 2, none⟩ = some (.int .i64 u) ∧ W'.cell? ⟨g, off + (k1 + 1) * 2 + (j + 1) * 2 + 1, none⟩ = some (.int .i64 v) ∧ W'.cell? ⟨g, off + (k1 + 1) * 2 + j * 2, none⟩ = some (.int .i64 u') ∧ W'.cell? ⟨g, off + (k1 + 1) * 2 + j * 2 + 1, none⟩ = some (.int .i64 v'))) ?_ ?_ (fun hHeld => ?_)
              · kernel_rfl
              · ((try dsimp only); (first | go_keep | assumption))
              refine take_in (i := 0) (v := ?_) (d := (some 35)) rfl rfl ?_ ?_ ?_ ?_ ?_ ?_ ?_ ?_
              rotate_left
              · kernel_rfl
              · kernel_rfl
              · kernel_rfl
              · (intro _ _ _ hq; exact hq)
              · rfl
              · (intro _w hSw; (try dsimp only at hSw); go_simp; try with_reducible rfl)
              · assumption
              try simp only [Act.put, List.setIfInBounds_toArray, List.set_cons_zero, List.set_cons_succ]
              refine take_in (i := 1) (v := ?_) (d := (some 36)) rfl rfl ?_ ?_ ?_ ?_ ?_ ?_ ?_ ?_
              rotate_left
              · kernel_rfl
              · kernel_rfl
              · kernel_rfl
              · (intro _ _ _ hq; exact hq)
              · rfl
              · (intro _w hSw; (try dsimp only at hSw); go_simp; try with_reducible rfl)
              · assumption
              try simp only [Act.put, List.setIfInBounds_toArray, List.set_cons_zero, List.set_cons_succ]
              refine take_in (i := 2) (v := ?_) (d := (some 37)) rfl rfl ?_ ?_ ?_ ?_ ?_ ?_ ?_ ?_
              rotate_left
              · kernel_rfl
              · kernel_rfl
              · kernel_rfl
              · (intro _ _ _ hq; exact hq)
              · rfl
              · (intro _w hSw; (try dsimp only at hSw); go_simp; try with_reducible rfl)
              · assumption
              try simp only [Act.put, List.setIfInBounds_toArray, List.set_cons_zero, List.set_cons_succ]
              refine take_in (i := 3) (v := ?_) (d := (some 38)) rfl rfl ?_ ?_ ?_ ?_ ?_ ?_ ?_ ?_
              rotate_left
              · kernel_rfl
              · kernel_rfl
              · kernel_rfl
              · (intro _ _ _ hq; exact hq)
              · rfl
              · (intro _w hSw; (try dsimp only at hSw); go_simp; try with_reducible rfl)
              · assumption
              try simp only [Act.put, List.setIfInBounds_toArray, List.set_cons_zero, List.set_cons_succ]
              refine take_in (i := 4) (v := ?_) (d := (some 39)) rfl rfl ?_ ?_ ?_ ?_ ?_ ?_ ?_ ?_
              rotate_left
              · kernel_rfl
              · kernel_rfl
              · kernel_rfl
              · (intro _ _ _ hq; exact hq)
              · rfl
              · (intro _w hSw; (try dsimp only at hSw); go_simp; try with_reducible rfl)
              · assumption
              try simp only [Act.put, List.setIfInBounds_toArray, List.set_cons_zero, List.set_cons_succ]
              refine take_in (i := 5) (v := ?_) (d := (some 40)) rfl rfl ?_ ?_ ?_ ?_ ?_ ?_ ?_ ?_
              rotate_left
              · kernel_rfl
              · kernel_rfl
              · kernel_rfl
              · (intro _ _ _ hq; exact hq)
              · rfl
              · (intro _w hSw; (try dsimp only at hSw); go_simp; try with_reducible rfl)
              · assumption
              try simp only [Act.put, List.setIfInBounds_toArray, List.set_cons_zero, List.set_cons_succ]
              refine take_in (i := 6) (v := ?_) (d := (some 41)) rfl rfl ?_ ?_ ?_ ?_ ?_ ?_ ?_ ?_
              rotate_left
              · kernel_rfl
              · kernel_rfl
              · kernel_rfl
              · (intro _ _ _ hq; exact hq)
              · rfl
              · (intro _w hSw; (try dsimp only at hSw); go_simp; try with_reducible rfl)
              · assumption
              try simp only [Act.put, List.setIfInBounds_toArray, List.set_cons_zero, List.set_cons_succ]
              refine take_in (i := 7) (v := ?_) (d := (some 42)) rfl rfl ?_ ?_ ?_ ?_ ?_ ?_ ?_ ?_
              rotate_left
              · kernel_rfl
              · kernel_rfl
              · kernel_rfl
              · (intro _ _ _ hq; exact hq)
              · rfl
              · (intro _w hSw; (try dsimp only at hSw); go_simp; try with_reducible rfl)
              · assumption
              try simp only [Act.put, List.setIfInBounds_toArray, List.set_cons_zero, List.set_cons_succ]
              refine take_in (i := 8) (v := ?_) (d := (some 43)) rfl rfl ?_ ?_ ?_ ?_ ?_ ?_ ?_ ?_
              rotate_left
              · kernel_rfl
              · kernel_rfl
              · kernel_rfl
              · (intro _ _ _ hq; exact hq)
              · rfl
              · (intro _w hSw; (try dsimp only at hSw); go_simp; try with_reducible rfl)
              · assumption
              try simp only [Act.put, List.setIfInBounds_toArray, List.set_cons_zero, List.set_cons_succ]
              refine take_in (i := 9) (v := ?_) (d := (some 44)) rfl rfl ?_ ?_ ?_ ?_ ?_ ?_ ?_ ?_
              rotate_left
              · kernel_rfl
              · kernel_rfl
              · kernel_rfl
              · (intro _ _ _ hq; exact hq)
              · rfl
              · (intro _w hSw; (try dsimp only at hSw); go_simp; try with_reducible rfl)
              · assumption
              try simp only [Act.put, List.setIfInBounds_toArray, List.set_cons_zero, List.set_cons_succ]
              refine wpAnyH_done ?_ ?_ _
              · kernel_rfl
              rotate_left
              clear hHeld e1
              go_wp2_with fail
              go_roundw
              case rel =>
                refine ⟨j + 1, kk + 1, cur.set kk (u, v), by omega, by go_num, by go_num, Lib.hid ?_, Lib.hid ?_, ?_⟩
                · have h := hCI.out.take (by have := HN.out; omega) HNE.out
                  rw [HU.out] at h
                  rw [show k1 + (j + 1) + 2 = k1 + j + 2 + 1 by omega]; exact h
                · exact hOw.out.put kk (by have := hCI.out.ln; have := HN.out; omega) u v
                · exact (hgb.drew.put _ _).put _ _
              case measure => simp [intOf]; omega
            cases e2 : (v == v')
            · have hne : ps.getD (k1 + j + 2) (0, 0) ≠ ps.getD (k1 + j + 2 - 1) (0, 0) := by
                rw [show k1 + j + 2 - 1 = k1 + j + 1 by omega, HU.out, HU'.out]
                intro h
                injection h with h1 h2
                simp [h1, h2] at e2
              have HNE := Lib.hid hne
              clear hne
              go_wp2_with fail
              refine wp_region_held_drew (S := (fun W' => W'.cell? ⟨g, off + (k1 + 1) * 2 + (j + 1) * 2, none⟩ = some (.int .i64 u) ∧ W'.cell? ⟨g, off + (k1 + 1) * 2 + (j + 1) * 2 + 1, none⟩ = some (.int .i64 v) ∧ W'.cell? ⟨g, off + (k1 + 1) * 2 + j * 2, none⟩ = some (.int .i64 u') ∧ W'.cell? ⟨g, off + (k1 + 1) * 2 + j * 2 + 1, none⟩ = some (.int .i64 v'))) ?_ ?_ (fun hHeld => ?_)
              · kernel_rfl
              · ((try dsimp only); (first | go_keep | assumption))
              refine take_in (i := 0) (v := ?_) (d := (some 35)) rfl rfl ?_ ?_ ?_ ?_ ?_ ?_ ?_ ?_
              rotate_left
              · kernel_rfl
              · kernel_rfl
              · kernel_rfl
              · (intro _ _ _ hq; exact hq)
              · rfl
              · (intro _w hSw; (try dsimp only at hSw); go_simp; try with_reducible rfl)
              · assumption
              try simp only [Act.put, List.setIfInBounds_toArray, List.set_cons_zero, List.set_cons_succ]
              refine take_in (i := 1) (v := ?_) (d := (some 36)) rfl rfl ?_ ?_ ?_ ?_ ?_ ?_ ?_ ?_
              rotate_left
              · kernel_rfl
              · kernel_rfl
              · kernel_rfl
              · (intro _ _ _ hq; exact hq)
              · rfl
              · (intro _w hSw; (try dsimp only at hSw); go_simp; try with_reducible rfl)
              · assumption
              try simp only [Act.put, List.setIfInBounds_toArray, List.set_cons_zero, List.set_cons_succ]
              refine take_in (i := 2) (v := ?_) (d := (some 37)) rfl rfl ?_ ?_ ?_ ?_ ?_ ?_ ?_ ?_
              rotate_left
              · kernel_rfl
              · kernel_rfl
              · kernel_rfl
              · (intro _ _ _ hq; exact hq)
              · rfl
              · (intro _w hSw; (try dsimp only at hSw); go_simp; try with_reducible rfl)
              · assumption
              try simp only [Act.put, List.setIfInBounds_toArray, List.set_cons_zero, List.set_cons_succ]
              refine take_in (i := 3) (v := ?_) (d := (some 38)) rfl rfl ?_ ?_ ?_ ?_ ?_ ?_ ?_ ?_
              rotate_left
              · kernel_rfl
              · kernel_rfl
              · kernel_rfl
              · (intro _ _ _ hq; exact hq)
              · rfl
              · (intro _w hSw; (try dsimp only at hSw); go_simp; try with_reducible rfl)
              · assumption
              try simp only [Act.put, List.setIfInBounds_toArray, List.set_cons_zero, List.set_cons_succ]
              refine take_in (i := 4) (v := ?_) (d := (some 39)) rfl rfl ?_ ?_ ?_ ?_ ?_ ?_ ?_ ?_
              rotate_left
              · kernel_rfl
              · kernel_rfl
              · kernel_rfl
              · (intro _ _ _ hq; exact hq)
              · rfl
              · (intro _w hSw; (try dsimp only at hSw); go_simp; try with_reducible rfl)
              · assumption
              try simp only [Act.put, List.setIfInBounds_toArray, List.set_cons_zero, List.set_cons_succ]
              refine take_in (i := 5) (v := ?_) (d := (some 40)) rfl rfl ?_ ?_ ?_ ?_ ?_ ?_ ?_ ?_
              rotate_left
              · kernel_rfl
              · kernel_rfl
              · kernel_rfl
              · (intro _ _ _ hq; exact hq)
              · rfl
              · (intro _w hSw; (try dsimp only at hSw); go_simp; try with_reducible rfl)
              · assumption
              try simp only [Act.put, List.setIfInBounds_toArray, List.set_cons_zero, List.set_cons_succ]
              refine take_in (i := 6) (v := ?_) (d := (some 41)) rfl rfl ?_ ?_ ?_ ?_ ?_ ?_ ?_ ?_
              rotate_left
              · kernel_rfl
              · kernel_rfl
              · kernel_rfl
              · (intro _ _ _ hq; exact hq)
              · rfl
              · (intro _w hSw; (try dsimp only at hSw); go_simp; try with_reducible rfl)
              · assumption
              try simp only [Act.put, List.setIfInBounds_toArray, List.set_cons_zero, List.set_cons_succ]
              refine take_in (i := 7) (v := ?_) (d := (some 42)) rfl rfl ?_ ?_ ?_ ?_ ?_ ?_ ?_ ?_
              rotate_left
              · kernel_rfl
              · kernel_rfl
              · kernel_rfl
              · (intro _ _ _ hq; exact hq)
              · rfl
              · (intro _w hSw; (try dsimp only at hSw); go_simp; try with_reducible rfl)
              · assumption
              try simp only [Act.put, List.setIfInBounds_toArray, List.set_cons_zero, List.set_cons_succ]
              refine take_in (i := 8) (v := ?_) (d := (some 43)) rfl rfl ?_ ?_ ?_ ?_ ?_ ?_ ?_ ?_
              rotate_left
              · kernel_rfl
              · kernel_rfl
              · kernel_rfl
              · (intro _ _ _ hq; exact hq)
              · rfl
              · (intro _w hSw; (try dsimp only at hSw); go_simp; try with_reducible rfl)
              · assumption
              try simp only [Act.put, List.setIfInBounds_toArray, List.set_cons_zero, List.set_cons_succ]
              refine take_in (i := 9) (v := ?_) (d := (some 44)) rfl rfl ?_ ?_ ?_ ?_ ?_ ?_ ?_ ?_
              rotate_left
              · kernel_rfl
              · kernel_rfl
              · kernel_rfl
              · (intro _ _ _ hq; exact hq)
              · rfl
              · (intro _w hSw; (try dsimp only at hSw); go_simp; try with_reducible rfl)
              · assumption
              try simp only [Act.put, List.setIfInBounds_toArray, List.set_cons_zero, List.set_cons_succ]
              refine wpAnyH_done ?_ ?_ _
              · kernel_rfl
              rotate_left
              clear hHeld e1 e2
              go_wp2_with fail
              go_roundw
              case rel =>
                refine ⟨j + 1, kk + 1, cur.set kk (u, v), by omega, by go_num, by go_num, Lib.hid ?_, Lib.hid ?_, ?_⟩
                · have h := hCI.out.take (by have := HN.out; omega) HNE.out
                  rw [HU.out] at h
                  rw [show k1 + (j + 1) + 2 = k1 + j + 2 + 1 by omega]; exact h
                · exact hOw.out.put kk (by have := hCI.out.ln; have := HN.out; omega) u v
                · exact (hgb.drew.put _ _).put _ _
              case measure => simp [intOf]; omega
            have hdup : ps.getD (k1 + j + 2) (0, 0) = ps.getD (k1 + j + 2 - 1) (0, 0) := by
              simp at e1 e2
              rw [show k1 + j + 2 - 1 = k1 + j + 1 by omega, HU.out, HU'.out, e1, e2]
            have HD2 := Lib.hid hdup
            clear hdup
            go_wp2_with fail
            refine wp_region_held_drew (S := (fun W' => W'.cell? ⟨g, off + (k1 + 1) * 2 + (j + 1) * 2, none⟩ = some (.int .i64 u) ∧ W'.cell? ⟨g, off + (k1 + 1) * 2 + (j + 1) * 2 + 1, none⟩ = some (.int .i64 v) ∧ W'.cell? ⟨g, off + (k1 + 1) * 2 + j * 2, none⟩ = some (.int .i64 u') ∧ W'.cell? ⟨g, off + (k1 + 1) * 2 + j * 2 + 1, none⟩ = some (.int .i64 v'))) ?_ ?_ (fun hHeld => ?_)
            · kernel_rfl
            · ((try dsimp only); (first | go_keep | assumption))
            refine take_in (i := 0) (v := ?_) (d := (some 35)) rfl rfl ?_ ?_ ?_ ?_ ?_ ?_ ?_ ?_
            rotate_left
            · kernel_rfl
            · kernel_rfl
            · kernel_rfl
            · (intro _ _ _ hq; exact hq)
            · rfl
            · (intro _w hSw; (try dsimp only at hSw); go_simp; try with_reducible rfl)
            · assumption
            try simp only [Act.put, List.setIfInBounds_toArray, List.set_cons_zero, List.set_cons_succ]
            refine take_in (i := 1) (v := ?_) (d := (some 36)) rfl rfl ?_ ?_ ?_ ?_ ?_ ?_ ?_ ?_
            rotate_left
            · kernel_rfl
            · kernel_rfl
            · kernel_rfl
            · (intro _ _ _ hq; exact hq)
            · rfl
            · (intro _w hSw; (try dsimp only at hSw); go_simp; try with_reducible rfl)
            · assumption
            try simp only [Act.put, List.setIfInBounds_toArray, List.set_cons_zero, List.set_cons_succ]
            refine take_in (i := 2) (v := ?_) (d := (some 37)) rfl rfl ?_ ?_ ?_ ?_ ?_ ?_ ?_ ?_
            rotate_left
            · kernel_rfl
            · kernel_rfl
            · kernel_rfl
            · (intro _ _ _ hq; exact hq)
            · rfl
            · (intro _w hSw; (try dsimp only at hSw); go_simp; try with_reducible rfl)
            · assumption
            try simp only [Act.put, List.setIfInBounds_toArray, List.set_cons_zero, List.set_cons_succ]
            refine take_in (i := 3) (v := ?_) (d := (some 38)) rfl rfl ?_ ?_ ?_ ?_ ?_ ?_ ?_ ?_
            rotate_left
            · kernel_rfl
            · kernel_rfl
            · kernel_rfl
            · (intro _ _ _ hq; exact hq)
            · rfl
            · (intro _w hSw; (try dsimp only at hSw); go_simp; try with_reducible rfl)
            · assumption
            try simp only [Act.put, List.setIfInBounds_toArray, List.set_cons_zero, List.set_cons_succ]
            refine take_in (i := 4) (v := ?_) (d := (some 39)) rfl rfl ?_ ?_ ?_ ?_ ?_ ?_ ?_ ?_
            rotate_left
            · kernel_rfl
            · kernel_rfl
            · kernel_rfl
            · (intro _ _ _ hq; exact hq)
            · rfl
            · (intro _w hSw; (try dsimp only at hSw); go_simp; try with_reducible rfl)
            · assumption
            try simp only [Act.put, List.setIfInBounds_toArray, List.set_cons_zero, List.set_cons_succ]
            refine take_in (i := 5) (v := ?_) (d := (some 40)) rfl rfl ?_ ?_ ?_ ?_ ?_ ?_ ?_ ?_
            rotate_left
            · kernel_rfl
            · kernel_rfl
            · kernel_rfl
            · (intro _ _ _ hq; exact hq)
            · rfl
            · (intro _w hSw; (try dsimp only at hSw); go_simp; try with_reducible rfl)
            · assumption
            try simp only [Act.put, List.setIfInBounds_toArray, List.set_cons_zero, List.set_cons_succ]
            refine take_in (i := 6) (v := ?_) (d := (some 41)) rfl rfl ?_ ?_ ?_ ?_ ?_ ?_ ?_ ?_
            rotate_left
            · kernel_rfl
            · kernel_rfl
            · kernel_rfl
            · (intro _ _ _ hq; exact hq)
            · rfl
            · (intro _w hSw; (try dsimp only at hSw); go_simp; try with_reducible rfl)
            · assumption
            try simp only [Act.put, List.setIfInBounds_toArray, List.set_cons_zero, List.set_cons_succ]
            refine take_in (i := 7) (v := ?_) (d := (some 42)) rfl rfl ?_ ?_ ?_ ?_ ?_ ?_ ?_ ?_
            rotate_left
            · kernel_rfl
            · kernel_rfl
            · kernel_rfl
            · (intro _ _ _ hq; exact hq)
            · rfl
            · (intro _w hSw; (try dsimp only at hSw); go_simp; try with_reducible rfl)
            · assumption
            try simp only [Act.put, List.setIfInBounds_toArray, List.set_cons_zero, List.set_cons_succ]
            refine take_in (i := 8) (v := ?_) (d := (some 43)) rfl rfl ?_ ?_ ?_ ?_ ?_ ?_ ?_ ?_
            rotate_left
            · kernel_rfl
            · kernel_rfl
            · kernel_rfl
            · (intro _ _ _ hq; exact hq)
            · rfl
            · (intro _w hSw; (try dsimp only at hSw); go_simp; try with_reducible rfl)
            · assumption
            try simp only [Act.put, List.setIfInBounds_toArray, List.set_cons_zero, List.set_cons_succ]
            refine take_in (i := 9) (v := ?_) (d := (some 44)) rfl rfl ?_ ?_ ?_ ?_ ?_ ?_ ?_ ?_
            rotate_left
            · kernel_rfl
            · kernel_rfl
            · kernel_rfl
            · (intro _ _ _ hq; exact hq)
            · rfl
            · (intro _w hSw; (try dsimp only at hSw); go_simp; try with_reducible rfl)
            · assumption
            try simp only [Act.put, List.setIfInBounds_toArray, List.set_cons_zero, List.set_cons_succ]
            refine wpAnyH_done ?_ ?_ _
            · kernel_rfl
            rotate_left
            clear hHeld e1 e2
            go_wp2_with fail
            go_roundw
            case rel => exact ⟨j + 1, kk, cur, by omega, rfl, by go_num, Lib.hid (by
              have h := hCI.out.skip (by omega) HD2.out
              rw [show k1 + (j + 1) + 2 = k1 + j + 2 + 1 by omega]; exact h), hOw, hgb.drew⟩
            case measure => simp [intOf]; omega
          · have hend : k1 + j + 2 = n := by omega
            have hkn : ¬ n ≤ kk := by omega
            have hck : ¬ c = kk := by omega
            have hkI : (kk : Int) ≤ (n : Int) := by omega
            have hOwn := hOw.out
            have hnn := HN.out
            have hcc : ∀ i, i < (n - kk) * 2 → (wr.cell? ⟨g, off + kk * 2 + i, none⟩).isSome = true ∧ wr.frozen? ⟨g, off + kk * 2 + i, none⟩ = false := fun i hi => by
              obtain ⟨⟨h1, h2⟩, h3, h4⟩ := hOwn (kk + i / 2) (by omega)
              rcases Nat.mod_two_eq_zero_or_one i with h | h
              · rw [show off + kk * 2 + i = off + (kk + i / 2) * 2 by omega, h1]; exact ⟨rfl, h3⟩
              · rw [show off + kk * 2 + i = off + (kk + i / 2) * 2 + 1 by omega, h2]; exact ⟨rfl, h4⟩
            have hcl : ∀ ty, (Builtin.clear_ #[70] ty #[.slice (some ⟨g, off + kk * 2, none⟩) (n - kk) (c - kk)]).run Tryz.prog wr = .ok (.tuple #[]) (wr.setCells g (off + kk * 2) (List.replicate ((n - kk) * 2) (.int .i64 0))) :=
              fun ty => run_clear2 wr _ _ ty Tryz.underlying70 zero_pt g (off + kk * 2) (n - kk) (c - kk) (by omega) (fun i hi => (hcc i hi).1) (fun i hi => (hcc i hi).2)
            clear hcc hnn hOwn
            go_wp2_with fail
            go_ret
            have hct := hCI.out.ct
            rw [show k1 + j + 2 = ps.length by have := HN.out; omega] at hct
            refine ⟨?_, ?_, ?_⟩
            · rw [show (ddL ps).length = kk from hct]; rfl
            · intro i hi
              rw [show (ddL ps).length = kk from hct] at hi
              obtain ⟨⟨h1, h2⟩, h3, h4⟩ := hOw.out i (by have := hCI.out.ln; have := HN.out; omega)
              have hlow := hCI.out.low i hi
              rw [show k1 + j + 2 = ps.length by have := HN.out; omega] at hlow
              rw [hlow] at h1 h2
              refine ⟨⟨?_, ?_⟩, ?_, ?_⟩
              · rw [World.cell?_setCells_out g _ _ _ _ (fun _ _ => Or.inl (by simp; omega))]; exact h1
              · rw [World.cell?_setCells_out g _ _ _ _ (fun _ _ => Or.inl (by simp; omega))]; exact h2
              · rw [frozen_many]; exact h3
              · rw [frozen_many]; exact h4
            · exact (Gb.of hg g).trans (hgb.many _ _)
      · go_wp2_with fail
        go_ret
        have hnn := HN.out
        obtain rfl : k1 + 1 = n := by omega
        have e : ddL ps = ps := by
          unfold ddL
          rw [ddT_take ps _ (Nat.le_refl _) (fun j h1 h2 => hall.out j h1 (by omega)), List.take_length]
        refine ⟨?_, by rw [e]; exact HO.out.keep hg, Gb.of hg g⟩
        rw [e, hnn]; rfl

end Go.Proofs.YtpnkpejnahhajaaGreat
