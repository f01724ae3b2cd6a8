/- Layer 2: tables of numbers; the least that a bound's number may be. -/
import Derived.Test.YtcojionipffanabCNum
import Derived.Test.YtcojionipffanabHeld
namespace Go.Proofs.Ytcojionipffanab
open Go.RowKit
set_option linter.unusedSimpArgs false

/-- A slice of slices of numbers reads as a table. -/
def RdRows (w : World) (A : Option Addr) (tb : List (List Int)) : Prop :=
  ∀ i row, tb[i]? = some row → ∃ b off Ai ci, A = some ⟨b, off, none⟩ ∧ w.cell? ⟨b, off + i, none⟩ = some (.slice Ai row.length ci) ∧ Ints w Ai row
theorem RdRows.keep {w w' : World} {A : Option Addr} {tb : List (List Int)} (h : RdRows w A tb) (hg : Gr w w') : RdRows w' A tb := fun i row hr => by
  obtain ⟨b, off, Ai, ci, e, hc, hI⟩ := h i row hr
  exact ⟨b, off, Ai, ci, e, hg.keep hc, hI.keep hg⟩
def at2 (tb : List (List Int)) (w h : Nat) : Int := (tb.getD w []).getD h 0
def numB (n : Int) : Bool := decide (0 ≤ n) && decide (n ≤ 1099511627776)
theorem numB_iff (n : Int) : numB n = true ↔ 0 ≤ n ∧ n ≤ 1099511627776 := by simp [numB]
/-- The right lengths, and numbers that are small. -/
def Frm (W H : Nat) (tb : List (List Int)) : Prop := tb.length = W + 1 ∧ ∀ w, w ≤ W → (tb.getD w []).length = H + 1 ∧ ∀ h, h ≤ H → 0 ≤ at2 tb w h ∧ at2 tb w h ≤ 1099511627776
theorem RdRows.at {w : World} {A : Option Addr} {tb : List (List Int)} {W H : Nat} (h : RdRows w A tb) (hF : Frm W H tb) {i k : Nat} (hi : i ≤ W) (hk : k ≤ H) :
    ∃ b off b' off' c', A = some ⟨b, off, none⟩ ∧ w.cell? ⟨b, off + i, none⟩ = some (.slice (some ⟨b', off', none⟩) (H + 1) c') ∧ w.cell? ⟨b', off' + k, none⟩ = some (.int .i64 (at2 tb i k)) := by
  obtain ⟨h1, h2⟩ := hF
  obtain ⟨h3, -⟩ := h2 i hi
  obtain ⟨b, off, Ai, ci, e, hc, hI⟩ := h i _ (getD_of [] (by omega : i < tb.length))
  obtain ⟨b', off', e', hc'⟩ := Ints_at hI (i := k) (by omega)
  subst e'
  rw [h3] at hc
  exact ⟨b, off, b', off', ci, e, hc, hc'⟩
theorem RdRows.row {w : World} {A : Option Addr} {tb : List (List Int)} {W H : Nat} (h : RdRows w A tb) (hF : Frm W H tb) {b off b' off' c' : Nat} {i : Nat} (hi : i ≤ W) (hA : A = some ⟨b, off, none⟩) (hc : w.cell? ⟨b, off + i, none⟩ = some (.slice (some ⟨b', off', none⟩) (H + 1) c')) {k : Nat} (hk : k ≤ H) :
    w.cell? ⟨b', off' + k, none⟩ = some (.int .i64 (at2 tb i k)) := by
  obtain ⟨b2, off2, b3, off3, c3, e, h1, h2⟩ := h.at hF hi hk
  rw [hA] at e
  obtain ⟨rfl, rfl⟩ : b = b2 ∧ off = off2 := by simpa using e
  rw [hc] at h1
  obtain ⟨⟨rfl, rfl⟩, -⟩ : (b' = b3 ∧ off' = off3) ∧ c' = c3 := by simpa using h1
  exact h2

theorem cutT_end {f : Nat → Int} {s k : Nat} (h1 : 1 ≤ k) (h2 : 2 * (k - 1) ≤ s) (h3 : s < 2 * k) : cutT f s k = cutT f s s := by
  by_cases e : k ≤ s
  · exact cutT_half f s k e h3
  · obtain rfl : k = 1 := by omega
    have hs : s = 0 := by omega
    subst hs; rfl
theorem blT_bd {bs : List Bl} (hb : ∀ b ∈ bs, blB b = true) (w h : Int) (k : Nat) (hk : k ≤ bs.length) : 0 ≤ blT bs w h k ∧ blT bs w h k ≤ 1048576 :=
  ⟨blT_nonneg bs w h k, blT_le bs w h (by omega) k (fun i hi _ => ((blB_iff _).1 (hb _ (bl_mem (by omega)))).2.2.2)⟩
theorem cutT_bd {f : Nat → Int} {s M : Nat} (h : ∀ x, x ≤ s → 0 ≤ f x ∧ f x ≤ M) (k : Nat) (hk : k ≤ s + 1) : 0 ≤ cutT f s k ∧ cutT f s k ≤ 2 * M :=
  ⟨cutT_nonneg f s k, cutT_le f s (by omega) k (fun x a b => by
    have h1 := h x (by omega)
    have h2 := h (s - x) (by omega)
    omega)⟩

set_option maxRecDepth 100000 in
set_option maxHeartbeats 2000000 in
theorem least_any (W H w0 h0 : Nat) (hW : W ≤ 48) (hH : H ≤ 48) (hw : w0 ≤ W) (hh : h0 ≤ H) (BA TA : Option Addr) (bn bc tn tc : Nat) (bs : List Bl) (tb : List (List Int)) (w : World) (hbn : bs.length = bn) (hbl : bn ≤ 16) (hbs : ∀ b ∈ bs, blB b = true)
    (hF : Frm W H tb) (htn : W + 1 = tn) (hB : Tris w BA bs) (hT : RdRows w TA tb) :
    Calls Try.prog 59 #[.int .i64 (w0 : Int), .int .i64 (h0 : Int), .slice BA bn bc, .slice TA tn tc] w fun e w' => e = .returned (.int .i64 (needT bs (at2 tb) w0 h0)) ∧ Gr w w' := by
  have HB := Lib.hid hB
  have HT := Lib.hid hT
  have HF := Lib.hid hF
  have HBN := Lib.hid hbn
  have HBS := Lib.hid hbs
  have HTN := Lib.hid htn
  have htl : W < tn := by omega
  obtain ⟨M, hM⟩ : ∃ M : Nat, M = 1099511627776 := ⟨_, rfl⟩
  have HX := Lib.hid (fun k (hk : k ≤ w0 + 1) => cutT_bd (f := fun x => at2 tb x h0) (s := w0) (M := M) (fun x hx => by have := (hF.2 x (by omega)).2 h0 hh; omega) k hk)
  have HY := Lib.hid (fun k (hk : k ≤ h0 + 1) => cutT_bd (f := fun y => at2 tb w0 y) (s := h0) (M := M) (fun y hy => by have := (hF.2 w0 hw).2 y (by omega); omega) k hk)
  clear hB hT hF hbn hbs htn
  go_enter Try.func59, Try.ntmps59
  go_wp2_with fail
  go_loopw [9, 16] (fun s i wr => ∃ k : Nat, k ≤ bn ∧ i = .int .i64 k ∧ s = .int .i64 (blT bs w0 h0 k) ∧ Gr w wr) (fun _ i _ => bn - (intOf i).toNat)
  case atStart => exact ⟨0, Nat.zero_le _, rfl, rfl, Gr.refl _⟩
  case round =>
    obtain ⟨k, hk, rfl, rfl, hg⟩ := hrel
    by_cases hlt : k < bn
    · have hkl : k < bs.length := by have := HBN.out; omega
      obtain ⟨b, off, rfl, q0, q1, q2⟩ := Tris_at (HB.out.keep hg) hkl
      rw [bl_getD] at q0 q1 q2
      have s1 := blT_bd HBS.out w0 h0 k (by omega)
      obtain ⟨-, -, v1, v2⟩ := (blB_iff _).1 (HBS.out _ (bl_mem hkl))
      rcases hf : fitsB (bl bs k) w0 h0 with _ | _
      all_goals
        have HS : Hid (blT bs w0 h0 (k + 1) = if fitsB (bl bs k) w0 h0 = true then max (blT bs w0 h0 k) (bl bs k).2.2 else blT bs w0 h0 k) := Lib.hid rfl
        rw [hf] at HS
        first | rw [if_pos rfl] at HS | rw [if_neg (by simp)] at HS
        have HFF := Lib.hid (fun W' => fits_any (bl bs k) w0 h0 W' _ hf)
        generalize blT bs w0 h0 k = s at s1 HS ⊢
        generalize bl bs k = q at q0 q1 q2 v1 v2 HS HFF
        clear hf
        obtain ⟨x, y, v⟩ := q
        dsimp only at q0 q1 q2 v1 v2 HS HFF
        go_wp2_with fail
        generalize hWa : World.alloc wr _ = Wa
        obtain ⟨hga, d0, d1, d2⟩ := cell3 hWa
        clear hWa
        refine (HFF.out _).mono ?_
        rintro e w1 ⟨rfl, hb⟩
        replace d2 := hb.keep d2
        have hgx := (hg.trans hga).trans hb
        go_wp2_with fail
        go_roundw
        case rel => exact ⟨k + 1, by omega, by go_num, congrArg (Value.int .i64) (by rw [HS.out]; first | done | rfl | (split <;> omega)), hgx⟩
        case measure => simp [intOf]; omega
    · obtain rfl : k = bn := by omega
      have s1 := blT_bd HBS.out w0 h0 k (by have := HBN.out; omega)
      have HK : Hid (blT bs w0 h0 bs.length = blT bs w0 h0 k) := Lib.hid (by rw [HBN.out])
      generalize blT bs w0 h0 k = s at s1 HK ⊢
      clear hlt
      go_wp2_with fail
      go_loopw [9, 12] (fun v i wr => ∃ x : Nat, 1 ≤ x ∧ 2 * (x - 1) ≤ w0 ∧ i = .int .i64 x ∧ v = .int .i64 (max s (cutT (fun x => at2 tb x h0) w0 x)) ∧ Gr w wr) (fun _ i _ => w0 + 2 - (intOf i).toNat)
      case atStart => exact ⟨1, Nat.le_refl _, by omega, rfl, congrArg (Value.int .i64) (by simp [cutT]; omega), hg⟩
      case round =>
        clear hg
        obtain ⟨x, hx1, hx2, rfl, rfl, hg⟩ := hrel
        have s2 := HX.out x (by omega)
        have i1 : IntKind.i64.wrap ((w0 : Int) - (x : Int)) = (w0 : Int) - (x : Int) := IntWalk.i64_in _ (by omega)
        by_cases hlt : x ≤ w0 - x
        · have hd : decide ((x : Int) ≤ (w0 : Int) - (x : Int)) = true := decide_eq_true (by omega)
          obtain ⟨b, off, b1, o1, c1, rfl, r1, v1⟩ := (HT.out.keep hg).at HF.out (i := x) (k := h0) (by omega) hh
          obtain ⟨b', off', b2, o2, c2, e2, r2, v2⟩ := (HT.out.keep hg).at HF.out (i := w0 - x) (k := h0) (by omega) hh
          obtain ⟨rfl, rfl⟩ : b = b' ∧ off = off' := by simpa using e2
          have n1 := (HF.out.2 x (by omega)).2 h0 hh
          have n2 := (HF.out.2 (w0 - x) (by omega)).2 h0 hh
          have HC := Lib.hid (cutT_step (fun x => at2 tb x h0) w0 x hx1)
          generalize at2 tb x h0 = p1 at v1 n1 HC
          generalize at2 tb (w0 - x) h0 = p2 at v2 n2 HC
          generalize cutT (fun x => at2 tb x h0) w0 x = t at s2 HC ⊢
          have i2 : IntKind.i64.wrap (p1 + p2) = p1 + p2 := IntWalk.i64_in _ (by omega)
          have i3 : ((w0 : Int) - (x : Int)).toNat = w0 - x := by omega
          have i4 : (0 : Int) ≤ (w0 : Int) - (x : Int) := by omega
          have i5 : (w0 : Int) - (x : Int) < (tn : Int) := by omega
          have i6 : (x : Int) < (tn : Int) := by omega
          have i7 : (0 : Int) ≤ (x : Int) := by omega
          have i8 : (h0 : Int) < (H : Int) + 1 := by omega
          have i9 : x ≤ w0 := by omega
          have hdr := (Gr.refl wr).drew
          go_wp2_with fail
          refine wp_region_held_drew (S := (fun W' => Gr w W' ∧ W'.cell? ⟨b, off + x, none⟩ = some (.slice (some ⟨b1, o1, none⟩) (H + 1) c1) ∧ W'.cell? ⟨b1, o1 + h0, none⟩ = some (.int .i64 p1) ∧ W'.cell? ⟨b, off + (w0 - x), none⟩ = some (.slice (some ⟨b2, o2, none⟩) (H + 1) c2) ∧ W'.cell? ⟨b2, o2 + h0, none⟩ = some (.int .i64 p2))) ?_ ?_ (fun hHeld => ?_)
          · kernel_rfl
          · ((try dsimp only); exact ⟨hg.drew, hdr.keep r1, hdr.keep v1, hdr.keep r2, hdr.keep v2⟩)
          refine take_in (i := 0) (v := ?_) (d := (some 36)) rfl rfl ?_ ?_ ?_ ?_ ?_ ?_ ?_ ?_
          rotate_left
          · kernel_rfl
          · kernel_rfl
          · kernel_rfl
          · (intro _ _ _ hq; exact hq)
          · rfl
          · (intro _w hSw; (try dsimp only at hSw); go_simp; try with_reducible rfl)
          · assumption
          try simp only [Act.put, List.setIfInBounds_toArray, List.set_cons_zero, List.set_cons_succ]
          refine take_in (i := 1) (v := ?_) (d := (some 37)) rfl rfl ?_ ?_ ?_ ?_ ?_ ?_ ?_ ?_
          rotate_left
          · kernel_rfl
          · kernel_rfl
          · kernel_rfl
          · (intro _ _ _ hq; exact hq)
          · rfl
          · (intro _w hSw; (try dsimp only at hSw); go_simp; try with_reducible rfl)
          · assumption
          try simp only [Act.put, List.setIfInBounds_toArray, List.set_cons_zero, List.set_cons_succ]
          refine take_in (i := 2) (v := ?_) (d := (some 38)) rfl rfl ?_ ?_ ?_ ?_ ?_ ?_ ?_ ?_
          rotate_left
          · kernel_rfl
          · kernel_rfl
          · kernel_rfl
          · (intro _ _ _ hq; exact hq)
          · rfl
          · (intro _w hSw; (try dsimp only at hSw); go_simp; try with_reducible rfl)
          · assumption
          try simp only [Act.put, List.setIfInBounds_toArray, List.set_cons_zero, List.set_cons_succ]
          refine take_in (i := 3) (v := ?_) (d := (some 39)) rfl rfl ?_ ?_ ?_ ?_ ?_ ?_ ?_ ?_
          rotate_left
          · kernel_rfl
          · kernel_rfl
          · kernel_rfl
          · (intro _ _ _ hq; exact hq)
          · rfl
          · (intro _w hSw; (try dsimp only at hSw); go_simp; try with_reducible rfl)
          · assumption
          try simp only [Act.put, List.setIfInBounds_toArray, List.set_cons_zero, List.set_cons_succ]
          refine take_in (i := 4) (v := ?_) (d := (some 40)) rfl rfl ?_ ?_ ?_ ?_ ?_ ?_ ?_ ?_
          rotate_left
          · kernel_rfl
          · kernel_rfl
          · kernel_rfl
          · (intro _ _ _ hq; exact hq)
          · rfl
          · (intro _w hSw; (try dsimp only at hSw); go_simp; try with_reducible rfl)
          · assumption
          try simp only [Act.put, List.setIfInBounds_toArray, List.set_cons_zero, List.set_cons_succ]
          refine take_in (i := 5) (v := ?_) (d := (some 41)) rfl rfl ?_ ?_ ?_ ?_ ?_ ?_ ?_ ?_
          rotate_left
          · kernel_rfl
          · kernel_rfl
          · kernel_rfl
          · (intro _ _ _ hq; exact hq)
          · rfl
          · (intro _w hSw; (try dsimp only at hSw); go_simp; try with_reducible rfl)
          · assumption
          try simp only [Act.put, List.setIfInBounds_toArray, List.set_cons_zero, List.set_cons_succ]
          refine take_in (i := 6) (v := ?_) (d := (some 42)) rfl rfl ?_ ?_ ?_ ?_ ?_ ?_ ?_ ?_
          rotate_left
          · kernel_rfl
          · kernel_rfl
          · kernel_rfl
          · (intro _ _ _ hq; exact hq)
          · rfl
          · (intro _w hSw; (try dsimp only at hSw); go_simp; try with_reducible rfl)
          · assumption
          try simp only [Act.put, List.setIfInBounds_toArray, List.set_cons_zero, List.set_cons_succ]
          refine take_in (i := 7) (v := ?_) (d := (some 43)) rfl rfl ?_ ?_ ?_ ?_ ?_ ?_ ?_ ?_
          rotate_left
          · kernel_rfl
          · kernel_rfl
          · kernel_rfl
          · (intro _ _ _ hq; exact hq)
          · rfl
          · (intro _w hSw; (try dsimp only at hSw); go_simp; try with_reducible rfl)
          · assumption
          try simp only [Act.put, List.setIfInBounds_toArray, List.set_cons_zero, List.set_cons_succ]
          refine take_in (i := 8) (v := ?_) (d := (some 44)) rfl rfl ?_ ?_ ?_ ?_ ?_ ?_ ?_ ?_
          rotate_left
          · kernel_rfl
          · kernel_rfl
          · kernel_rfl
          · (intro _ _ _ hq; exact hq)
          · rfl
          · (intro _w hSw; (try dsimp only at hSw); go_simp; try with_reducible rfl)
          · assumption
          try simp only [Act.put, List.setIfInBounds_toArray, List.set_cons_zero, List.set_cons_succ]
          refine take_in (i := 9) (v := ?_) (d := (some 45)) rfl rfl ?_ ?_ ?_ ?_ ?_ ?_ ?_ ?_
          rotate_left
          · kernel_rfl
          · kernel_rfl
          · kernel_rfl
          · (intro _ _ _ hq; exact hq)
          · rfl
          · (intro _w hSw; (try dsimp only at hSw); go_simp; try with_reducible rfl)
          · assumption
          try simp only [Act.put, List.setIfInBounds_toArray, List.set_cons_zero, List.set_cons_succ]
          refine take_in (i := 10) (v := ?_) (d := (some 46)) rfl rfl ?_ ?_ ?_ ?_ ?_ ?_ ?_ ?_
          rotate_left
          · kernel_rfl
          · kernel_rfl
          · kernel_rfl
          · (intro _ _ _ hq; exact hq)
          · rfl
          · (intro _w hSw; (try dsimp only at hSw); go_simp; try with_reducible rfl)
          · assumption
          try simp only [Act.put, List.setIfInBounds_toArray, List.set_cons_zero, List.set_cons_succ]
          refine take_in (i := 11) (v := ?_) (d := (some 47)) rfl rfl ?_ ?_ ?_ ?_ ?_ ?_ ?_ ?_
          rotate_left
          · kernel_rfl
          · kernel_rfl
          · kernel_rfl
          · (intro _ _ _ hq; exact hq)
          · rfl
          · (intro _w hSw; (try dsimp only at hSw); go_simp; try with_reducible rfl)
          · assumption
          try simp only [Act.put, List.setIfInBounds_toArray, List.set_cons_zero, List.set_cons_succ]
          refine take_in (i := 12) (v := ?_) (d := (some 48)) rfl rfl ?_ ?_ ?_ ?_ ?_ ?_ ?_ ?_
          rotate_left
          · kernel_rfl
          · kernel_rfl
          · kernel_rfl
          · (intro _ _ _ hq; exact hq)
          · rfl
          · (intro _w hSw; (try dsimp only at hSw); go_simp; try with_reducible rfl)
          · assumption
          try simp only [Act.put, List.setIfInBounds_toArray, List.set_cons_zero, List.set_cons_succ]
          refine take_in (i := 13) (v := ?_) (d := (some 49)) rfl rfl ?_ ?_ ?_ ?_ ?_ ?_ ?_ ?_
          rotate_left
          · kernel_rfl
          · kernel_rfl
          · kernel_rfl
          · (intro _ _ _ hq; exact hq)
          · rfl
          · (intro _w hSw; (try dsimp only at hSw); go_simp; try with_reducible rfl)
          · assumption
          try simp only [Act.put, List.setIfInBounds_toArray, List.set_cons_zero, List.set_cons_succ]
          refine take_in (i := 14) (v := ?_) (d := (some 50)) rfl rfl ?_ ?_ ?_ ?_ ?_ ?_ ?_ ?_
          rotate_left
          · kernel_rfl
          · kernel_rfl
          · kernel_rfl
          · (intro _ _ _ hq; exact hq)
          · rfl
          · (intro _w hSw; (try dsimp only at hSw); go_simp; try with_reducible rfl)
          · assumption
          try simp only [Act.put, List.setIfInBounds_toArray, List.set_cons_zero, List.set_cons_succ]
          refine take_in (i := 15) (v := ?_) (d := (some 51)) rfl rfl ?_ ?_ ?_ ?_ ?_ ?_ ?_ ?_
          rotate_left
          · kernel_rfl
          · kernel_rfl
          · kernel_rfl
          · (intro _ _ _ hq; exact hq)
          · rfl
          · (intro _w hSw; (try dsimp only at hSw); go_simp; try with_reducible rfl)
          · assumption
          try simp only [Act.put, List.setIfInBounds_toArray, List.set_cons_zero, List.set_cons_succ]
          refine take_in (i := 16) (v := ?_) (d := (some 52)) rfl rfl ?_ ?_ ?_ ?_ ?_ ?_ ?_ ?_
          rotate_left
          · kernel_rfl
          · kernel_rfl
          · kernel_rfl
          · (intro _ _ _ hq; exact hq)
          · rfl
          · (intro _w hSw; (try dsimp only at hSw); go_simp; try with_reducible rfl)
          · assumption
          try simp only [Act.put, List.setIfInBounds_toArray, List.set_cons_zero, List.set_cons_succ]
          refine take_in (i := 17) (v := ?_) (d := (some 53)) rfl rfl ?_ ?_ ?_ ?_ ?_ ?_ ?_ ?_
          rotate_left
          · kernel_rfl
          · kernel_rfl
          · kernel_rfl
          · (intro _ _ _ hq; exact hq)
          · rfl
          · (intro _w hSw; (try dsimp only at hSw); go_simp; try with_reducible rfl)
          · assumption
          try simp only [Act.put, List.setIfInBounds_toArray, List.set_cons_zero, List.set_cons_succ]
          refine take_in (i := 18) (v := ?_) (d := (some 54)) rfl rfl ?_ ?_ ?_ ?_ ?_ ?_ ?_ ?_
          rotate_left
          · kernel_rfl
          · kernel_rfl
          · kernel_rfl
          · (intro _ _ _ hq; exact hq)
          · rfl
          · (intro _w hSw; (try dsimp only at hSw); go_simp; try with_reducible rfl)
          · assumption
          try simp only [Act.put, List.setIfInBounds_toArray, List.set_cons_zero, List.set_cons_succ]
          refine take_in (i := 19) (v := ?_) (d := (some 9)) rfl rfl ?_ ?_ ?_ ?_ ?_ ?_ ?_ ?_
          rotate_left
          · kernel_rfl
          · kernel_rfl
          · kernel_rfl
          · (intro _ _ _ hq; exact hq)
          · rfl
          · (intro _w hSw; (try dsimp only at hSw); go_simp; try with_reducible rfl)
          · assumption
          try simp only [Act.put, List.setIfInBounds_toArray, List.set_cons_zero, List.set_cons_succ]
          refine wpAnyH_done ?_ ?_ _
          · kernel_rfl
          rotate_left
          go_wp2_with fail
          go_roundw
          case rel => exact ⟨x + 1, by omega, by omega, by go_num, congrArg (Value.int .i64) (by rw [HC.out]; split <;> omega), hHeld.1⟩
          case measure => simp [intOf]; omega
        · have hd : decide ((x : Int) ≤ (w0 : Int) - (x : Int)) = false := decide_eq_false (by omega)
          have HE : Hid (cutT (fun x => at2 tb x h0) w0 x = cutT (fun x => at2 tb x h0) w0 w0) := Lib.hid (cutT_end hx1 hx2 (by omega))
          rw [HE.out] at s2 ⊢
          generalize hgt : cutT (fun x => at2 tb x h0) w0 w0 = t at s2 ⊢
          have HGT := Lib.hid hgt
          clear hgt
          go_wp2_with fail
          go_loopw [9, 13] (fun v i wr => ∃ y : Nat, 1 ≤ y ∧ 2 * (y - 1) ≤ h0 ∧ i = .int .i64 y ∧ v = .int .i64 (max (max s t) (cutT (fun y => at2 tb w0 y) h0 y)) ∧ Gr w wr) (fun _ i _ => h0 + 2 - (intOf i).toNat)
          case atStart => exact ⟨1, Nat.le_refl _, by omega, rfl, congrArg (Value.int .i64) (by simp [cutT]; omega), hg⟩
          case round =>
            clear hg hd i1 hlt
            obtain ⟨y, hy1, hy2, rfl, rfl, hg⟩ := hrel
            have s3 := HY.out y (by omega)
            have i1 : IntKind.i64.wrap ((h0 : Int) - (y : Int)) = (h0 : Int) - (y : Int) := IntWalk.i64_in _ (by omega)
            by_cases hlt : y ≤ h0 - y
            · have hd : decide ((y : Int) ≤ (h0 : Int) - (y : Int)) = true := decide_eq_true (by omega)
              obtain ⟨b, off, b1, o1, c1, rfl, r1, v1⟩ := (HT.out.keep hg).at HF.out (i := w0) (k := y) hw (by omega)
              have v2 := (HT.out.keep hg).row HF.out hw rfl r1 (k := h0 - y) (by omega)
              have n1 := (HF.out.2 w0 hw).2 y (by omega)
              have n2 := (HF.out.2 w0 hw).2 (h0 - y) (by omega)
              have HC := Lib.hid (cutT_step (fun y => at2 tb w0 y) h0 y hy1)
              generalize at2 tb w0 y = p1 at v1 n1 HC
              generalize at2 tb w0 (h0 - y) = p2 at v2 n2 HC
              generalize cutT (fun y => at2 tb w0 y) h0 y = u at s3 HC ⊢
              have i2 : IntKind.i64.wrap (p1 + p2) = p1 + p2 := IntWalk.i64_in _ (by omega)
              have i3 : ((h0 : Int) - (y : Int)).toNat = h0 - y := by omega
              have i4 : (0 : Int) ≤ (h0 : Int) - (y : Int) := by omega
              have i5 : (h0 : Int) - (y : Int) < (H : Int) + 1 := by omega
              have i6 : (y : Int) < (H : Int) + 1 := by omega
              have i7 : (0 : Int) ≤ (y : Int) := by omega
              have i8 : (w0 : Int) < (tn : Int) := by omega
              have i9 : y ≤ h0 := by omega
              have hdr := (Gr.refl wr).drew
              go_wp2_with fail
              refine wp_region_held_drew (S := (fun W' => Gr w W' ∧ W'.cell? ⟨b, off + w0, none⟩ = some (.slice (some ⟨b1, o1, none⟩) (H + 1) c1) ∧ W'.cell? ⟨b1, o1 + y, none⟩ = some (.int .i64 p1) ∧ W'.cell? ⟨b1, o1 + (h0 - y), none⟩ = some (.int .i64 p2))) ?_ ?_ (fun hHeld => ?_)
              · kernel_rfl
              · ((try dsimp only); exact ⟨hg.drew, hdr.keep r1, hdr.keep v1, hdr.keep v2⟩)
              refine take_in (i := 0) (v := ?_) (d := (some 62)) rfl rfl ?_ ?_ ?_ ?_ ?_ ?_ ?_ ?_
              rotate_left
              · kernel_rfl
              · kernel_rfl
              · kernel_rfl
              · (intro _ _ _ hq; exact hq)
              · rfl
              · (intro _w hSw; (try dsimp only at hSw); go_simp; try with_reducible rfl)
              · assumption
              try simp only [Act.put, List.setIfInBounds_toArray, List.set_cons_zero, List.set_cons_succ]
              refine take_in (i := 1) (v := ?_) (d := (some 63)) rfl rfl ?_ ?_ ?_ ?_ ?_ ?_ ?_ ?_
              rotate_left
              · kernel_rfl
              · kernel_rfl
              · kernel_rfl
              · (intro _ _ _ hq; exact hq)
              · rfl
              · (intro _w hSw; (try dsimp only at hSw); go_simp; try with_reducible rfl)
              · assumption
              try simp only [Act.put, List.setIfInBounds_toArray, List.set_cons_zero, List.set_cons_succ]
              refine take_in (i := 2) (v := ?_) (d := (some 64)) rfl rfl ?_ ?_ ?_ ?_ ?_ ?_ ?_ ?_
              rotate_left
              · kernel_rfl
              · kernel_rfl
              · kernel_rfl
              · (intro _ _ _ hq; exact hq)
              · rfl
              · (intro _w hSw; (try dsimp only at hSw); go_simp; try with_reducible rfl)
              · assumption
              try simp only [Act.put, List.setIfInBounds_toArray, List.set_cons_zero, List.set_cons_succ]
              refine take_in (i := 3) (v := ?_) (d := (some 65)) rfl rfl ?_ ?_ ?_ ?_ ?_ ?_ ?_ ?_
              rotate_left
              · kernel_rfl
              · kernel_rfl
              · kernel_rfl
              · (intro _ _ _ hq; exact hq)
              · rfl
              · (intro _w hSw; (try dsimp only at hSw); go_simp; try with_reducible rfl)
              · assumption
              try simp only [Act.put, List.setIfInBounds_toArray, List.set_cons_zero, List.set_cons_succ]
              refine take_in (i := 4) (v := ?_) (d := (some 66)) rfl rfl ?_ ?_ ?_ ?_ ?_ ?_ ?_ ?_
              rotate_left
              · kernel_rfl
              · kernel_rfl
              · kernel_rfl
              · (intro _ _ _ hq; exact hq)
              · rfl
              · (intro _w hSw; (try dsimp only at hSw); go_simp; try with_reducible rfl)
              · assumption
              try simp only [Act.put, List.setIfInBounds_toArray, List.set_cons_zero, List.set_cons_succ]
              refine take_in (i := 5) (v := ?_) (d := (some 67)) rfl rfl ?_ ?_ ?_ ?_ ?_ ?_ ?_ ?_
              rotate_left
              · kernel_rfl
              · kernel_rfl
              · kernel_rfl
              · (intro _ _ _ hq; exact hq)
              · rfl
              · (intro _w hSw; (try dsimp only at hSw); go_simp; try with_reducible rfl)
              · assumption
              try simp only [Act.put, List.setIfInBounds_toArray, List.set_cons_zero, List.set_cons_succ]
              refine take_in (i := 6) (v := ?_) (d := (some 68)) rfl rfl ?_ ?_ ?_ ?_ ?_ ?_ ?_ ?_
              rotate_left
              · kernel_rfl
              · kernel_rfl
              · kernel_rfl
              · (intro _ _ _ hq; exact hq)
              · rfl
              · (intro _w hSw; (try dsimp only at hSw); go_simp; try with_reducible rfl)
              · assumption
              try simp only [Act.put, List.setIfInBounds_toArray, List.set_cons_zero, List.set_cons_succ]
              refine take_in (i := 7) (v := ?_) (d := (some 69)) rfl rfl ?_ ?_ ?_ ?_ ?_ ?_ ?_ ?_
              rotate_left
              · kernel_rfl
              · kernel_rfl
              · kernel_rfl
              · (intro _ _ _ hq; exact hq)
              · rfl
              · (intro _w hSw; (try dsimp only at hSw); go_simp; try with_reducible rfl)
              · assumption
              try simp only [Act.put, List.setIfInBounds_toArray, List.set_cons_zero, List.set_cons_succ]
              refine take_in (i := 8) (v := ?_) (d := (some 70)) rfl rfl ?_ ?_ ?_ ?_ ?_ ?_ ?_ ?_
              rotate_left
              · kernel_rfl
              · kernel_rfl
              · kernel_rfl
              · (intro _ _ _ hq; exact hq)
              · rfl
              · (intro _w hSw; (try dsimp only at hSw); go_simp; try with_reducible rfl)
              · assumption
              try simp only [Act.put, List.setIfInBounds_toArray, List.set_cons_zero, List.set_cons_succ]
              refine take_in (i := 9) (v := ?_) (d := (some 71)) rfl rfl ?_ ?_ ?_ ?_ ?_ ?_ ?_ ?_
              rotate_left
              · kernel_rfl
              · kernel_rfl
              · kernel_rfl
              · (intro _ _ _ hq; exact hq)
              · rfl
              · (intro _w hSw; (try dsimp only at hSw); go_simp; try with_reducible rfl)
              · assumption
              try simp only [Act.put, List.setIfInBounds_toArray, List.set_cons_zero, List.set_cons_succ]
              refine take_in (i := 10) (v := ?_) (d := (some 72)) rfl rfl ?_ ?_ ?_ ?_ ?_ ?_ ?_ ?_
              rotate_left
              · kernel_rfl
              · kernel_rfl
              · kernel_rfl
              · (intro _ _ _ hq; exact hq)
              · rfl
              · (intro _w hSw; (try dsimp only at hSw); go_simp; try with_reducible rfl)
              · assumption
              try simp only [Act.put, List.setIfInBounds_toArray, List.set_cons_zero, List.set_cons_succ]
              refine take_in (i := 11) (v := ?_) (d := (some 73)) rfl rfl ?_ ?_ ?_ ?_ ?_ ?_ ?_ ?_
              rotate_left
              · kernel_rfl
              · kernel_rfl
              · kernel_rfl
              · (intro _ _ _ hq; exact hq)
              · rfl
              · (intro _w hSw; (try dsimp only at hSw); go_simp; try with_reducible rfl)
              · assumption
              try simp only [Act.put, List.setIfInBounds_toArray, List.set_cons_zero, List.set_cons_succ]
              refine take_in (i := 12) (v := ?_) (d := (some 74)) rfl rfl ?_ ?_ ?_ ?_ ?_ ?_ ?_ ?_
              rotate_left
              · kernel_rfl
              · kernel_rfl
              · kernel_rfl
              · (intro _ _ _ hq; exact hq)
              · rfl
              · (intro _w hSw; (try dsimp only at hSw); go_simp; try with_reducible rfl)
              · assumption
              try simp only [Act.put, List.setIfInBounds_toArray, List.set_cons_zero, List.set_cons_succ]
              refine take_in (i := 13) (v := ?_) (d := (some 75)) rfl rfl ?_ ?_ ?_ ?_ ?_ ?_ ?_ ?_
              rotate_left
              · kernel_rfl
              · kernel_rfl
              · kernel_rfl
              · (intro _ _ _ hq; exact hq)
              · rfl
              · (intro _w hSw; (try dsimp only at hSw); go_simp; try with_reducible rfl)
              · assumption
              try simp only [Act.put, List.setIfInBounds_toArray, List.set_cons_zero, List.set_cons_succ]
              refine take_in (i := 14) (v := ?_) (d := (some 76)) rfl rfl ?_ ?_ ?_ ?_ ?_ ?_ ?_ ?_
              rotate_left
              · kernel_rfl
              · kernel_rfl
              · kernel_rfl
              · (intro _ _ _ hq; exact hq)
              · rfl
              · (intro _w hSw; (try dsimp only at hSw); go_simp; try with_reducible rfl)
              · assumption
              try simp only [Act.put, List.setIfInBounds_toArray, List.set_cons_zero, List.set_cons_succ]
              refine take_in (i := 15) (v := ?_) (d := (some 77)) rfl rfl ?_ ?_ ?_ ?_ ?_ ?_ ?_ ?_
              rotate_left
              · kernel_rfl
              · kernel_rfl
              · kernel_rfl
              · (intro _ _ _ hq; exact hq)
              · rfl
              · (intro _w hSw; (try dsimp only at hSw); go_simp; try with_reducible rfl)
              · assumption
              try simp only [Act.put, List.setIfInBounds_toArray, List.set_cons_zero, List.set_cons_succ]
              refine take_in (i := 16) (v := ?_) (d := (some 78)) rfl rfl ?_ ?_ ?_ ?_ ?_ ?_ ?_ ?_
              rotate_left
              · kernel_rfl
              · kernel_rfl
              · kernel_rfl
              · (intro _ _ _ hq; exact hq)
              · rfl
              · (intro _w hSw; (try dsimp only at hSw); go_simp; try with_reducible rfl)
              · assumption
              try simp only [Act.put, List.setIfInBounds_toArray, List.set_cons_zero, List.set_cons_succ]
              refine take_in (i := 17) (v := ?_) (d := (some 79)) rfl rfl ?_ ?_ ?_ ?_ ?_ ?_ ?_ ?_
              rotate_left
              · kernel_rfl
              · kernel_rfl
              · kernel_rfl
              · (intro _ _ _ hq; exact hq)
              · rfl
              · (intro _w hSw; (try dsimp only at hSw); go_simp; try with_reducible rfl)
              · assumption
              try simp only [Act.put, List.setIfInBounds_toArray, List.set_cons_zero, List.set_cons_succ]
              refine take_in (i := 18) (v := ?_) (d := (some 80)) rfl rfl ?_ ?_ ?_ ?_ ?_ ?_ ?_ ?_
              rotate_left
              · kernel_rfl
              · kernel_rfl
              · kernel_rfl
              · (intro _ _ _ hq; exact hq)
              · rfl
              · (intro _w hSw; (try dsimp only at hSw); go_simp; try with_reducible rfl)
              · assumption
              try simp only [Act.put, List.setIfInBounds_toArray, List.set_cons_zero, List.set_cons_succ]
              refine take_in (i := 19) (v := ?_) (d := (some 9)) rfl rfl ?_ ?_ ?_ ?_ ?_ ?_ ?_ ?_
              rotate_left
              · kernel_rfl
              · kernel_rfl
              · kernel_rfl
              · (intro _ _ _ hq; exact hq)
              · rfl
              · (intro _w hSw; (try dsimp only at hSw); go_simp; try with_reducible rfl)
              · assumption
              try simp only [Act.put, List.setIfInBounds_toArray, List.set_cons_zero, List.set_cons_succ]
              refine wpAnyH_done ?_ ?_ _
              · kernel_rfl
              rotate_left
              go_wp2_with fail
              go_roundw
              case rel => exact ⟨y + 1, by omega, by omega, by go_num, congrArg (Value.int .i64) (by rw [HC.out]; split <;> omega), hHeld.1⟩
              case measure => simp [intOf]; omega
            · have hd : decide ((y : Int) ≤ (h0 : Int) - (y : Int)) = false := decide_eq_false (by omega)
              have HE2 : Hid (cutT (fun y => at2 tb w0 y) h0 y = cutT (fun y => at2 tb w0 y) h0 h0) := Lib.hid (cutT_end hy1 hy2 (by omega))
              go_wp2_with fail
              go_ret
              exact ⟨ret_int (by rw [HE2.out]; unfold needT; rw [HK.out, HGT.out]), hg⟩

end Go.Proofs.Ytcojionipffanab
