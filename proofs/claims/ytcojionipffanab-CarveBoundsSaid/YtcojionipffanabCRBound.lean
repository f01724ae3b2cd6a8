/- Layer 2: the reference's bounds. -/
import Derived.Test.YtcojionipffanabCHolds
import Derived.Test.YtcojionipffanabHeld
namespace Go.Proofs.Ytcojionipffanab
open Go.RowKit
set_option linter.unusedSimpArgs false

theorem blT_succ_le {bs : List Bl} {w h v : Int} {k : Nat} (h1 : blT bs w h k ≤ v) (h2 : fitsB (bl bs k) w h = true → (bl bs k).2.2 ≤ v) : blT bs w h (k + 1) ≤ v := by
  simp only [blT]
  split
  · have := h2 (by assumption); omega
  · exact h1
theorem not_bound {bs : List Bl} {tb : List (List Int)} {W H i k : Nat} (hi : i ≤ W) (hk : k ≤ H) (h : at2 tb i k < needT bs (at2 tb) i k) : boundB bs tb W H = false := by
  cases hb : boundB bs tb W H
  · rfl
  · have := (boundB_iff _ _ _ _).1 hb i k hi hk; omega
theorem need_bl {bs : List Bl} {T : Nat → Nat → Int} {i k j : Nat} (hj : j < bs.length) (hf : fitsB (bl bs j) i k = true) : (bl bs j).2.2 ≤ needT bs T i k := by
  have := blT_ge bs i k bs.length j hj hf
  unfold needT; omega
theorem need_x {bs : List Bl} {T : Nat → Nat → Int} {i k x : Nat} (h1 : 1 ≤ x) (h2 : x < i) : T x k + T (i - x) k ≤ needT bs T i k := by
  have := cutT_ge (fun a => T a k) i i x h1 h2
  unfold needT; omega
theorem need_y {bs : List Bl} {T : Nat → Nat → Int} {i k y : Nat} (h1 : 1 ≤ y) (h2 : y < k) : T i y + T i (k - y) ≤ needT bs T i k := by
  have := cutT_ge (fun a => T i a) k k y h1 h2
  unfold needT; omega
theorem cutT_one {f : Nat → Int} {s x : Nat} (h1 : 1 ≤ x) (h2 : x ≤ max 1 s) (h3 : s ≤ x) : cutT f s x = cutT f s s := by
  by_cases e : s = 0
  · subst e
    obtain rfl : x = 1 := by omega
    rfl
  · obtain rfl : x = s := by omega
    rfl

/-- The second half of the reference's Bound: a table of the right form. -/
def BndPost (r : Bool) (w : World) (e : Ending) (w' : World) : Prop := e = .returned (.bool r) ∧ Gr w w'

set_option maxRecDepth 100000 in
set_option maxHeartbeats 4000000 in
theorem rBound_form (W H : Nat) (hW : W ≤ 48) (hH : H ≤ 48) (BA TA : Option Addr) (bn bc tn tc : Nat) (tb : List (List Int)) (w : World) (htn : tb.length = tn) (hrl : ∀ row ∈ tb, row.length ≤ 281474976710656) (hT : RdRows w TA tb) (hr : formB W H tb = false) :
    Calls Try.prog 22 #[.int .i64 (W : Int), .int .i64 (H : Int), .slice BA bn bc, .slice TA tn tc] w (BndPost false w) := by
  by_cases hl : tn = W + 1
  · have HT := Lib.hid hT
    have HN := Lib.hid htn
    have HRL := Lib.hid hrl
    have HR : Hid (tb.all (rowB H) = false) := Lib.hid (by rw [← hr]; unfold formB; rw [htn]; simp [hl])
    have hne : ((tn : Int) != (W : Int) + 1) = false := by simp; omega
    have HL := Lib.hid hl
    clear hT htn hr hrl hl
    go_enter Try.func22, Try.ntmps22
    go_wp2_with fail
    go_loopw [9] (fun i wr => ∃ k : Nat, k ≤ tn ∧ i = .int .i64 k ∧ Hid ((tb.take k).all (rowB H) = true) ∧ Gr w wr) (fun i _ => tn - (intOf i).toNat)
    case atStart => exact ⟨0, Nat.zero_le _, rfl, Lib.hid (by simp), Gr.refl _⟩
    case round =>
      obtain ⟨wo, rfl⟩ : ∃ wo : World, wo = wr := ⟨_, rfl⟩
      obtain ⟨k, hk, rfl, hall, hg⟩ := hrel
      by_cases hlt : k ≤ W
      · have hkn : k < tn := by have := HL.out; omega
        have hkl : k < tb.length := by have := HN.out; omega
        obtain ⟨b, off, Ai, ci, rfl, hc, hI⟩ := (HT.out.keep hg).get hkl
        have hrk := HRL.out _ (getD_mem (d := []) hkl)
        have HNEXT : rowB H (tb.getD k []) = true → Hid ((tb.take (k + 1)).all (rowB H) = true) := fun h => Lib.hid (by rw [all_take_succ _ _ [] _ hkl, hall.out, h]; rfl)
        generalize tb.getD k [] = row at hc hI hrk HNEXT
        obtain ⟨n, hn⟩ : ∃ n, row.length = n := ⟨_, rfl⟩
        rw [hn] at hc hrk
        have HI := Lib.hid hI
        have HRN := Lib.hid hn
        clear hI hn
        by_cases hm : n = H + 1
        · have hme : ((n : Int) != (H : Int) + 1) = false := by simp; omega
          have HM := Lib.hid hm
          clear hm
          go_wp2_with fail
          go_loopw [10] (fun i wr => ∃ j : Nat, j ≤ n ∧ i = .int .i64 j ∧ Hid ((row.take j).all numB = true) ∧ Gr wo wr) (fun i _ => n - (intOf i).toNat)
          case atStart => exact ⟨0, Nat.zero_le _, rfl, Lib.hid (by simp), Gr.refl _⟩
          case round =>
            obtain ⟨j, hj, rfl, hall2, hg2⟩ := hrel
            by_cases hlt2 : j ≤ H
            · have hjn : j < n := by have := HM.out; omega
              have hjl : j < row.length := by have := HRN.out; omega
              obtain ⟨b', off', rfl, hv⟩ := Ints_at (HI.out.keep hg2) hjl
              have hc2 := hg2.keep hc
              have HOK : numB (row.getD j 0) = true → Hid ((row.take (j + 1)).all numB = true) := fun h => Lib.hid (by rw [all_take_succ _ _ 0 _ hjl, hall2.out, h]; rfl)
              generalize row.getD j 0 = v at hv HOK
              by_cases hv1 : 0 ≤ v
              · by_cases hv2 : v ≤ 1099511627776
                · have HX := HOK (by simp [numB, hv1, hv2])
                  clear HOK
                  go_wp2_with fail
                  go_roundw
                  case rel => exact ⟨j + 1, by omega, by go_num, HX, hg2⟩
                  case measure => simp [intOf]; omega
                · clear HOK
                  go_wp2_with fail
                  go_ret
                  exact ⟨rfl, hg.trans hg2⟩
              · clear HOK
                go_wp2_with fail
                go_ret
                exact ⟨rfl, hg.trans hg2⟩
            · have HX := HNEXT (by unfold rowB; have h := hall2.out; rw [List.take_of_length_le (by have := HRN.out; have := HM.out; omega)] at h; rw [h, HRN.out, HM.out]; simp)
              clear HNEXT
              go_wp2_with fail
              go_roundw
              case rel => exact ⟨k + 1, by omega, by go_num, HX, hg.trans hg2⟩
              case measure => simp [intOf]; omega
        · have hme : ((n : Int) != (H : Int) + 1) = true := by simp; omega
          clear HNEXT hm
          go_wp2_with fail
          go_ret
          exact ⟨rfl, hg⟩
      · exfalso
        have h := hall.out
        rw [List.take_of_length_le (by have := HN.out; have := HL.out; omega)] at h
        have := HR.out
        rw [h] at this
        cases this
  · have hne : ((tn : Int) != (W : Int) + 1) = true := by simp; omega
    clear hr hT htn hrl hl
    go_enter Try.func22, Try.ntmps22
    go_wp2_with fail
    go_ret
    exact ⟨rfl, Gr.refl _⟩

set_option maxRecDepth 100000 in
set_option maxHeartbeats 8000000 in
theorem rBound_ok (W H : Nat) (hW : W ≤ 48) (hH : H ≤ 48) (BA TA : Option Addr) (bn bc tn tc : Nat) (bs : List Bl) (tb : List (List Int)) (w : World) (hbn : bs.length = bn) (hbl : bn ≤ 16) (hbs : ∀ b ∈ bs, blB b = true) (hF : Frm W H tb) (htn : W + 1 = tn) (hB : Tris w BA bs) (hT : RdRows w TA tb) (r : Bool) (hr : boundB bs tb W H = r) :
    Calls Try.prog 22 #[.int .i64 (W : Int), .int .i64 (H : Int), .slice BA bn bc, .slice TA tn tc] w (BndPost r w) := by
  have HB := Lib.hid hB
  have HT := Lib.hid hT
  have HF := Lib.hid hF
  have HBN := Lib.hid hbn
  have HBS := Lib.hid hbs
  have HR := Lib.hid hr
  have HTN := Lib.hid htn
  have htl : W < tn := by omega
  have htl2 : tn ≤ 49 := by omega
  have hne : ((tn : Int) != (W : Int) + 1) = false := by simp; omega
  have hme : ((((H + 1 : Nat) : Int)) != (H : Int) + 1) = false := by simp
  clear hB hT hF hbn hbs htn hr
  go_enter Try.func22, Try.ntmps22
  go_wp2_with fail
  go_loopw [9] (fun i wr => ∃ k : Nat, k ≤ W + 1 ∧ i = .int .i64 k ∧ Gr w wr) (fun i _ => W + 1 - (intOf i).toNat)
  case atStart => exact ⟨0, Nat.zero_le _, rfl, Gr.refl _⟩
  case round =>
    obtain ⟨wo, rfl⟩ : ∃ wo : World, wo = wr := ⟨_, rfl⟩
    obtain ⟨k, hk, rfl, hg⟩ := hrel
    by_cases hlt : k ≤ W
    · have hkn : k < tn := by omega
      obtain ⟨b, off, b1, o1, c1, rfl, r1, -⟩ := (HT.out.keep hg).at HF.out (i := k) (k := 0) hlt (Nat.zero_le _)
      go_wp2_with fail
      go_loopw [10] (fun i wr => ∃ j : Nat, j ≤ H + 1 ∧ i = .int .i64 j ∧ Gr wo wr) (fun i _ => H + 1 - (intOf i).toNat)
      case atStart => exact ⟨0, Nat.zero_le _, rfl, Gr.refl _⟩
      case round =>
        obtain ⟨j, hj, rfl, hg2⟩ := hrel
        by_cases hlt2 : j ≤ H
        · have hv := (HT.out.keep (hg.trans hg2)).row HF.out hlt rfl (hg2.keep r1) (k := j) hlt2
          have r2 := hg2.keep r1
          have n1 := (HF.out.2 k hlt).2 j hlt2
          generalize at2 tb k j = v at hv n1
          obtain ⟨n1, n2⟩ := n1
          have hjn : j < H + 1 := by omega
          go_wp2_with fail
          go_roundw
          case rel => exact ⟨j + 1, by omega, by go_num, hg2⟩
          case measure => simp [intOf]; omega
        · go_wp2_with fail
          go_roundw
          case rel => exact ⟨k + 1, by omega, by go_num, hg.trans hg2⟩
          case measure => simp [intOf]; omega
    · have hdW : decide ((k : Int) ≤ (W : Int)) = false := decide_eq_false (by omega)
      go_wp2_with fail
      go_loopw [11] (fun z wr => ∃ i : Nat, i ≤ W + 1 ∧ z = .int .i64 i ∧ Hid (∀ x, x < i → ∀ h, h ≤ H → needT bs (at2 tb) x h ≤ at2 tb x h) ∧ Gr w wr) (fun z _ => W + 1 - (intOf z).toNat)
      case atStart => exact ⟨0, Nat.zero_le _, rfl, Lib.hid (fun x hx => absurd hx (by omega)), hg⟩
      case round =>
        clear hg hlt hk hdW
        obtain ⟨wi, rfl⟩ : ∃ wi : World, wi = wr := ⟨_, rfl⟩
        obtain ⟨i, hi0, rfl, hall, hgi⟩ := hrel
        by_cases hi : i ≤ W
        · have hdi : decide ((i : Int) ≤ (W : Int)) = true := decide_eq_true (by omega)
          go_wp2_with fail
          go_loopw [12] (fun z wr => ∃ k : Nat, k ≤ H + 1 ∧ z = .int .i64 k ∧ Hid (∀ h, h < k → needT bs (at2 tb) i h ≤ at2 tb i h) ∧ Gr w wr) (fun z _ => H + 1 - (intOf z).toNat)
          case atStart => exact ⟨0, Nat.zero_le _, rfl, Lib.hid (fun x hx => absurd hx (by omega)), hgi⟩
          case round =>
            clear hgi
            obtain ⟨wk, rfl⟩ : ∃ wk : World, wk = wr := ⟨_, rfl⟩
            obtain ⟨k, hk0, rfl, hall2, hg⟩ := hrel
            by_cases hk : k ≤ H
            · have H0 : Hid (0 ≤ at2 tb i k) := Lib.hid ((HF.out.2 i hi).2 k hk).1
              have hdk : decide ((k : Int) ≤ (H : Int)) = true := decide_eq_true (by omega)
              go_wp2_with fail
              go_loopw [13] (fun z wr => ∃ j : Nat, j ≤ bn ∧ z = .int .i64 j ∧ Hid (blT bs i k j ≤ at2 tb i k) ∧ Gr wk wr) (fun z _ => bn - (intOf z).toNat)
              case atStart => exact ⟨0, Nat.zero_le _, rfl, Lib.hid H0.out, Gr.refl _⟩
              case round =>
                obtain ⟨j, hj, rfl, hblt, hgs⟩ := hrel
                by_cases hjl : j < bn
                · have hjb : j < bs.length := by have := HBN.out; omega
                  obtain ⟨bb, boff, rfl, q0, q1, q2⟩ := Tris_at (HB.out.keep (hg.trans hgs)) hjb
                  rw [bl_getD] at q0 q1 q2
                  obtain ⟨b, off, b1, o1, c1, rfl, r1, v0⟩ := (HT.out.keep (hg.trans hgs)).at HF.out hi hk
                  have HBAD : fitsB (bl bs j) i k = true → at2 tb i k < (bl bs j).2.2 → Hid (r = false) := fun hf h => Lib.hid (by rw [← HR.out]; exact not_bound hi hk (Int.lt_of_lt_of_le h (need_bl hjb hf)))
                  have HOK : (fitsB (bl bs j) i k = true → ¬at2 tb i k < (bl bs j).2.2) → Hid (blT bs i k (j + 1) ≤ at2 tb i k) := fun h => Lib.hid (blT_succ_le hblt.out (fun hf => by have := h hf; omega))
                  obtain ⟨f, hf⟩ : ∃ f, fitsB (bl bs j) i k = f := ⟨_, rfl⟩
                  have HFF := Lib.hid (fun W' => rFits_any (bl bs j) i k W' f hf)
                  have n0 := (HF.out.2 i hi).2 k hk
                  rw [hf] at HBAD HOK
                  generalize at2 tb i k = p0 at v0 n0 HBAD HOK
                  generalize bl bs j = q at q0 q1 q2 HBAD HOK HFF
                  obtain ⟨bx, by_, v⟩ := q
                  dsimp only at q0 q1 q2 HBAD HOK HFF
                  have j6 : (j : Int) < (bn : Int) := by omega
                  have j7 : (0 : Int) ≤ (j : Int) := by omega
                  have j8 : (k : Int) < (H : Int) + 1 := by omega
                  have j10 : (i : Int) < (tn : Int) := by omega
                  have j11 : (0 : Int) ≤ (i : Int) := by omega
                  have j12 : (0 : Int) ≤ (k : Int) := by omega
                  have hdr := (Gr.refl wr).drew
                  clear hf
                  rcases f with _ | _
                  · have HX := HOK (fun h => by cases h)
                    clear HBAD HOK
                    go_wp2_with fail
                    refine wp_region_held_drew (S := (fun W' => Gr wk W' ∧ W'.cell? ⟨bb, boff + j * 3, none⟩ = some (.int .i64 bx) ∧ W'.cell? ⟨bb, boff + j * 3 + 1, none⟩ = some (.int .i64 by_) ∧ W'.cell? ⟨bb, boff + j * 3 + 2, none⟩ = some (.int .i64 v))) ?_ ?_ (fun hHeld => ?_)
                    · kernel_rfl
                    · ((try dsimp only); (first | exact ⟨hgs.drew, hdr.keep q0, hdr.keep q1, hdr.keep q2⟩ | exact ⟨hHeld.1.trans HGF.out, HGF.out.keep hHeld.2.1, HGF.out.keep hHeld.2.2.1, HGF.out.keep hHeld.2.2.2⟩))
                    refine take_in (i := 0) (v := ?_) (d := (some 73)) rfl rfl ?_ ?_ ?_ ?_ ?_ ?_ ?_ ?_
                    rotate_left
                    · kernel_rfl
                    · kernel_rfl
                    · kernel_rfl
                    · (intro _ _ _ hq; exact hq)
                    · rfl
                    · (intro _w hSw; (try dsimp only at hSw); go_simp; try with_reducible rfl)
                    · assumption
                    try simp only [Act.put, List.setIfInBounds_toArray, List.set_cons_zero, List.set_cons_succ]
                    refine take_in (i := 1) (v := ?_) (d := (some 74)) rfl rfl ?_ ?_ ?_ ?_ ?_ ?_ ?_ ?_
                    rotate_left
                    · kernel_rfl
                    · kernel_rfl
                    · kernel_rfl
                    · (intro _ _ _ hq; exact hq)
                    · rfl
                    · (intro _w hSw; (try dsimp only at hSw); go_simp; try with_reducible rfl)
                    · assumption
                    try simp only [Act.put, List.setIfInBounds_toArray, List.set_cons_zero, List.set_cons_succ]
                    refine take_in (i := 2) (v := ?_) (d := (some 75)) rfl rfl ?_ ?_ ?_ ?_ ?_ ?_ ?_ ?_
                    rotate_left
                    · kernel_rfl
                    · kernel_rfl
                    · kernel_rfl
                    · (intro _ _ _ hq; exact hq)
                    · rfl
                    · (intro _w hSw; (try dsimp only at hSw); go_simp; try with_reducible rfl)
                    · assumption
                    try simp only [Act.put, List.setIfInBounds_toArray, List.set_cons_zero, List.set_cons_succ]
                    refine take_in (i := 3) (v := ?_) (d := (some 76)) rfl rfl ?_ ?_ ?_ ?_ ?_ ?_ ?_ ?_
                    rotate_left
                    · kernel_rfl
                    · kernel_rfl
                    · kernel_rfl
                    · (intro _ _ _ hq; exact hq)
                    · rfl
                    · (intro _w hSw; (try dsimp only at hSw); go_simp; try with_reducible rfl)
                    · assumption
                    try simp only [Act.put, List.setIfInBounds_toArray, List.set_cons_zero, List.set_cons_succ]
                    refine take_in (i := 4) (v := ?_) (d := (some 77)) rfl rfl ?_ ?_ ?_ ?_ ?_ ?_ ?_ ?_
                    rotate_left
                    · kernel_rfl
                    · kernel_rfl
                    · kernel_rfl
                    · (intro _ _ _ hq; exact hq)
                    · rfl
                    · (intro _w hSw; (try dsimp only at hSw); go_simp; try with_reducible rfl)
                    · assumption
                    try simp only [Act.put, List.setIfInBounds_toArray, List.set_cons_zero, List.set_cons_succ]
                    refine take_in (i := 5) (v := ?_) (d := (some 78)) rfl rfl ?_ ?_ ?_ ?_ ?_ ?_ ?_ ?_
                    rotate_left
                    · kernel_rfl
                    · kernel_rfl
                    · kernel_rfl
                    · (intro _ _ _ hq; exact hq)
                    · rfl
                    · (intro _w hSw; (try dsimp only at hSw); go_simp; try with_reducible rfl)
                    · assumption
                    try simp only [Act.put, List.setIfInBounds_toArray, List.set_cons_zero, List.set_cons_succ]
                    refine wpAnyH_ready (rs := [6]) ?_ ?_ ?_
                    · kernel_rfl
                    · simp
                    refine (AllReadyH.cons rfl (fun K hK => ?_) AllReadyH.nil)
                    go_simp
                    first | (go_at_call 27; refine (HFF.out _).mono ?_; rintro e w5 ⟨rfl, hgf⟩; have HGF := Lib.hid hgf; clear hgf)
                    refine hK.out _ _ ?_ (fun hHeld => ?_)
                    · ((try dsimp only); (first | exact ⟨hgs.drew, hdr.keep q0, hdr.keep q1, hdr.keep q2⟩ | exact ⟨hHeld.1.trans HGF.out, HGF.out.keep hHeld.2.1, HGF.out.keep hHeld.2.2.1, HGF.out.keep hHeld.2.2.2⟩))
                    clear hK K
                    try simp only [Act.put, List.setIfInBounds_toArray, List.set_cons_zero, List.set_cons_succ]
                    refine take_in (i := 7) (v := ?_) (d := (some 80)) rfl rfl ?_ ?_ ?_ ?_ ?_ ?_ ?_ ?_
                    rotate_left
                    · kernel_rfl
                    · kernel_rfl
                    · kernel_rfl
                    · (intro _ _ _ hq; exact hq)
                    · rfl
                    · (intro _w hSw; (try dsimp only at hSw); go_simp; try with_reducible rfl)
                    · assumption
                    try simp only [Act.put, List.setIfInBounds_toArray, List.set_cons_zero, List.set_cons_succ]
                    refine take_un (i := 8) (d := (some 81)) rfl rfl ?_ ?_ ?_ ?_ ?_ ?_ ?_
                    · kernel_rfl
                    · kernel_rfl
                    · kernel_rfl
                    · (intro _ _ _ hq; exact hq)
                    · rfl
                    · assumption
                    try simp only [Act.put, List.setIfInBounds_toArray, List.set_cons_zero, List.set_cons_succ]
                    refine take_un (i := 9) (d := (some 82)) rfl rfl ?_ ?_ ?_ ?_ ?_ ?_ ?_
                    · kernel_rfl
                    · kernel_rfl
                    · kernel_rfl
                    · (intro _ _ _ hq; exact hq)
                    · rfl
                    · assumption
                    try simp only [Act.put, List.setIfInBounds_toArray, List.set_cons_zero, List.set_cons_succ]
                    refine take_un (i := 10) (d := (some 83)) rfl rfl ?_ ?_ ?_ ?_ ?_ ?_ ?_
                    · kernel_rfl
                    · kernel_rfl
                    · kernel_rfl
                    · (intro _ _ _ hq; exact hq)
                    · rfl
                    · assumption
                    try simp only [Act.put, List.setIfInBounds_toArray, List.set_cons_zero, List.set_cons_succ]
                    refine take_un (i := 11) (d := (some 84)) rfl rfl ?_ ?_ ?_ ?_ ?_ ?_ ?_
                    · kernel_rfl
                    · kernel_rfl
                    · kernel_rfl
                    · (intro _ _ _ hq; exact hq)
                    · rfl
                    · assumption
                    try simp only [Act.put, List.setIfInBounds_toArray, List.set_cons_zero, List.set_cons_succ]
                    refine take_un (i := 12) (d := (some 85)) rfl rfl ?_ ?_ ?_ ?_ ?_ ?_ ?_
                    · kernel_rfl
                    · kernel_rfl
                    · kernel_rfl
                    · (intro _ _ _ hq; exact hq)
                    · rfl
                    · assumption
                    try simp only [Act.put, List.setIfInBounds_toArray, List.set_cons_zero, List.set_cons_succ]
                    refine take_un (i := 13) (d := (some 86)) rfl rfl ?_ ?_ ?_ ?_ ?_ ?_ ?_
                    · kernel_rfl
                    · kernel_rfl
                    · kernel_rfl
                    · (intro _ _ _ hq; exact hq)
                    · rfl
                    · assumption
                    try simp only [Act.put, List.setIfInBounds_toArray, List.set_cons_zero, List.set_cons_succ]
                    refine take_un (i := 14) (d := (some 87)) rfl rfl ?_ ?_ ?_ ?_ ?_ ?_ ?_
                    · kernel_rfl
                    · kernel_rfl
                    · kernel_rfl
                    · (intro _ _ _ hq; exact hq)
                    · rfl
                    · assumption
                    try simp only [Act.put, List.setIfInBounds_toArray, List.set_cons_zero, List.set_cons_succ]
                    refine take_un (i := 15) (d := (some 88)) rfl rfl ?_ ?_ ?_ ?_ ?_ ?_ ?_
                    · kernel_rfl
                    · kernel_rfl
                    · kernel_rfl
                    · (intro _ _ _ hq; exact hq)
                    · rfl
                    · assumption
                    try simp only [Act.put, List.setIfInBounds_toArray, List.set_cons_zero, List.set_cons_succ]
                    refine take_un (i := 16) (d := (some 89)) rfl rfl ?_ ?_ ?_ ?_ ?_ ?_ ?_
                    · kernel_rfl
                    · kernel_rfl
                    · kernel_rfl
                    · (intro _ _ _ hq; exact hq)
                    · rfl
                    · assumption
                    try simp only [Act.put, List.setIfInBounds_toArray, List.set_cons_zero, List.set_cons_succ]
                    refine take_un (i := 17) (d := (some 90)) rfl rfl ?_ ?_ ?_ ?_ ?_ ?_ ?_
                    · kernel_rfl
                    · kernel_rfl
                    · kernel_rfl
                    · (intro _ _ _ hq; exact hq)
                    · rfl
                    · assumption
                    try simp only [Act.put, List.setIfInBounds_toArray, List.set_cons_zero, List.set_cons_succ]
                    refine take_un (i := 18) (d := (some 91)) rfl rfl ?_ ?_ ?_ ?_ ?_ ?_ ?_
                    · kernel_rfl
                    · kernel_rfl
                    · kernel_rfl
                    · (intro _ _ _ hq; exact hq)
                    · rfl
                    · assumption
                    try simp only [Act.put, List.setIfInBounds_toArray, List.set_cons_zero, List.set_cons_succ]
                    refine take_un (i := 19) (d := (some 92)) rfl rfl ?_ ?_ ?_ ?_ ?_ ?_ ?_
                    · kernel_rfl
                    · kernel_rfl
                    · kernel_rfl
                    · (intro _ _ _ hq; exact hq)
                    · rfl
                    · assumption
                    try simp only [Act.put, List.setIfInBounds_toArray, List.set_cons_zero, List.set_cons_succ]
                    refine take_un (i := 20) (d := (some 93)) rfl rfl ?_ ?_ ?_ ?_ ?_ ?_ ?_
                    · kernel_rfl
                    · kernel_rfl
                    · kernel_rfl
                    · (intro _ _ _ hq; exact hq)
                    · rfl
                    · assumption
                    try simp only [Act.put, List.setIfInBounds_toArray, List.set_cons_zero, List.set_cons_succ]
                    refine take_in (i := 21) (v := ?_) (d := (some 94)) rfl rfl ?_ ?_ ?_ ?_ ?_ ?_ ?_ ?_
                    rotate_left
                    · kernel_rfl
                    · kernel_rfl
                    · kernel_rfl
                    · (intro _ _ _ hq; exact hq)
                    · rfl
                    · (intro _w hSw; (try dsimp only at hSw); go_simp; try with_reducible rfl)
                    · assumption
                    try simp only [Act.put, List.setIfInBounds_toArray, List.set_cons_zero, List.set_cons_succ]
                    refine wpAnyH_done ?_ ?_ _
                    · kernel_rfl
                    rotate_left
                    go_wp2_with fail
                    go_roundw
                    case rel => exact ⟨j + 1, by omega, by go_num, HX, hHeld.1⟩
                    case measure => simp [intOf]; omega
                  · by_cases hp : p0 < v
                    · have HX := HBAD rfl hp
                      have hdp : decide (p0 < v) = true := decide_eq_true hp
                      clear HBAD HOK
                      go_wp2_with fail
                      refine wp_region_held_drew (S := (fun W' => Gr wk W' ∧ W'.cell? ⟨bb, boff + j * 3, none⟩ = some (.int .i64 bx) ∧ W'.cell? ⟨bb, boff + j * 3 + 1, none⟩ = some (.int .i64 by_) ∧ W'.cell? ⟨bb, boff + j * 3 + 2, none⟩ = some (.int .i64 v) ∧ W'.cell? ⟨b, off + i, none⟩ = some (.slice (some ⟨b1, o1, none⟩) (H + 1) c1) ∧ W'.cell? ⟨b1, o1 + k, none⟩ = some (.int .i64 p0))) ?_ ?_ (fun hHeld => ?_)
                      · kernel_rfl
                      · ((try dsimp only); (first | exact ⟨hgs.drew, hdr.keep q0, hdr.keep q1, hdr.keep q2, hdr.keep r1, hdr.keep v0⟩ | exact ⟨hHeld.1.trans HGF.out, HGF.out.keep hHeld.2.1, HGF.out.keep hHeld.2.2.1, HGF.out.keep hHeld.2.2.2.1, HGF.out.keep hHeld.2.2.2.2.1, HGF.out.keep hHeld.2.2.2.2.2⟩))
                      refine take_in (i := 0) (v := ?_) (d := (some 73)) rfl rfl ?_ ?_ ?_ ?_ ?_ ?_ ?_ ?_
                      rotate_left
                      · kernel_rfl
                      · kernel_rfl
                      · kernel_rfl
                      · (intro _ _ _ hq; exact hq)
                      · rfl
                      · (intro _w hSw; (try dsimp only at hSw); go_simp; try with_reducible rfl)
                      · assumption
                      try simp only [Act.put, List.setIfInBounds_toArray, List.set_cons_zero, List.set_cons_succ]
                      refine take_in (i := 1) (v := ?_) (d := (some 74)) rfl rfl ?_ ?_ ?_ ?_ ?_ ?_ ?_ ?_
                      rotate_left
                      · kernel_rfl
                      · kernel_rfl
                      · kernel_rfl
                      · (intro _ _ _ hq; exact hq)
                      · rfl
                      · (intro _w hSw; (try dsimp only at hSw); go_simp; try with_reducible rfl)
                      · assumption
                      try simp only [Act.put, List.setIfInBounds_toArray, List.set_cons_zero, List.set_cons_succ]
                      refine take_in (i := 2) (v := ?_) (d := (some 75)) rfl rfl ?_ ?_ ?_ ?_ ?_ ?_ ?_ ?_
                      rotate_left
                      · kernel_rfl
                      · kernel_rfl
                      · kernel_rfl
                      · (intro _ _ _ hq; exact hq)
                      · rfl
                      · (intro _w hSw; (try dsimp only at hSw); go_simp; try with_reducible rfl)
                      · assumption
                      try simp only [Act.put, List.setIfInBounds_toArray, List.set_cons_zero, List.set_cons_succ]
                      refine take_in (i := 3) (v := ?_) (d := (some 76)) rfl rfl ?_ ?_ ?_ ?_ ?_ ?_ ?_ ?_
                      rotate_left
                      · kernel_rfl
                      · kernel_rfl
                      · kernel_rfl
                      · (intro _ _ _ hq; exact hq)
                      · rfl
                      · (intro _w hSw; (try dsimp only at hSw); go_simp; try with_reducible rfl)
                      · assumption
                      try simp only [Act.put, List.setIfInBounds_toArray, List.set_cons_zero, List.set_cons_succ]
                      refine take_in (i := 4) (v := ?_) (d := (some 77)) rfl rfl ?_ ?_ ?_ ?_ ?_ ?_ ?_ ?_
                      rotate_left
                      · kernel_rfl
                      · kernel_rfl
                      · kernel_rfl
                      · (intro _ _ _ hq; exact hq)
                      · rfl
                      · (intro _w hSw; (try dsimp only at hSw); go_simp; try with_reducible rfl)
                      · assumption
                      try simp only [Act.put, List.setIfInBounds_toArray, List.set_cons_zero, List.set_cons_succ]
                      refine take_in (i := 5) (v := ?_) (d := (some 78)) rfl rfl ?_ ?_ ?_ ?_ ?_ ?_ ?_ ?_
                      rotate_left
                      · kernel_rfl
                      · kernel_rfl
                      · kernel_rfl
                      · (intro _ _ _ hq; exact hq)
                      · rfl
                      · (intro _w hSw; (try dsimp only at hSw); go_simp; try with_reducible rfl)
                      · assumption
                      try simp only [Act.put, List.setIfInBounds_toArray, List.set_cons_zero, List.set_cons_succ]
                      refine wpAnyH_ready (rs := [6]) ?_ ?_ ?_
                      · kernel_rfl
                      · simp
                      refine (AllReadyH.cons rfl (fun K hK => ?_) AllReadyH.nil)
                      go_simp
                      first | (go_at_call 27; refine (HFF.out _).mono ?_; rintro e w5 ⟨rfl, hgf⟩; have HGF := Lib.hid hgf; clear hgf)
                      refine hK.out _ _ ?_ (fun hHeld => ?_)
                      · ((try dsimp only); (first | exact ⟨hgs.drew, hdr.keep q0, hdr.keep q1, hdr.keep q2, hdr.keep r1, hdr.keep v0⟩ | exact ⟨hHeld.1.trans HGF.out, HGF.out.keep hHeld.2.1, HGF.out.keep hHeld.2.2.1, HGF.out.keep hHeld.2.2.2.1, HGF.out.keep hHeld.2.2.2.2.1, HGF.out.keep hHeld.2.2.2.2.2⟩))
                      clear hK K
                      try simp only [Act.put, List.setIfInBounds_toArray, List.set_cons_zero, List.set_cons_succ]
                      refine take_in (i := 7) (v := ?_) (d := (some 80)) rfl rfl ?_ ?_ ?_ ?_ ?_ ?_ ?_ ?_
                      rotate_left
                      · kernel_rfl
                      · kernel_rfl
                      · kernel_rfl
                      · (intro _ _ _ hq; exact hq)
                      · rfl
                      · (intro _w hSw; (try dsimp only at hSw); go_simp; try with_reducible rfl)
                      · assumption
                      try simp only [Act.put, List.setIfInBounds_toArray, List.set_cons_zero, List.set_cons_succ]
                      refine take_in (i := 8) (v := ?_) (d := (some 81)) rfl rfl ?_ ?_ ?_ ?_ ?_ ?_ ?_ ?_
                      rotate_left
                      · kernel_rfl
                      · kernel_rfl
                      · kernel_rfl
                      · (intro _ _ _ hq; exact hq)
                      · rfl
                      · (intro _w hSw; (try dsimp only at hSw); go_simp; try with_reducible rfl)
                      · assumption
                      try simp only [Act.put, List.setIfInBounds_toArray, List.set_cons_zero, List.set_cons_succ]
                      refine take_in (i := 9) (v := ?_) (d := (some 82)) rfl rfl ?_ ?_ ?_ ?_ ?_ ?_ ?_ ?_
                      rotate_left
                      · kernel_rfl
                      · kernel_rfl
                      · kernel_rfl
                      · (intro _ _ _ hq; exact hq)
                      · rfl
                      · (intro _w hSw; (try dsimp only at hSw); go_simp; try with_reducible rfl)
                      · assumption
                      try simp only [Act.put, List.setIfInBounds_toArray, List.set_cons_zero, List.set_cons_succ]
                      refine take_in (i := 10) (v := ?_) (d := (some 83)) rfl rfl ?_ ?_ ?_ ?_ ?_ ?_ ?_ ?_
                      rotate_left
                      · kernel_rfl
                      · kernel_rfl
                      · kernel_rfl
                      · (intro _ _ _ hq; exact hq)
                      · rfl
                      · (intro _w hSw; (try dsimp only at hSw); go_simp; try with_reducible rfl)
                      · assumption
                      try simp only [Act.put, List.setIfInBounds_toArray, List.set_cons_zero, List.set_cons_succ]
                      refine take_in (i := 11) (v := ?_) (d := (some 84)) rfl rfl ?_ ?_ ?_ ?_ ?_ ?_ ?_ ?_
                      rotate_left
                      · kernel_rfl
                      · kernel_rfl
                      · kernel_rfl
                      · (intro _ _ _ hq; exact hq)
                      · rfl
                      · (intro _w hSw; (try dsimp only at hSw); go_simp; try with_reducible rfl)
                      · assumption
                      try simp only [Act.put, List.setIfInBounds_toArray, List.set_cons_zero, List.set_cons_succ]
                      refine take_in (i := 12) (v := ?_) (d := (some 85)) rfl rfl ?_ ?_ ?_ ?_ ?_ ?_ ?_ ?_
                      rotate_left
                      · kernel_rfl
                      · kernel_rfl
                      · kernel_rfl
                      · (intro _ _ _ hq; exact hq)
                      · rfl
                      · (intro _w hSw; (try dsimp only at hSw); go_simp; try with_reducible rfl)
                      · assumption
                      try simp only [Act.put, List.setIfInBounds_toArray, List.set_cons_zero, List.set_cons_succ]
                      refine take_in (i := 13) (v := ?_) (d := (some 86)) rfl rfl ?_ ?_ ?_ ?_ ?_ ?_ ?_ ?_
                      rotate_left
                      · kernel_rfl
                      · kernel_rfl
                      · kernel_rfl
                      · (intro _ _ _ hq; exact hq)
                      · rfl
                      · (intro _w hSw; (try dsimp only at hSw); go_simp; try with_reducible rfl)
                      · assumption
                      try simp only [Act.put, List.setIfInBounds_toArray, List.set_cons_zero, List.set_cons_succ]
                      refine take_in (i := 14) (v := ?_) (d := (some 87)) rfl rfl ?_ ?_ ?_ ?_ ?_ ?_ ?_ ?_
                      rotate_left
                      · kernel_rfl
                      · kernel_rfl
                      · kernel_rfl
                      · (intro _ _ _ hq; exact hq)
                      · rfl
                      · (intro _w hSw; (try dsimp only at hSw); go_simp; try with_reducible rfl)
                      · assumption
                      try simp only [Act.put, List.setIfInBounds_toArray, List.set_cons_zero, List.set_cons_succ]
                      refine take_in (i := 15) (v := ?_) (d := (some 88)) rfl rfl ?_ ?_ ?_ ?_ ?_ ?_ ?_ ?_
                      rotate_left
                      · kernel_rfl
                      · kernel_rfl
                      · kernel_rfl
                      · (intro _ _ _ hq; exact hq)
                      · rfl
                      · (intro _w hSw; (try dsimp only at hSw); go_simp; try with_reducible rfl)
                      · assumption
                      try simp only [Act.put, List.setIfInBounds_toArray, List.set_cons_zero, List.set_cons_succ]
                      refine take_in (i := 16) (v := ?_) (d := (some 89)) rfl rfl ?_ ?_ ?_ ?_ ?_ ?_ ?_ ?_
                      rotate_left
                      · kernel_rfl
                      · kernel_rfl
                      · kernel_rfl
                      · (intro _ _ _ hq; exact hq)
                      · rfl
                      · (intro _w hSw; (try dsimp only at hSw); go_simp; try with_reducible rfl)
                      · assumption
                      try simp only [Act.put, List.setIfInBounds_toArray, List.set_cons_zero, List.set_cons_succ]
                      refine take_in (i := 17) (v := ?_) (d := (some 90)) rfl rfl ?_ ?_ ?_ ?_ ?_ ?_ ?_ ?_
                      rotate_left
                      · kernel_rfl
                      · kernel_rfl
                      · kernel_rfl
                      · (intro _ _ _ hq; exact hq)
                      · rfl
                      · (intro _w hSw; (try dsimp only at hSw); go_simp; try with_reducible rfl)
                      · assumption
                      try simp only [Act.put, List.setIfInBounds_toArray, List.set_cons_zero, List.set_cons_succ]
                      refine take_in (i := 18) (v := ?_) (d := (some 91)) rfl rfl ?_ ?_ ?_ ?_ ?_ ?_ ?_ ?_
                      rotate_left
                      · kernel_rfl
                      · kernel_rfl
                      · kernel_rfl
                      · (intro _ _ _ hq; exact hq)
                      · rfl
                      · (intro _w hSw; (try dsimp only at hSw); go_simp; try with_reducible rfl)
                      · assumption
                      try simp only [Act.put, List.setIfInBounds_toArray, List.set_cons_zero, List.set_cons_succ]
                      refine take_in (i := 19) (v := ?_) (d := (some 92)) rfl rfl ?_ ?_ ?_ ?_ ?_ ?_ ?_ ?_
                      rotate_left
                      · kernel_rfl
                      · kernel_rfl
                      · kernel_rfl
                      · (intro _ _ _ hq; exact hq)
                      · rfl
                      · (intro _w hSw; (try dsimp only at hSw); go_simp; try with_reducible rfl)
                      · assumption
                      try simp only [Act.put, List.setIfInBounds_toArray, List.set_cons_zero, List.set_cons_succ]
                      refine take_in (i := 20) (v := ?_) (d := (some 93)) rfl rfl ?_ ?_ ?_ ?_ ?_ ?_ ?_ ?_
                      rotate_left
                      · kernel_rfl
                      · kernel_rfl
                      · kernel_rfl
                      · (intro _ _ _ hq; exact hq)
                      · rfl
                      · (intro _w hSw; (try dsimp only at hSw); go_simp; try with_reducible rfl)
                      · assumption
                      try simp only [Act.put, List.setIfInBounds_toArray, List.set_cons_zero, List.set_cons_succ]
                      refine take_in (i := 21) (v := ?_) (d := (some 94)) rfl rfl ?_ ?_ ?_ ?_ ?_ ?_ ?_ ?_
                      rotate_left
                      · kernel_rfl
                      · kernel_rfl
                      · kernel_rfl
                      · (intro _ _ _ hq; exact hq)
                      · rfl
                      · (intro _w hSw; (try dsimp only at hSw); go_simp; try with_reducible rfl)
                      · assumption
                      try simp only [Act.put, List.setIfInBounds_toArray, List.set_cons_zero, List.set_cons_succ]
                      refine wpAnyH_done ?_ ?_ _
                      · kernel_rfl
                      rotate_left
                      go_wp2_with fail
                      go_ret
                      exact ⟨ret_bool HX.out.symm, hg.trans hHeld.1⟩
                    · have HX := HOK (fun _ => hp)
                      have hdp : decide (p0 < v) = false := decide_eq_false hp
                      clear HBAD HOK
                      go_wp2_with fail
                      refine wp_region_held_drew (S := (fun W' => Gr wk W' ∧ W'.cell? ⟨bb, boff + j * 3, none⟩ = some (.int .i64 bx) ∧ W'.cell? ⟨bb, boff + j * 3 + 1, none⟩ = some (.int .i64 by_) ∧ W'.cell? ⟨bb, boff + j * 3 + 2, none⟩ = some (.int .i64 v) ∧ W'.cell? ⟨b, off + i, none⟩ = some (.slice (some ⟨b1, o1, none⟩) (H + 1) c1) ∧ W'.cell? ⟨b1, o1 + k, none⟩ = some (.int .i64 p0))) ?_ ?_ (fun hHeld => ?_)
                      · kernel_rfl
                      · ((try dsimp only); (first | exact ⟨hgs.drew, hdr.keep q0, hdr.keep q1, hdr.keep q2, hdr.keep r1, hdr.keep v0⟩ | exact ⟨hHeld.1.trans HGF.out, HGF.out.keep hHeld.2.1, HGF.out.keep hHeld.2.2.1, HGF.out.keep hHeld.2.2.2.1, HGF.out.keep hHeld.2.2.2.2.1, HGF.out.keep hHeld.2.2.2.2.2⟩))
                      refine take_in (i := 0) (v := ?_) (d := (some 73)) rfl rfl ?_ ?_ ?_ ?_ ?_ ?_ ?_ ?_
                      rotate_left
                      · kernel_rfl
                      · kernel_rfl
                      · kernel_rfl
                      · (intro _ _ _ hq; exact hq)
                      · rfl
                      · (intro _w hSw; (try dsimp only at hSw); go_simp; try with_reducible rfl)
                      · assumption
                      try simp only [Act.put, List.setIfInBounds_toArray, List.set_cons_zero, List.set_cons_succ]
                      refine take_in (i := 1) (v := ?_) (d := (some 74)) rfl rfl ?_ ?_ ?_ ?_ ?_ ?_ ?_ ?_
                      rotate_left
                      · kernel_rfl
                      · kernel_rfl
                      · kernel_rfl
                      · (intro _ _ _ hq; exact hq)
                      · rfl
                      · (intro _w hSw; (try dsimp only at hSw); go_simp; try with_reducible rfl)
                      · assumption
                      try simp only [Act.put, List.setIfInBounds_toArray, List.set_cons_zero, List.set_cons_succ]
                      refine take_in (i := 2) (v := ?_) (d := (some 75)) rfl rfl ?_ ?_ ?_ ?_ ?_ ?_ ?_ ?_
                      rotate_left
                      · kernel_rfl
                      · kernel_rfl
                      · kernel_rfl
                      · (intro _ _ _ hq; exact hq)
                      · rfl
                      · (intro _w hSw; (try dsimp only at hSw); go_simp; try with_reducible rfl)
                      · assumption
                      try simp only [Act.put, List.setIfInBounds_toArray, List.set_cons_zero, List.set_cons_succ]
                      refine take_in (i := 3) (v := ?_) (d := (some 76)) rfl rfl ?_ ?_ ?_ ?_ ?_ ?_ ?_ ?_
                      rotate_left
                      · kernel_rfl
                      · kernel_rfl
                      · kernel_rfl
                      · (intro _ _ _ hq; exact hq)
                      · rfl
                      · (intro _w hSw; (try dsimp only at hSw); go_simp; try with_reducible rfl)
                      · assumption
                      try simp only [Act.put, List.setIfInBounds_toArray, List.set_cons_zero, List.set_cons_succ]
                      refine take_in (i := 4) (v := ?_) (d := (some 77)) rfl rfl ?_ ?_ ?_ ?_ ?_ ?_ ?_ ?_
                      rotate_left
                      · kernel_rfl
                      · kernel_rfl
                      · kernel_rfl
                      · (intro _ _ _ hq; exact hq)
                      · rfl
                      · (intro _w hSw; (try dsimp only at hSw); go_simp; try with_reducible rfl)
                      · assumption
                      try simp only [Act.put, List.setIfInBounds_toArray, List.set_cons_zero, List.set_cons_succ]
                      refine take_in (i := 5) (v := ?_) (d := (some 78)) rfl rfl ?_ ?_ ?_ ?_ ?_ ?_ ?_ ?_
                      rotate_left
                      · kernel_rfl
                      · kernel_rfl
                      · kernel_rfl
                      · (intro _ _ _ hq; exact hq)
                      · rfl
                      · (intro _w hSw; (try dsimp only at hSw); go_simp; try with_reducible rfl)
                      · assumption
                      try simp only [Act.put, List.setIfInBounds_toArray, List.set_cons_zero, List.set_cons_succ]
                      refine wpAnyH_ready (rs := [6]) ?_ ?_ ?_
                      · kernel_rfl
                      · simp
                      refine (AllReadyH.cons rfl (fun K hK => ?_) AllReadyH.nil)
                      go_simp
                      first | (go_at_call 27; refine (HFF.out _).mono ?_; rintro e w5 ⟨rfl, hgf⟩; have HGF := Lib.hid hgf; clear hgf)
                      refine hK.out _ _ ?_ (fun hHeld => ?_)
                      · ((try dsimp only); (first | exact ⟨hgs.drew, hdr.keep q0, hdr.keep q1, hdr.keep q2, hdr.keep r1, hdr.keep v0⟩ | exact ⟨hHeld.1.trans HGF.out, HGF.out.keep hHeld.2.1, HGF.out.keep hHeld.2.2.1, HGF.out.keep hHeld.2.2.2.1, HGF.out.keep hHeld.2.2.2.2.1, HGF.out.keep hHeld.2.2.2.2.2⟩))
                      clear hK K
                      try simp only [Act.put, List.setIfInBounds_toArray, List.set_cons_zero, List.set_cons_succ]
                      refine take_in (i := 7) (v := ?_) (d := (some 80)) rfl rfl ?_ ?_ ?_ ?_ ?_ ?_ ?_ ?_
                      rotate_left
                      · kernel_rfl
                      · kernel_rfl
                      · kernel_rfl
                      · (intro _ _ _ hq; exact hq)
                      · rfl
                      · (intro _w hSw; (try dsimp only at hSw); go_simp; try with_reducible rfl)
                      · assumption
                      try simp only [Act.put, List.setIfInBounds_toArray, List.set_cons_zero, List.set_cons_succ]
                      refine take_in (i := 8) (v := ?_) (d := (some 81)) rfl rfl ?_ ?_ ?_ ?_ ?_ ?_ ?_ ?_
                      rotate_left
                      · kernel_rfl
                      · kernel_rfl
                      · kernel_rfl
                      · (intro _ _ _ hq; exact hq)
                      · rfl
                      · (intro _w hSw; (try dsimp only at hSw); go_simp; try with_reducible rfl)
                      · assumption
                      try simp only [Act.put, List.setIfInBounds_toArray, List.set_cons_zero, List.set_cons_succ]
                      refine take_in (i := 9) (v := ?_) (d := (some 82)) rfl rfl ?_ ?_ ?_ ?_ ?_ ?_ ?_ ?_
                      rotate_left
                      · kernel_rfl
                      · kernel_rfl
                      · kernel_rfl
                      · (intro _ _ _ hq; exact hq)
                      · rfl
                      · (intro _w hSw; (try dsimp only at hSw); go_simp; try with_reducible rfl)
                      · assumption
                      try simp only [Act.put, List.setIfInBounds_toArray, List.set_cons_zero, List.set_cons_succ]
                      refine take_in (i := 10) (v := ?_) (d := (some 83)) rfl rfl ?_ ?_ ?_ ?_ ?_ ?_ ?_ ?_
                      rotate_left
                      · kernel_rfl
                      · kernel_rfl
                      · kernel_rfl
                      · (intro _ _ _ hq; exact hq)
                      · rfl
                      · (intro _w hSw; (try dsimp only at hSw); go_simp; try with_reducible rfl)
                      · assumption
                      try simp only [Act.put, List.setIfInBounds_toArray, List.set_cons_zero, List.set_cons_succ]
                      refine take_in (i := 11) (v := ?_) (d := (some 84)) rfl rfl ?_ ?_ ?_ ?_ ?_ ?_ ?_ ?_
                      rotate_left
                      · kernel_rfl
                      · kernel_rfl
                      · kernel_rfl
                      · (intro _ _ _ hq; exact hq)
                      · rfl
                      · (intro _w hSw; (try dsimp only at hSw); go_simp; try with_reducible rfl)
                      · assumption
                      try simp only [Act.put, List.setIfInBounds_toArray, List.set_cons_zero, List.set_cons_succ]
                      refine take_in (i := 12) (v := ?_) (d := (some 85)) rfl rfl ?_ ?_ ?_ ?_ ?_ ?_ ?_ ?_
                      rotate_left
                      · kernel_rfl
                      · kernel_rfl
                      · kernel_rfl
                      · (intro _ _ _ hq; exact hq)
                      · rfl
                      · (intro _w hSw; (try dsimp only at hSw); go_simp; try with_reducible rfl)
                      · assumption
                      try simp only [Act.put, List.setIfInBounds_toArray, List.set_cons_zero, List.set_cons_succ]
                      refine take_in (i := 13) (v := ?_) (d := (some 86)) rfl rfl ?_ ?_ ?_ ?_ ?_ ?_ ?_ ?_
                      rotate_left
                      · kernel_rfl
                      · kernel_rfl
                      · kernel_rfl
                      · (intro _ _ _ hq; exact hq)
                      · rfl
                      · (intro _w hSw; (try dsimp only at hSw); go_simp; try with_reducible rfl)
                      · assumption
                      try simp only [Act.put, List.setIfInBounds_toArray, List.set_cons_zero, List.set_cons_succ]
                      refine take_in (i := 14) (v := ?_) (d := (some 87)) rfl rfl ?_ ?_ ?_ ?_ ?_ ?_ ?_ ?_
                      rotate_left
                      · kernel_rfl
                      · kernel_rfl
                      · kernel_rfl
                      · (intro _ _ _ hq; exact hq)
                      · rfl
                      · (intro _w hSw; (try dsimp only at hSw); go_simp; try with_reducible rfl)
                      · assumption
                      try simp only [Act.put, List.setIfInBounds_toArray, List.set_cons_zero, List.set_cons_succ]
                      refine take_in (i := 15) (v := ?_) (d := (some 88)) rfl rfl ?_ ?_ ?_ ?_ ?_ ?_ ?_ ?_
                      rotate_left
                      · kernel_rfl
                      · kernel_rfl
                      · kernel_rfl
                      · (intro _ _ _ hq; exact hq)
                      · rfl
                      · (intro _w hSw; (try dsimp only at hSw); go_simp; try with_reducible rfl)
                      · assumption
                      try simp only [Act.put, List.setIfInBounds_toArray, List.set_cons_zero, List.set_cons_succ]
                      refine take_in (i := 16) (v := ?_) (d := (some 89)) rfl rfl ?_ ?_ ?_ ?_ ?_ ?_ ?_ ?_
                      rotate_left
                      · kernel_rfl
                      · kernel_rfl
                      · kernel_rfl
                      · (intro _ _ _ hq; exact hq)
                      · rfl
                      · (intro _w hSw; (try dsimp only at hSw); go_simp; try with_reducible rfl)
                      · assumption
                      try simp only [Act.put, List.setIfInBounds_toArray, List.set_cons_zero, List.set_cons_succ]
                      refine take_in (i := 17) (v := ?_) (d := (some 90)) rfl rfl ?_ ?_ ?_ ?_ ?_ ?_ ?_ ?_
                      rotate_left
                      · kernel_rfl
                      · kernel_rfl
                      · kernel_rfl
                      · (intro _ _ _ hq; exact hq)
                      · rfl
                      · (intro _w hSw; (try dsimp only at hSw); go_simp; try with_reducible rfl)
                      · assumption
                      try simp only [Act.put, List.setIfInBounds_toArray, List.set_cons_zero, List.set_cons_succ]
                      refine take_in (i := 18) (v := ?_) (d := (some 91)) rfl rfl ?_ ?_ ?_ ?_ ?_ ?_ ?_ ?_
                      rotate_left
                      · kernel_rfl
                      · kernel_rfl
                      · kernel_rfl
                      · (intro _ _ _ hq; exact hq)
                      · rfl
                      · (intro _w hSw; (try dsimp only at hSw); go_simp; try with_reducible rfl)
                      · assumption
                      try simp only [Act.put, List.setIfInBounds_toArray, List.set_cons_zero, List.set_cons_succ]
                      refine take_in (i := 19) (v := ?_) (d := (some 92)) rfl rfl ?_ ?_ ?_ ?_ ?_ ?_ ?_ ?_
                      rotate_left
                      · kernel_rfl
                      · kernel_rfl
                      · kernel_rfl
                      · (intro _ _ _ hq; exact hq)
                      · rfl
                      · (intro _w hSw; (try dsimp only at hSw); go_simp; try with_reducible rfl)
                      · assumption
                      try simp only [Act.put, List.setIfInBounds_toArray, List.set_cons_zero, List.set_cons_succ]
                      refine take_in (i := 20) (v := ?_) (d := (some 93)) rfl rfl ?_ ?_ ?_ ?_ ?_ ?_ ?_ ?_
                      rotate_left
                      · kernel_rfl
                      · kernel_rfl
                      · kernel_rfl
                      · (intro _ _ _ hq; exact hq)
                      · rfl
                      · (intro _w hSw; (try dsimp only at hSw); go_simp; try with_reducible rfl)
                      · assumption
                      try simp only [Act.put, List.setIfInBounds_toArray, List.set_cons_zero, List.set_cons_succ]
                      refine take_in (i := 21) (v := ?_) (d := (some 94)) rfl rfl ?_ ?_ ?_ ?_ ?_ ?_ ?_ ?_
                      rotate_left
                      · kernel_rfl
                      · kernel_rfl
                      · kernel_rfl
                      · (intro _ _ _ hq; exact hq)
                      · rfl
                      · (intro _w hSw; (try dsimp only at hSw); go_simp; try with_reducible rfl)
                      · assumption
                      try simp only [Act.put, List.setIfInBounds_toArray, List.set_cons_zero, List.set_cons_succ]
                      refine wpAnyH_done ?_ ?_ _
                      · kernel_rfl
                      rotate_left
                      go_wp2_with fail
                      go_roundw
                      case rel => exact ⟨j + 1, by omega, by go_num, HX, hHeld.1⟩
                      case measure => simp [intOf]; omega
                · obtain rfl : j = bn := by omega
                  have HBL : Hid (blT bs i k bs.length ≤ at2 tb i k) := Lib.hid (by rw [HBN.out]; exact hblt.out)
                  clear hblt hjl
                  go_wp2_with fail
                  go_loopw [14] (fun z wr => ∃ x : Nat, 1 ≤ x ∧ x ≤ max 1 i ∧ z = .int .i64 x ∧ Hid (cutT (fun a => at2 tb a k) i x ≤ at2 tb i k) ∧ Gr wk wr) (fun z _ => i + 1 - (intOf z).toNat)
                  case atStart => exact ⟨1, Nat.le_refl _, by omega, rfl, Lib.hid (by simp only [cutT]; exact H0.out), hgs⟩
                  case round =>
                    clear hgs
                    obtain ⟨x, hv1, hv2, rfl, hcut, hgs⟩ := hrel
                    by_cases hlt3 : x < i
                    · have hd3 : decide ((x : Int) < (i : Int)) = true := decide_eq_true (by omega)
                      have hRd := HT.out.keep (hg.trans hgs)
                      obtain ⟨b, off, b0, o0, c0, rfl, r0, v0⟩ := hRd.at HF.out hi hk
                      obtain ⟨b', off', b1, o1, c1, e1, r1, v1⟩ := hRd.at HF.out (i := x) (k := k) (by omega) hk
                      obtain ⟨rfl, rfl⟩ : b = b' ∧ off = off' := by simpa using e1
                      obtain ⟨b', off', b2, o2, c2, e2, r2, v2⟩ := hRd.at HF.out (i := i - x) (k := k) (by omega) hk
                      obtain ⟨rfl, rfl⟩ : b = b' ∧ off = off' := by simpa using e2
                      have n0 := (HF.out.2 i hi).2 k hk
                      have n1 := (HF.out.2 x (by omega)).2 k hk
                      have n2 := (HF.out.2 (i - x) (by omega)).2 k hk
                      have HC := Lib.hid (cutT_step (fun a => at2 tb a k) i x hv1)
                      have HND : Hid (at2 tb x k + at2 tb (i - x) k ≤ needT bs (at2 tb) i k) := Lib.hid (need_x hv1 hlt3)
                      have HBAD : at2 tb i k < at2 tb x k + at2 tb (i - x) k → Hid (r = false) := fun h => Lib.hid (by rw [← HR.out]; exact not_bound hi hk (Int.lt_of_lt_of_le h HND.out))
                      have HOK : ¬at2 tb i k < at2 tb x k + at2 tb (i - x) k → Hid (cutT (fun a => at2 tb a k) i (x + 1) ≤ at2 tb i k) := fun h => Lib.hid (by rw [HC.out]; have := hcut.out; omega)
                      clear HND HC
                      generalize at2 tb i k = p0 at v0 n0 HBAD HOK hcut
                      generalize at2 tb x k = p1 at v1 n1 HBAD HOK
                      generalize at2 tb (i - x) k = p2 at v2 n2 HBAD HOK
                      have j2 : IntKind.i64.wrap (p1 + p2) = p1 + p2 := IntWalk.i64_in _ (by omega)
                      have j1 : IntKind.i64.wrap ((i : Int) - (x : Int)) = (i : Int) - (x : Int) := IntWalk.i64_in _ (by omega)
                      have j3 : ((i : Int) - (x : Int)).toNat = i - x := by omega
                      have j4 : (0 : Int) ≤ (i : Int) - (x : Int) := by omega
                      have j5 : (i : Int) - (x : Int) < (tn : Int) := by omega
                      have j6 : (x : Int) < (tn : Int) := by omega
                      have j7 : (0 : Int) ≤ (x : Int) := by omega
                      have j8 : (k : Int) < (H : Int) + 1 := by omega
                      have j10 : (i : Int) < (tn : Int) := by omega
                      have j9 : x ≤ i := by omega
                      have hdr := (Gr.refl wr).drew
                      by_cases hp : p0 < p1 + p2
                      · have HX := HBAD hp
                        have hdp : decide (p0 < p1 + p2) = true := decide_eq_true hp
                        clear HBAD HOK
                        go_wp2_with fail
                        refine wp_region_held_drew (S := (fun W' => Gr wk W' ∧ W'.cell? ⟨b, off + i, none⟩ = some (.slice (some ⟨b0, o0, none⟩) (H + 1) c0) ∧ W'.cell? ⟨b0, o0 + k, none⟩ = some (.int .i64 p0) ∧ W'.cell? ⟨b, off + x, none⟩ = some (.slice (some ⟨b1, o1, none⟩) (H + 1) c1) ∧ W'.cell? ⟨b1, o1 + k, none⟩ = some (.int .i64 p1) ∧ W'.cell? ⟨b, off + (i - x), none⟩ = some (.slice (some ⟨b2, o2, none⟩) (H + 1) c2) ∧ W'.cell? ⟨b2, o2 + k, none⟩ = some (.int .i64 p2))) ?_ ?_ (fun hHeld => ?_)
                        · kernel_rfl
                        · ((try dsimp only); exact ⟨hgs.drew, hdr.keep r0, hdr.keep v0, hdr.keep r1, hdr.keep v1, hdr.keep r2, hdr.keep v2⟩)
                        refine take_in (i := 0) (v := ?_) (d := (some 100)) rfl rfl ?_ ?_ ?_ ?_ ?_ ?_ ?_ ?_
                        rotate_left
                        · kernel_rfl
                        · kernel_rfl
                        · kernel_rfl
                        · (intro _ _ _ hq; exact hq)
                        · rfl
                        · (intro _w hSw; (try dsimp only at hSw); go_simp; try with_reducible rfl)
                        · assumption
                        try simp only [Act.put, List.setIfInBounds_toArray, List.set_cons_zero, List.set_cons_succ]
                        refine take_in (i := 1) (v := ?_) (d := (some 101)) rfl rfl ?_ ?_ ?_ ?_ ?_ ?_ ?_ ?_
                        rotate_left
                        · kernel_rfl
                        · kernel_rfl
                        · kernel_rfl
                        · (intro _ _ _ hq; exact hq)
                        · rfl
                        · (intro _w hSw; (try dsimp only at hSw); go_simp; try with_reducible rfl)
                        · assumption
                        try simp only [Act.put, List.setIfInBounds_toArray, List.set_cons_zero, List.set_cons_succ]
                        refine take_in (i := 2) (v := ?_) (d := (some 102)) rfl rfl ?_ ?_ ?_ ?_ ?_ ?_ ?_ ?_
                        rotate_left
                        · kernel_rfl
                        · kernel_rfl
                        · kernel_rfl
                        · (intro _ _ _ hq; exact hq)
                        · rfl
                        · (intro _w hSw; (try dsimp only at hSw); go_simp; try with_reducible rfl)
                        · assumption
                        try simp only [Act.put, List.setIfInBounds_toArray, List.set_cons_zero, List.set_cons_succ]
                        refine take_in (i := 3) (v := ?_) (d := (some 103)) rfl rfl ?_ ?_ ?_ ?_ ?_ ?_ ?_ ?_
                        rotate_left
                        · kernel_rfl
                        · kernel_rfl
                        · kernel_rfl
                        · (intro _ _ _ hq; exact hq)
                        · rfl
                        · (intro _w hSw; (try dsimp only at hSw); go_simp; try with_reducible rfl)
                        · assumption
                        try simp only [Act.put, List.setIfInBounds_toArray, List.set_cons_zero, List.set_cons_succ]
                        refine take_in (i := 4) (v := ?_) (d := (some 104)) rfl rfl ?_ ?_ ?_ ?_ ?_ ?_ ?_ ?_
                        rotate_left
                        · kernel_rfl
                        · kernel_rfl
                        · kernel_rfl
                        · (intro _ _ _ hq; exact hq)
                        · rfl
                        · (intro _w hSw; (try dsimp only at hSw); go_simp; try with_reducible rfl)
                        · assumption
                        try simp only [Act.put, List.setIfInBounds_toArray, List.set_cons_zero, List.set_cons_succ]
                        refine take_in (i := 5) (v := ?_) (d := (some 105)) rfl rfl ?_ ?_ ?_ ?_ ?_ ?_ ?_ ?_
                        rotate_left
                        · kernel_rfl
                        · kernel_rfl
                        · kernel_rfl
                        · (intro _ _ _ hq; exact hq)
                        · rfl
                        · (intro _w hSw; (try dsimp only at hSw); go_simp; try with_reducible rfl)
                        · assumption
                        try simp only [Act.put, List.setIfInBounds_toArray, List.set_cons_zero, List.set_cons_succ]
                        refine take_in (i := 6) (v := ?_) (d := (some 106)) rfl rfl ?_ ?_ ?_ ?_ ?_ ?_ ?_ ?_
                        rotate_left
                        · kernel_rfl
                        · kernel_rfl
                        · kernel_rfl
                        · (intro _ _ _ hq; exact hq)
                        · rfl
                        · (intro _w hSw; (try dsimp only at hSw); go_simp; try with_reducible rfl)
                        · assumption
                        try simp only [Act.put, List.setIfInBounds_toArray, List.set_cons_zero, List.set_cons_succ]
                        refine take_in (i := 7) (v := ?_) (d := (some 107)) rfl rfl ?_ ?_ ?_ ?_ ?_ ?_ ?_ ?_
                        rotate_left
                        · kernel_rfl
                        · kernel_rfl
                        · kernel_rfl
                        · (intro _ _ _ hq; exact hq)
                        · rfl
                        · (intro _w hSw; (try dsimp only at hSw); go_simp; try with_reducible rfl)
                        · assumption
                        try simp only [Act.put, List.setIfInBounds_toArray, List.set_cons_zero, List.set_cons_succ]
                        refine take_in (i := 8) (v := ?_) (d := (some 108)) rfl rfl ?_ ?_ ?_ ?_ ?_ ?_ ?_ ?_
                        rotate_left
                        · kernel_rfl
                        · kernel_rfl
                        · kernel_rfl
                        · (intro _ _ _ hq; exact hq)
                        · rfl
                        · (intro _w hSw; (try dsimp only at hSw); go_simp; try with_reducible rfl)
                        · assumption
                        try simp only [Act.put, List.setIfInBounds_toArray, List.set_cons_zero, List.set_cons_succ]
                        refine take_in (i := 9) (v := ?_) (d := (some 109)) rfl rfl ?_ ?_ ?_ ?_ ?_ ?_ ?_ ?_
                        rotate_left
                        · kernel_rfl
                        · kernel_rfl
                        · kernel_rfl
                        · (intro _ _ _ hq; exact hq)
                        · rfl
                        · (intro _w hSw; (try dsimp only at hSw); go_simp; try with_reducible rfl)
                        · assumption
                        try simp only [Act.put, List.setIfInBounds_toArray, List.set_cons_zero, List.set_cons_succ]
                        refine take_in (i := 10) (v := ?_) (d := (some 110)) rfl rfl ?_ ?_ ?_ ?_ ?_ ?_ ?_ ?_
                        rotate_left
                        · kernel_rfl
                        · kernel_rfl
                        · kernel_rfl
                        · (intro _ _ _ hq; exact hq)
                        · rfl
                        · (intro _w hSw; (try dsimp only at hSw); go_simp; try with_reducible rfl)
                        · assumption
                        try simp only [Act.put, List.setIfInBounds_toArray, List.set_cons_zero, List.set_cons_succ]
                        refine take_in (i := 11) (v := ?_) (d := (some 111)) rfl rfl ?_ ?_ ?_ ?_ ?_ ?_ ?_ ?_
                        rotate_left
                        · kernel_rfl
                        · kernel_rfl
                        · kernel_rfl
                        · (intro _ _ _ hq; exact hq)
                        · rfl
                        · (intro _w hSw; (try dsimp only at hSw); go_simp; try with_reducible rfl)
                        · assumption
                        try simp only [Act.put, List.setIfInBounds_toArray, List.set_cons_zero, List.set_cons_succ]
                        refine take_in (i := 12) (v := ?_) (d := (some 112)) rfl rfl ?_ ?_ ?_ ?_ ?_ ?_ ?_ ?_
                        rotate_left
                        · kernel_rfl
                        · kernel_rfl
                        · kernel_rfl
                        · (intro _ _ _ hq; exact hq)
                        · rfl
                        · (intro _w hSw; (try dsimp only at hSw); go_simp; try with_reducible rfl)
                        · assumption
                        try simp only [Act.put, List.setIfInBounds_toArray, List.set_cons_zero, List.set_cons_succ]
                        refine take_in (i := 13) (v := ?_) (d := (some 113)) rfl rfl ?_ ?_ ?_ ?_ ?_ ?_ ?_ ?_
                        rotate_left
                        · kernel_rfl
                        · kernel_rfl
                        · kernel_rfl
                        · (intro _ _ _ hq; exact hq)
                        · rfl
                        · (intro _w hSw; (try dsimp only at hSw); go_simp; try with_reducible rfl)
                        · assumption
                        try simp only [Act.put, List.setIfInBounds_toArray, List.set_cons_zero, List.set_cons_succ]
                        refine take_in (i := 14) (v := ?_) (d := (some 114)) rfl rfl ?_ ?_ ?_ ?_ ?_ ?_ ?_ ?_
                        rotate_left
                        · kernel_rfl
                        · kernel_rfl
                        · kernel_rfl
                        · (intro _ _ _ hq; exact hq)
                        · rfl
                        · (intro _w hSw; (try dsimp only at hSw); go_simp; try with_reducible rfl)
                        · assumption
                        try simp only [Act.put, List.setIfInBounds_toArray, List.set_cons_zero, List.set_cons_succ]
                        refine take_in (i := 15) (v := ?_) (d := (some 115)) rfl rfl ?_ ?_ ?_ ?_ ?_ ?_ ?_ ?_
                        rotate_left
                        · kernel_rfl
                        · kernel_rfl
                        · kernel_rfl
                        · (intro _ _ _ hq; exact hq)
                        · rfl
                        · (intro _w hSw; (try dsimp only at hSw); go_simp; try with_reducible rfl)
                        · assumption
                        try simp only [Act.put, List.setIfInBounds_toArray, List.set_cons_zero, List.set_cons_succ]
                        refine take_in (i := 16) (v := ?_) (d := (some 116)) rfl rfl ?_ ?_ ?_ ?_ ?_ ?_ ?_ ?_
                        rotate_left
                        · kernel_rfl
                        · kernel_rfl
                        · kernel_rfl
                        · (intro _ _ _ hq; exact hq)
                        · rfl
                        · (intro _w hSw; (try dsimp only at hSw); go_simp; try with_reducible rfl)
                        · assumption
                        try simp only [Act.put, List.setIfInBounds_toArray, List.set_cons_zero, List.set_cons_succ]
                        refine take_in (i := 17) (v := ?_) (d := (some 117)) rfl rfl ?_ ?_ ?_ ?_ ?_ ?_ ?_ ?_
                        rotate_left
                        · kernel_rfl
                        · kernel_rfl
                        · kernel_rfl
                        · (intro _ _ _ hq; exact hq)
                        · rfl
                        · (intro _w hSw; (try dsimp only at hSw); go_simp; try with_reducible rfl)
                        · assumption
                        try simp only [Act.put, List.setIfInBounds_toArray, List.set_cons_zero, List.set_cons_succ]
                        refine take_in (i := 18) (v := ?_) (d := (some 118)) rfl rfl ?_ ?_ ?_ ?_ ?_ ?_ ?_ ?_
                        rotate_left
                        · kernel_rfl
                        · kernel_rfl
                        · kernel_rfl
                        · (intro _ _ _ hq; exact hq)
                        · rfl
                        · (intro _w hSw; (try dsimp only at hSw); go_simp; try with_reducible rfl)
                        · assumption
                        try simp only [Act.put, List.setIfInBounds_toArray, List.set_cons_zero, List.set_cons_succ]
                        refine take_in (i := 19) (v := ?_) (d := (some 119)) rfl rfl ?_ ?_ ?_ ?_ ?_ ?_ ?_ ?_
                        rotate_left
                        · kernel_rfl
                        · kernel_rfl
                        · kernel_rfl
                        · (intro _ _ _ hq; exact hq)
                        · rfl
                        · (intro _w hSw; (try dsimp only at hSw); go_simp; try with_reducible rfl)
                        · assumption
                        try simp only [Act.put, List.setIfInBounds_toArray, List.set_cons_zero, List.set_cons_succ]
                        refine take_in (i := 20) (v := ?_) (d := (some 120)) rfl rfl ?_ ?_ ?_ ?_ ?_ ?_ ?_ ?_
                        rotate_left
                        · kernel_rfl
                        · kernel_rfl
                        · kernel_rfl
                        · (intro _ _ _ hq; exact hq)
                        · rfl
                        · (intro _w hSw; (try dsimp only at hSw); go_simp; try with_reducible rfl)
                        · assumption
                        try simp only [Act.put, List.setIfInBounds_toArray, List.set_cons_zero, List.set_cons_succ]
                        refine take_in (i := 21) (v := ?_) (d := (some 121)) rfl rfl ?_ ?_ ?_ ?_ ?_ ?_ ?_ ?_
                        rotate_left
                        · kernel_rfl
                        · kernel_rfl
                        · kernel_rfl
                        · (intro _ _ _ hq; exact hq)
                        · rfl
                        · (intro _w hSw; (try dsimp only at hSw); go_simp; try with_reducible rfl)
                        · assumption
                        try simp only [Act.put, List.setIfInBounds_toArray, List.set_cons_zero, List.set_cons_succ]
                        refine take_in (i := 22) (v := ?_) (d := (some 122)) rfl rfl ?_ ?_ ?_ ?_ ?_ ?_ ?_ ?_
                        rotate_left
                        · kernel_rfl
                        · kernel_rfl
                        · kernel_rfl
                        · (intro _ _ _ hq; exact hq)
                        · rfl
                        · (intro _w hSw; (try dsimp only at hSw); go_simp; try with_reducible rfl)
                        · assumption
                        try simp only [Act.put, List.setIfInBounds_toArray, List.set_cons_zero, List.set_cons_succ]
                        refine take_in (i := 23) (v := ?_) (d := (some 123)) rfl rfl ?_ ?_ ?_ ?_ ?_ ?_ ?_ ?_
                        rotate_left
                        · kernel_rfl
                        · kernel_rfl
                        · kernel_rfl
                        · (intro _ _ _ hq; exact hq)
                        · rfl
                        · (intro _w hSw; (try dsimp only at hSw); go_simp; try with_reducible rfl)
                        · assumption
                        try simp only [Act.put, List.setIfInBounds_toArray, List.set_cons_zero, List.set_cons_succ]
                        refine take_in (i := 24) (v := ?_) (d := (some 124)) rfl rfl ?_ ?_ ?_ ?_ ?_ ?_ ?_ ?_
                        rotate_left
                        · kernel_rfl
                        · kernel_rfl
                        · kernel_rfl
                        · (intro _ _ _ hq; exact hq)
                        · rfl
                        · (intro _w hSw; (try dsimp only at hSw); go_simp; try with_reducible rfl)
                        · assumption
                        try simp only [Act.put, List.setIfInBounds_toArray, List.set_cons_zero, List.set_cons_succ]
                        refine wpAnyH_done ?_ ?_ _
                        · kernel_rfl
                        rotate_left
                        go_wp2_with fail
                        go_ret
                        exact ⟨ret_bool HX.out.symm, hg.trans hHeld.1⟩
                      · have HX := HOK hp
                        have hdp : decide (p0 < p1 + p2) = false := decide_eq_false hp
                        clear HBAD HOK
                        go_wp2_with fail
                        refine wp_region_held_drew (S := (fun W' => Gr wk W' ∧ W'.cell? ⟨b, off + i, none⟩ = some (.slice (some ⟨b0, o0, none⟩) (H + 1) c0) ∧ W'.cell? ⟨b0, o0 + k, none⟩ = some (.int .i64 p0) ∧ W'.cell? ⟨b, off + x, none⟩ = some (.slice (some ⟨b1, o1, none⟩) (H + 1) c1) ∧ W'.cell? ⟨b1, o1 + k, none⟩ = some (.int .i64 p1) ∧ W'.cell? ⟨b, off + (i - x), none⟩ = some (.slice (some ⟨b2, o2, none⟩) (H + 1) c2) ∧ W'.cell? ⟨b2, o2 + k, none⟩ = some (.int .i64 p2))) ?_ ?_ (fun hHeld => ?_)
                        · kernel_rfl
                        · ((try dsimp only); exact ⟨hgs.drew, hdr.keep r0, hdr.keep v0, hdr.keep r1, hdr.keep v1, hdr.keep r2, hdr.keep v2⟩)
                        refine take_in (i := 0) (v := ?_) (d := (some 100)) rfl rfl ?_ ?_ ?_ ?_ ?_ ?_ ?_ ?_
                        rotate_left
                        · kernel_rfl
                        · kernel_rfl
                        · kernel_rfl
                        · (intro _ _ _ hq; exact hq)
                        · rfl
                        · (intro _w hSw; (try dsimp only at hSw); go_simp; try with_reducible rfl)
                        · assumption
                        try simp only [Act.put, List.setIfInBounds_toArray, List.set_cons_zero, List.set_cons_succ]
                        refine take_in (i := 1) (v := ?_) (d := (some 101)) rfl rfl ?_ ?_ ?_ ?_ ?_ ?_ ?_ ?_
                        rotate_left
                        · kernel_rfl
                        · kernel_rfl
                        · kernel_rfl
                        · (intro _ _ _ hq; exact hq)
                        · rfl
                        · (intro _w hSw; (try dsimp only at hSw); go_simp; try with_reducible rfl)
                        · assumption
                        try simp only [Act.put, List.setIfInBounds_toArray, List.set_cons_zero, List.set_cons_succ]
                        refine take_in (i := 2) (v := ?_) (d := (some 102)) rfl rfl ?_ ?_ ?_ ?_ ?_ ?_ ?_ ?_
                        rotate_left
                        · kernel_rfl
                        · kernel_rfl
                        · kernel_rfl
                        · (intro _ _ _ hq; exact hq)
                        · rfl
                        · (intro _w hSw; (try dsimp only at hSw); go_simp; try with_reducible rfl)
                        · assumption
                        try simp only [Act.put, List.setIfInBounds_toArray, List.set_cons_zero, List.set_cons_succ]
                        refine take_in (i := 3) (v := ?_) (d := (some 103)) rfl rfl ?_ ?_ ?_ ?_ ?_ ?_ ?_ ?_
                        rotate_left
                        · kernel_rfl
                        · kernel_rfl
                        · kernel_rfl
                        · (intro _ _ _ hq; exact hq)
                        · rfl
                        · (intro _w hSw; (try dsimp only at hSw); go_simp; try with_reducible rfl)
                        · assumption
                        try simp only [Act.put, List.setIfInBounds_toArray, List.set_cons_zero, List.set_cons_succ]
                        refine take_in (i := 4) (v := ?_) (d := (some 104)) rfl rfl ?_ ?_ ?_ ?_ ?_ ?_ ?_ ?_
                        rotate_left
                        · kernel_rfl
                        · kernel_rfl
                        · kernel_rfl
                        · (intro _ _ _ hq; exact hq)
                        · rfl
                        · (intro _w hSw; (try dsimp only at hSw); go_simp; try with_reducible rfl)
                        · assumption
                        try simp only [Act.put, List.setIfInBounds_toArray, List.set_cons_zero, List.set_cons_succ]
                        refine take_in (i := 5) (v := ?_) (d := (some 105)) rfl rfl ?_ ?_ ?_ ?_ ?_ ?_ ?_ ?_
                        rotate_left
                        · kernel_rfl
                        · kernel_rfl
                        · kernel_rfl
                        · (intro _ _ _ hq; exact hq)
                        · rfl
                        · (intro _w hSw; (try dsimp only at hSw); go_simp; try with_reducible rfl)
                        · assumption
                        try simp only [Act.put, List.setIfInBounds_toArray, List.set_cons_zero, List.set_cons_succ]
                        refine take_in (i := 6) (v := ?_) (d := (some 106)) rfl rfl ?_ ?_ ?_ ?_ ?_ ?_ ?_ ?_
                        rotate_left
                        · kernel_rfl
                        · kernel_rfl
                        · kernel_rfl
                        · (intro _ _ _ hq; exact hq)
                        · rfl
                        · (intro _w hSw; (try dsimp only at hSw); go_simp; try with_reducible rfl)
                        · assumption
                        try simp only [Act.put, List.setIfInBounds_toArray, List.set_cons_zero, List.set_cons_succ]
                        refine take_in (i := 7) (v := ?_) (d := (some 107)) rfl rfl ?_ ?_ ?_ ?_ ?_ ?_ ?_ ?_
                        rotate_left
                        · kernel_rfl
                        · kernel_rfl
                        · kernel_rfl
                        · (intro _ _ _ hq; exact hq)
                        · rfl
                        · (intro _w hSw; (try dsimp only at hSw); go_simp; try with_reducible rfl)
                        · assumption
                        try simp only [Act.put, List.setIfInBounds_toArray, List.set_cons_zero, List.set_cons_succ]
                        refine take_in (i := 8) (v := ?_) (d := (some 108)) rfl rfl ?_ ?_ ?_ ?_ ?_ ?_ ?_ ?_
                        rotate_left
                        · kernel_rfl
                        · kernel_rfl
                        · kernel_rfl
                        · (intro _ _ _ hq; exact hq)
                        · rfl
                        · (intro _w hSw; (try dsimp only at hSw); go_simp; try with_reducible rfl)
                        · assumption
                        try simp only [Act.put, List.setIfInBounds_toArray, List.set_cons_zero, List.set_cons_succ]
                        refine take_in (i := 9) (v := ?_) (d := (some 109)) rfl rfl ?_ ?_ ?_ ?_ ?_ ?_ ?_ ?_
                        rotate_left
                        · kernel_rfl
                        · kernel_rfl
                        · kernel_rfl
                        · (intro _ _ _ hq; exact hq)
                        · rfl
                        · (intro _w hSw; (try dsimp only at hSw); go_simp; try with_reducible rfl)
                        · assumption
                        try simp only [Act.put, List.setIfInBounds_toArray, List.set_cons_zero, List.set_cons_succ]
                        refine take_in (i := 10) (v := ?_) (d := (some 110)) rfl rfl ?_ ?_ ?_ ?_ ?_ ?_ ?_ ?_
                        rotate_left
                        · kernel_rfl
                        · kernel_rfl
                        · kernel_rfl
                        · (intro _ _ _ hq; exact hq)
                        · rfl
                        · (intro _w hSw; (try dsimp only at hSw); go_simp; try with_reducible rfl)
                        · assumption
                        try simp only [Act.put, List.setIfInBounds_toArray, List.set_cons_zero, List.set_cons_succ]
                        refine take_in (i := 11) (v := ?_) (d := (some 111)) rfl rfl ?_ ?_ ?_ ?_ ?_ ?_ ?_ ?_
                        rotate_left
                        · kernel_rfl
                        · kernel_rfl
                        · kernel_rfl
                        · (intro _ _ _ hq; exact hq)
                        · rfl
                        · (intro _w hSw; (try dsimp only at hSw); go_simp; try with_reducible rfl)
                        · assumption
                        try simp only [Act.put, List.setIfInBounds_toArray, List.set_cons_zero, List.set_cons_succ]
                        refine take_in (i := 12) (v := ?_) (d := (some 112)) rfl rfl ?_ ?_ ?_ ?_ ?_ ?_ ?_ ?_
                        rotate_left
                        · kernel_rfl
                        · kernel_rfl
                        · kernel_rfl
                        · (intro _ _ _ hq; exact hq)
                        · rfl
                        · (intro _w hSw; (try dsimp only at hSw); go_simp; try with_reducible rfl)
                        · assumption
                        try simp only [Act.put, List.setIfInBounds_toArray, List.set_cons_zero, List.set_cons_succ]
                        refine take_in (i := 13) (v := ?_) (d := (some 113)) rfl rfl ?_ ?_ ?_ ?_ ?_ ?_ ?_ ?_
                        rotate_left
                        · kernel_rfl
                        · kernel_rfl
                        · kernel_rfl
                        · (intro _ _ _ hq; exact hq)
                        · rfl
                        · (intro _w hSw; (try dsimp only at hSw); go_simp; try with_reducible rfl)
                        · assumption
                        try simp only [Act.put, List.setIfInBounds_toArray, List.set_cons_zero, List.set_cons_succ]
                        refine take_in (i := 14) (v := ?_) (d := (some 114)) rfl rfl ?_ ?_ ?_ ?_ ?_ ?_ ?_ ?_
                        rotate_left
                        · kernel_rfl
                        · kernel_rfl
                        · kernel_rfl
                        · (intro _ _ _ hq; exact hq)
                        · rfl
                        · (intro _w hSw; (try dsimp only at hSw); go_simp; try with_reducible rfl)
                        · assumption
                        try simp only [Act.put, List.setIfInBounds_toArray, List.set_cons_zero, List.set_cons_succ]
                        refine take_in (i := 15) (v := ?_) (d := (some 115)) rfl rfl ?_ ?_ ?_ ?_ ?_ ?_ ?_ ?_
                        rotate_left
                        · kernel_rfl
                        · kernel_rfl
                        · kernel_rfl
                        · (intro _ _ _ hq; exact hq)
                        · rfl
                        · (intro _w hSw; (try dsimp only at hSw); go_simp; try with_reducible rfl)
                        · assumption
                        try simp only [Act.put, List.setIfInBounds_toArray, List.set_cons_zero, List.set_cons_succ]
                        refine take_in (i := 16) (v := ?_) (d := (some 116)) rfl rfl ?_ ?_ ?_ ?_ ?_ ?_ ?_ ?_
                        rotate_left
                        · kernel_rfl
                        · kernel_rfl
                        · kernel_rfl
                        · (intro _ _ _ hq; exact hq)
                        · rfl
                        · (intro _w hSw; (try dsimp only at hSw); go_simp; try with_reducible rfl)
                        · assumption
                        try simp only [Act.put, List.setIfInBounds_toArray, List.set_cons_zero, List.set_cons_succ]
                        refine take_in (i := 17) (v := ?_) (d := (some 117)) rfl rfl ?_ ?_ ?_ ?_ ?_ ?_ ?_ ?_
                        rotate_left
                        · kernel_rfl
                        · kernel_rfl
                        · kernel_rfl
                        · (intro _ _ _ hq; exact hq)
                        · rfl
                        · (intro _w hSw; (try dsimp only at hSw); go_simp; try with_reducible rfl)
                        · assumption
                        try simp only [Act.put, List.setIfInBounds_toArray, List.set_cons_zero, List.set_cons_succ]
                        refine take_in (i := 18) (v := ?_) (d := (some 118)) rfl rfl ?_ ?_ ?_ ?_ ?_ ?_ ?_ ?_
                        rotate_left
                        · kernel_rfl
                        · kernel_rfl
                        · kernel_rfl
                        · (intro _ _ _ hq; exact hq)
                        · rfl
                        · (intro _w hSw; (try dsimp only at hSw); go_simp; try with_reducible rfl)
                        · assumption
                        try simp only [Act.put, List.setIfInBounds_toArray, List.set_cons_zero, List.set_cons_succ]
                        refine take_in (i := 19) (v := ?_) (d := (some 119)) rfl rfl ?_ ?_ ?_ ?_ ?_ ?_ ?_ ?_
                        rotate_left
                        · kernel_rfl
                        · kernel_rfl
                        · kernel_rfl
                        · (intro _ _ _ hq; exact hq)
                        · rfl
                        · (intro _w hSw; (try dsimp only at hSw); go_simp; try with_reducible rfl)
                        · assumption
                        try simp only [Act.put, List.setIfInBounds_toArray, List.set_cons_zero, List.set_cons_succ]
                        refine take_in (i := 20) (v := ?_) (d := (some 120)) rfl rfl ?_ ?_ ?_ ?_ ?_ ?_ ?_ ?_
                        rotate_left
                        · kernel_rfl
                        · kernel_rfl
                        · kernel_rfl
                        · (intro _ _ _ hq; exact hq)
                        · rfl
                        · (intro _w hSw; (try dsimp only at hSw); go_simp; try with_reducible rfl)
                        · assumption
                        try simp only [Act.put, List.setIfInBounds_toArray, List.set_cons_zero, List.set_cons_succ]
                        refine take_in (i := 21) (v := ?_) (d := (some 121)) rfl rfl ?_ ?_ ?_ ?_ ?_ ?_ ?_ ?_
                        rotate_left
                        · kernel_rfl
                        · kernel_rfl
                        · kernel_rfl
                        · (intro _ _ _ hq; exact hq)
                        · rfl
                        · (intro _w hSw; (try dsimp only at hSw); go_simp; try with_reducible rfl)
                        · assumption
                        try simp only [Act.put, List.setIfInBounds_toArray, List.set_cons_zero, List.set_cons_succ]
                        refine take_in (i := 22) (v := ?_) (d := (some 122)) rfl rfl ?_ ?_ ?_ ?_ ?_ ?_ ?_ ?_
                        rotate_left
                        · kernel_rfl
                        · kernel_rfl
                        · kernel_rfl
                        · (intro _ _ _ hq; exact hq)
                        · rfl
                        · (intro _w hSw; (try dsimp only at hSw); go_simp; try with_reducible rfl)
                        · assumption
                        try simp only [Act.put, List.setIfInBounds_toArray, List.set_cons_zero, List.set_cons_succ]
                        refine take_in (i := 23) (v := ?_) (d := (some 123)) rfl rfl ?_ ?_ ?_ ?_ ?_ ?_ ?_ ?_
                        rotate_left
                        · kernel_rfl
                        · kernel_rfl
                        · kernel_rfl
                        · (intro _ _ _ hq; exact hq)
                        · rfl
                        · (intro _w hSw; (try dsimp only at hSw); go_simp; try with_reducible rfl)
                        · assumption
                        try simp only [Act.put, List.setIfInBounds_toArray, List.set_cons_zero, List.set_cons_succ]
                        refine take_in (i := 24) (v := ?_) (d := (some 124)) rfl rfl ?_ ?_ ?_ ?_ ?_ ?_ ?_ ?_
                        rotate_left
                        · kernel_rfl
                        · kernel_rfl
                        · kernel_rfl
                        · (intro _ _ _ hq; exact hq)
                        · rfl
                        · (intro _w hSw; (try dsimp only at hSw); go_simp; try with_reducible rfl)
                        · assumption
                        try simp only [Act.put, List.setIfInBounds_toArray, List.set_cons_zero, List.set_cons_succ]
                        refine wpAnyH_done ?_ ?_ _
                        · kernel_rfl
                        rotate_left
                        go_wp2_with fail
                        go_roundw
                        case rel => exact ⟨x + 1, by omega, by omega, by go_num, HX, hHeld.1⟩
                        case measure => simp [intOf]; omega
                    · have hd3 : decide ((x : Int) < (i : Int)) = false := decide_eq_false (by omega)
                      have HCX := Lib.hid (show cutT (fun a => at2 tb a k) i i ≤ at2 tb i k by rw [← cutT_one hv1 hv2 (by omega)]; exact hcut.out)
                      clear hcut
                      go_wp2_with fail
                      go_loopw [15] (fun z wr => ∃ y : Nat, 1 ≤ y ∧ y ≤ max 1 k ∧ z = .int .i64 y ∧ Hid (cutT (fun a => at2 tb i a) k y ≤ at2 tb i k) ∧ Gr wk wr) (fun z _ => k + 1 - (intOf z).toNat)
                      case atStart => exact ⟨1, Nat.le_refl _, by omega, rfl, Lib.hid (by simp only [cutT]; exact H0.out), hgs⟩
                      case round =>
                        clear hgs hlt3 hd3 hv1 hv2
                        obtain ⟨y, hv1, hv2, rfl, hcut, hgs⟩ := hrel
                        by_cases hlt3 : y < k
                        · have hd3 : decide ((y : Int) < (k : Int)) = true := decide_eq_true (by omega)
                          have hRd := HT.out.keep (hg.trans hgs)
                          obtain ⟨b, off, b0, o0, c0, rfl, r0, v0⟩ := hRd.at HF.out hi hk
                          have v1 := hRd.row HF.out hi rfl r0 (k := y) (by omega)
                          have v2 := hRd.row HF.out hi rfl r0 (k := k - y) (by omega)
                          have n0 := (HF.out.2 i hi).2 k hk
                          have n1 := (HF.out.2 i hi).2 y (by omega)
                          have n2 := (HF.out.2 i hi).2 (k - y) (by omega)
                          have HC := Lib.hid (cutT_step (fun a => at2 tb i a) k y hv1)
                          have HND : Hid (at2 tb i y + at2 tb i (k - y) ≤ needT bs (at2 tb) i k) := Lib.hid (need_y hv1 hlt3)
                          have HBAD : at2 tb i k < at2 tb i y + at2 tb i (k - y) → Hid (r = false) := fun h => Lib.hid (by rw [← HR.out]; exact not_bound hi hk (Int.lt_of_lt_of_le h HND.out))
                          have HOK : ¬at2 tb i k < at2 tb i y + at2 tb i (k - y) → Hid (cutT (fun a => at2 tb i a) k (y + 1) ≤ at2 tb i k) := fun h => Lib.hid (by rw [HC.out]; have := hcut.out; omega)
                          clear HND HC
                          generalize at2 tb i k = p0 at v0 n0 HBAD HOK hcut
                          generalize at2 tb i y = p1 at v1 n1 HBAD HOK
                          generalize at2 tb i (k - y) = p2 at v2 n2 HBAD HOK
                          have j2 : IntKind.i64.wrap (p1 + p2) = p1 + p2 := IntWalk.i64_in _ (by omega)
                          have j1 : IntKind.i64.wrap ((k : Int) - (y : Int)) = (k : Int) - (y : Int) := IntWalk.i64_in _ (by omega)
                          have j3 : ((k : Int) - (y : Int)).toNat = k - y := by omega
                          have j4 : (0 : Int) ≤ (k : Int) - (y : Int) := by omega
                          have j5 : (k : Int) - (y : Int) < (H : Int) + 1 := by omega
                          have j6 : (y : Int) < (H : Int) + 1 := by omega
                          have j7 : (0 : Int) ≤ (y : Int) := by omega
                          have j8 : (k : Int) < (H : Int) + 1 := by omega
                          have j10 : (i : Int) < (tn : Int) := by omega
                          have j9 : y ≤ k := by omega
                          have hdr := (Gr.refl wr).drew
                          by_cases hp : p0 < p1 + p2
                          · have HX := HBAD hp
                            have hdp : decide (p0 < p1 + p2) = true := decide_eq_true hp
                            clear HBAD HOK
                            go_wp2_with fail
                            refine wp_region_held_drew (S := (fun W' => Gr wk W' ∧ W'.cell? ⟨b, off + i, none⟩ = some (.slice (some ⟨b0, o0, none⟩) (H + 1) c0) ∧ W'.cell? ⟨b0, o0 + k, none⟩ = some (.int .i64 p0) ∧ W'.cell? ⟨b0, o0 + y, none⟩ = some (.int .i64 p1) ∧ W'.cell? ⟨b0, o0 + (k - y), none⟩ = some (.int .i64 p2))) ?_ ?_ (fun hHeld => ?_)
                            · kernel_rfl
                            · ((try dsimp only); exact ⟨hgs.drew, hdr.keep r0, hdr.keep v0, hdr.keep v1, hdr.keep v2⟩)
                            refine take_in (i := 0) (v := ?_) (d := (some 130)) rfl rfl ?_ ?_ ?_ ?_ ?_ ?_ ?_ ?_
                            rotate_left
                            · kernel_rfl
                            · kernel_rfl
                            · kernel_rfl
                            · (intro _ _ _ hq; exact hq)
                            · rfl
                            · (intro _w hSw; (try dsimp only at hSw); go_simp; try with_reducible rfl)
                            · assumption
                            try simp only [Act.put, List.setIfInBounds_toArray, List.set_cons_zero, List.set_cons_succ]
                            refine take_in (i := 1) (v := ?_) (d := (some 131)) rfl rfl ?_ ?_ ?_ ?_ ?_ ?_ ?_ ?_
                            rotate_left
                            · kernel_rfl
                            · kernel_rfl
                            · kernel_rfl
                            · (intro _ _ _ hq; exact hq)
                            · rfl
                            · (intro _w hSw; (try dsimp only at hSw); go_simp; try with_reducible rfl)
                            · assumption
                            try simp only [Act.put, List.setIfInBounds_toArray, List.set_cons_zero, List.set_cons_succ]
                            refine take_in (i := 2) (v := ?_) (d := (some 132)) rfl rfl ?_ ?_ ?_ ?_ ?_ ?_ ?_ ?_
                            rotate_left
                            · kernel_rfl
                            · kernel_rfl
                            · kernel_rfl
                            · (intro _ _ _ hq; exact hq)
                            · rfl
                            · (intro _w hSw; (try dsimp only at hSw); go_simp; try with_reducible rfl)
                            · assumption
                            try simp only [Act.put, List.setIfInBounds_toArray, List.set_cons_zero, List.set_cons_succ]
                            refine take_in (i := 3) (v := ?_) (d := (some 133)) rfl rfl ?_ ?_ ?_ ?_ ?_ ?_ ?_ ?_
                            rotate_left
                            · kernel_rfl
                            · kernel_rfl
                            · kernel_rfl
                            · (intro _ _ _ hq; exact hq)
                            · rfl
                            · (intro _w hSw; (try dsimp only at hSw); go_simp; try with_reducible rfl)
                            · assumption
                            try simp only [Act.put, List.setIfInBounds_toArray, List.set_cons_zero, List.set_cons_succ]
                            refine take_in (i := 4) (v := ?_) (d := (some 134)) rfl rfl ?_ ?_ ?_ ?_ ?_ ?_ ?_ ?_
                            rotate_left
                            · kernel_rfl
                            · kernel_rfl
                            · kernel_rfl
                            · (intro _ _ _ hq; exact hq)
                            · rfl
                            · (intro _w hSw; (try dsimp only at hSw); go_simp; try with_reducible rfl)
                            · assumption
                            try simp only [Act.put, List.setIfInBounds_toArray, List.set_cons_zero, List.set_cons_succ]
                            refine take_in (i := 5) (v := ?_) (d := (some 135)) rfl rfl ?_ ?_ ?_ ?_ ?_ ?_ ?_ ?_
                            rotate_left
                            · kernel_rfl
                            · kernel_rfl
                            · kernel_rfl
                            · (intro _ _ _ hq; exact hq)
                            · rfl
                            · (intro _w hSw; (try dsimp only at hSw); go_simp; try with_reducible rfl)
                            · assumption
                            try simp only [Act.put, List.setIfInBounds_toArray, List.set_cons_zero, List.set_cons_succ]
                            refine take_in (i := 6) (v := ?_) (d := (some 136)) rfl rfl ?_ ?_ ?_ ?_ ?_ ?_ ?_ ?_
                            rotate_left
                            · kernel_rfl
                            · kernel_rfl
                            · kernel_rfl
                            · (intro _ _ _ hq; exact hq)
                            · rfl
                            · (intro _w hSw; (try dsimp only at hSw); go_simp; try with_reducible rfl)
                            · assumption
                            try simp only [Act.put, List.setIfInBounds_toArray, List.set_cons_zero, List.set_cons_succ]
                            refine take_in (i := 7) (v := ?_) (d := (some 137)) rfl rfl ?_ ?_ ?_ ?_ ?_ ?_ ?_ ?_
                            rotate_left
                            · kernel_rfl
                            · kernel_rfl
                            · kernel_rfl
                            · (intro _ _ _ hq; exact hq)
                            · rfl
                            · (intro _w hSw; (try dsimp only at hSw); go_simp; try with_reducible rfl)
                            · assumption
                            try simp only [Act.put, List.setIfInBounds_toArray, List.set_cons_zero, List.set_cons_succ]
                            refine take_in (i := 8) (v := ?_) (d := (some 138)) rfl rfl ?_ ?_ ?_ ?_ ?_ ?_ ?_ ?_
                            rotate_left
                            · kernel_rfl
                            · kernel_rfl
                            · kernel_rfl
                            · (intro _ _ _ hq; exact hq)
                            · rfl
                            · (intro _w hSw; (try dsimp only at hSw); go_simp; try with_reducible rfl)
                            · assumption
                            try simp only [Act.put, List.setIfInBounds_toArray, List.set_cons_zero, List.set_cons_succ]
                            refine take_in (i := 9) (v := ?_) (d := (some 139)) rfl rfl ?_ ?_ ?_ ?_ ?_ ?_ ?_ ?_
                            rotate_left
                            · kernel_rfl
                            · kernel_rfl
                            · kernel_rfl
                            · (intro _ _ _ hq; exact hq)
                            · rfl
                            · (intro _w hSw; (try dsimp only at hSw); go_simp; try with_reducible rfl)
                            · assumption
                            try simp only [Act.put, List.setIfInBounds_toArray, List.set_cons_zero, List.set_cons_succ]
                            refine take_in (i := 10) (v := ?_) (d := (some 140)) rfl rfl ?_ ?_ ?_ ?_ ?_ ?_ ?_ ?_
                            rotate_left
                            · kernel_rfl
                            · kernel_rfl
                            · kernel_rfl
                            · (intro _ _ _ hq; exact hq)
                            · rfl
                            · (intro _w hSw; (try dsimp only at hSw); go_simp; try with_reducible rfl)
                            · assumption
                            try simp only [Act.put, List.setIfInBounds_toArray, List.set_cons_zero, List.set_cons_succ]
                            refine take_in (i := 11) (v := ?_) (d := (some 141)) rfl rfl ?_ ?_ ?_ ?_ ?_ ?_ ?_ ?_
                            rotate_left
                            · kernel_rfl
                            · kernel_rfl
                            · kernel_rfl
                            · (intro _ _ _ hq; exact hq)
                            · rfl
                            · (intro _w hSw; (try dsimp only at hSw); go_simp; try with_reducible rfl)
                            · assumption
                            try simp only [Act.put, List.setIfInBounds_toArray, List.set_cons_zero, List.set_cons_succ]
                            refine take_in (i := 12) (v := ?_) (d := (some 142)) rfl rfl ?_ ?_ ?_ ?_ ?_ ?_ ?_ ?_
                            rotate_left
                            · kernel_rfl
                            · kernel_rfl
                            · kernel_rfl
                            · (intro _ _ _ hq; exact hq)
                            · rfl
                            · (intro _w hSw; (try dsimp only at hSw); go_simp; try with_reducible rfl)
                            · assumption
                            try simp only [Act.put, List.setIfInBounds_toArray, List.set_cons_zero, List.set_cons_succ]
                            refine take_in (i := 13) (v := ?_) (d := (some 143)) rfl rfl ?_ ?_ ?_ ?_ ?_ ?_ ?_ ?_
                            rotate_left
                            · kernel_rfl
                            · kernel_rfl
                            · kernel_rfl
                            · (intro _ _ _ hq; exact hq)
                            · rfl
                            · (intro _w hSw; (try dsimp only at hSw); go_simp; try with_reducible rfl)
                            · assumption
                            try simp only [Act.put, List.setIfInBounds_toArray, List.set_cons_zero, List.set_cons_succ]
                            refine take_in (i := 14) (v := ?_) (d := (some 144)) rfl rfl ?_ ?_ ?_ ?_ ?_ ?_ ?_ ?_
                            rotate_left
                            · kernel_rfl
                            · kernel_rfl
                            · kernel_rfl
                            · (intro _ _ _ hq; exact hq)
                            · rfl
                            · (intro _w hSw; (try dsimp only at hSw); go_simp; try with_reducible rfl)
                            · assumption
                            try simp only [Act.put, List.setIfInBounds_toArray, List.set_cons_zero, List.set_cons_succ]
                            refine take_in (i := 15) (v := ?_) (d := (some 145)) rfl rfl ?_ ?_ ?_ ?_ ?_ ?_ ?_ ?_
                            rotate_left
                            · kernel_rfl
                            · kernel_rfl
                            · kernel_rfl
                            · (intro _ _ _ hq; exact hq)
                            · rfl
                            · (intro _w hSw; (try dsimp only at hSw); go_simp; try with_reducible rfl)
                            · assumption
                            try simp only [Act.put, List.setIfInBounds_toArray, List.set_cons_zero, List.set_cons_succ]
                            refine take_in (i := 16) (v := ?_) (d := (some 146)) rfl rfl ?_ ?_ ?_ ?_ ?_ ?_ ?_ ?_
                            rotate_left
                            · kernel_rfl
                            · kernel_rfl
                            · kernel_rfl
                            · (intro _ _ _ hq; exact hq)
                            · rfl
                            · (intro _w hSw; (try dsimp only at hSw); go_simp; try with_reducible rfl)
                            · assumption
                            try simp only [Act.put, List.setIfInBounds_toArray, List.set_cons_zero, List.set_cons_succ]
                            refine take_in (i := 17) (v := ?_) (d := (some 147)) rfl rfl ?_ ?_ ?_ ?_ ?_ ?_ ?_ ?_
                            rotate_left
                            · kernel_rfl
                            · kernel_rfl
                            · kernel_rfl
                            · (intro _ _ _ hq; exact hq)
                            · rfl
                            · (intro _w hSw; (try dsimp only at hSw); go_simp; try with_reducible rfl)
                            · assumption
                            try simp only [Act.put, List.setIfInBounds_toArray, List.set_cons_zero, List.set_cons_succ]
                            refine take_in (i := 18) (v := ?_) (d := (some 148)) rfl rfl ?_ ?_ ?_ ?_ ?_ ?_ ?_ ?_
                            rotate_left
                            · kernel_rfl
                            · kernel_rfl
                            · kernel_rfl
                            · (intro _ _ _ hq; exact hq)
                            · rfl
                            · (intro _w hSw; (try dsimp only at hSw); go_simp; try with_reducible rfl)
                            · assumption
                            try simp only [Act.put, List.setIfInBounds_toArray, List.set_cons_zero, List.set_cons_succ]
                            refine take_in (i := 19) (v := ?_) (d := (some 149)) rfl rfl ?_ ?_ ?_ ?_ ?_ ?_ ?_ ?_
                            rotate_left
                            · kernel_rfl
                            · kernel_rfl
                            · kernel_rfl
                            · (intro _ _ _ hq; exact hq)
                            · rfl
                            · (intro _w hSw; (try dsimp only at hSw); go_simp; try with_reducible rfl)
                            · assumption
                            try simp only [Act.put, List.setIfInBounds_toArray, List.set_cons_zero, List.set_cons_succ]
                            refine take_in (i := 20) (v := ?_) (d := (some 150)) rfl rfl ?_ ?_ ?_ ?_ ?_ ?_ ?_ ?_
                            rotate_left
                            · kernel_rfl
                            · kernel_rfl
                            · kernel_rfl
                            · (intro _ _ _ hq; exact hq)
                            · rfl
                            · (intro _w hSw; (try dsimp only at hSw); go_simp; try with_reducible rfl)
                            · assumption
                            try simp only [Act.put, List.setIfInBounds_toArray, List.set_cons_zero, List.set_cons_succ]
                            refine take_in (i := 21) (v := ?_) (d := (some 151)) rfl rfl ?_ ?_ ?_ ?_ ?_ ?_ ?_ ?_
                            rotate_left
                            · kernel_rfl
                            · kernel_rfl
                            · kernel_rfl
                            · (intro _ _ _ hq; exact hq)
                            · rfl
                            · (intro _w hSw; (try dsimp only at hSw); go_simp; try with_reducible rfl)
                            · assumption
                            try simp only [Act.put, List.setIfInBounds_toArray, List.set_cons_zero, List.set_cons_succ]
                            refine take_in (i := 22) (v := ?_) (d := (some 152)) rfl rfl ?_ ?_ ?_ ?_ ?_ ?_ ?_ ?_
                            rotate_left
                            · kernel_rfl
                            · kernel_rfl
                            · kernel_rfl
                            · (intro _ _ _ hq; exact hq)
                            · rfl
                            · (intro _w hSw; (try dsimp only at hSw); go_simp; try with_reducible rfl)
                            · assumption
                            try simp only [Act.put, List.setIfInBounds_toArray, List.set_cons_zero, List.set_cons_succ]
                            refine take_in (i := 23) (v := ?_) (d := (some 153)) rfl rfl ?_ ?_ ?_ ?_ ?_ ?_ ?_ ?_
                            rotate_left
                            · kernel_rfl
                            · kernel_rfl
                            · kernel_rfl
                            · (intro _ _ _ hq; exact hq)
                            · rfl
                            · (intro _w hSw; (try dsimp only at hSw); go_simp; try with_reducible rfl)
                            · assumption
                            try simp only [Act.put, List.setIfInBounds_toArray, List.set_cons_zero, List.set_cons_succ]
                            refine take_in (i := 24) (v := ?_) (d := (some 154)) rfl rfl ?_ ?_ ?_ ?_ ?_ ?_ ?_ ?_
                            rotate_left
                            · kernel_rfl
                            · kernel_rfl
                            · kernel_rfl
                            · (intro _ _ _ hq; exact hq)
                            · rfl
                            · (intro _w hSw; (try dsimp only at hSw); go_simp; try with_reducible rfl)
                            · assumption
                            try simp only [Act.put, List.setIfInBounds_toArray, List.set_cons_zero, List.set_cons_succ]
                            refine wpAnyH_done ?_ ?_ _
                            · kernel_rfl
                            rotate_left
                            go_wp2_with fail
                            go_ret
                            exact ⟨ret_bool HX.out.symm, hg.trans hHeld.1⟩
                          · have HX := HOK hp
                            have hdp : decide (p0 < p1 + p2) = false := decide_eq_false hp
                            clear HBAD HOK
                            go_wp2_with fail
                            refine wp_region_held_drew (S := (fun W' => Gr wk W' ∧ W'.cell? ⟨b, off + i, none⟩ = some (.slice (some ⟨b0, o0, none⟩) (H + 1) c0) ∧ W'.cell? ⟨b0, o0 + k, none⟩ = some (.int .i64 p0) ∧ W'.cell? ⟨b0, o0 + y, none⟩ = some (.int .i64 p1) ∧ W'.cell? ⟨b0, o0 + (k - y), none⟩ = some (.int .i64 p2))) ?_ ?_ (fun hHeld => ?_)
                            · kernel_rfl
                            · ((try dsimp only); exact ⟨hgs.drew, hdr.keep r0, hdr.keep v0, hdr.keep v1, hdr.keep v2⟩)
                            refine take_in (i := 0) (v := ?_) (d := (some 130)) rfl rfl ?_ ?_ ?_ ?_ ?_ ?_ ?_ ?_
                            rotate_left
                            · kernel_rfl
                            · kernel_rfl
                            · kernel_rfl
                            · (intro _ _ _ hq; exact hq)
                            · rfl
                            · (intro _w hSw; (try dsimp only at hSw); go_simp; try with_reducible rfl)
                            · assumption
                            try simp only [Act.put, List.setIfInBounds_toArray, List.set_cons_zero, List.set_cons_succ]
                            refine take_in (i := 1) (v := ?_) (d := (some 131)) rfl rfl ?_ ?_ ?_ ?_ ?_ ?_ ?_ ?_
                            rotate_left
                            · kernel_rfl
                            · kernel_rfl
                            · kernel_rfl
                            · (intro _ _ _ hq; exact hq)
                            · rfl
                            · (intro _w hSw; (try dsimp only at hSw); go_simp; try with_reducible rfl)
                            · assumption
                            try simp only [Act.put, List.setIfInBounds_toArray, List.set_cons_zero, List.set_cons_succ]
                            refine take_in (i := 2) (v := ?_) (d := (some 132)) rfl rfl ?_ ?_ ?_ ?_ ?_ ?_ ?_ ?_
                            rotate_left
                            · kernel_rfl
                            · kernel_rfl
                            · kernel_rfl
                            · (intro _ _ _ hq; exact hq)
                            · rfl
                            · (intro _w hSw; (try dsimp only at hSw); go_simp; try with_reducible rfl)
                            · assumption
                            try simp only [Act.put, List.setIfInBounds_toArray, List.set_cons_zero, List.set_cons_succ]
                            refine take_in (i := 3) (v := ?_) (d := (some 133)) rfl rfl ?_ ?_ ?_ ?_ ?_ ?_ ?_ ?_
                            rotate_left
                            · kernel_rfl
                            · kernel_rfl
                            · kernel_rfl
                            · (intro _ _ _ hq; exact hq)
                            · rfl
                            · (intro _w hSw; (try dsimp only at hSw); go_simp; try with_reducible rfl)
                            · assumption
                            try simp only [Act.put, List.setIfInBounds_toArray, List.set_cons_zero, List.set_cons_succ]
                            refine take_in (i := 4) (v := ?_) (d := (some 134)) rfl rfl ?_ ?_ ?_ ?_ ?_ ?_ ?_ ?_
                            rotate_left
                            · kernel_rfl
                            · kernel_rfl
                            · kernel_rfl
                            · (intro _ _ _ hq; exact hq)
                            · rfl
                            · (intro _w hSw; (try dsimp only at hSw); go_simp; try with_reducible rfl)
                            · assumption
                            try simp only [Act.put, List.setIfInBounds_toArray, List.set_cons_zero, List.set_cons_succ]
                            refine take_in (i := 5) (v := ?_) (d := (some 135)) rfl rfl ?_ ?_ ?_ ?_ ?_ ?_ ?_ ?_
                            rotate_left
                            · kernel_rfl
                            · kernel_rfl
                            · kernel_rfl
                            · (intro _ _ _ hq; exact hq)
                            · rfl
                            · (intro _w hSw; (try dsimp only at hSw); go_simp; try with_reducible rfl)
                            · assumption
                            try simp only [Act.put, List.setIfInBounds_toArray, List.set_cons_zero, List.set_cons_succ]
                            refine take_in (i := 6) (v := ?_) (d := (some 136)) rfl rfl ?_ ?_ ?_ ?_ ?_ ?_ ?_ ?_
                            rotate_left
                            · kernel_rfl
                            · kernel_rfl
                            · kernel_rfl
                            · (intro _ _ _ hq; exact hq)
                            · rfl
                            · (intro _w hSw; (try dsimp only at hSw); go_simp; try with_reducible rfl)
                            · assumption
                            try simp only [Act.put, List.setIfInBounds_toArray, List.set_cons_zero, List.set_cons_succ]
                            refine take_in (i := 7) (v := ?_) (d := (some 137)) rfl rfl ?_ ?_ ?_ ?_ ?_ ?_ ?_ ?_
                            rotate_left
                            · kernel_rfl
                            · kernel_rfl
                            · kernel_rfl
                            · (intro _ _ _ hq; exact hq)
                            · rfl
                            · (intro _w hSw; (try dsimp only at hSw); go_simp; try with_reducible rfl)
                            · assumption
                            try simp only [Act.put, List.setIfInBounds_toArray, List.set_cons_zero, List.set_cons_succ]
                            refine take_in (i := 8) (v := ?_) (d := (some 138)) rfl rfl ?_ ?_ ?_ ?_ ?_ ?_ ?_ ?_
                            rotate_left
                            · kernel_rfl
                            · kernel_rfl
                            · kernel_rfl
                            · (intro _ _ _ hq; exact hq)
                            · rfl
                            · (intro _w hSw; (try dsimp only at hSw); go_simp; try with_reducible rfl)
                            · assumption
                            try simp only [Act.put, List.setIfInBounds_toArray, List.set_cons_zero, List.set_cons_succ]
                            refine take_in (i := 9) (v := ?_) (d := (some 139)) rfl rfl ?_ ?_ ?_ ?_ ?_ ?_ ?_ ?_
                            rotate_left
                            · kernel_rfl
                            · kernel_rfl
                            · kernel_rfl
                            · (intro _ _ _ hq; exact hq)
                            · rfl
                            · (intro _w hSw; (try dsimp only at hSw); go_simp; try with_reducible rfl)
                            · assumption
                            try simp only [Act.put, List.setIfInBounds_toArray, List.set_cons_zero, List.set_cons_succ]
                            refine take_in (i := 10) (v := ?_) (d := (some 140)) rfl rfl ?_ ?_ ?_ ?_ ?_ ?_ ?_ ?_
                            rotate_left
                            · kernel_rfl
                            · kernel_rfl
                            · kernel_rfl
                            · (intro _ _ _ hq; exact hq)
                            · rfl
                            · (intro _w hSw; (try dsimp only at hSw); go_simp; try with_reducible rfl)
                            · assumption
                            try simp only [Act.put, List.setIfInBounds_toArray, List.set_cons_zero, List.set_cons_succ]
                            refine take_in (i := 11) (v := ?_) (d := (some 141)) rfl rfl ?_ ?_ ?_ ?_ ?_ ?_ ?_ ?_
                            rotate_left
                            · kernel_rfl
                            · kernel_rfl
                            · kernel_rfl
                            · (intro _ _ _ hq; exact hq)
                            · rfl
                            · (intro _w hSw; (try dsimp only at hSw); go_simp; try with_reducible rfl)
                            · assumption
                            try simp only [Act.put, List.setIfInBounds_toArray, List.set_cons_zero, List.set_cons_succ]
                            refine take_in (i := 12) (v := ?_) (d := (some 142)) rfl rfl ?_ ?_ ?_ ?_ ?_ ?_ ?_ ?_
                            rotate_left
                            · kernel_rfl
                            · kernel_rfl
                            · kernel_rfl
                            · (intro _ _ _ hq; exact hq)
                            · rfl
                            · (intro _w hSw; (try dsimp only at hSw); go_simp; try with_reducible rfl)
                            · assumption
                            try simp only [Act.put, List.setIfInBounds_toArray, List.set_cons_zero, List.set_cons_succ]
                            refine take_in (i := 13) (v := ?_) (d := (some 143)) rfl rfl ?_ ?_ ?_ ?_ ?_ ?_ ?_ ?_
                            rotate_left
                            · kernel_rfl
                            · kernel_rfl
                            · kernel_rfl
                            · (intro _ _ _ hq; exact hq)
                            · rfl
                            · (intro _w hSw; (try dsimp only at hSw); go_simp; try with_reducible rfl)
                            · assumption
                            try simp only [Act.put, List.setIfInBounds_toArray, List.set_cons_zero, List.set_cons_succ]
                            refine take_in (i := 14) (v := ?_) (d := (some 144)) rfl rfl ?_ ?_ ?_ ?_ ?_ ?_ ?_ ?_
                            rotate_left
                            · kernel_rfl
                            · kernel_rfl
                            · kernel_rfl
                            · (intro _ _ _ hq; exact hq)
                            · rfl
                            · (intro _w hSw; (try dsimp only at hSw); go_simp; try with_reducible rfl)
                            · assumption
                            try simp only [Act.put, List.setIfInBounds_toArray, List.set_cons_zero, List.set_cons_succ]
                            refine take_in (i := 15) (v := ?_) (d := (some 145)) rfl rfl ?_ ?_ ?_ ?_ ?_ ?_ ?_ ?_
                            rotate_left
                            · kernel_rfl
                            · kernel_rfl
                            · kernel_rfl
                            · (intro _ _ _ hq; exact hq)
                            · rfl
                            · (intro _w hSw; (try dsimp only at hSw); go_simp; try with_reducible rfl)
                            · assumption
                            try simp only [Act.put, List.setIfInBounds_toArray, List.set_cons_zero, List.set_cons_succ]
                            refine take_in (i := 16) (v := ?_) (d := (some 146)) rfl rfl ?_ ?_ ?_ ?_ ?_ ?_ ?_ ?_
                            rotate_left
                            · kernel_rfl
                            · kernel_rfl
                            · kernel_rfl
                            · (intro _ _ _ hq; exact hq)
                            · rfl
                            · (intro _w hSw; (try dsimp only at hSw); go_simp; try with_reducible rfl)
                            · assumption
                            try simp only [Act.put, List.setIfInBounds_toArray, List.set_cons_zero, List.set_cons_succ]
                            refine take_in (i := 17) (v := ?_) (d := (some 147)) rfl rfl ?_ ?_ ?_ ?_ ?_ ?_ ?_ ?_
                            rotate_left
                            · kernel_rfl
                            · kernel_rfl
                            · kernel_rfl
                            · (intro _ _ _ hq; exact hq)
                            · rfl
                            · (intro _w hSw; (try dsimp only at hSw); go_simp; try with_reducible rfl)
                            · assumption
                            try simp only [Act.put, List.setIfInBounds_toArray, List.set_cons_zero, List.set_cons_succ]
                            refine take_in (i := 18) (v := ?_) (d := (some 148)) rfl rfl ?_ ?_ ?_ ?_ ?_ ?_ ?_ ?_
                            rotate_left
                            · kernel_rfl
                            · kernel_rfl
                            · kernel_rfl
                            · (intro _ _ _ hq; exact hq)
                            · rfl
                            · (intro _w hSw; (try dsimp only at hSw); go_simp; try with_reducible rfl)
                            · assumption
                            try simp only [Act.put, List.setIfInBounds_toArray, List.set_cons_zero, List.set_cons_succ]
                            refine take_in (i := 19) (v := ?_) (d := (some 149)) rfl rfl ?_ ?_ ?_ ?_ ?_ ?_ ?_ ?_
                            rotate_left
                            · kernel_rfl
                            · kernel_rfl
                            · kernel_rfl
                            · (intro _ _ _ hq; exact hq)
                            · rfl
                            · (intro _w hSw; (try dsimp only at hSw); go_simp; try with_reducible rfl)
                            · assumption
                            try simp only [Act.put, List.setIfInBounds_toArray, List.set_cons_zero, List.set_cons_succ]
                            refine take_in (i := 20) (v := ?_) (d := (some 150)) rfl rfl ?_ ?_ ?_ ?_ ?_ ?_ ?_ ?_
                            rotate_left
                            · kernel_rfl
                            · kernel_rfl
                            · kernel_rfl
                            · (intro _ _ _ hq; exact hq)
                            · rfl
                            · (intro _w hSw; (try dsimp only at hSw); go_simp; try with_reducible rfl)
                            · assumption
                            try simp only [Act.put, List.setIfInBounds_toArray, List.set_cons_zero, List.set_cons_succ]
                            refine take_in (i := 21) (v := ?_) (d := (some 151)) rfl rfl ?_ ?_ ?_ ?_ ?_ ?_ ?_ ?_
                            rotate_left
                            · kernel_rfl
                            · kernel_rfl
                            · kernel_rfl
                            · (intro _ _ _ hq; exact hq)
                            · rfl
                            · (intro _w hSw; (try dsimp only at hSw); go_simp; try with_reducible rfl)
                            · assumption
                            try simp only [Act.put, List.setIfInBounds_toArray, List.set_cons_zero, List.set_cons_succ]
                            refine take_in (i := 22) (v := ?_) (d := (some 152)) rfl rfl ?_ ?_ ?_ ?_ ?_ ?_ ?_ ?_
                            rotate_left
                            · kernel_rfl
                            · kernel_rfl
                            · kernel_rfl
                            · (intro _ _ _ hq; exact hq)
                            · rfl
                            · (intro _w hSw; (try dsimp only at hSw); go_simp; try with_reducible rfl)
                            · assumption
                            try simp only [Act.put, List.setIfInBounds_toArray, List.set_cons_zero, List.set_cons_succ]
                            refine take_in (i := 23) (v := ?_) (d := (some 153)) rfl rfl ?_ ?_ ?_ ?_ ?_ ?_ ?_ ?_
                            rotate_left
                            · kernel_rfl
                            · kernel_rfl
                            · kernel_rfl
                            · (intro _ _ _ hq; exact hq)
                            · rfl
                            · (intro _w hSw; (try dsimp only at hSw); go_simp; try with_reducible rfl)
                            · assumption
                            try simp only [Act.put, List.setIfInBounds_toArray, List.set_cons_zero, List.set_cons_succ]
                            refine take_in (i := 24) (v := ?_) (d := (some 154)) rfl rfl ?_ ?_ ?_ ?_ ?_ ?_ ?_ ?_
                            rotate_left
                            · kernel_rfl
                            · kernel_rfl
                            · kernel_rfl
                            · (intro _ _ _ hq; exact hq)
                            · rfl
                            · (intro _w hSw; (try dsimp only at hSw); go_simp; try with_reducible rfl)
                            · assumption
                            try simp only [Act.put, List.setIfInBounds_toArray, List.set_cons_zero, List.set_cons_succ]
                            refine wpAnyH_done ?_ ?_ _
                            · kernel_rfl
                            rotate_left
                            go_wp2_with fail
                            go_roundw
                            case rel => exact ⟨y + 1, by omega, by omega, by go_num, HX, hHeld.1⟩
                            case measure => simp [intOf]; omega
                        · have hd3 : decide ((y : Int) < (k : Int)) = false := decide_eq_false (by omega)
                          have HCY := Lib.hid (show cutT (fun a => at2 tb i a) k k ≤ at2 tb i k by rw [← cutT_one hv1 hv2 (by omega)]; exact hcut.out)
                          clear hcut
                          go_wp2_with fail
                          go_roundw
                          case rel => exact ⟨k + 1, by omega, by go_num, Lib.hid (fun h hh => by
                            by_cases e : h = k
                            · subst e
                              have z1 := HBL.out
                              have z2 := HCX.out
                              have z3 := HCY.out
                              unfold needT; omega
                            · exact hall2.out h (by omega)), hg.trans hgs⟩
                          case measure => simp [intOf]; omega
            · go_wp2_with fail
              go_roundw
              case rel => exact ⟨i + 1, by omega, by go_num, Lib.hid (fun x hx h hh => by
                by_cases e : x = i
                · subst e; exact hall2.out h (by omega)
                · exact hall.out x (by omega) h hh), hg⟩
              case measure => simp [intOf]; omega
        · go_wp2_with fail
          go_ret
          exact ⟨ret_bool (by
            rw [← HR.out]
            exact ((boundB_iff _ _ _ _).2 (fun x h hx hh => hall.out x (by omega) h hh)).symm), hgi⟩

theorem rBound_any (W H : Nat) (hW : W ≤ 48) (hH : H ≤ 48) (BA TA : Option Addr) (bn bc tn tc : Nat) (bs : List Bl) (tb : List (List Int)) (w : World) (hbn : bs.length = bn) (hbl : bn ≤ 16) (hbs : ∀ b ∈ bs, blB b = true) (htn : tb.length = tn) (hrl : ∀ row ∈ tb, row.length ≤ 281474976710656) (hB : Tris w BA bs) (hT : RdRows w TA tb) :
    Calls Try.prog 22 #[.int .i64 (W : Int), .int .i64 (H : Int), .slice BA bn bc, .slice TA tn tc] w (BndPost (formB W H tb && boundB bs tb W H) w) := by
  cases hf : formB W H tb
  · exact rBound_form W H hW hH BA TA bn bc tn tc tb w htn hrl hT hf
  · have hF := (formB_iff _ _ _).1 hf
    exact rBound_ok W H hW hH BA TA bn bc tn tc bs tb w hbn hbl hbs hF (by rw [← htn]; exact hF.1.symm) hB hT _ (by simp)

end Go.Proofs.Ytcojionipffanab
