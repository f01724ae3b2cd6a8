/- TopLaid: a part as a polygon; the parts are apart; the layers are awake. -/
import Derived.Test.YtpnkpejnahhajaaGreatBu18
import Derived.Test.YtpnkpejnahhajaaGreatBu53
import Derived.Test.YtpnkpejnahhajaaGreatBu39
import Derived.Test.YtpnkpejnahhajaaGreatBu20
import Derived.Test.YtpnkpejnahhajaaGreatBu4
import Derived.Test.YtpnkpejnahhajaaGreatBu27
namespace Go.Proofs.YtpnkpejnahhajaaGreat
open Go.RowKit
set_option linter.unusedSimpArgs false

/-- A part inside a piece of sides of at most 64. -/
def BxOk (b : Bx) : Prop := (b.x + b.w ≤ 64 ∧ b.y + b.h ≤ 64) ∧ 1 ≤ b.w ∧ 1 ≤ b.h

set_option maxRecDepth 100000 in
set_option maxHeartbeats 4000000 in
theorem tcorners_any (b : Bx) (hb : BxOk b) (w : World) : Calls Tryz.prog 20 #[.agg #[.int .i64 b.x, .int .i64 b.y, .int .i64 b.w, .int .i64 b.h, .int .i64 b.k]] w fun e w' => ∃ g, e = .returned (.slice (some ⟨g, 0, none⟩) 4 4) ∧ Pts w' (some ⟨g, 0, none⟩) (cornB b) ∧ Gr w w' := by
  obtain ⟨x, y, v, h, k⟩ := b
  unfold BxOk at hb
  dsimp only at hb
  have m1 : IntKind.i64.wrap (3 * (x : Int)) = 3 * (x : Int) := IntWalk.i64_in _ (by omega)
  have m2 : IntKind.i64.wrap (3 * (x : Int) + 1) = 3 * (x : Int) + 1 := IntWalk.i64_in _ (by omega)
  have m3 : IntKind.i64.wrap (3 * (y : Int)) = 3 * (y : Int) := IntWalk.i64_in _ (by omega)
  have m4 : IntKind.i64.wrap (3 * (y : Int) + 1) = 3 * (y : Int) + 1 := IntWalk.i64_in _ (by omega)
  have m5 : IntKind.i64.wrap ((x : Int) + (v : Int)) = (x : Int) + (v : Int) := IntWalk.i64_in _ (by omega)
  have m6 : IntKind.i64.wrap (3 * ((x : Int) + (v : Int))) = 3 * ((x : Int) + (v : Int)) := IntWalk.i64_in _ (by omega)
  have m7 : IntKind.i64.wrap (3 * ((x : Int) + (v : Int)) - 1) = 3 * ((x : Int) + (v : Int)) - 1 := IntWalk.i64_in _ (by omega)
  have m8 : IntKind.i64.wrap ((y : Int) + (h : Int)) = (y : Int) + (h : Int) := IntWalk.i64_in _ (by omega)
  have m9 : IntKind.i64.wrap (3 * ((y : Int) + (h : Int))) = 3 * ((y : Int) + (h : Int)) := IntWalk.i64_in _ (by omega)
  have m0 : IntKind.i64.wrap (3 * ((y : Int) + (h : Int)) - 1) = 3 * ((y : Int) + (h : Int)) - 1 := IntWalk.i64_in _ (by omega)
  go_enter Tryz.func20, Tryz.ntmps20
  go_upto_region 1 with fail
  generalize hW1 : World.alloc w _ = W1
  obtain ⟨hg1, hB1⟩ := box5b hW1
  generalize w.heap.size = U at hB1 ⊢
  obtain ⟨⟨b0, b1, b2, b3, -⟩, -⟩ := Blk5 hB1
  clear hW1 hB1
  refine wp_region_held_drew (S := (fun W' => Gr W1 W' ∧ W'.cell? ⟨U, 0, none⟩ = some (.int .i64 x) ∧ W'.cell? ⟨U, 1, none⟩ = some (.int .i64 y) ∧ W'.cell? ⟨U, 2, none⟩ = some (.int .i64 v) ∧ W'.cell? ⟨U, 3, none⟩ = some (.int .i64 h))) ?_ ?_ (fun hHeld => ?_)
  · kernel_rfl
  · ((try dsimp only); ((try go_split_ands); (repeat' apply And.intro) <;> (repeat (first | assumption | (exact Gr.refl _) | (refine Gr.drew ?_) | (refine Gr.alloc ?_ _) | (refine alloc_old ?_) | (refine Gr.keep (by assumption) ?_) | (refine Gr.trans ?_ (by assumption))))))
  refine take_in (i := 0) (v := ?_) (d := (some 7)) rfl rfl ?_ ?_ ?_ ?_ ?_ ?_ ?_ ?_
  rotate_left
  · kernel_rfl
  · kernel_rfl
  · kernel_rfl
  · (intro _ _ _ hq; exact hq)
  · rfl
  · (intro _w hSw; (try dsimp only at hSw); go_simp; try with_reducible rfl)
  · assumption
  try simp only [Act.put, List.setIfInBounds_toArray, List.set_cons_zero, List.set_cons_succ]
  refine take_in (i := 1) (v := ?_) (d := (some 8)) rfl rfl ?_ ?_ ?_ ?_ ?_ ?_ ?_ ?_
  rotate_left
  · kernel_rfl
  · kernel_rfl
  · kernel_rfl
  · (intro _ _ _ hq; exact hq)
  · rfl
  · (intro _w hSw; (try dsimp only at hSw); go_simp; try with_reducible rfl)
  · assumption
  try simp only [Act.put, List.setIfInBounds_toArray, List.set_cons_zero, List.set_cons_succ]
  refine take_in (i := 2) (v := ?_) (d := (some 9)) rfl rfl ?_ ?_ ?_ ?_ ?_ ?_ ?_ ?_
  rotate_left
  · kernel_rfl
  · kernel_rfl
  · kernel_rfl
  · (intro _ _ _ hq; exact hq)
  · rfl
  · (intro _w hSw; (try dsimp only at hSw); go_simp; try with_reducible rfl)
  · assumption
  try simp only [Act.put, List.setIfInBounds_toArray, List.set_cons_zero, List.set_cons_succ]
  refine take_in (i := 3) (v := ?_) (d := (some 10)) rfl rfl ?_ ?_ ?_ ?_ ?_ ?_ ?_ ?_
  rotate_left
  · kernel_rfl
  · kernel_rfl
  · kernel_rfl
  · (intro _ _ _ hq; exact hq)
  · rfl
  · (intro _w hSw; (try dsimp only at hSw); go_simp; try with_reducible rfl)
  · assumption
  try simp only [Act.put, List.setIfInBounds_toArray, List.set_cons_zero, List.set_cons_succ]
  refine take_in (i := 4) (v := ?_) (d := (some 11)) rfl rfl ?_ ?_ ?_ ?_ ?_ ?_ ?_ ?_
  rotate_left
  · kernel_rfl
  · kernel_rfl
  · kernel_rfl
  · (intro _ _ _ hq; exact hq)
  · rfl
  · (intro _w hSw; (try dsimp only at hSw); go_simp; try with_reducible rfl)
  · assumption
  try simp only [Act.put, List.setIfInBounds_toArray, List.set_cons_zero, List.set_cons_succ]
  refine take_in (i := 5) (v := ?_) (d := (some 12)) rfl rfl ?_ ?_ ?_ ?_ ?_ ?_ ?_ ?_
  rotate_left
  · kernel_rfl
  · kernel_rfl
  · kernel_rfl
  · (intro _ _ _ hq; exact hq)
  · rfl
  · (intro _w hSw; (try dsimp only at hSw); go_simp; try with_reducible rfl)
  · assumption
  try simp only [Act.put, List.setIfInBounds_toArray, List.set_cons_zero, List.set_cons_succ]
  refine take_in (i := 6) (v := ?_) (d := (some 13)) rfl rfl ?_ ?_ ?_ ?_ ?_ ?_ ?_ ?_
  rotate_left
  · kernel_rfl
  · kernel_rfl
  · kernel_rfl
  · (intro _ _ _ hq; exact hq)
  · rfl
  · (intro _w hSw; (try dsimp only at hSw); go_simp; try with_reducible rfl)
  · assumption
  try simp only [Act.put, List.setIfInBounds_toArray, List.set_cons_zero, List.set_cons_succ]
  refine take_in (i := 7) (v := ?_) (d := (some 14)) rfl rfl ?_ ?_ ?_ ?_ ?_ ?_ ?_ ?_
  rotate_left
  · kernel_rfl
  · kernel_rfl
  · kernel_rfl
  · (intro _ _ _ hq; exact hq)
  · rfl
  · (intro _w hSw; (try dsimp only at hSw); go_simp; try with_reducible rfl)
  · assumption
  try simp only [Act.put, List.setIfInBounds_toArray, List.set_cons_zero, List.set_cons_succ]
  refine take_in (i := 8) (v := ?_) (d := (some 15)) rfl rfl ?_ ?_ ?_ ?_ ?_ ?_ ?_ ?_
  rotate_left
  · kernel_rfl
  · kernel_rfl
  · kernel_rfl
  · (intro _ _ _ hq; exact hq)
  · rfl
  · (intro _w hSw; (try dsimp only at hSw); go_simp; try with_reducible rfl)
  · assumption
  try simp only [Act.put, List.setIfInBounds_toArray, List.set_cons_zero, List.set_cons_succ]
  refine take_in (i := 9) (v := ?_) (d := (some 16)) rfl rfl ?_ ?_ ?_ ?_ ?_ ?_ ?_ ?_
  rotate_left
  · kernel_rfl
  · kernel_rfl
  · kernel_rfl
  · (intro _ _ _ hq; exact hq)
  · rfl
  · (intro _w hSw; (try dsimp only at hSw); go_simp; try with_reducible rfl)
  · assumption
  try simp only [Act.put, List.setIfInBounds_toArray, List.set_cons_zero, List.set_cons_succ]
  refine take_in (i := 10) (v := ?_) (d := (some 17)) rfl rfl ?_ ?_ ?_ ?_ ?_ ?_ ?_ ?_
  rotate_left
  · kernel_rfl
  · kernel_rfl
  · kernel_rfl
  · (intro _ _ _ hq; exact hq)
  · rfl
  · (intro _w hSw; (try dsimp only at hSw); go_simp; try with_reducible rfl)
  · assumption
  try simp only [Act.put, List.setIfInBounds_toArray, List.set_cons_zero, List.set_cons_succ]
  refine take_in (i := 11) (v := ?_) (d := (some 18)) rfl rfl ?_ ?_ ?_ ?_ ?_ ?_ ?_ ?_
  rotate_left
  · kernel_rfl
  · kernel_rfl
  · kernel_rfl
  · (intro _ _ _ hq; exact hq)
  · rfl
  · (intro _w hSw; (try dsimp only at hSw); go_simp; try with_reducible rfl)
  · assumption
  try simp only [Act.put, List.setIfInBounds_toArray, List.set_cons_zero, List.set_cons_succ]
  refine take_in (i := 12) (v := ?_) (d := (some 19)) rfl rfl ?_ ?_ ?_ ?_ ?_ ?_ ?_ ?_
  rotate_left
  · kernel_rfl
  · kernel_rfl
  · kernel_rfl
  · (intro _ _ _ hq; exact hq)
  · rfl
  · (intro _w hSw; (try dsimp only at hSw); go_simp; try with_reducible rfl)
  · assumption
  try simp only [Act.put, List.setIfInBounds_toArray, List.set_cons_zero, List.set_cons_succ]
  refine take_in (i := 13) (v := ?_) (d := (some 20)) rfl rfl ?_ ?_ ?_ ?_ ?_ ?_ ?_ ?_
  rotate_left
  · kernel_rfl
  · kernel_rfl
  · kernel_rfl
  · (intro _ _ _ hq; exact hq)
  · rfl
  · (intro _w hSw; (try dsimp only at hSw); go_simp; try with_reducible rfl)
  · assumption
  try simp only [Act.put, List.setIfInBounds_toArray, List.set_cons_zero, List.set_cons_succ]
  refine take_in (i := 14) (v := ?_) (d := (some 21)) rfl rfl ?_ ?_ ?_ ?_ ?_ ?_ ?_ ?_
  rotate_left
  · kernel_rfl
  · kernel_rfl
  · kernel_rfl
  · (intro _ _ _ hq; exact hq)
  · rfl
  · (intro _w hSw; (try dsimp only at hSw); go_simp; try with_reducible rfl)
  · assumption
  try simp only [Act.put, List.setIfInBounds_toArray, List.set_cons_zero, List.set_cons_succ]
  refine take_in (i := 15) (v := ?_) (d := (some 22)) rfl rfl ?_ ?_ ?_ ?_ ?_ ?_ ?_ ?_
  rotate_left
  · kernel_rfl
  · kernel_rfl
  · kernel_rfl
  · (intro _ _ _ hq; exact hq)
  · rfl
  · (intro _w hSw; (try dsimp only at hSw); go_simp; try with_reducible rfl)
  · assumption
  try simp only [Act.put, List.setIfInBounds_toArray, List.set_cons_zero, List.set_cons_succ]
  refine take_in (i := 16) (v := ?_) (d := (some 23)) rfl rfl ?_ ?_ ?_ ?_ ?_ ?_ ?_ ?_
  rotate_left
  · kernel_rfl
  · kernel_rfl
  · kernel_rfl
  · (intro _ _ _ hq; exact hq)
  · rfl
  · (intro _w hSw; (try dsimp only at hSw); go_simp; try with_reducible rfl)
  · assumption
  try simp only [Act.put, List.setIfInBounds_toArray, List.set_cons_zero, List.set_cons_succ]
  refine take_in (i := 17) (v := ?_) (d := (some 24)) rfl rfl ?_ ?_ ?_ ?_ ?_ ?_ ?_ ?_
  rotate_left
  · kernel_rfl
  · kernel_rfl
  · kernel_rfl
  · (intro _ _ _ hq; exact hq)
  · rfl
  · (intro _w hSw; (try dsimp only at hSw); go_simp; try with_reducible rfl)
  · assumption
  try simp only [Act.put, List.setIfInBounds_toArray, List.set_cons_zero, List.set_cons_succ]
  refine take_in (i := 18) (v := ?_) (d := (some 25)) rfl rfl ?_ ?_ ?_ ?_ ?_ ?_ ?_ ?_
  rotate_left
  · kernel_rfl
  · kernel_rfl
  · kernel_rfl
  · (intro _ _ _ hq; exact hq)
  · rfl
  · (intro _w hSw; (try dsimp only at hSw); go_simp; try with_reducible rfl)
  · assumption
  try simp only [Act.put, List.setIfInBounds_toArray, List.set_cons_zero, List.set_cons_succ]
  refine take_in (i := 19) (v := ?_) (d := (some 26)) rfl rfl ?_ ?_ ?_ ?_ ?_ ?_ ?_ ?_
  rotate_left
  · kernel_rfl
  · kernel_rfl
  · kernel_rfl
  · (intro _ _ _ hq; exact hq)
  · rfl
  · (intro _w hSw; (try dsimp only at hSw); go_simp; try with_reducible rfl)
  · assumption
  try simp only [Act.put, List.setIfInBounds_toArray, List.set_cons_zero, List.set_cons_succ]
  refine take_in (i := 20) (v := ?_) (d := (some 27)) rfl rfl ?_ ?_ ?_ ?_ ?_ ?_ ?_ ?_
  rotate_left
  · kernel_rfl
  · kernel_rfl
  · kernel_rfl
  · (intro _ _ _ hq; exact hq)
  · rfl
  · (intro _w hSw; (try dsimp only at hSw); go_simp; try with_reducible rfl)
  · assumption
  try simp only [Act.put, List.setIfInBounds_toArray, List.set_cons_zero, List.set_cons_succ]
  refine take_in (i := 21) (v := ?_) (d := (some 28)) rfl rfl ?_ ?_ ?_ ?_ ?_ ?_ ?_ ?_
  rotate_left
  · kernel_rfl
  · kernel_rfl
  · kernel_rfl
  · (intro _ _ _ hq; exact hq)
  · rfl
  · (intro _w hSw; (try dsimp only at hSw); go_simp; try with_reducible rfl)
  · assumption
  try simp only [Act.put, List.setIfInBounds_toArray, List.set_cons_zero, List.set_cons_succ]
  refine take_in (i := 22) (v := ?_) (d := (some 3)) rfl rfl ?_ ?_ ?_ ?_ ?_ ?_ ?_ ?_
  rotate_left
  · kernel_rfl
  · kernel_rfl
  · kernel_rfl
  · (intro _ _ _ hq; exact hq)
  · rfl
  · (intro _w hSw; (try dsimp only at hSw); go_simp; try with_reducible rfl)
  · assumption
  try simp only [Act.put, List.setIfInBounds_toArray, List.set_cons_zero, List.set_cons_succ]
  refine take_in (i := 23) (v := ?_) (d := (some 4)) rfl rfl ?_ ?_ ?_ ?_ ?_ ?_ ?_ ?_
  rotate_left
  · kernel_rfl
  · kernel_rfl
  · kernel_rfl
  · (intro _ _ _ hq; exact hq)
  · rfl
  · (intro _w hSw; (try dsimp only at hSw); go_simp; try with_reducible rfl)
  · assumption
  try simp only [Act.put, List.setIfInBounds_toArray, List.set_cons_zero, List.set_cons_succ]
  refine take_in (i := 24) (v := ?_) (d := (some 5)) rfl rfl ?_ ?_ ?_ ?_ ?_ ?_ ?_ ?_
  rotate_left
  · kernel_rfl
  · kernel_rfl
  · kernel_rfl
  · (intro _ _ _ hq; exact hq)
  · rfl
  · (intro _w hSw; (try dsimp only at hSw); go_simp; try with_reducible rfl)
  · assumption
  try simp only [Act.put, List.setIfInBounds_toArray, List.set_cons_zero, List.set_cons_succ]
  refine take_in (i := 25) (v := ?_) (d := (some 6)) rfl rfl ?_ ?_ ?_ ?_ ?_ ?_ ?_ ?_
  rotate_left
  · kernel_rfl
  · kernel_rfl
  · kernel_rfl
  · (intro _ _ _ hq; exact hq)
  · rfl
  · (intro _w hSw; (try dsimp only at hSw); go_simp; try with_reducible rfl)
  · assumption
  try simp only [Act.put, List.setIfInBounds_toArray, List.set_cons_zero, List.set_cons_succ]
  refine wpAnyH_done ?_ ?_ _
  · kernel_rfl
  rotate_left
  obtain ⟨hg2, -⟩ := hHeld
  have hg3 := hg1.trans hg2
  generalize World.drew W1 = W2 at hg3 ⊢
  clear b0 b1 b2 b3 m1 m2 m3 m4 m5 m6 m7 m8 m9 m0 hg1 hg2
  go_wp2_with fail
  go_ret
  exact ⟨W2.heap.size, rfl, Rd_lit enc2_len (heap_alloc_new W2 _) rfl, hg3.alloc _⟩

theorem cornB_cos {b : Bx} (h : BxOk b) : ((cornB b).all fun p => vld p.1 p.2) = true := cornB_vld h.1 h.2

set_option maxRecDepth 100000 in
set_option maxHeartbeats 8000000 in
theorem tapart_any (A : Option Addr) (n c : Nat) (l : List Bx) (w : World) (hn : l.length = n) (hl : n ≤ 65536) (hp : Rd 5 enc5 w A l) (hok : ∀ b ∈ l, BxOk b) (hap : l.Pairwise BxApart) :
    Calls Tryz.prog 9 #[.slice A n c] w fun e w' => e = .returned (.bool true) ∧ Gr w w' := by
  have HN := Lib.hid hn
  have HP := Lib.hid hp
  have HOK := Lib.hid hok
  have HAP := Lib.hid hap
  clear hn hp hok hap
  go_enter Tryz.func9, Tryz.ntmps9
  go_wp2_with fail
  go_loopw [3] (fun i wr => ∃ k : Nat, k ≤ n ∧ k ≤ 24 ∧ i = .int .i64 k ∧ Gr w wr) (fun i _ => n - (intOf i).toNat)
  case atStart => exact ⟨0, by omega, by omega, rfl, Gr.refl _⟩
  case round =>
    obtain ⟨k, hkn, hk24, rfl, hgr⟩ := hrel
    by_cases hlt : k < n ∧ k < 24
    · obtain ⟨h1, h2⟩ := hlt
      have e1 : decide ((k : Int) < (n : Int)) = true := decide_eq_true (by omega)
      have e2 : decide ((k : Int) < 24) = true := decide_eq_true (by omega)
      obtain ⟨bk, hbk⟩ : ∃ b, l[k]? = some b := ⟨_, List.getElem?_eq_getElem (by rw [HN.out]; exact h1)⟩
      obtain ⟨gb, ob, rfl, c0, c1, c2, c3, c4⟩ := Bx_at (HP.out.keep hgr) hbk
      have hokk := HOK.out bk (List.mem_of_getElem? hbk)
      have HKK := Lib.hid (And.intro hbk hokk)
      have HCK := Lib.hid (fun W => tcorners_any bk hokk W)
      have hki : (k : Int) < (n : Int) := by omega
      clear hbk hokk
      go_wp2_with fail
      refine (HCK.out _).mono ?_
      rintro e W2 ⟨g2, rfl, hP2, hg2⟩
      have HP2 := Lib.hid hP2
      have hgr2 := hgr.trans hg2
      clear hP2 c0 c1 c2 c3 c4 HCK hgr hg2
      go_wp2_with fail
      refine (Simple_any (some ⟨g2, 0, none⟩) 4 4 (cornB bk) W2 rfl (by omega) HP2.out).mono ?_
      rintro e W3 ⟨r, rfl, hr, hg3⟩
      obtain rfl : r = true := hr.2 (cornB_simple HKK.out.2.1 HKK.out.2.2)
      have HP3 := Lib.hid (HP2.out.keep hg3)
      have hgr3 := hgr2.trans hg3
      clear hr HP2 hg3 hgr2
      go_wp2_with fail
      go_loopw [5] (fun i wr => ∃ j : Nat, j ≤ k ∧ i = .int .i64 j ∧ Hid (Pts wr (some ⟨g2, 0, none⟩) (cornB bk)) ∧ Gr w wr) (fun i _ => k - (intOf i).toNat)
      case atStart => exact ⟨0, by omega, rfl, HP3, hgr3⟩
      case round =>
        obtain ⟨j, hjk, rfl, hpk, hgj⟩ := hrel
        clear HP3 hgr3
        by_cases hjl : j < k
        · obtain ⟨bj, hbj⟩ : ∃ b, l[j]? = some b := ⟨_, List.getElem?_eq_getElem (by rw [HN.out]; omega)⟩
          obtain ⟨_, _, e0, c0, c1, c2, c3, c4⟩ := Bx_at (HP.out.keep hgj) hbj
          cases e0
          have hokj := HOK.out bj (List.mem_of_getElem? hbj)
          have hapj : BxApart bk bj := by
            obtain ⟨hj', ej⟩ := List.getElem?_eq_some_iff.1 hbj
            obtain ⟨hk', ek⟩ := List.getElem?_eq_some_iff.1 HKK.out.1
            have h := List.pairwise_iff_getElem.1 HAP.out j k hj' hk' hjl
            rw [ej, ek] at h
            unfold BxApart at h ⊢
            omega
          have HCJ := Lib.hid (fun W => tcorners_any bj hokj W)
          have HVK := Lib.hid (cornB_cos HKK.out.2)
          have HVJ := Lib.hid (cornB_cos hokj)
          have HM := Lib.hid (boxes_sep HKK.out.2.2 hokj.2 hapj)
          have HRI := Lib.hid (sep_right (A := cornB bk) (B := cornB bj) (by simp [cornB]) (by simp [cornB]) (cornersL_co (Cos_of HVK.out)) (cornersL_co (Cos_of HVJ.out)))
          clear hbj hokj hapj
          have hji : (j : Int) < (k : Int) := by omega
          have hjn : (j : Int) < (n : Int) := by omega
          go_wp2_with fail
          refine (HCJ.out _).mono ?_
          rintro e W4 ⟨g4, rfl, hP4, hg4⟩
          go_wp2_with fail
          refine (Separate_m (some ⟨g2, 0, none⟩) (some ⟨g4, 0, none⟩) 4 4 4 4 (cornB bk) (cornB bj) false _ rfl rfl (by omega) (by omega) (by omega) (by omega) (hpk.out.keep hg4) hP4 HVK.out HVJ.out HM.out).mono ?_
          rintro e W4b ⟨ux, uy, ud, uu, uv, ut, rfl, hT, hg4b⟩
          have HKC : Hid ((if checkL (cornersL (cornB bk)) (cornersL (cornB bj)) ⟨false, ux, uy, ud, uu, uv, ut⟩ = true then (0 : Int) else 10) = 0) := Lib.hid (by
            have h := HRI.out
            rw [hT] at h
            rw [h]
            rfl)
          clear hT hP4
          go_upto_region 11 with fail
          generalize hW5 : World.alloc W4b _ = W5
          obtain ⟨hg5, hB5⟩ := box7a hW5
          have hgw5 := (hg4.trans hg4b).trans hg5
          generalize W4b.heap.size = V at hB5 ⊢
          obtain ⟨⟨r0, r1, r2, r3, r4, r5, r6⟩, -⟩ := Blk7 hB5
          have HPK5 := Lib.hid (hpk.out.keep hgw5)
          have hgj5 := hgj.trans hgw5
          replace c0 := hgw5.keep c0
          replace c1 := hgw5.keep c1
          replace c2 := hgw5.keep c2
          replace c3 := hgw5.keep c3
          replace c4 := hgw5.keep c4
          have KS : Hid (∀ W', Gr W5 W' → (fun W' => Gr W5 W' ∧ W'.cell? ⟨V, 0, none⟩ = some (.bool false) ∧ W'.cell? ⟨V, 1, none⟩ = some (.int .i64 ux) ∧ W'.cell? ⟨V, 2, none⟩ = some (.int .i64 uy) ∧ W'.cell? ⟨V, 3, none⟩ = some (.int .i64 ud) ∧ W'.cell? ⟨V, 4, none⟩ = some (.int .i64 uu) ∧ W'.cell? ⟨V, 5, none⟩ = some (.int .i64 uv) ∧ W'.cell? ⟨V, 6, none⟩ = some (.int .i64 ut) ∧ W'.cell? ⟨gb, ob + j * 5, none⟩ = some (.int .i64 (bj).x) ∧ W'.cell? ⟨gb, ob + j * 5 + 1, none⟩ = some (.int .i64 (bj).y) ∧ W'.cell? ⟨gb, ob + j * 5 + 2, none⟩ = some (.int .i64 (bj).w) ∧ W'.cell? ⟨gb, ob + j * 5 + 3, none⟩ = some (.int .i64 (bj).h) ∧ W'.cell? ⟨gb, ob + j * 5 + 4, none⟩ = some (.int .i64 (bj).k)) W') := Lib.hid (fun W' h => ⟨h, h.keep r0, h.keep r1, h.keep r2, h.keep r3, h.keep r4, h.keep r5, h.keep r6, h.keep c0, h.keep c1, h.keep c2, h.keep c3, h.keep c4⟩)
          have HCC : Hid (∀ W g, Gr W5 W → Pts W (some ⟨g, 0, none⟩) (cornB bj) → Calls Tryz.prog 23 #[.slice (some ⟨g2, 0, none⟩) 4 4, .slice (some ⟨g, 0, none⟩) 4 4, .agg #[.bool false, .int .i64 ux, .int .i64 uy, .int .i64 ud, .int .i64 uu, .int .i64 uv, .int .i64 ut]] W fun e w' => e = .returned (.int .i64 0) ∧ Gr W w') := Lib.hid (fun W g hW hq =>
            (Check_yes (some ⟨g2, 0, none⟩) (some ⟨g, 0, none⟩) 4 4 4 4 (cornB bk) (cornB bj) false ux uy ud uu uv ut W rfl rfl (by omega) (by omega) (by omega) (by omega) (HPK5.out.keep hW) hq HVK.out HVJ.out).mono fun e w' h => by rw [HKC.out] at h; exact h)
          clear hW5 hB5 hg5 hgw5 hg4 hg4b hgj hpk HVK HVJ HM HRI HKC
          refine wp_region_held_drew (S := (fun W' => Gr W5 W' ∧ W'.cell? ⟨V, 0, none⟩ = some (.bool false) ∧ W'.cell? ⟨V, 1, none⟩ = some (.int .i64 ux) ∧ W'.cell? ⟨V, 2, none⟩ = some (.int .i64 uy) ∧ W'.cell? ⟨V, 3, none⟩ = some (.int .i64 ud) ∧ W'.cell? ⟨V, 4, none⟩ = some (.int .i64 uu) ∧ W'.cell? ⟨V, 5, none⟩ = some (.int .i64 uv) ∧ W'.cell? ⟨V, 6, none⟩ = some (.int .i64 ut) ∧ W'.cell? ⟨gb, ob + j * 5, none⟩ = some (.int .i64 (bj).x) ∧ W'.cell? ⟨gb, ob + j * 5 + 1, none⟩ = some (.int .i64 (bj).y) ∧ W'.cell? ⟨gb, ob + j * 5 + 2, none⟩ = some (.int .i64 (bj).w) ∧ W'.cell? ⟨gb, ob + j * 5 + 3, none⟩ = some (.int .i64 (bj).h) ∧ W'.cell? ⟨gb, ob + j * 5 + 4, none⟩ = some (.int .i64 (bj).k))) ?_ ?_ (fun hHeld => ?_)
          · kernel_rfl
          · ((try dsimp only); (refine KS.out _ ?_; (repeat (first | exact Gr.refl _ | exact hHeld.1 | (refine Gr.drew ?_) | (refine Gr.trans ?_ (by assumption)))); done))
          refine take_in (i := 0) (v := ?_) (d := (some 41)) rfl rfl ?_ ?_ ?_ ?_ ?_ ?_ ?_ ?_
          rotate_left
          · kernel_rfl
          · kernel_rfl
          · kernel_rfl
          · (intro _ _ _ hq; exact hq)
          · rfl
          · (intro _w hSw; (try dsimp only at hSw); go_simp; try with_reducible rfl)
          · assumption
          try simp only [Act.put, List.setIfInBounds_toArray, List.set_cons_zero, List.set_cons_succ]
          refine take_in (i := 1) (v := ?_) (d := (some 42)) rfl rfl ?_ ?_ ?_ ?_ ?_ ?_ ?_ ?_
          rotate_left
          · kernel_rfl
          · kernel_rfl
          · kernel_rfl
          · (intro _ _ _ hq; exact hq)
          · rfl
          · (intro _w hSw; (try dsimp only at hSw); go_simp; try with_reducible rfl)
          · assumption
          try simp only [Act.put, List.setIfInBounds_toArray, List.set_cons_zero, List.set_cons_succ]
          refine take_in (i := 2) (v := ?_) (d := (some 43)) rfl rfl ?_ ?_ ?_ ?_ ?_ ?_ ?_ ?_
          rotate_left
          · kernel_rfl
          · kernel_rfl
          · kernel_rfl
          · (intro _ _ _ hq; exact hq)
          · rfl
          · (intro _w hSw; (try dsimp only at hSw); go_simp; try with_reducible rfl)
          · assumption
          try simp only [Act.put, List.setIfInBounds_toArray, List.set_cons_zero, List.set_cons_succ]
          refine take_in (i := 3) (v := ?_) (d := (some 44)) rfl rfl ?_ ?_ ?_ ?_ ?_ ?_ ?_ ?_
          rotate_left
          · kernel_rfl
          · kernel_rfl
          · kernel_rfl
          · (intro _ _ _ hq; exact hq)
          · rfl
          · (intro _w hSw; (try dsimp only at hSw); go_simp; try with_reducible rfl)
          · assumption
          try simp only [Act.put, List.setIfInBounds_toArray, List.set_cons_zero, List.set_cons_succ]
          refine take_in (i := 4) (v := ?_) (d := (some 45)) rfl rfl ?_ ?_ ?_ ?_ ?_ ?_ ?_ ?_
          rotate_left
          · kernel_rfl
          · kernel_rfl
          · kernel_rfl
          · (intro _ _ _ hq; exact hq)
          · rfl
          · (intro _w hSw; (try dsimp only at hSw); go_simp; try with_reducible rfl)
          · assumption
          try simp only [Act.put, List.setIfInBounds_toArray, List.set_cons_zero, List.set_cons_succ]
          refine take_in (i := 5) (v := ?_) (d := (some 46)) rfl rfl ?_ ?_ ?_ ?_ ?_ ?_ ?_ ?_
          rotate_left
          · kernel_rfl
          · kernel_rfl
          · kernel_rfl
          · (intro _ _ _ hq; exact hq)
          · rfl
          · (intro _w hSw; (try dsimp only at hSw); go_simp; try with_reducible rfl)
          · assumption
          try simp only [Act.put, List.setIfInBounds_toArray, List.set_cons_zero, List.set_cons_succ]
          refine take_in (i := 6) (v := ?_) (d := (some 47)) rfl rfl ?_ ?_ ?_ ?_ ?_ ?_ ?_ ?_
          rotate_left
          · kernel_rfl
          · kernel_rfl
          · kernel_rfl
          · (intro _ _ _ hq; exact hq)
          · rfl
          · (intro _w hSw; (try dsimp only at hSw); go_simp; try with_reducible rfl)
          · assumption
          try simp only [Act.put, List.setIfInBounds_toArray, List.set_cons_zero, List.set_cons_succ]
          refine take_in (i := 7) (v := ?_) (d := (some 48)) rfl rfl ?_ ?_ ?_ ?_ ?_ ?_ ?_ ?_
          rotate_left
          · kernel_rfl
          · kernel_rfl
          · kernel_rfl
          · (intro _ _ _ hq; exact hq)
          · rfl
          · (intro _w hSw; (try dsimp only at hSw); go_simp; try with_reducible rfl)
          · assumption
          try simp only [Act.put, List.setIfInBounds_toArray, List.set_cons_zero, List.set_cons_succ]
          refine take_in (i := 8) (v := ?_) (d := (some 49)) rfl rfl ?_ ?_ ?_ ?_ ?_ ?_ ?_ ?_
          rotate_left
          · kernel_rfl
          · kernel_rfl
          · kernel_rfl
          · (intro _ _ _ hq; exact hq)
          · rfl
          · (intro _w hSw; (try dsimp only at hSw); go_simp; try with_reducible rfl)
          · assumption
          try simp only [Act.put, List.setIfInBounds_toArray, List.set_cons_zero, List.set_cons_succ]
          refine take_in (i := 9) (v := ?_) (d := (some 50)) rfl rfl ?_ ?_ ?_ ?_ ?_ ?_ ?_ ?_
          rotate_left
          · kernel_rfl
          · kernel_rfl
          · kernel_rfl
          · (intro _ _ _ hq; exact hq)
          · rfl
          · (intro _w hSw; (try dsimp only at hSw); go_simp; try with_reducible rfl)
          · assumption
          try simp only [Act.put, List.setIfInBounds_toArray, List.set_cons_zero, List.set_cons_succ]
          refine take_in (i := 10) (v := ?_) (d := (some 51)) rfl rfl ?_ ?_ ?_ ?_ ?_ ?_ ?_ ?_
          rotate_left
          · kernel_rfl
          · kernel_rfl
          · kernel_rfl
          · (intro _ _ _ hq; exact hq)
          · rfl
          · (intro _w hSw; (try dsimp only at hSw); go_simp; try with_reducible rfl)
          · assumption
          try simp only [Act.put, List.setIfInBounds_toArray, List.set_cons_zero, List.set_cons_succ]
          refine take_in (i := 11) (v := ?_) (d := (some 52)) rfl rfl ?_ ?_ ?_ ?_ ?_ ?_ ?_ ?_
          rotate_left
          · kernel_rfl
          · kernel_rfl
          · kernel_rfl
          · (intro _ _ _ hq; exact hq)
          · rfl
          · (intro _w hSw; (try dsimp only at hSw); go_simp; try with_reducible rfl)
          · assumption
          try simp only [Act.put, List.setIfInBounds_toArray, List.set_cons_zero, List.set_cons_succ]
          refine take_in (i := 13) (v := ?_) (d := (some 54)) rfl rfl ?_ ?_ ?_ ?_ ?_ ?_ ?_ ?_
          rotate_left
          · kernel_rfl
          · kernel_rfl
          · kernel_rfl
          · (intro _ _ _ hq; exact hq)
          · rfl
          · (intro _w hSw; (try dsimp only at hSw); go_simp; try with_reducible rfl)
          · assumption
          try simp only [Act.put, List.setIfInBounds_toArray, List.set_cons_zero, List.set_cons_succ]
          refine wpAnyH_ready (rs := [12]) ?_ ?_ ?_
          · kernel_rfl
          · simp
          refine (AllReadyH.cons rfl (fun K hK => ?_) AllReadyH.nil)
          go_simp
          first | (go_at_call 20; (with_reducible refine (HCJ.out _).mono ?_); rintro e w6 ⟨g6, rfl, hP6, hg6⟩; have HP6 := Lib.hid hP6; clear hP6) | (go_at_call 23; (with_reducible refine (HCC.out _ g6 (by (repeat (first | exact Gr.refl _ | assumption | (refine Gr.drew ?_) | (refine Gr.drewN ?_ _) | (refine Gr.alloc ?_ _) | (refine Gr.trans ?_ (by assumption))))) HP6.out).mono ?_); rintro e w7 ⟨rfl, hg7⟩)
          refine hK.out _ _ ?_ (fun hHeld => ?_)
          · ((try dsimp only); (refine KS.out _ ?_; (repeat (first | exact Gr.refl _ | exact hHeld.1 | (refine Gr.drew ?_) | (refine Gr.trans ?_ (by assumption)))); done))
          clear hK K
          try simp only [Act.put, List.setIfInBounds_toArray, List.set_cons_zero, List.set_cons_succ]
          refine wpAnyH_ready (rs := [14]) ?_ ?_ ?_
          · kernel_rfl
          · simp
          refine (AllReadyH.cons rfl (fun K hK => ?_) AllReadyH.nil)
          go_simp
          first | (go_at_call 20; (with_reducible refine (HCJ.out _).mono ?_); rintro e w6 ⟨g6, rfl, hP6, hg6⟩; have HP6 := Lib.hid hP6; clear hP6) | (go_at_call 23; (with_reducible refine (HCC.out _ g6 (by (repeat (first | exact Gr.refl _ | assumption | (refine Gr.drew ?_) | (refine Gr.drewN ?_ _) | (refine Gr.alloc ?_ _) | (refine Gr.trans ?_ (by assumption))))) HP6.out).mono ?_); rintro e w7 ⟨rfl, hg7⟩)
          refine hK.out _ _ ?_ (fun hHeld => ?_)
          · ((try dsimp only); (refine KS.out _ ?_; (repeat (first | exact Gr.refl _ | exact hHeld.1 | (refine Gr.drew ?_) | (refine Gr.trans ?_ (by assumption)))); done))
          clear hK K
          try simp only [Act.put, List.setIfInBounds_toArray, List.set_cons_zero, List.set_cons_succ]
          refine take_in (i := 15) (v := ?_) (d := (some 56)) rfl rfl ?_ ?_ ?_ ?_ ?_ ?_ ?_ ?_
          rotate_left
          · kernel_rfl
          · kernel_rfl
          · kernel_rfl
          · (intro _ _ _ hq; exact hq)
          · rfl
          · (intro _w hSw; (try dsimp only at hSw); go_simp; try with_reducible rfl)
          · assumption
          try simp only [Act.put, List.setIfInBounds_toArray, List.set_cons_zero, List.set_cons_succ]
          refine take_in (i := 16) (v := ?_) (d := (some 57)) rfl rfl ?_ ?_ ?_ ?_ ?_ ?_ ?_ ?_
          rotate_left
          · kernel_rfl
          · kernel_rfl
          · kernel_rfl
          · (intro _ _ _ hq; exact hq)
          · rfl
          · (intro _w hSw; (try dsimp only at hSw); go_simp; try with_reducible rfl)
          · assumption
          try simp only [Act.put, List.setIfInBounds_toArray, List.set_cons_zero, List.set_cons_succ]
          refine wpAnyH_done ?_ ?_ _
          · kernel_rfl
          rotate_left
          all_goals
            clear r0 r1 r2 r3 r4 r5 r6 c0 c1 c2 c3 c4
            go_wp2_with fail
            go_roundw
            case rel => exact ⟨j + 1, by omega, by go_num, Lib.hid (HPK5.out.keep (by (repeat (first | exact Gr.refl _ | assumption | (refine Gr.drew ?_) | (refine Gr.drewN ?_ _) | (refine Gr.alloc ?_ _) | (refine Gr.trans ?_ (by assumption)))))), hgj5.trans (by (repeat (first | exact Gr.refl _ | assumption | (refine Gr.drew ?_) | (refine Gr.drewN ?_ _) | (refine Gr.alloc ?_ _) | (refine Gr.trans ?_ (by assumption)))))⟩
            case measure => simp [intOf]; omega
        · obtain rfl : j = k := by omega
          have hjl' : ¬ ((j : Int) < (j : Int)) := by omega
          clear hjl
          go_wp2_with fail
          go_roundw
          case rel => exact ⟨j + 1, by omega, by omega, by go_num, hgj⟩
          case measure => simp [intOf]; omega
    · by_cases h1 : k < n
      · have d1 : decide ((k : Int) < (n : Int)) = true := decide_eq_true (by omega)
        have d2 : decide ((k : Int) < 24) = false := decide_eq_false (by omega)
        go_wp2_with fail
        go_ret
        exact ⟨rfl, hgr⟩
      · have d1 : decide ((k : Int) < (n : Int)) = false := decide_eq_false (by omega)
        go_wp2_with fail
        go_ret
        exact ⟨rfl, hgr⟩

end Go.Proofs.YtpnkpejnahhajaaGreat
