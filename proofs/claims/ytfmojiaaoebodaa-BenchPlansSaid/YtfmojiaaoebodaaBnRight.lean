/- Layer 4: isRefusal, isRight, Check.
Layer 4: isRight and Check. -/
import Derived.Test.YtfmojiaaoebodaaBnSched
import Derived.Test.YtfmojiaaoebodaaBnTop
namespace Go.Proofs.Ytfmojiaaoebodaa
open Go.RowKit
set_option linter.unusedSimpArgs false

theorem mul8 {B x : Int} (hB : 1 ≤ B ∧ B ≤ 8) (hx : 0 ≤ x ∧ x ≤ 1048576) : 0 ≤ B * x ∧ B * x ≤ 8388608 := by
  refine ⟨Int.mul_nonneg (by omega) hx.1, ?_⟩
  have h := Int.mul_le_mul hB.2 hx.2 hx.1 (by omega)
  omega
theorem roomS_bd {B : Int} (hB : 1 ≤ B ∧ B ≤ 8) {S : List (Int × Int)} (h : ∀ p ∈ S, 0 ≤ p.1 ∧ p.1 < p.2 ∧ p.2 ≤ 1048576) : 0 ≤ roomS B S ∧ roomS B S ≤ 8388608 * S.length := by
  have := lsum_bd (f := fun p : Int × Int => B * (p.2 - p.1)) (lo := 0) (hi := 8388608) S (fun p hp => by
    have := h p hp
    exact mul8 hB ⟨by omega, by omega⟩)
  unfold roomS
  omega
theorem SpansOk.mem {S : List (Int × Int)} (h : SpansOk S) : ∀ p ∈ S, 0 ≤ p.1 ∧ p.1 < p.2 ∧ p.2 ≤ 1048576 := ((spans_iff S).2 h.2).1
/-- The surplus of the first jobs. -/
def surS (B : Int) (l : List Jb) (S : List (Int × Int)) (J : List Int) : Int := lsum (fun j => (jbA l j.toNat).2.2 - besS S (jbA l j.toNat)) J - roomS B S
theorem surS_nil (B : Int) (l : List Jb) (S : List (Int × Int)) : surS B l S [] = - roomS B S := by unfold surS; simp [lsum]
theorem surS_snoc (B : Int) (l : List Jb) (S : List (Int × Int)) (J : List Int) (j : Int) : surS B l S (J ++ [j]) = surS B l S J + ((jbA l j.toNat).2.2 - besS S (jbA l j.toNat)) := by unfold surS; rw [lsum_snoc]; omega

set_option maxRecDepth 100000 in
set_option maxHeartbeats 16000000 in
theorem isRefusal_any (B : Int) (hB : 1 ≤ B ∧ B ≤ 8) (A : Option Addr) (n c : Nat) (l : List Jb) (JA : Option Addr) (m1 c1 : Nat) (J : List Int) (SA : Option Addr) (m2 c2 : Nat) (S : List (Int × Int)) (w : World) (hn : l.length = n) (hn32 : n ≤ 32) (hV : JobsV l) (hp : Tris w A l)
    (hm1 : J.length = m1) (hb1 : m1 ≤ 281474976710656) (hJ : Ints w JA J) (hm2 : S.length = m2) (hb2 : m2 ≤ 281474976710656) (hS : Pts w SA S) :
    Calls Try.prog 43 #[.int .i64 B, .slice A n c, .slice JA m1 c1, .slice SA m2 c2] w (BoolP (RefuseP B l J S) w) := by
  have HRI : Hid (RefuseP B l J S ↔ AscOk l.length J ∧ SpansOk S ∧ 0 < surS B l S J) := Lib.hid refuse_iff
  have HN := Lib.hid hn
  have HM1 := Lib.hid hm1
  have HM2 := Lib.hid hm2
  have HV := Lib.hid hV
  have HP := Lib.hid hp
  have HJ := Lib.hid hJ
  have HS := Lib.hid hS
  have HA1 := Lib.hid (ascending_any JA m1 c1 n J w hm1 hb1 (by omega) hJ)
  have HA2 := Lib.hid (fun W (hW : Gr w W) => areSpans_any SA m2 c2 S W hm2 hb2 (hS.keep hW))
  clear hn hV hp hm1 hJ hm2 hS
  go_enter Try.func43, Try.ntmps43
  go_wp2_with fail
  refine HA1.out.mono ?_
  rintro e w1 ⟨r1, rfl, hr1, hg1⟩
  have HR1 := Lib.hid hr1
  have HA3 := Lib.hid (HA2.out w1 hg1)
  clear hr1 HA1 HA2
  cases r1 with
  | false =>
    go_wp2_with fail
    go_ret
    exact ⟨false, rfl, no_of (fun h => by have := HR1.out.2 (by rw [← HN.out]; exact (HRI.out.1 h).1); cases this), hg1⟩
  | true =>
    go_wp2_with fail
    refine HA3.out.mono ?_
    rintro e w2 ⟨r2, rfl, hr2, hg2⟩
    have HR2 := Lib.hid hr2
    have hgg := hg1.trans hg2
    clear hr2 HA3 hg1 hg2
    cases r2 with
    | false =>
      go_wp2_with fail
      go_ret
      exact ⟨false, rfl, no_of (fun h => by have := HR2.out.2 (HRI.out.1 h).2.1; cases this), hgg⟩
    | true =>
      have HASC : Hid (AscOk n J) := Lib.hid (HR1.out.1 (by trivial))
      have HSPN : Hid (SpansOk S) := Lib.hid (HR2.out.1 (by trivial))
      have h40 : m2 ≤ 4096 := by have := HSPN.out.1; rw [HM2.out] at this; exact this
      have h32 : m1 ≤ n := by have := asc_few HASC.out; rw [HM1.out] at this; exact this
      clear HR1 HR2
      go_wp2_with fail
      go_loopw [9, 26] (fun q z wr => ∃ (k : Nat) (L : Int), k ≤ m2 ∧ z = .int .i64 (k : Int) ∧ q = .int .i64 L ∧ (-(8388608 * (k : Int)) ≤ L ∧ L ≤ 0) ∧ Hid (L = - roomS B (S.take k)) ∧ Gr w2 wr) (fun _ z _ => m2 - (intOf z).toNat)
      case atStart => exact ⟨0, 0, Nat.zero_le _, rfl, rfl, ⟨by omega, by omega⟩, Lib.hid (by simp [roomS, lsum]), Gr.refl _⟩
      case round =>
        obtain ⟨k, L, hk, rfl, rfl, ⟨hL0, hL1⟩, hE, hgr⟩ := hrel
        by_cases hlt : k < m2
        · have hki : (k : Int) < (m2 : Int) := by omega
          have hkl : k < S.length := by rw [HM2.out]; exact hlt
          obtain ⟨b, off, rfl, x0, x1⟩ := Pts_at (HS.out.keep (hgg.trans hgr)) (k := k) hkl
          have HTK : Hid (S.take (k + 1) = S.take k ++ [S.getD k (0, 0)]) := Lib.hid (take_snoc S (0, 0) k hkl)
          have hpm := HSPN.out.mem _ (List.mem_of_getElem? (getD_of (0, 0) hkl))
          generalize S.getD k (0, 0) = p at x0 x1 HTK hpm
          obtain ⟨x, y⟩ := p
          dsimp only at x0 x1 HTK hpm
          obtain ⟨pr, hpr⟩ : ∃ pr, B * (y - x) = pr := ⟨_, rfl⟩
          have hprb := mul8 hB (x := y - x) ⟨by omega, by omega⟩
          rw [hpr] at hprb
          have i0 : IntKind.i64.wrap (y - x) = y - x := IntWalk.i64_in _ (by omega)
          have i1 : IntKind.i64.wrap (B * (y - x)) = pr := by rw [hpr]; exact IntWalk.i64_in _ (by omega)
          have i2 : IntKind.i64.wrap (L - pr) = L - pr := IntWalk.i64_in _ (by omega)
          have HE2 : Hid (L - pr = - roomS B (S.take (k + 1))) := Lib.hid (by rw [HTK.out, roomS_snoc, hE.out]; dsimp only; omega)
          have HLN := Lib.hid (fun W => length_any x y W i0)
          clear hpr hkl
          go_upto_region 7 with fail
          generalize hW3 : World.alloc wr _ = w3
          have hg3 : Gr wr w3 := by rw [← hW3]; exact (Gr.refl wr).alloc _
          have hZ : Blk w3 wr.heap.size 67 #[.int .i64 x, .int .i64 y] := by rw [← hW3]; exact heap_alloc_new wr _
          generalize wr.heap.size = Z at hZ ⊢
          have q0 := hZ.cell 0
          have q1 := hZ.cell 1
          have hgr3 := hgr.trans hg3
          clear hW3 hZ x0 x1 hg3 hgr
          go_wp2_with fail
          refine (HLN.out _).mono ?_
          rintro e w4 ⟨rfl, hg4⟩
          have hgr4 := hgr3.trans hg4
          clear hg4 HLN q0 q1
          go_wp2_with fail
          go_roundw
          case rel => exact ⟨k + 1, L - pr, by omega, by go_num, by first | rfl | go_num, ⟨by omega, by omega⟩, HE2, hgr4⟩
          case measure => simp [intOf]; omega
        · obtain rfl : m2 = k := by omega
          have HE0 : Hid (L = surS B l S (J.take 0)) := Lib.hid (by rw [List.take_zero, surS_nil, hE.out, List.take_of_length_le (by rw [HM2.out]; exact Nat.le_refl _)])
          have hLb : -34359738368 ≤ L ∧ L ≤ 0 := by omega
          have hgw := hgg.trans hgr
          clear hE hL0 hL1 hlt hgr hgg
          rename World => W1
          go_wp2_with fail
          go_loopw [9, 39] (fun q z wr => ∃ (k : Nat) (L : Int), k ≤ m1 ∧ z = .int .i64 (k : Int) ∧ q = .int .i64 L ∧ (-34359738368 - 1048576 * (k : Int) ≤ L ∧ L ≤ 4296015872 * (k : Int)) ∧ Hid (L = surS B l S (J.take k)) ∧ Gr w wr) (fun _ z _ => m1 - (intOf z).toNat)
          case atStart => exact ⟨0, L, Nat.zero_le _, rfl, rfl, ⟨by omega, by omega⟩, HE0, hgw⟩
          case round =>
            clear HE0 hLb hgw
            obtain ⟨k, L, hk, rfl, rfl, ⟨hL0, hL1⟩, hE, hgr⟩ := hrel
            by_cases hlt : k < m1
            · have hki : (k : Int) < (m1 : Int) := by omega
              have hkl : k < J.length := by rw [HM1.out]; exact hlt
              obtain ⟨bj, offj, rfl, x0⟩ := Ints_at (HJ.out.keep hgr) (i := k) hkl
              have HTK : Hid (J.take (k + 1) = J.take k ++ [J.getD k 0]) := Lib.hid (take_snoc J 0 k hkl)
              have hjm := ((asc_iff n J).2 HASC.out).1 _ (List.mem_of_getElem? (getD_of 0 hkl))
              generalize J.getD k 0 = jv at x0 HTK hjm
              obtain ⟨i, rfl⟩ : ∃ i : Nat, jv = i := ⟨jv.toNat, by omega⟩
              have hil : i < l.length := by rw [HN.out]; omega
              obtain ⟨b, off, rfl, y0, y1, y2⟩ := Tris_at (HP.out.keep hgr) (i := i) hil
              have hja : l.getD i (0, 0, 0) = jbA l i := rfl
              rw [hja] at y0 y1 y2
              have hbd := HV.out.bd hil
              have hbs := besS_bd hbd.1 (S := S) (fun p hp => (HSPN.out.mem p hp).2.1)
              have HTB := Lib.hid (fun W (hW : Gr w W) => timeBeside_any (jbA l i) hbd.1 SA m2 c2 S W HM2.out h40 HSPN.out.mem (HS.out.keep hW))
              rw [HM2.out] at hbs
              have HE2 : Hid (L + ((jbA l i).2.2 - besS S (jbA l i)) = surS B l S (J.take (k + 1))) := Lib.hid (by rw [HTK.out, surS_snoc, hE.out, Int.toNat_natCast])
              clear hja
              generalize jbA l i = jb at y0 y1 y2 hbd hbs HTB HE2
              generalize besS S jb = bs at hbs HTB HE2
              obtain ⟨ja, jd, jw⟩ := jb
              dsimp only at y0 y1 y2 hbd HTB HE2
              have hii : (i : Int) < (n : Int) := by omega
              have hi0 : (0 : Int) ≤ (i : Int) := by omega
              have i1 : IntKind.i64.wrap (jw - bs) = jw - bs := IntWalk.i64_in _ (by omega)
              have i2 : IntKind.i64.wrap (L + (jw - bs)) = L + (jw - bs) := IntWalk.i64_in _ (by omega)
              have hb0 : -34359738368 - 1048576 * ((k : Int) + 1) ≤ L + (jw - bs) ∧ L + (jw - bs) ≤ 4296015872 * ((k : Int) + 1) := by omega
              have KS : Hid (∀ W', Gr wr W' → Gr wr W' ∧ W'.cell? ⟨b, off + i * 3, none⟩ = some (.int .i64 ja) ∧ W'.cell? ⟨b, off + i * 3 + 1, none⟩ = some (.int .i64 jd) ∧ W'.cell? ⟨b, off + i * 3 + 2, none⟩ = some (.int .i64 jw)) := Lib.hid (fun W' hg => ⟨hg, hg.keep y0, hg.keep y1, hg.keep y2⟩)
              clear hjm hkl hil
              go_upto_region 12 with fail
              refine wp_region_held_drew (S := (fun W' => Gr wr W' ∧ W'.cell? ⟨b, off + i * 3, none⟩ = some (.int .i64 ja) ∧ W'.cell? ⟨b, off + i * 3 + 1, none⟩ = some (.int .i64 jd) ∧ W'.cell? ⟨b, off + i * 3 + 2, none⟩ = some (.int .i64 jw))) ?_ ?_ (fun hHeld => ?_)
              · kernel_rfl
              · ((try dsimp only); (first | exact hHeld | exact KS.out _ (Gr.refl wr).drew | exact KS.out _ HGA.out))
              refine take_in (i := 0) (v := ?_) (d := (some 43)) rfl rfl ?_ ?_ ?_ ?_ ?_ ?_ ?_ ?_
              rotate_left
              · kernel_rfl
              · kernel_rfl
              · kernel_rfl
              · (intro _ _ _ hq; exact hq)
              · rfl
              · (intro _w hSw; (try dsimp only at hSw); go_simp; try with_reducible rfl)
              · assumption
              try simp only [Act.put, List.setIfInBounds_toArray, List.set_cons_zero, List.set_cons_succ]
              refine take_in (i := 1) (v := ?_) (d := (some 44)) rfl rfl ?_ ?_ ?_ ?_ ?_ ?_ ?_ ?_
              rotate_left
              · kernel_rfl
              · kernel_rfl
              · kernel_rfl
              · (intro _ _ _ hq; exact hq)
              · rfl
              · (intro _w hSw; (try dsimp only at hSw); go_simp; try with_reducible rfl)
              · assumption
              try simp only [Act.put, List.setIfInBounds_toArray, List.set_cons_zero, List.set_cons_succ]
              refine take_in (i := 2) (v := ?_) (d := (some 45)) rfl rfl ?_ ?_ ?_ ?_ ?_ ?_ ?_ ?_
              rotate_left
              · kernel_rfl
              · kernel_rfl
              · kernel_rfl
              · (intro _ _ _ hq; exact hq)
              · rfl
              · (intro _w hSw; (try dsimp only at hSw); go_simp; try with_reducible rfl)
              · assumption
              try simp only [Act.put, List.setIfInBounds_toArray, List.set_cons_zero, List.set_cons_succ]
              refine take_in (i := 3) (v := ?_) (d := (some 46)) rfl rfl ?_ ?_ ?_ ?_ ?_ ?_ ?_ ?_
              rotate_left
              · kernel_rfl
              · kernel_rfl
              · kernel_rfl
              · (intro _ _ _ hq; exact hq)
              · rfl
              · (intro _w hSw; (try dsimp only at hSw); go_simp; try with_reducible rfl)
              · assumption
              try simp only [Act.put, List.setIfInBounds_toArray, List.set_cons_zero, List.set_cons_succ]
              refine take_in (i := 4) (v := ?_) (d := (some 47)) rfl rfl ?_ ?_ ?_ ?_ ?_ ?_ ?_ ?_
              rotate_left
              · kernel_rfl
              · kernel_rfl
              · kernel_rfl
              · (intro _ _ _ hq; exact hq)
              · rfl
              · (intro _w hSw; (try dsimp only at hSw); go_simp; try with_reducible rfl)
              · assumption
              try simp only [Act.put, List.setIfInBounds_toArray, List.set_cons_zero, List.set_cons_succ]
              refine take_in (i := 5) (v := ?_) (d := (some 48)) rfl rfl ?_ ?_ ?_ ?_ ?_ ?_ ?_ ?_
              rotate_left
              · kernel_rfl
              · kernel_rfl
              · kernel_rfl
              · (intro _ _ _ hq; exact hq)
              · rfl
              · (intro _w hSw; (try dsimp only at hSw); go_simp; try with_reducible rfl)
              · assumption
              try simp only [Act.put, List.setIfInBounds_toArray, List.set_cons_zero, List.set_cons_succ]
              refine take_in (i := 6) (v := ?_) (d := (some 49)) rfl rfl ?_ ?_ ?_ ?_ ?_ ?_ ?_ ?_
              rotate_left
              · kernel_rfl
              · kernel_rfl
              · kernel_rfl
              · (intro _ _ _ hq; exact hq)
              · rfl
              · (intro _w hSw; (try dsimp only at hSw); go_simp; try with_reducible rfl)
              · assumption
              try simp only [Act.put, List.setIfInBounds_toArray, List.set_cons_zero, List.set_cons_succ]
              refine take_in (i := 7) (v := ?_) (d := (some 50)) rfl rfl ?_ ?_ ?_ ?_ ?_ ?_ ?_ ?_
              rotate_left
              · kernel_rfl
              · kernel_rfl
              · kernel_rfl
              · (intro _ _ _ hq; exact hq)
              · rfl
              · (intro _w hSw; (try dsimp only at hSw); go_simp; try with_reducible rfl)
              · assumption
              try simp only [Act.put, List.setIfInBounds_toArray, List.set_cons_zero, List.set_cons_succ]
              refine take_in (i := 8) (v := ?_) (d := (some 51)) rfl rfl ?_ ?_ ?_ ?_ ?_ ?_ ?_ ?_
              rotate_left
              · kernel_rfl
              · kernel_rfl
              · kernel_rfl
              · (intro _ _ _ hq; exact hq)
              · rfl
              · (intro _w hSw; (try dsimp only at hSw); go_simp; try with_reducible rfl)
              · assumption
              try simp only [Act.put, List.setIfInBounds_toArray, List.set_cons_zero, List.set_cons_succ]
              refine take_in (i := 9) (v := ?_) (d := (some 52)) rfl rfl ?_ ?_ ?_ ?_ ?_ ?_ ?_ ?_
              rotate_left
              · kernel_rfl
              · kernel_rfl
              · kernel_rfl
              · (intro _ _ _ hq; exact hq)
              · rfl
              · (intro _w hSw; (try dsimp only at hSw); go_simp; try with_reducible rfl)
              · assumption
              try simp only [Act.put, List.setIfInBounds_toArray, List.set_cons_zero, List.set_cons_succ]
              refine take_in (i := 10) (v := ?_) (d := (some 53)) rfl rfl ?_ ?_ ?_ ?_ ?_ ?_ ?_ ?_
              rotate_left
              · kernel_rfl
              · kernel_rfl
              · kernel_rfl
              · (intro _ _ _ hq; exact hq)
              · rfl
              · (intro _w hSw; (try dsimp only at hSw); go_simp; try with_reducible rfl)
              · assumption
              try simp only [Act.put, List.setIfInBounds_toArray, List.set_cons_zero, List.set_cons_succ]
              refine wpAnyH_ready (rs := [11]) ?_ ?_ ?_
              · kernel_rfl
              · simp
              refine (AllReadyH.cons rfl (fun K hK => ?_) AllReadyH.nil)
              go_simp
              first | (go_at_call 63; (with_reducible refine (HTB.out _ (hgr.trans hHeld.1)).mono ?_); rintro e w3 ⟨rfl, hw3⟩; have HGA := Lib.hid (hHeld.1.trans hw3); clear hw3)
              refine hK.out _ _ ?_ (fun hHeld => ?_)
              · ((try dsimp only); (first | exact hHeld | exact KS.out _ (Gr.refl wr).drew | exact KS.out _ HGA.out))
              clear hK K
              try simp only [Act.put, List.setIfInBounds_toArray, List.set_cons_zero, List.set_cons_succ]
              refine take_in (i := 12) (v := ?_) (d := (some 55)) rfl rfl ?_ ?_ ?_ ?_ ?_ ?_ ?_ ?_
              rotate_left
              · kernel_rfl
              · kernel_rfl
              · kernel_rfl
              · (intro _ _ _ hq; exact hq)
              · rfl
              · (intro _w hSw; (try dsimp only at hSw); go_simp; try with_reducible rfl)
              · assumption
              try simp only [Act.put, List.setIfInBounds_toArray, List.set_cons_zero, List.set_cons_succ]
              refine take_in (i := 13) (v := ?_) (d := (some 56)) rfl rfl ?_ ?_ ?_ ?_ ?_ ?_ ?_ ?_
              rotate_left
              · kernel_rfl
              · kernel_rfl
              · kernel_rfl
              · (intro _ _ _ hq; exact hq)
              · rfl
              · (intro _w hSw; (try dsimp only at hSw); go_simp; try with_reducible rfl)
              · assumption
              try simp only [Act.put, List.setIfInBounds_toArray, List.set_cons_zero, List.set_cons_succ]
              refine take_in (i := 14) (v := ?_) (d := (some 9)) rfl rfl ?_ ?_ ?_ ?_ ?_ ?_ ?_ ?_
              rotate_left
              · kernel_rfl
              · kernel_rfl
              · kernel_rfl
              · (intro _ _ _ hq; exact hq)
              · rfl
              · (intro _w hSw; (try dsimp only at hSw); go_simp; try with_reducible rfl)
              · assumption
              try simp only [Act.put, List.setIfInBounds_toArray, List.set_cons_zero, List.set_cons_succ]
              refine wpAnyH_done ?_ ?_ _
              · kernel_rfl
              rotate_left
              all_goals
                have hgf := hgr.trans hHeld.1
                clear hHeld
                go_wp2_with fail
                go_roundw
                case rel => exact ⟨k + 1, L + (jw - bs), by omega, by go_num, by first | rfl | go_num, ⟨by omega, by omega⟩, HE2, hgf⟩
                case measure => simp [intOf]; omega
            · obtain rfl : k = m1 := by omega
              have HE1 : Hid (L = surS B l S J) := Lib.hid (by rw [hE.out, List.take_of_length_le (by rw [HM1.out]; exact Nat.le_refl _)])
              clear hE hlt
              go_wp2_with fail
              try rw [Exit.noGoto_ret]
              go_ret
              exact ⟨decide (0 < L), by first | rfl | exact ret_bool rfl, ⟨fun h => HRI.out.2 ⟨by rw [HN.out]; exact HASC.out, HSPN.out, by rw [← HE1.out]; exact of_decide_eq_true h⟩, fun h => decide_eq_true (by rw [HE1.out]; exact (HRI.out.1 h).2.2)⟩, hgr⟩

end Go.Proofs.Ytfmojiaaoebodaa

namespace Go.Proofs.Ytfmojiaaoebodaa
open Go.RowKit
set_option linter.unusedSimpArgs false

/-- A right answer. -/
def RightP (B : Int) (l : List Jb) (p : Bool) (s : List Sl) (J : List Int) (S : List (Int × Int)) : Prop :=
  if p = true then J = [] ∧ S = [] ∧ SchedP B l s else s = [] ∧ RefuseP B l J S
theorem RightP.yes {B : Int} {l : List Jb} {s : List Sl} {J : List Int} {S : List (Int × Int)} : RightP B l true s J S ↔ J = [] ∧ S = [] ∧ SchedP B l s := by unfold RightP; simp
theorem RightP.no {B : Int} {l : List Jb} {s : List Sl} {J : List Int} {S : List (Int × Int)} : RightP B l false s J S ↔ s = [] ∧ RefuseP B l J S := by unfold RightP; simp
/-- An answer's lists in memory. -/
structure AnsR (w : World) (C : Option Addr) (m cc : Nat) (s : List Sl) (JA : Option Addr) (m1 : Nat) (J : List Int) (SA : Option Addr) (m2 : Nat) (S : List (Int × Int)) : Prop where
  hm : s.length = m
  hmb : m ≤ 281474976710656
  hC : C = none → m = 0 ∧ cc = 0
  hsp : ∀ a, C = some a → a.spot = none
  hs : Rd 4 enc4 w C s
  hm1 : J.length = m1
  hb1 : m1 ≤ 281474976710656
  hJ : Ints w JA J
  hm2 : S.length = m2
  hb2 : m2 ≤ 281474976710656
  hS : Pts w SA S
theorem AnsR.keep {w w' : World} {C : Option Addr} {m cc : Nat} {s : List Sl} {JA : Option Addr} {m1 : Nat} {J : List Int} {SA : Option Addr} {m2 : Nat} {S : List (Int × Int)} (h : AnsR w C m cc s JA m1 J SA m2 S) (hg : Gr w w') : AnsR w' C m cc s JA m1 J SA m2 S :=
  ⟨h.hm, h.hmb, h.hC, h.hsp, h.hs.keep hg, h.hm1, h.hb1, h.hJ.keep hg, h.hm2, h.hb2, h.hS.keep hg⟩
theorem ne_nil_of {α : Type} {l : List α} {m : Nat} (h : l.length = m) (hm : m ≠ 0) : ¬ l = [] := fun e => hm (by rw [← h, e]; rfl)

set_option maxRecDepth 100000 in
set_option maxHeartbeats 8000000 in
theorem isRight_any (B : Int) (hB : 1 ≤ B ∧ B ≤ 8) (A : Option Addr) (n c : Nat) (l : List Jb) (p : Bool) (C : Option Addr) (m cc : Nat) (s : List Sl) (JA : Option Addr) (m1 c1 : Nat) (J : List Int) (SA : Option Addr) (m2 c2 : Nat) (S : List (Int × Int)) (w : World) (hn : l.length = n) (hn32 : n ≤ 32) (hV : JobsV l) (hp : Tris w A l) (hR : AnsR w C m cc s JA m1 J SA m2 S) :
    Calls Try.prog 21 #[.int .i64 B, .slice A n c, .agg #[.bool p, .slice C m cc, .slice JA m1 c1, .slice SA m2 c2]] w (BoolP (RightP B l p s J S) w) := by
  have HSC := Lib.hid (fun W (hW : Gr w W) => isSchedule_any B A n c l C m cc s W hn hn32 hV (hp.keep hW) hR.hm hR.hmb hR.hC hR.hsp (hR.hs.keep hW))
  have HRF := Lib.hid (fun W (hW : Gr w W) => isRefusal_any B hB A n c l JA m1 c1 J SA m2 c2 S W hn hn32 hV (hp.keep hW) hR.hm1 hR.hb1 (hR.hJ.keep hW) hR.hm2 hR.hb2 (hR.hS.keep hW))
  have HR := Lib.hid hR
  clear hn hV hp hR
  have hga := (Gr.refl w).alloc (.cells #[.bool p, .slice C m cc, .slice JA m1 c1, .slice SA m2 c2] 28)
  have HSC1 := Lib.hid (HSC.out _ hga)
  have HRF1 := Lib.hid (HRF.out _ hga)
  clear HSC HRF
  cases p with
  | true =>
    by_cases h1 : m1 = 0
    · by_cases h2 : m2 = 0
      · have HQ : Hid (RightP B l true s J S ↔ SchedP B l s) := Lib.hid (by
          rw [RightP.yes]
          exact ⟨fun h => h.2.2, fun h => ⟨List.eq_nil_of_length_eq_zero (HR.out.hm1.trans h1), List.eq_nil_of_length_eq_zero (HR.out.hm2.trans h2), h⟩⟩)
        subst h1
        subst h2
        go_enter Try.func21, Try.ntmps21
        go_wp2_with fail
        refine HSC1.out.mono ?_
        rintro e w2 ⟨r, rfl, hr, hg2⟩
        have HRR := Lib.hid hr
        clear hr HSC1 HRF1
        go_wp2_with fail
        go_ret
        exact ⟨r, rfl, by rw [HQ.out]; exact HRR.out, hga.trans hg2⟩
      · have HQ : Hid (¬ RightP B l true s J S) := Lib.hid (by rw [RightP.yes]; exact fun h => ne_nil_of HR.out.hm2 h2 h.2.1)
        subst h1
        have hd : ((m2 : Int) == 0) = false := by simpa using h2
        clear HSC1 HRF1
        go_enter Try.func21, Try.ntmps21
        go_wp2_with fail
        go_ret
        exact ⟨false, rfl, no_of HQ.out, hga⟩
    · have HQ : Hid (¬ RightP B l true s J S) := Lib.hid (by rw [RightP.yes]; exact fun h => ne_nil_of HR.out.hm1 h1 h.1)
      have hd : ((m1 : Int) == 0) = false := by simpa using h1
      clear HSC1 HRF1
      go_enter Try.func21, Try.ntmps21
      go_wp2_with fail
      go_ret
      exact ⟨false, rfl, no_of HQ.out, hga⟩
  | false =>
    by_cases h1 : m = 0
    · have HQ : Hid (RightP B l false s J S ↔ RefuseP B l J S) := Lib.hid (by
        rw [RightP.no]
        exact ⟨fun h => h.2, fun h => ⟨List.eq_nil_of_length_eq_zero (HR.out.hm.trans h1), h⟩⟩)
      subst h1
      go_enter Try.func21, Try.ntmps21
      go_wp2_with fail
      refine HRF1.out.mono ?_
      rintro e w2 ⟨r, rfl, hr, hg2⟩
      have HRR := Lib.hid hr
      clear hr HSC1 HRF1
      go_wp2_with fail
      go_ret
      exact ⟨r, rfl, by rw [HQ.out]; exact HRR.out, hga.trans hg2⟩
    · have HQ : Hid (¬ RightP B l false s J S) := Lib.hid (by rw [RightP.no]; exact fun h => ne_nil_of HR.out.hm h1 h.1)
      have hd : ((m : Int) == 0) = false := by simpa using h1
      clear HSC1 HRF1
      go_enter Try.func21, Try.ntmps21
      go_wp2_with fail
      go_ret
      exact ⟨false, rfl, no_of HQ.out, hga⟩

/-- What Check answers. -/
def CheckP (B : Int) (l : List Jb) (p : Bool) (s : List Sl) (J : List Int) (S : List (Int × Int)) (w : World) (e : Ending) (w' : World) : Prop :=
  ∃ r : Int, e = .returned (.int .i64 r) ∧ Gr w w' ∧ (okT B l = false → r = 2) ∧ (okT B l = true → RightP B l p s J S → r = 0) ∧ (okT B l = true → ¬ RightP B l p s J S → r = 10)

set_option maxRecDepth 100000 in
set_option maxHeartbeats 8000000 in
theorem check_any (B : Int) (A : Option Addr) (n c : Nat) (l : List Jb) (p : Bool) (C : Option Addr) (m cc : Nat) (s : List Sl) (JA : Option Addr) (m1 c1 : Nat) (J : List Int) (SA : Option Addr) (m2 c2 : Nat) (S : List (Int × Int)) (w : World) (hn : l.length = n) (hnb : n ≤ 281474976710656) (hp : Tris w A l) (hR : AnsR w C m cc s JA m1 J SA m2 S) :
    Calls Try.prog 9 #[.int .i64 B, .slice A n c, .agg #[.bool p, .slice C m cc, .slice JA m1 c1, .slice SA m2 c2]] w (CheckP B l p s J S w) := by
  have HIT := Lib.hid (fun W (hW : Gr w W) r hr => isTask_any B A n c l W hn hnb (hp.keep hW) r hr)
  have hga := (Gr.refl w).alloc (.cells #[.bool p, .slice C m cc, .slice JA m1 c1, .slice SA m2 c2] 28)
  have hZ : Blk (w.alloc (.cells #[.bool p, .slice C m cc, .slice JA m1 c1, .slice SA m2 c2] 28)) w.heap.size 28 #[.bool p, .slice C m cc, .slice JA m1 c1, .slice SA m2 c2] := heap_alloc_new w _
  cases hr : okT B l with
  | false =>
    have HE := Lib.hid hr
    have HI2 := Lib.hid (HIT.out _ hga _ hr)
    clear hr hn hp hR hZ HIT
    go_enter Try.func9, Try.ntmps9
    go_wp2_with fail
    refine HI2.out.mono ?_
    rintro e w2 ⟨rfl, hg2⟩
    go_wp2_with fail
    go_ret
    refine ⟨2, rfl, hga.trans hg2, fun _ => rfl, fun h => ?_, fun h => ?_⟩
    · rw [HE.out] at h; cases h
    · rw [HE.out] at h; cases h
  | true =>
    obtain ⟨hB, hn32, hV⟩ := okT_v hr
    rw [hn] at hn32
    have HE := Lib.hid hr
    have HI2 := Lib.hid (HIT.out _ hga _ hr)
    have HIR := Lib.hid (fun W (hW : Gr w W) => isRight_any B hB A n c l p C m cc s JA m1 c1 J SA m2 c2 S W hn hn32 hV (hp.keep hW) (hR.keep hW))
    have HZ := Lib.hid hZ
    clear hr hn hp hR hZ HIT hV
    go_enter Try.func9, Try.ntmps9
    go_wp2_with fail
    generalize World.alloc w _ = w1 at hga HZ HI2 ⊢
    generalize w.heap.size = D at HZ ⊢
    refine HI2.out.mono ?_
    rintro e w2 ⟨rfl, hg2⟩
    have hgg := hga.trans hg2
    have HZ2 := Lib.hid (HZ.out.keep hg2)
    have HIR2 := Lib.hid (HIR.out w2 hgg)
    have q0 := HZ2.out.cell 0
    have q1 := HZ2.out.cell 1
    have q2 := HZ2.out.cell 2
    have q3 := HZ2.out.cell 3
    clear HI2 HZ hg2 hga HIR
    go_wp2_with fail
    refine HIR2.out.mono ?_
    rintro e w3 ⟨r, rfl, hr, hg3⟩
    have HRR := Lib.hid hr
    clear hr HIR2
    cases r with
    | false =>
      go_wp2_with fail
      go_ret
      refine ⟨10, rfl, hgg.trans hg3, fun h => ?_, fun _ h => ?_, fun _ _ => rfl⟩
      · rw [HE.out] at h; cases h
      · have := HRR.out.2 h; cases this
    | true =>
      go_wp2_with fail
      go_ret
      refine ⟨0, rfl, hgg.trans hg3, fun h => ?_, fun _ _ => rfl, fun _ h => absurd (HRR.out.1 (by trivial)) h⟩
      rw [HE.out] at h; cases h

end Go.Proofs.Ytfmojiaaoebodaa
