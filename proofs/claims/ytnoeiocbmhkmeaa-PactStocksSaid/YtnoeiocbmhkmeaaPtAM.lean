/- Layer 5: the probe. -/
import Derived.Test.YtnoeiocbmhkmeaaPtAL
namespace Go.Proofs.Ytnoeiocbmhkmeaa
open Go.RowKit
set_option linter.unusedSimpArgs false

theorem two_ints {w W : World} {t : TypeId} {a b : Int} (hW : w.alloc (.cells #[.int .i64 a, .int .i64 b] t) = W) : Ints W (some ⟨w.heap.size, 0, none⟩) [a, b] := by
  have h1 := box2q hW
  intro i x hx
  refine ⟨w.heap.size, 0, rfl, fun j v hv => ?_⟩
  match i, hx with
  | 0, hx => 
    injection hx with hx; subst hx
    match j, hv with
    | 0, hv => injection hv with hv; subst hv; exact h1.2.1
  | 1, hx =>
    injection hx with hx; subst hx
    match j, hv with
    | 0, hv => injection hv with hv; subst hv; exact h1.2.2
theorem two_moves {w W : World} {t : TypeId} {a b c d : Int} (hW : w.alloc (.cells #[.int .i64 a, .int .i64 b, .int .i64 c, .int .i64 d] t) = W) : Gr w W ∧ Pts W (some ⟨w.heap.size, 0, none⟩) [(a, b), (c, d)] ∧ w.heap.size < W.heap.size := by
  subst hW
  refine ⟨(Gr.refl w).alloc _, ?_, by simp⟩
  intro i x hx
  refine ⟨w.heap.size, 0, rfl, fun j v hv => ?_⟩
  match i, hx with
  | 0, hx =>
    injection hx with hx; subst hx
    match j, hv with
    | 0, hv => injection hv with hv; subst hv; exact alloc_new rfl rfl
    | 1, hv => injection hv with hv; subst hv; exact alloc_new rfl rfl
  | 1, hx =>
    injection hx with hx; subst hx
    match j, hv with
    | 0, hv => injection hv with hv; subst hv; exact alloc_new rfl rfl
    | 1, hv => injection hv with hv; subst hv; exact alloc_new rfl rfl
theorem okTwo : okStocks [10, 0] = true := by decide
theorem begTwo : begE (newN [10, 0]) 0 [(0, -4), (1, 4)] = 0 ∧ begT (newN [10, 0]) 0 [(0, -4), (1, 4)] = 1 := ⟨by rfl, by rfl⟩

set_option maxRecDepth 100000 in
set_option maxHeartbeats 8000000 in
theorem awake5_any (w : World) : Calls Try.prog 12 #[] w fun e w' => e = .returned (.bool true) ∧ Gr w w' := by
  go_enter Try.func12, Try.ntmps12
  go_wp2_with fail
  generalize hW1 : World.alloc w _ = w1
  have hg1 : Gr w w1 := by rw [← hW1]; exact (Gr.refl w).alloc _
  have HI := Lib.hid (two_ints hW1)
  generalize w.heap.size = U at HI ⊢
  clear hW1
  refine (New_any (some ⟨U, 0, none⟩) 2 2 [10, 0] w1 rfl (by omega) HI.out).mono ?_
  rintro e w2 (⟨hno, -⟩ | ⟨-, N, rfl, hnet, hnl, hml, hbg, hg2⟩)
  · rw [okTwo] at hno; cases hno
  have hnz := newN_of hnl hml hbg
  have hgr2 := hg1.trans hg2
  obtain ⟨B, hB⟩ : ∃ B, w1.heap.size = B := ⟨_, rfl⟩
  rw [hB] at hnet
  have HB : Hid (w.heap.size ≤ B) := Lib.hid (by rw [← hB]; exact hg1.size)
  have HNZ := Lib.hid hnz
  have HNET := Lib.hid hnet
  clear hnl hml hbg hg2 hg1 hB hnz hnet HI
  go_wp2_with fail
  generalize hW3 : World.alloc w2 _ = w3
  obtain ⟨hg3, hpt, hlt⟩ := two_moves hW3
  have HNET3 := Lib.hid (HNET.out.keep hg3)
  have HNO : Hid (w2.heap.size ∉ ownB N) := Lib.hid (fun hm => by have := (HNET.out.own _ hm).2; omega)
  have HPT := Lib.hid (And.intro hpt hlt)
  generalize w2.heap.size = Z at HNO HPT ⊢
  have hgr3 := hgr2.trans hg3
  clear hW3 hpt hlt
  refine (Begin_all 0 (some ⟨Z, 0, none⟩) 2 2 [(0, -4), (1, 4)] w3 HNET3.out (by rw [HNZ.out]; exact newN_ok okTwo) rfl (by omega) (fun W hW => HPT.out.1.ch hW HNO.out HPT.out.2) (by intro p hp; simp at hp; rcases hp with rfl | rfl <;> (unfold I64; dsimp only; omega))).mono ?_
  rintro e w4 ⟨rfl, N1, hnz1, hto1⟩
  rw [HNZ.out] at hnz1
  have hb1 : begT N 0 [(0, -4), (1, 4)] = 1 := by rw [← begT_nz, HNZ.out]; exact begTwo.2
  have hb2 : begE N 0 [(0, -4), (1, 4)] = 0 := by rw [← begE_nz, HNZ.out]; exact begTwo.1
  rw [hb1, hb2]
  have HS : Hid (nzN N1 = seqV 0) := Lib.hid hnz1
  have hgr4 : Gr w w4 := hto1.ch.up hgr3 (fun g hg => Nat.le_trans HB.out (HNET3.out.own g hg).1)
  have HN1 := Lib.hid hto1.net
  have hp1 := hto1.p
  obtain ⟨p, hp⟩ : ∃ p, N.p = p := ⟨_, rfl⟩
  rw [hp] at hp1 ⊢
  have HP1 := Lib.hid hp1
  clear hto1 hnz1 hb1 hb2 hp1 hp hgr3 hgr2 HNET3 HPT HNO HNET HNZ
  go_wp2_with fail
  go_loopw [5] (fun z wr => ∃ (i : Nat) (M : Nx), i ≤ 8 ∧ z = .int .i64 (i : Int) ∧ Hid (nzN M = seqV i) ∧ Hid (M.p = p) ∧ Hid (NetR B wr M) ∧ Gr w wr) (fun z _ => 8 - (intOf z).toNat)
  case atStart => exact ⟨0, N1, by omega, rfl, HS, HP1, HN1, hgr4⟩
  case round =>
    obtain ⟨i, M, hi, rfl, hs, hp, hn, hgr⟩ := hrel
    have hok : OkN (nzN M) := by rw [hs.out]; exact seq_ok i
    have hle := fun W (hW : Gr wr W) => Letters_any (hn.out.keep hW) hok.room
    have hde := fun W (hW : Gr wr W) => Deliver_all 0 (hn.out.keep hW) hok
    have hst := fun (x : Int) W (hW : Gr wr W) => Stock_any (hn.out.keep hW) x
    have hse := fun W (hW : Gr wr W) => Settled_any (hn.out.keep hW) (by rw [← nz_len]; exact hok.lo)
    simp only [hp.out] at hle hde hst hse
    have HLE := Lib.hid hle
    have HDE := Lib.hid hde
    have HST := Lib.hid hst
    have HSE := Lib.hid hse
    clear hle hde hst hse
    by_cases h8 : i < 8
    · have hpos : 0 < M.mail.length := by
        have h1 := seq_some i h8
        rw [← hs.out] at h1
        exact List.length_pos_iff.2 h1
      have HNX : Hid (delI (nzN M) 0 = seqV (i + 1)) := Lib.hid (by
        have h1 : refL (nzN M) 0 = 0 := by
          unfold refL
          have h2 := hok.lo
          have h3 : (nzN M).mail.length = M.mail.length := rfl
          rw [if_neg (by omega), if_neg (by omega)]
        unfold delI
        rw [if_pos h1, hs.out]
        rfl)
      obtain ⟨q, hq⟩ : ∃ q, M.mail.length = q := ⟨_, rfl⟩
      have HQ := Lib.hid hq
      rw [hq] at hpos
      have hqi : (0 : Int) < (q : Int) := by omega
      have hi20 : (i : Int) < 20 := by omega
      clear hq hok
      go_wp2_with fail
      refine (HLE.out _ (Gr.refl _)).mono ?_
      rintro e w5 ⟨A, c, rfl, -, hg5, -⟩
      rw [HQ.out]
      go_wp2_with fail
      refine (HDE.out _ hg5).mono ?_
      rintro e w6 ⟨rfl, M', hm', hto⟩
      have hgr6 : Gr w w6 := hto.ch.up (hgr.trans hg5) (fun g hg => Nat.le_trans HB.out (hn.out.own g hg).1)
      have HM := Lib.hid (And.intro (hm'.trans HNX.out) (And.intro (hto.p.trans hp.out) hto.net))
      clear hm' hto hg5 hgr
      go_wp2_with fail
      go_roundw
      case rel => exact ⟨i + 1, M', by omega, by go_num, Lib.hid HM.out.1, Lib.hid HM.out.2.1, Lib.hid HM.out.2.2, hgr6⟩
      case measure => simp [intOf]; omega
    · obtain rfl : i = 8 := by omega
      have hz : M.mail.length = 0 := by
        have h1 := seq_none
        rw [← hs.out] at h1
        exact List.length_eq_zero_iff.2 h1
      have HQ := Lib.hid hz
      have e1 : stockN M 0 = 6 := by rw [← stockN_nz, hs.out]; exact seq_end.1
      have e2 : stockN M 1 = 4 := by rw [← stockN_nz, hs.out]; exact seq_end.2.1
      have e3 : settledN M = true := by rw [← settledN_nz, hs.out]; exact seq_end.2.2.1
      have e4 : refS M 0 = 0 := by rw [← refS_nz, hs.out]; exact seq_end.2.2.2.1
      have e5 : refS M 1 = 0 := by rw [← refS_nz, hs.out]; exact seq_end.2.2.2.2
      have HE := Lib.hid (And.intro e1 (And.intro e2 (And.intro e3 (And.intro e4 e5))))
      clear e1 e2 e3 e4 e5 hz hok h8 hi
      go_wp2_with fail
      refine (HLE.out _ (Gr.refl _)).mono ?_
      rintro e w5 ⟨A, c, rfl, -, hg5, -⟩
      rw [HQ.out]
      go_wp2_with fail
      refine (HST.out 0 _ hg5).mono ?_
      rintro e w6 ⟨rfl, rfl⟩
      rw [HE.out.1, HE.out.2.2.2.1]
      go_wp2_with fail
      refine (HST.out 1 _ hg5).mono ?_
      rintro e w7 ⟨rfl, rfl⟩
      rw [HE.out.2.1, HE.out.2.2.2.2]
      go_wp2_with fail
      refine (HSE.out _ hg5).mono ?_
      rintro e w8 ⟨rfl, rfl⟩
      rw [HE.out.2.2.1]
      have hF := hgr.trans hg5
      clear hg5 hgr
      go_wp2_with fail
      go_ret
      exact ⟨rfl, hF⟩

end Go.Proofs.Ytnoeiocbmhkmeaa
