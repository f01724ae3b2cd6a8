/- Layer 4: the law BenchEnough as a walk. -/
import Derived.Test.YtngcgienhdifaaaBnAwake
namespace Go.Proofs.Ytngcgienhdifaaa
open Go.RowKit
set_option linter.unusedSimpArgs false

theorem okT_ben {B C : Int} {l : List Jb} (h : okT B l = true) (hC : 1 ≤ C ∧ C ≤ 8) : okT C l = true := by
  unfold okT at *
  simp only [Bool.and_eq_true, decide_eq_true_eq] at *
  exact ⟨⟨hC, h.1.2⟩, h.2⟩
/-- A job that does not fit its time cannot be done. -/
theorem Poss.fits {B : Nat} {l : List Jb} (hV : JobsV l) (h : Poss B l) {j : Nat} (hj : j < l.length) : (jbA l j).2.2 ≤ (jbA l j).2.1 - (jbA l j).1 := by
  obtain ⟨s, hs⟩ := h
  refine Classical.byContradiction fun hn => dual hV.three hs (J := [(j : Int)]) (S := []) ⟨by simp, ⟨fun p hp => by simp at hp, by simp⟩, fun i hi => ?_, by simp, ?_⟩
  · obtain rfl := List.mem_singleton.1 hi; omega
  · simp only [lsum, roomS, besS, Int.toNat_natCast]; omega

set_option maxRecDepth 100000 in
set_option maxHeartbeats 8000000 in
theorem lawEnough_any (A : Option Addr) (n c : Nat) (l : List Jb) (w : World) (hn : l.length = n) (hl : n ≤ 9223372036854775807) (_hc : n ≤ c) (_h0 : A = none → c = 0) (hp : Tris w A l) :
    Calls Try.prog 10 #[.slice A n c] w fun e w' => e = .returned (.bool true) ∧ Gr w w' := by
  obtain ⟨k, hk⟩ : ∃ k, (tmL4 12 l).length = k := ⟨_, rfl⟩
  have HTM := Lib.hid (tame_any 1 12 (by omega) A n c l w k hk hn hl hp)
  have hT : okT 1 (tmL4 12 l) = true := tm_task (B := 1) (by omega)
  have hB1 : tmB 1 = 1 := by unfold tmB; simp
  rw [hB1] at HTM
  clear hB1
  obtain ⟨-, hn32, hV⟩ := okT_v hT
  generalize tmL4 12 l = L at hk HTM hT hn32 hV
  have HK := Lib.hid hk
  have HT := Lib.hid hT
  have HV := Lib.hid hV
  rw [hk] at hn32
  have HCN := Lib.hid (fun (B : Int) (A' : Option Addr) (c' : Nat) W (hB : 1 ≤ B ∧ B ≤ 8) (h : Tris W A' L) => can_any B A' k c' L W hk (okT_ben hT hB) h)
  have HFW := Lib.hid (fun (A' : Option Addr) (c' : Nat) W (h : Tris W A' L) => fewest_any A' k c' L W hk (by omega) h)
  clear hn hl hp hk hT hV
  go_enter Try.func10, Try.ntmps10
  go_wp2_with fail
  refine HTM.out.mono ?_
  rintro e w1 ⟨A', c', rfl, hT1, -, -, hg1⟩
  have HT1 := Lib.hid hT1
  have HFW1 := Lib.hid (HFW.out A' c' w1 hT1)
  clear hT1 HTM HFW
  go_wp2_with fail
  refine HFW1.out.mono ?_
  intro e w2 hf
  rcases hf with ⟨h, -⟩ | ⟨-, r, rfl, hg2, hr8, hr0, hr1⟩
  · rw [HT.out] at h; cases h
  · have HT2 := Lib.hid (HT1.out.keep hg2)
    have hgr := hg1.trans hg2
    have HR0 := Lib.hid hr0
    have HR1 := Lib.hid hr1
    clear hr0 hr1 hg1 hg2 HT1 HFW1
    rcases Nat.eq_zero_or_pos r with e0 | e0
    · subst e0
      have HC8 := Lib.hid (HCN.out 8 A' c' w2 ⟨by omega, by omega⟩ HT2.out)
      have HNO : Hid (¬ Poss 8 L) := Lib.hid (fun h => HR0.out rfl 8 (by omega) (by omega) h)
      clear HCN
      go_wp2_with fail
      refine HC8.out.mono ?_
      rintro e w3 ⟨r, rfl, hrr, hg3⟩
      obtain rfl : r = 0 := by
        rcases hrr with ⟨_, h⟩ | ⟨h, _⟩
        · exact (HNO.out h).elim
        · exact h
      clear HC8 hrr
      go_wp2_with fail
      refine (bawake_any _).mono ?_
      rintro e w4 ⟨rfl, hg4⟩
      go_wp2_with fail
      go_ret
      exact ⟨rfl, (hgr.trans hg3).trans hg4⟩
    · have hri : (0 : Int) < (r : Int) := by omega
      have hrz : ((r : Int) == 0) = false := by simp; omega
      have hr8i : ¬ (8 : Int) < (r : Int) := by omega
      have hpos : Poss (r : Int) L := (HR1.out e0).1
      have HPOS := Lib.hid hpos
      have HFIT : Hid (∀ j, j < k → (jbA L j).2.2 ≤ (jbA L j).2.1 - (jbA L j).1) := Lib.hid (fun j hj => hpos.fits HV.out (by rw [HK.out]; exact hj))
      clear hpos
      go_wp2_with fail
      go_loopw [7] (fun z wr => ∃ j : Nat, j ≤ k ∧ z = .int .i64 (j : Int) ∧ Gr w2 wr) (fun z _ => k - (intOf z).toNat)
      case atStart => exact ⟨0, Nat.zero_le _, rfl, Gr.refl _⟩
      case round =>
        obtain ⟨j, hj, rfl, hg⟩ := hrel
        by_cases hlt : j < k
        · have hji : (j : Int) < (k : Int) := by omega
          have hj0 : (0 : Int) ≤ (j : Int) := by omega
          obtain ⟨b, off, rfl, x0, x1, x2⟩ := Tris_at (HT2.out.keep hg) (i := j) (by rw [HK.out]; exact hlt)
          have hf := HFIT.out j hlt
          have hbd := HV.out.bd (j := j) (by rw [HK.out]; exact hlt)
          have hja : L.getD j (0, 0, 0) = jbA L j := rfl
          rw [hja] at x0 x1 x2
          clear hja
          generalize jbA L j = jb at x0 x1 x2 hf hbd
          obtain ⟨ja, jd, jw⟩ := jb
          dsimp only at x0 x1 x2 hf hbd
          have w1e : IntKind.i64.wrap (jd - ja) = jd - ja := IntWalk.i64_in _ (by omega)
          have hnf : ¬ jd - ja < jw := by omega
          go_upto_region 10 with fail
          go_quiet (fail)
          go_wp2_with fail
          go_roundw
          case rel => exact ⟨j + 1, by omega, by go_num, hg.drewN _⟩
          case measure => simp [intOf]; omega
        · obtain rfl : j = k := by omega
          have HC1 := Lib.hid (HCN.out (r : Int) A' c' wr ⟨by omega, by omega⟩ (HT2.out.keep hg))
          have HC2 := Lib.hid (fun W (hW : Gr w2 W) (h1 : 1 < r) => HCN.out ((r : Int) - 1) A' c' W ⟨by omega, by omega⟩ (HT2.out.keep hW))
          have hgr2 := hgr.trans hg
          clear HCN
          go_wp2_with fail
          refine HC1.out.mono ?_
          rintro e w3 ⟨q, rfl, hq, hg3⟩
          obtain rfl : q = 1 := by
            rcases hq with ⟨h, _⟩ | ⟨_, h⟩
            · exact h
            · exact (h.no HV.out.three HPOS.out).elim
          clear HC1 hq
          by_cases h1 : r = 1
          · subst h1
            go_wp2_with fail
            refine (bawake_any _).mono ?_
            rintro e w4 ⟨rfl, hg4⟩
            go_wp2_with fail
            go_ret
            exact ⟨rfl, (hgr2.trans hg3).trans hg4⟩
          · have hr1 : ((r : Int) == 1) = false := by simp; omega
            have w2e : IntKind.i64.wrap ((r : Int) - 1) = (r : Int) - 1 := IntWalk.i64_in _ (by omega)
            have HC3 := Lib.hid (HC2.out w3 (hg.trans hg3) (by omega))
            have HNO : Hid (¬ Poss ((r : Int) - 1) L) := Lib.hid (fun h => (HR1.out e0).2 (r - 1) (by omega) (by omega) (by rw [show (((r - 1 : Nat)) : Int) = (r : Int) - 1 by omega]; exact h))
            clear HC2
            go_wp2_with fail
            refine HC3.out.mono ?_
            rintro e w4 ⟨q, rfl, hq, hg4⟩
            obtain rfl : q = 0 := by
              rcases hq with ⟨_, h⟩ | ⟨h, _⟩
              · exact (HNO.out h).elim
              · exact h
            clear HC3 hq
            go_wp2_with fail
            refine (bawake_any _).mono ?_
            rintro e w5 ⟨rfl, hg5⟩
            go_wp2_with fail
            go_ret
            exact ⟨rfl, ((hgr2.trans hg3).trans hg4).trans hg5⟩

end Go.Proofs.Ytngcgienhdifaaa
