/- The law CarveOwn as a walk. -/
import Derived.Test.YtcojionipffanabCTwo
namespace Go.Proofs.Ytcojionipffanab
open Go.RowKit
set_option linter.unusedSimpArgs false

/-- A cell that may be written. -/
def Wc (w : World) (g o : Nat) : Prop := (∃ v, w.cell? ⟨g, o, none⟩ = some v) ∧ w.frozen? ⟨g, o, none⟩ = false
theorem Wc.put {w : World} {g o : Nat} (h : Wc w g o) (a : Addr) (u : Value) : Wc (w.setCell a u) g o := by
  obtain ⟨⟨v, hv⟩, hf⟩ := h
  refine ⟨?_, by rw [frozen_put]; exact hf⟩
  by_cases e : a = ⟨g, o, none⟩
  · subst e; exact ⟨u, by rw [World.cell?_setCell_same _ _ _ (by rw [hv])]⟩
  · exact ⟨v, by rw [World.cell?_setCell_other _ _ _ _ e]; exact hv⟩
theorem Wc.keep {w w' : World} {g o : Nat} (h : Wc w g o) (hg : Gr w w') : Wc w' g o := by
  obtain ⟨⟨v, hv⟩, hf⟩ := h
  exact ⟨⟨v, hg.keep hv⟩, (Below.frozen (p := ⟨g, o, none⟩) hg (World.block_lt_of_cell? w _ hv)).trans hf⟩
/-- A table that may be written, its rows elsewhere. -/
def TabW (B W H g : Nat) (w : World) : Prop := ∀ i, i < W → ∃ b c, w.cell? ⟨g, i, none⟩ = some (.slice (some ⟨b, 0, none⟩) H c) ∧ b ≠ g ∧ B ≤ b ∧ ∀ j, j < H → Wc w b j
theorem TabW.put {B W H g : Nat} {w : World} (h : TabW B W H g w) {x o : Nat} (hx : x ≠ g) (u : Value) : TabW B W H g (w.setCell ⟨x, o, none⟩ u) := fun i hi => by
  obtain ⟨b, c, h1, h2, h3, h4⟩ := h i hi
  exact ⟨b, c, cell_other h1 hx.symm, h2, h3, fun j hj => (h4 j hj).put _ _⟩
theorem TabW.keep {B W H g : Nat} {w w' : World} (h : TabW B W H g w) (hg : Gr w w') : TabW B W H g w' := fun i hi => by
  obtain ⟨b, c, h1, h2, h3, h4⟩ := h i hi
  exact ⟨b, c, hg.keep h1, h2, h3, fun j hj => (h4 j hj).keep hg⟩
theorem TabW.of {w : World} {B W H g : Nat} {bs : List Bl} (h : RowsOwn w B g (mstTb bs W H)) : TabW B (W + 1) (H + 1) g w := fun i hi => by
  obtain ⟨cs, hb, hcs⟩ := h
  have hr : (mstTb bs W H)[i]? = some (mstR bs H i) := by
    have := getD_of (l := mstTb bs W H) [] (show i < (mstTb bs W H).length by rw [mstTb_len]; omega)
    rwa [mstTb_row bs W H (by omega)] at this
  obtain ⟨b, c, h1, h2⟩ := hcs i _ hr
  rw [mstR_len] at h1 h2
  refine ⟨b, c, by rw [hb.cell]; exact h1, fun e => hb.apart h2 (by decide) (by rw [e]; rfl), (h2.lt b rfl).1, fun j hj => ⟨?_, h2.frozenAt _⟩⟩
  rw [h2.cellAt j (by omega)]
  have hl : (flatE enc1 (mstR bs H i)).length = H + 1 := by rw [flatE_len enc1_len, mstR_len, Nat.mul_one]
  exact ⟨_, List.getElem?_eq_getElem (by omega)⟩

set_option maxRecDepth 100000 in
set_option maxHeartbeats 4000000 in
theorem lawOwn_any (W0 H0 : Int) (A : Option Addr) (n c : Nat) (bs : List Bl) (w : World) (hn : bs.length = n) (hl : n ≤ 9223372036854775807) (_hc : n ≤ c) (_h0 : A = none → c = 0) (hp : Tris w A bs) :
    Calls Try.prog 11 #[.agg #[.int .i64 W0, .int .i64 H0, .slice A n c]] w fun e w' => e = .returned (.bool true) ∧ Gr w w' := by
  have HTM := Lib.hid (fun W' (g : Gr w W') => tame_any W0 H0 A n c bs 12 W' (by omega) (by omega) hn hl (hp.keep g))
  obtain ⟨W, H, e1, e2, hW, hH, h16, hbl⟩ := tame_task 12 (by omega) (by omega) W0 H0 bs
  rw [show ((12 : Nat) : Int) = 12 from rfl] at e1 e2
  rw [e1, e2] at HTM
  generalize tameL bs = qs at HTM h16 hbl
  obtain ⟨q, hq⟩ : ∃ q, qs.length = q := ⟨_, rfl⟩
  have HQ := Lib.hid hq
  rw [hq] at h16
  have HT := Lib.hid (task_ok (W := W) (H := H) (by omega) (by omega) (by omega) hbl)
  have HNN := Lib.hid (mst_nonneg qs W H)
  have htk : qs.take 17 = qs := List.take_of_length_le (by omega)
  have HTK := Lib.hid htk
  clear hn hl hp hq e1 e2 htk
  go_enter Try.func11, Try.ntmps11
  go_wp2_with fail
  generalize hW1 : World.alloc w _ = W1
  obtain ⟨hg, k1, k2, k3⟩ := task_box hW1
  clear hW1
  go_wp2_with fail
  refine (HTM.out _ hg).mono ?_
  rintro e w1 ⟨A1, c1, rfl, hc1, hT1, h01, -, hg1⟩
  rw [HQ.out]
  rw [HQ.out] at hc1
  replace hg := hg.trans hg1
  clear k1 k2 k3 hg1
  have HT1 := Lib.hid hT1
  clear hT1
  go_wp2_with fail
  generalize hW2 : World.alloc w1 _ = w2
  obtain ⟨hg2, k1, k2, k3⟩ := task_box hW2
  generalize hS : w1.heap.size = S at k1 k2 k3 ⊢
  have HT2 := Lib.hid (HT1.out.keep hg2)
  replace hg := hg.trans hg2
  clear hW2 hS hg2 HT1 HTM
  refine (blanks_any A1 q c1 qs _ HQ.out (by omega) hc1 h01 HT2.out).mono ?_
  rw [HTK.out]
  rintro e wB ⟨A3, c3, rfl, hc3, hT3, h03, -, hgB⟩
  rw [HQ.out]
  rw [HQ.out] at hc3
  have HT3 := Lib.hid (HT2.out.keep hgB)
  have HT4 := Lib.hid hT3
  replace k1 := hgB.keep k1
  replace k2 := hgB.keep k2
  replace k3 := hgB.keep k3
  have HKB := Lib.hid (fun W' (h : Gr wB W') => And.intro (h.keep k1) (And.intro (h.keep k2) (h.keep k3)))
  replace hg := hg.trans hgB
  clear hgB hT3 HT2
  go_wp2_with fail
  refine (Best_yes W H A1 q c1 qs _ HQ.out (by omega) HT3.out HT.out).mono ?_
  rintro e w3 ⟨P, m, gp, cp, g2, rfl, hM, -, hPc, hgp, hg2', hown, hR, hg3⟩
  obtain ⟨pn, hpn⟩ : ∃ pn, P.length = pn := ⟨_, rfl⟩
  have hpl := hM.small (by omega) (by omega) (by omega) (by omega)
  rw [hpn] at hpl hPc hown ⊢
  have hne : gp ≠ g2 := fun e => by
    obtain ⟨cs, hb, -⟩ := hR
    exact hb.apart hown (by decide) (by rw [e]; rfl)
  have HTW := Lib.hid (TabW.of hR)
  have HPW : Hid (∀ j, j < pn * 2 → Wc w3 gp j) := Lib.hid (fun j hj => ⟨by
    rw [hown.cellAt j hj]
    have hl : (flatE enc2 P).length = pn * 2 := by rw [flatE_len enc2_len, hpn]
    exact ⟨_, List.getElem?_eq_getElem (by omega)⟩, hown.frozenAt _⟩)
  replace k1 := hg3.keep k1
  replace k2 := hg3.keep k2
  replace k3 := hg3.keep k3
  have HT5 := Lib.hid (HT3.out.keep hg3)
  clear hM hpn hown hR
  go_wp2_with fail
  refine (best_any W H A1 q c1 qs _ HQ.out (by omega) HT5.out HT.out).mono ?_
  rintro e w4 ⟨rfl, hg4⟩
  have hv := HNN.out
  generalize hvv : mst qs W H = v at hv ⊢
  have HV := Lib.hid hvv
  have hgB4 := Lib.hid (hg3.trans hg4)
  have HTW4 := Lib.hid (HTW.out.keep hg4)
  have HPW4 : Hid (∀ j, j < pn * 2 → Wc w4 gp j) := Lib.hid (fun j hj => (HPW.out j hj).keep hg4)
  obtain ⟨wn, hwn⟩ : ∃ wn, W + 1 = wn := ⟨_, rfl⟩
  obtain ⟨tn, htn⟩ : ∃ tn, H + 1 = tn := ⟨_, rfl⟩
  have hwn' : wn ≤ 13 := by omega
  have htn' : tn ≤ 13 := by omega
  rw [hwn, htn] at HTW4
  rw [hwn]
  clear hvv HTW HPW k1 k2 k3 HNN HTK HT5 hwn htn
  go_wp2_with fail
  go_loopw [9] (fun z wr => ∃ k : Nat, k ≤ pn ∧ z = .int .i64 k ∧ Hid (Gr wB wr) ∧ Hid (TabW wB.heap.size wn tn g2 wr) ∧ Hid (∀ j, j < pn * 2 → Wc wr gp j)) (fun z _ => pn - (intOf z).toNat)
  case atStart => exact ⟨0, Nat.zero_le _, rfl, hgB4, HTW4, HPW4⟩
  case round =>
    obtain ⟨k, hk, rfl, hG, hTW, hPW⟩ := hrel
    by_cases hlt : k < pn
    · obtain ⟨⟨u0, c0⟩, f0⟩ := hPW.out (k * 2) (by omega)
      obtain ⟨⟨u1, c1⟩, f1⟩ := hPW.out (k * 2 + 1) (by omega)
      go_wp2_with fail
      go_roundw
      case rel => exact ⟨k + 1, by omega, by go_num, Lib.hid ((hG.out.setCell (p := ⟨gp, k * 2, none⟩) hgp _).setCell (p := ⟨gp, k * 2 + 1, none⟩) hgp _), Lib.hid ((hTW.out.put hne _).put hne _), Lib.hid (fun j hj => ((hPW.out j hj).put _ _).put _ _)⟩
      case measure => simp [intOf] <;> omega
    · obtain rfl : k = pn := by omega
      clear hPW HPW4 HTW4 hgB4
      go_wp2_with fail
      go_loopw [10] (fun z wx => ∃ i : Nat, i ≤ wn ∧ z = .int .i64 i ∧ Hid (Gr wB wx) ∧ Hid (TabW wB.heap.size wn tn g2 wx)) (fun z _ => wn - (intOf z).toNat)
      case atStart => exact ⟨0, Nat.zero_le _, rfl, hG, hTW⟩
      case round =>
        clear hG hTW
        obtain ⟨i, hi, rfl, hG, hTW⟩ := hrel
        by_cases hlt2 : i < wn
        · go_wp2_with fail
          go_loopw [11] (fun z wy => ∃ j : Nat, j ≤ tn ∧ z = .int .i64 j ∧ Hid (Gr wB wy) ∧ Hid (TabW wB.heap.size wn tn g2 wy)) (fun z _ => tn - (intOf z).toNat)
          case atStart => exact ⟨0, Nat.zero_le _, rfl, hG, hTW⟩
          case round =>
            clear hG hTW
            obtain ⟨j, hj, rfl, hG, hTW⟩ := hrel
            obtain ⟨rb, rc, r1, r2, r3, r4⟩ := hTW.out i hlt2
            by_cases hlt3 : j < tn
            · obtain ⟨⟨u0, c0⟩, f0⟩ := r4 j hlt3
              clear r4
              go_wp2_with fail
              go_roundw
              case rel => exact ⟨j + 1, by omega, by go_num, Lib.hid (hG.out.setCell (p := ⟨rb, j, none⟩) r3 _), Lib.hid (hTW.out.put r2 _)⟩
              case measure => simp [intOf] <;> omega
            · clear r4
              go_wp2_with fail
              go_roundw
              case rel => exact ⟨i + 1, by omega, by go_num, hG, hTW⟩
              case measure => simp [intOf] <;> omega
        · clear hTW
          go_wp2_with fail
          go_loopw [12] (fun z wy => ∃ j : Nat, j ≤ q ∧ z = .int .i64 j ∧ Hid (Gr wB wy)) (fun z _ => q - (intOf z).toNat)
          case atStart => exact ⟨0, Nat.zero_le _, rfl, hG⟩
          case round =>
            clear hG
            obtain ⟨j, hj, rfl, hG⟩ := hrel
            obtain ⟨o1, o2, o3⟩ := HKB.out _ hG.out
            by_cases hlt3 : j < q
            · have hjl : j < qs.length := by have := HQ.out; omega
              obtain ⟨b1, f1, rfl, q0, q1, q2⟩ := Tris_at (HT3.out.keep hG.out) hjl
              obtain ⟨b2, f2, rfl, p0, p1, p2⟩ := Tris_at (HT4.out.keep hG.out) hjl
              rw [bl_getD] at q0 q1 q2 p0 p1 p2
              generalize bl qs j = x at q0 q1 q2 p0 p1 p2
              have t1 : (x.1 == x.1) = true := by simp
              have t2 : (x.2.1 == x.2.1) = true := by simp
              have t3 : (x.2.2 == x.2.2) = true := by simp
              go_wp2_with fail
              go_quiet (fail)
              go_wp2_with fail
              go_roundw
              case rel => exact ⟨j + 1, by omega, by go_num, Lib.hid (hG.out.drewN nq)⟩
              case measure => simp [intOf] <;> omega
            · obtain rfl : j = q := by omega
              have d1 : decide (0 ≤ v) = true := decide_eq_true hv
              have d2 : ((0 : Int) == 0) = true := by simp
              have d3 : (v == v) = true := by simp
              go_wp2_with fail
              refine (best_any W H A1 j c1 qs _ HQ.out (by omega) (HT3.out.keep hG.out) HT.out).mono ?_
              rintro e w7 ⟨rfl, hg7⟩
              rw [HV.out]
              go_wp2_with fail
              refine (cawake_any _).mono ?_
              rintro e w8 ⟨rfl, hg8⟩
              go_wp2_with fail
              try rw [Exit.noGoto_ret]
              go_ret
              exact ⟨rfl, ((hg.trans hG.out).trans hg7).trans hg8⟩

end Go.Proofs.Ytcojionipffanab
