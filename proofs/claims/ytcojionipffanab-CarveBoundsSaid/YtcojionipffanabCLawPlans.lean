/- The law CarvePlans as a walk. -/
import Derived.Test.YtcojionipffanabCAwake
namespace Go.Proofs.Ytcojionipffanab
open Go.RowKit
set_option linter.unusedSimpArgs false

theorem task_box {w W : World} {x y z : Value} (hW : w.alloc (.cells #[x, y, z] 24) = W) : Gr w W ∧ W.cell? ⟨w.heap.size, 0, none⟩ = some x ∧ W.cell? ⟨w.heap.size, 1, none⟩ = some y ∧ W.cell? ⟨w.heap.size, 2, none⟩ = some z := by
  subst hW
  exact ⟨(Gr.refl _).alloc _, alloc_new rfl rfl, alloc_new rfl rfl, alloc_new rfl rfl⟩

def wAns (t : Bool) (R : Option (List Bl)) : Int × Int :=
  match t, R with
  | false, _ => (0, 2)
  | true, none => (0, 20)
  | true, some m => (sumV m, 0)
def rAns (t : Bool) (R : Option (List Bl)) (WH : Int) : Int × Int :=
  match t, R with
  | false, _ => (0, 2)
  | true, none => (0, 20)
  | true, some m => (WH - sumA m, 0)
theorem worthL_ans {W H : Int} {qs : List Bl} {rs : List St} {t : Bool} {R : Option (List Bl)} (ht : taskB W H qs = t) (hR : readL qs W H rs = R) : worthL W H qs rs = wAns t R := by
  unfold worthL; rw [ht, hR]
  cases t <;> cases R <;> rfl
theorem restL_ans {W H : Int} {qs : List Bl} {rs : List St} {t : Bool} {R : Option (List Bl)} (ht : taskB W H qs = t) (hR : readL qs W H rs = R) : restL W H qs rs = rAns t R (W * H) := by
  unfold restL; rw [ht, hR]
  cases t <;> cases R <;> rfl

set_option maxRecDepth 100000 in
set_option maxHeartbeats 2000000 in
theorem lawPlans_any (W H : Int) (A : Option Addr) (n c : Nat) (bs : List Bl) (PA : Option Addr) (pn pc : Nat) (ps : List St) (w : World) (hn : bs.length = n) (hl : n ≤ 9223372036854775807) (hc : n ≤ c) (h0 : A = none → c = 0) (hp : Tris w A bs)
    (hpn : ps.length = pn) (hpl : pn ≤ 9223372036854775807) (hpc : pn ≤ pc) (hp0 : PA = none → pc = 0) (hpp : Pts w PA ps) :
    Calls Try.prog 3 #[.agg #[.int .i64 W, .int .i64 H, .slice A n c], .slice PA pn pc] w fun e w' => e = .returned (.bool true) ∧ Gr w w' := by
  have HB := Lib.hid (fun W' (g : Gr w W') => blanks_any A n c bs W' hn hl hc h0 (hp.keep g))
  have HS := Lib.hid (fun W' (g : Gr w W') => steps_any PA pn pc ps W' hpn hpl hpc hp0 (hpp.keep g))
  have hbl : (bs.take 17).length ≤ 17 := List.length_take_le ..
  have hsl : (ps.take 8193).length ≤ 8193 := List.length_take_le ..
  generalize bs.take 17 = qs at HB hbl
  generalize ps.take 8193 = rs at HS hsl
  obtain ⟨q, hq⟩ : ∃ q, qs.length = q := ⟨_, rfl⟩
  obtain ⟨r, hr⟩ : ∃ r, rs.length = r := ⟨_, rfl⟩
  have HQ := Lib.hid hq
  have HR := Lib.hid hr
  rw [hq] at hbl
  rw [hr] at hsl
  clear hn hl hc h0 hp hpn hpl hpc hp0 hpp hq hr
  obtain ⟨t, ht⟩ : ∃ t, taskB W H qs = t := ⟨_, rfl⟩
  obtain ⟨R, hR⟩ : ∃ R, readL qs W H rs = R := ⟨_, rfl⟩
  have HT := Lib.hid ht
  have HRL := Lib.hid hR
  have HWL := Lib.hid (worthL_ans ht hR)
  have HREST := Lib.hid (restL_ans ht hR)
  clear ht hR
  go_enter Try.func3, Try.ntmps3
  go_wp2_with fail
  generalize hW : World.alloc w _ = W0
  obtain ⟨hg, k1, k2, k3⟩ := task_box hW
  clear hW
  refine (HB.out _ hg).mono ?_
  rintro e w1 ⟨A1, c1, rfl, hc1, hT1, -, -, hb1⟩
  have HT1 := Lib.hid hT1
  replace k1 := hb1.keep k1
  replace k2 := hb1.keep k2
  rw [HQ.out]
  clear hT1 hc1 k3
  replace hg := hg.trans hb1
  clear hb1
  go_wp2_with fail
  refine (HS.out _ hg).mono ?_
  rintro e w2 ⟨A2, c2, rfl, hc2, hT2, -, -, hb2⟩
  have HT2 := Lib.hid hT2
  replace k1 := hb2.keep k1
  replace k2 := hb2.keep k2
  rw [HR.out]
  replace hg := hg.trans hb2
  have HTB := Lib.hid (HT1.out.keep hb2)
  clear hT2 hc2 hb2 HT1
  go_wp2_with fail
  refine (Worth_any W H A1 A2 q c1 r c2 qs rs _ HQ.out (by omega) HR.out (by omega) HTB.out HT2.out).mono ?_
  rintro e w3 ⟨rfl, hb3⟩
  rw [HWL.out]
  replace k1 := hb3.keep k1
  replace k2 := hb3.keep k2
  have HTB3 := Lib.hid (HTB.out.keep hb3)
  have HTP3 := Lib.hid (HT2.out.keep hb3)
  replace hg := hg.trans hb3
  clear hb3
  rcases t with _ | _
  · dsimp only [wAns, rAns] at HREST ⊢
    go_wp2_with fail
    refine (Rest_any W H A1 A2 q c1 r c2 qs rs _ HQ.out (by omega) HR.out (by omega) HTB3.out HTP3.out).mono ?_
    rintro e w4 ⟨rfl, hb4⟩
    rw [HREST.out]
    replace k1 := hb4.keep k1
    replace k2 := hb4.keep k2
    have HTB4 := Lib.hid (HTB3.out.keep hb4)
    replace hg := hg.trans hb4
    clear hb4
    go_wp2_with fail
    refine (rTask_any W H A1 q c1 qs _ HQ.out (by omega) HTB4.out _ HT.out).mono ?_
    rintro e w5 ⟨rfl, hb5⟩
    go_wp2_with fail
    refine (cawake_any _).mono ?_
    rintro e w6 ⟨rfl, hb6⟩
    go_wp2_with fail
    go_ret
    exact ⟨rfl, (hg.trans hb5).trans hb6⟩
  · obtain ⟨⟨hW1, hW2⟩, ⟨hH1, hH2⟩, h16, hbs⟩ := (taskB_iff _ _ _).1 HT.out
    have HBS := Lib.hid hbs
    have HZ := Lib.hid (Sz_of HT.out)
    clear h16 hbs
    rcases R with _ | m
    · dsimp only [wAns, rAns] at HREST ⊢
      go_wp2_with fail
      refine (Rest_any W H A1 A2 q c1 r c2 qs rs _ HQ.out (by omega) HR.out (by omega) HTB3.out HTP3.out).mono ?_
      rintro e w4 ⟨rfl, hb4⟩
      rw [HREST.out]
      replace k1 := hb4.keep k1
      replace k2 := hb4.keep k2
      have HTB4 := Lib.hid (HTB3.out.keep hb4)
      have HTP4 := Lib.hid (HTP3.out.keep hb4)
      replace hg := hg.trans hb4
      clear hb4
      go_wp2_with fail
      refine (rTask_any W H A1 q c1 qs _ HQ.out (by omega) HTB4.out _ HT.out).mono ?_
      rintro e w5 ⟨rfl, hb5⟩
      replace k1 := hb5.keep k1
      replace k2 := hb5.keep k2
      have HTB5 := Lib.hid (HTB4.out.keep hb5)
      have HTP5 := Lib.hid (HTP4.out.keep hb5)
      replace hg := hg.trans hb5
      clear hb5
      go_wp2_with fail
      refine (Read_any W H A1 A2 q c1 r c2 qs rs _ HQ.out HR.out (by omega) HBS.out HZ.out HTB5.out HTP5.out).mono ?_
      rintro e w6 ⟨rfl, hb6⟩
      rw [HRL.out]
      dsimp only [ReadL]
      replace hg := hg.trans hb6
      clear hb6 k1 k2
      go_wp2_with fail
      refine (cawake_any _).mono ?_
      rintro e w7 ⟨rfl, hb7⟩
      go_wp2_with fail
      go_ret
      exact ⟨rfl, hg.trans hb7⟩
    · dsimp only [wAns, rAns] at HREST ⊢
      have hm := (readL_made HRL.out).bd HBS.out
      have a1 : W * H ≤ 48 * 48 := Int.le_trans (Int.mul_le_mul_of_nonneg_right hW2 (by omega)) (Int.mul_le_mul_of_nonneg_left hH2 (by omega))
      have a2 : 0 ≤ W * H := Int.mul_nonneg (by omega) (by omega)
      have mw : IntKind.i64.wrap (W * H) = W * H := IntWalk.i64_in _ (by omega)
      obtain ⟨sv, hsv⟩ : ∃ sv, sumV m = sv := ⟨_, rfl⟩
      obtain ⟨sa, hsa⟩ : ∃ sa, sumA m = sa := ⟨_, rfl⟩
      have HSV := Lib.hid hsv
      have HSA := Lib.hid hsa
      rw [hsv, hsa] at hm
      rw [hsa] at HREST
      rw [hsv]
      clear hsv hsa
      go_wp2_with fail
      refine (Rest_any W H A1 A2 q c1 r c2 qs rs _ HQ.out (by omega) HR.out (by omega) HTB3.out HTP3.out).mono ?_
      rintro e w4 ⟨rfl, hb4⟩
      rw [HREST.out]
      replace k1 := hb4.keep k1
      replace k2 := hb4.keep k2
      have HTB4 := Lib.hid (HTB3.out.keep hb4)
      have HTP4 := Lib.hid (HTP3.out.keep hb4)
      replace hg := hg.trans hb4
      clear hb4
      go_wp2_with fail
      refine (rTask_any W H A1 q c1 qs _ HQ.out (by omega) HTB4.out _ HT.out).mono ?_
      rintro e w5 ⟨rfl, hb5⟩
      replace k1 := hb5.keep k1
      replace k2 := hb5.keep k2
      have HTB5 := Lib.hid (HTB4.out.keep hb5)
      have HTP5 := Lib.hid (HTP4.out.keep hb5)
      replace hg := hg.trans hb5
      clear hb5
      go_wp2_with fail
      refine (Read_any W H A1 A2 q c1 r c2 qs rs _ HQ.out HR.out (by omega) HBS.out HZ.out HTB5.out HTP5.out).mono ?_
      rintro e w6 ⟨rfl, hb6⟩
      rw [HRL.out]
      dsimp only [ReadL]
      rw [HSV.out, HSA.out]
      replace k1 := hb6.keep k1
      replace k2 := hb6.keep k2
      replace hg := hg.trans hb6
      clear hb6
      go_wp2_with fail
      refine (cawake_any _).mono ?_
      rintro e w7 ⟨rfl, hb7⟩
      go_wp2_with fail
      go_ret
      exact ⟨rfl, hg.trans hb7⟩

end Go.Proofs.Ytcojionipffanab
