/- The law PlaneOnce as a walk. -/
import Derived.Test.YtjkdjfagaakijaaCheck
import Derived.Test.YtjkdjfagaakijaaSet
import Derived.Test.YtjkdjfagaakijaaSepAny
namespace Go.Proofs.Ytjkdjfagaakijaa
open Go.RowKit
set_option linter.unusedSimpArgs false

theorem all_vldO {l : List (Int × Int)} (h : AllCo l) : (l.all fun p => vld p.1 p.2) = true :=
  List.all_eq_true.2 fun p hp => (vld_iff _ _).2 (h p hp)
theorem put8 {w W : World} {g : Nat} {t : TypeId} {a0 a1 a2 a3 a4 a5 a6 c b0 b1 b2 b3 b4 b5 b6 : Value} (h : Blk w g t #[a0, a1, a2, a3, a4, a5, a6])
    (hW : (((((((w.setCell ⟨g, 0, none⟩ c).setCell ⟨g, 0, none⟩ b0).setCell ⟨g, 1, none⟩ b1).setCell ⟨g, 2, none⟩ b2).setCell ⟨g, 3, none⟩ b3).setCell ⟨g, 4, none⟩ b4).setCell ⟨g, 5, none⟩ b5).setCell ⟨g, 6, none⟩ b6 = W) :
    Blk W g t #[b0, b1, b2, b3, b4, b5, b6] ∧ Gb g w W := by
  subst hW
  have h8 := (((((((h.put 0 c).put 0 b0).put 1 b1).put 2 b2).put 3 b3).put 4 b4).put 5 b5).put 6 b6
  simp only [List.setIfInBounds_toArray, List.set_cons_zero, List.set_cons_succ] at h8
  exact ⟨h8, ((((((((Gb.refl g w).put 0 c).put 0 b0).put 1 b1).put 2 b2).put 3 b3).put 4 b4).put 5 b5).put 6 b6⟩
theorem Rd.gb {α : Type} {k : Nat} {enc : α → List Value} {w w' : World} {g off b : Nat} {xs : List α} (h : Rd k enc w (some ⟨g, off, none⟩) xs) (hg : Gb b w w') (hne : g ≠ b) : Rd k enc w' (some ⟨g, off, none⟩) xs := fun i x hx => by
  obtain ⟨b', o', e, hc⟩ := h i x hx
  cases e
  refine ⟨_, _, rfl, fun j v hv => ?_⟩
  have := hc j v hv
  rw [hg.cell (World.block_lt_of_cell? w _ this) hne]
  exact this

set_option maxRecDepth 100000 in
set_option maxHeartbeats 8000000 in
theorem lawOnce_any (A : Option Addr) (n c : Nat) (ps : List (Int × Int)) (B : Option Addr) (n' c' : Nat) (qs : List (Int × Int)) (m : Bool) (x y d u v t : Int) (w : World) (hn : ps.length = n) (hl : n ≤ 8796093022208) (hp : Pts w A ps) (hn' : qs.length = n') (hl' : n' ≤ 8796093022208) (hp' : Pts w B qs) :
    Calls Try.prog 7 #[.slice A n c, .slice B n' c', .agg #[.bool m, .int .i64 x, .int .i64 y, .int .i64 d, .int .i64 u, .int .i64 v, .int .i64 t]] w fun e w' => e = .returned (.bool true) ∧ Gr w w' := by
  have HSA := Lib.hid (fun W (hW : Gr w W) => set_any A n c 30 ps W hn hl (by omega) (by omega) (hp.keep hW))
  have HSB := Lib.hid (fun W (hW : Gr w W) => set_any B n' c' 30 qs W hn' hl' (by omega) (by omega) (hp'.keep hW))
  have hxl := setL_len ps 30 (by omega)
  have hyl := setL_len qs 30 (by omega)
  have hxc := setL_co ps 30
  have hyc := setL_co qs 30
  generalize setL ps 30 = xs at HSA hxl hxc
  generalize setL qs 30 = ys at HSB hyl hyc
  have hCA := cornersL_co (Cos_all hxc)
  have hCB := cornersL_co (Cos_all hyc)
  have HVX := Lib.hid (all_vldO hxc)
  have HVY := Lib.hid (all_vldO hyc)
  have HOW := Lib.hid (fun (v : Vrd) h => other_wrong (A := xs) (B := ys) (v := v) (by omega) (by omega) hCA hCB h)
  have HSW := Lib.hid (sep_swap (A := xs) (B := ys) (by omega) (by omega) hCA hCB)
  have HRI := Lib.hid (sep_right (A := xs) (B := ys) (by omega) (by omega) hCA hCB)
  obtain ⟨q1, hq1⟩ : ∃ q, xs.length = q := ⟨_, rfl⟩
  obtain ⟨q2, hq2⟩ : ∃ q, ys.length = q := ⟨_, rfl⟩
  rw [hq1] at hxl
  rw [hq2] at hyl
  have HX := Lib.hid hq1
  have HY := Lib.hid hq2
  obtain ⟨m0, hm0⟩ : ∃ m, (sepT (cornersL xs) (cornersL ys)).m = m := ⟨_, rfl⟩
  have HM0 := Lib.hid hm0
  have HM1 : Hid ((sepT (cornersL ys) (cornersL xs)).m = m0) := Lib.hid (by rw [HSW.out, hm0])
  clear hn hl hp hn' hl' hp' hxc hyc hq1 hq2 hCA hCB HSW hm0
  go_enter Try.func7, Try.ntmps7
  go_wp2_with fail
  generalize hW : World.alloc w _ = W
  obtain ⟨hgW, hBk⟩ := box7 hW
  have HBK := Lib.hid hBk
  have hwU := Nat.le_refl w.heap.size
  clear hW hBk
  generalize hU : w.heap.size = U at HBK ⊢
  refine (HSA.out _ hgW).mono ?_
  rintro e w1 ⟨g1, c1, rfl, hc1, hg1, hO1, hb1⟩
  rw [HX.out] at hc1 hO1 ⊢
  have hUW := HBK.out.lt
  have hUg1 : g1 ≠ U := by omega
  go_wp2_with fail
  refine (HSB.out _ (hgW.trans hb1)).mono ?_
  rintro e w2 ⟨g2, c2, rfl, hc2, hg2, hO2, hb2⟩
  rw [HY.out] at hc2 hO2 ⊢
  have hUg2 : g2 ≠ U := by have := hb1.size; omega
  have HO1 := Lib.hid ((Own_of HX.out hO1).keep hb2)
  have HO2 := Lib.hid (Own_of HY.out hO2)
  have hgw := (hgW.trans hb1).trans hb2
  have HB2 := Lib.hid (HBK.out.keep (hb1.trans hb2))
  clear hg1 hO1 hb1 hg2 hO2 hb2 HSA HSB HBK hgW hUW
  go_wp2_with fail
  refine (Separate_m (some ⟨g1, 0, none⟩) (some ⟨g2, 0, none⟩) q1 c1 q2 c2 xs ys m0 _ HX.out HY.out (by omega) (by omega) (by omega) (by omega) HO1.out.pts HO2.out.pts HVX.out HVY.out HM0.out).mono ?_
  rintro e w3 ⟨ux, uy, ud, uu, uv, ut, rfl, hT, hb3⟩
  have HCH : Hid (checkL (cornersL xs) (cornersL ys) ⟨m0, ux, uy, ud, uu, uv, ut⟩ = true) := Lib.hid (by rw [← hT]; exact HRI.out)
  have HKK : Hid ((if checkL (cornersL xs) (cornersL ys) ⟨m0, ux, uy, ud, uu, uv, ut⟩ = true then (0 : Int) else 10) = 0) := Lib.hid (by rw [HCH.out]; rfl)
  clear hT HRI
  go_wp2_with fail
  generalize hW4 : World.alloc w3 _ = w4
  obtain ⟨hb4, hBu⟩ := box7 hW4
  have HBU := Lib.hid hBu
  have hUV : w3.heap.size ≠ U := by have := (HB2.out.keep hb3).lt; omega
  clear hW4 hBu
  generalize w3.heap.size = V at HBU hUV ⊢
  refine (Separate_m (some ⟨g2, 0, none⟩) (some ⟨g1, 0, none⟩) q2 c2 q1 c1 ys xs m0 _ HY.out HX.out (by omega) (by omega) (by omega) (by omega) (HO2.out.keep (hb3.trans hb4)).pts (HO1.out.keep (hb3.trans hb4)).pts HVY.out HVX.out HM1.out).mono ?_
  rintro e w5 ⟨vx, vy, vd, vu, vv, vt, rfl, -, hb5⟩
  go_upto_region 4 with fail
  generalize hW6 : World.alloc w5 _ = w6
  obtain ⟨hb6, hBw⟩ := box7 hW6
  have HBW := Lib.hid hBw
  clear hW6 hBw
  generalize w5.heap.size = X at HBW ⊢
  have hgw6 := (((hgw.trans hb3).trans hb4).trans hb5).trans hb6
  have HP1 := Lib.hid (HO1.out.keep (((hb3.trans hb4).trans hb5).trans hb6)).pts
  have HP2 := Lib.hid (HO2.out.keep (((hb3.trans hb4).trans hb5).trans hb6)).pts
  have HB6 := Lib.hid (HB2.out.keep (((hb3.trans hb4).trans hb5).trans hb6))
  have HU6 := Lib.hid (HBU.out.keep (hb5.trans hb6))
  clear hb3 hb4 hb5 hb6 HO1 HO2 HB2 HBU hgw
  obtain ⟨⟨v0, v1, v2, v3, v4, v5, v6⟩, fv0, fv1, fv2, fv3, fv4, fv5, fv6⟩ := Blk7 HB6.out
  obtain ⟨⟨u0, -, -, -, -, -, -⟩, -⟩ := Blk7 HU6.out
  obtain ⟨⟨x0, -, -, -, -, -, -⟩, -⟩ := Blk7 HBW.out
  cases m0
  · have HWR : Hid ((if checkL (cornersL xs) (cornersL ys) ⟨true, x, y, d, 0, 0, 0⟩ = true then (0 : Int) else 10) = 10) := Lib.hid (by rw [HOW.out ⟨true, x, y, d, 0, 0, 0⟩ (by rw [HM0.out]; rfl)]; rfl)
    go_upto_region 10 with fail
    clear v0 v1 v2 v3 v4 v5 v6 fv0 fv1 fv2 fv3 fv4 fv5 fv6 u0 x0
    generalize hW7 : World.setCell _ _ _ = w7
    obtain ⟨hB7, hb7⟩ := put8 HB6.out hW7
    have HB7 := Lib.hid hB7
    have HU7 := Lib.hid (HU6.out.grown hb7 (fun e => hUV (by injection e)))
    have HQ1 := Lib.hid (HP1.out.gb hb7 hUg1)
    have HQ2 := Lib.hid (HP2.out.gb hb7 hUg2)
    have hgw7 := Gb.gr hgw6 hb7 (by omega)
    clear hW7 hB7 hb7 HP1 HP2 HB6 HU6 HBW
    obtain ⟨⟨v0, v1, v2, v3, v4, v5, v6⟩, -⟩ := Blk7 HB7.out
    go_wp2_with fail
    refine (Check_yes (some ⟨g1, 0, none⟩) (some ⟨g2, 0, none⟩) q1 c1 q2 c2 xs ys true x y d 0 0 0 _ HX.out HY.out (by omega) (by omega) (by omega) (by omega) HQ1.out HQ2.out HVX.out HVY.out).mono ?_
    rintro e w8 ⟨rfl, hb8⟩
    rw [HWR.out]
    clear v0 v1 v2 v3 v4 v5 v6
    obtain ⟨⟨u0, u1, u2, u3, u4, u5, u6⟩, -⟩ := Blk7 (HU7.out.keep hb8)
    go_wp2_with fail
    refine (Check_yes (some ⟨g1, 0, none⟩) (some ⟨g2, 0, none⟩) q1 c1 q2 c2 xs ys false ux uy ud uu uv ut _ HX.out HY.out (by omega) (by omega) (by omega) (by omega) (HQ1.out.keep hb8) (HQ2.out.keep hb8) HVX.out HVY.out).mono ?_
    rintro e w9 ⟨rfl, hb9⟩
    rw [HKK.out]
    clear u0 u1 u2 u3 u4 u5 u6
    go_wp2_with fail
    refine (awake_any _).mono ?_
    rintro e wz ⟨rfl, hbz⟩
    go_wp2_with fail
    go_ret
    exact ⟨rfl, ((hgw7.trans hb8).trans hb9).trans hbz⟩
  · have HWR : Hid ((if checkL (cornersL xs) (cornersL ys) ⟨false, 0, 0, 0, u, v, t⟩ = true then (0 : Int) else 10) = 10) := Lib.hid (by rw [HOW.out ⟨false, 0, 0, 0, u, v, t⟩ (by rw [HM0.out]; rfl)]; rfl)
    go_upto_region 10 with fail
    clear v0 v1 v2 v3 v4 v5 v6 fv0 fv1 fv2 fv3 fv4 fv5 fv6 u0 x0
    generalize hW7 : World.setCell _ _ _ = w7
    obtain ⟨hB7, hb7⟩ := put8 HB6.out hW7
    have HB7 := Lib.hid hB7
    have HU7 := Lib.hid (HU6.out.grown hb7 (fun e => hUV (by injection e)))
    have HQ1 := Lib.hid (HP1.out.gb hb7 hUg1)
    have HQ2 := Lib.hid (HP2.out.gb hb7 hUg2)
    have hgw7 := Gb.gr hgw6 hb7 (by omega)
    clear hW7 hB7 hb7 HP1 HP2 HB6 HU6 HBW
    obtain ⟨⟨v0, v1, v2, v3, v4, v5, v6⟩, -⟩ := Blk7 HB7.out
    go_wp2_with fail
    refine (Check_yes (some ⟨g1, 0, none⟩) (some ⟨g2, 0, none⟩) q1 c1 q2 c2 xs ys false 0 0 0 u v t _ HX.out HY.out (by omega) (by omega) (by omega) (by omega) HQ1.out HQ2.out HVX.out HVY.out).mono ?_
    rintro e w8 ⟨rfl, hb8⟩
    rw [HWR.out]
    clear v0 v1 v2 v3 v4 v5 v6
    obtain ⟨⟨u0, u1, u2, u3, u4, u5, u6⟩, -⟩ := Blk7 (HU7.out.keep hb8)
    go_wp2_with fail
    refine (Check_yes (some ⟨g1, 0, none⟩) (some ⟨g2, 0, none⟩) q1 c1 q2 c2 xs ys true ux uy ud uu uv ut _ HX.out HY.out (by omega) (by omega) (by omega) (by omega) (HQ1.out.keep hb8) (HQ2.out.keep hb8) HVX.out HVY.out).mono ?_
    rintro e w9 ⟨rfl, hb9⟩
    rw [HKK.out]
    clear u0 u1 u2 u3 u4 u5 u6
    go_wp2_with fail
    refine (awake_any _).mono ?_
    rintro e wz ⟨rfl, hbz⟩
    go_wp2_with fail
    go_ret
    exact ⟨rfl, ((hgw7.trans hb8).trans hb9).trans hbz⟩

end Go.Proofs.Ytjkdjfagaakijaa
