/- The law PlaneMoves as a walk. -/
import Derived.Test.YtcojionipffanacSet
import Derived.Test.YtcojionipffanacWidest
import Derived.Test.YtcojionipffanacHullB
import Derived.Test.YtcojionipffanacMoves
import Derived.Test.YtcojionipffanacCorner2
import Derived.Deep.AppendLies
import Derived.Deep.CutRange
namespace Go.Proofs.Ytcojionipffanac
open Go.RowKit
set_option linter.unusedSimpArgs false

theorem all_vld' {l : List (Int × Int)} (h : AllCo l) : (l.all fun p => vld p.1 p.2) = true :=
  List.all_eq_true.2 fun p hp => (vld_iff _ _).2 (h p hp)
theorem Co_at {l : List (Int × Int)} (h : AllCo l) {k : Nat} (hk : k < l.length) : Co (l.getD k (0, 0)).1 ∧ Co (l.getD k (0, 0)).2 := by
  rw [List.getD_eq_getElem?_getD, List.getElem?_eq_getElem hk]
  exact h _ (List.getElem_mem hk)
theorem Blk.new (w : World) (cs : Array Value) (t : TypeId) {g : Nat} (h : w.heap.size = g) : Blk (w.alloc (.cells cs t)) g t cs := by
  subst h; exact heap_alloc_new w _
theorem Blk.other {w : World} {g : Nat} {t : TypeId} {cs : Array Value} (h : Blk w g t cs) {p : Addr} (hne : g ≠ p.block) (u : Value) : Blk (w.setCell p u) g t cs :=
  (Below.heap_setCell w p u g hne).trans h

set_option maxRecDepth 100000 in
set_option maxHeartbeats 4000000 in
theorem lawMoves_any (A : Option Addr) (n c : Nat) (ps : List (Int × Int)) (px py b0 b1 : Int) (w : World) (hn : ps.length = n) (hl : n ≤ 8796093022208) (hp : Pts w A ps) :
    Calls Try.prog 7 #[.slice A n c, .agg #[.int .i64 px, .int .i64 py], .agg #[.int .i64 b0, .int .i64 b1]] w fun e w' => e = .returned (.bool true) ∧ Gr w w' := by
  have HS := Lib.hid (fun W (hW : Gr w W) => set_any A n c 40 ps W hn hl (by omega) (by omega) (hp.keep hW))
  have hql := setL_len ps 40 (by omega)
  have hco := setL_co ps 40
  generalize setL ps 40 = qs at HS hql hco
  obtain ⟨q, hq⟩ : ∃ q, qs.length = q := ⟨_, rfl⟩
  rw [hq] at hql
  have HQ := Lib.hid hq
  have HCO := Lib.hid hco
  have mx := modL_bd b0 4000 (by omega)
  have my := modL_bd b1 4000 (by omega)
  have hgc := gridP_co (px, py)
  clear hn hl hp hq hco
  go_enter Try.func7, Try.ntmps7
  go_wp2_with fail
  obtain ⟨W0, hW0⟩ : ∃ W0, (w.alloc (.cells #[.int .i64 px, .int .i64 py] 40)).alloc (.cells #[.int .i64 b0, .int .i64 b1] 41) = W0 := ⟨_, rfl⟩
  have hG0 : Gr w W0 := by rw [← hW0]; exact ((Gr.refl w).alloc _).alloc _
  have hP0 : Blk W0 w.heap.size 40 #[.int .i64 px, .int .i64 py] := by rw [← hW0]; exact Blk.keep (Blk.new w _ _ rfl) ((Gr.refl _).alloc _)
  have hB0 : Blk W0 (w.heap.size + 1) 41 #[.int .i64 b0, .int .i64 b1] := by rw [← hW0]; exact Blk.new _ _ _ (by simp)
  rw [hW0]
  clear hW0
  have HB0 := Lib.hid hB0
  have HP0 := Lib.hid hP0
  have HG0 := Lib.hid hG0
  clear hB0 hP0 hG0
  generalize hP : w.heap.size = P at HB0 HP0 ⊢
  refine (HS.out W0 HG0.out).mono ?_
  rintro e w1 ⟨g1, c1, rfl, hc1, hg1, hO, hg⟩
  have HO1 := Lib.hid (Own_of rfl hO)
  clear hO HS
  rw [HQ.out] at hc1 ⊢
  have p0 := (HP0.out.keep hg).cell 0
  have p1 := (HP0.out.keep hg).cell 1
  go_wp2_with fail
  refine (grid_any px py _).mono ?_
  rintro e w2 ⟨rfl, hb⟩
  obtain ⟨⟨x0, y0⟩, hxy⟩ : ∃ p, gridP (px, py) = p := ⟨_, rfl⟩
  rw [hxy] at hgc ⊢
  dsimp only at hgc ⊢
  have hg2 := hg.trans hb
  clear p0 p1 hxy
  have p0 := (HP0.out.keep hg2).cell 0
  have p1 := (HP0.out.keep hg2).cell 1
  have z0 := (HP0.out.keep hg2).free 0
  have z1 := (HP0.out.keep hg2).free 1
  have q0 := (HB0.out.keep hg2).cell 0
  have q1 := (HB0.out.keep hg2).cell 1
  go_wp2_with fail
  have hb3 : Gb P w2 ((w2.setCell ⟨P, 0, none⟩ (.int .i64 x0)).setCell ⟨P, 1, none⟩ (.int .i64 y0)) := ((Gb.refl _ _).put 0 _).put 1 _
  have hP3 : Blk ((w2.setCell ⟨P, 0, none⟩ (.int .i64 x0)).setCell ⟨P, 1, none⟩ (.int .i64 y0)) P 40 #[.int .i64 x0, .int .i64 y0] := by
    have := ((HP0.out.keep hg2).put 0 (.int .i64 x0)).put 1 (.int .i64 y0)
    simpa using this
  have hB3 : Blk ((w2.setCell ⟨P, 0, none⟩ (.int .i64 x0)).setCell ⟨P, 1, none⟩ (.int .i64 y0)) (P + 1) 41 #[.int .i64 b0, .int .i64 b1] := ((HB0.out.keep hg2).other (p := ⟨P, 0, none⟩) (by simp) _).other (p := ⟨P, 1, none⟩) (by simp) _
  have hG3 : Gr w ((w2.setCell ⟨P, 0, none⟩ (.int .i64 x0)).setCell ⟨P, 1, none⟩ (.int .i64 y0)) := hb3.gr (HG0.out.trans hg2) (by omega)
  have hO3 : Own ((w2.setCell ⟨P, 0, none⟩ (.int .i64 x0)).setCell ⟨P, 1, none⟩ (.int .i64 y0)) g1 0 qs := (HO1.out.keep hb).other hb3 (by have := HP0.out.lt; omega)
  generalize (w2.setCell ⟨P, 0, none⟩ (.int .i64 x0)).setCell ⟨P, 1, none⟩ (.int .i64 y0) = w3 at hb3 hP3 hB3 hG3 hO3 ⊢
  clear p0 p1 z0 z1 q0 q1 hb hg2 hb3 hg hg1
  have HP3 := Lib.hid hP3
  have HG3 := Lib.hid hG3
  have HO3 := Lib.hid hO3
  have q0 := hB3.cell 0
  have q1 := hB3.cell 1
  clear hP3 hB3 hG3 hO3
  obtain ⟨x, hx⟩ : ∃ x, modL b0 4000 - 2000 = x := ⟨_, rfl⟩
  obtain ⟨y, hy⟩ : ∃ y, modL b1 4000 - 2000 = y := ⟨_, rfl⟩
  have hwx : IntKind.i64.wrap (modL b0 4000 - 2000) = x := by rw [hx]; exact IntWalk.i64_in _ (by omega)
  have hwy : IntKind.i64.wrap (modL b1 4000 - 2000) = y := by rw [hy]; exact IntWalk.i64_in _ (by omega)
  have hxb : -2000 ≤ x ∧ x ≤ 2000 := by omega
  have hyb : -2000 ≤ y ∧ y ≤ 2000 := by omega
  clear hx hy
  go_cut [8, 9] from 8 to 41 (fun p8 p9 wx => p8 = .int .i64 x ∧ p9 = .int .i64 y ∧ wx = w3.drew)
  case first =>
    go_region_law (go_simp; go_at_call 25; refine (mod_any _ 4000 _ (by omega)).mono ?_; rintro e w4 ⟨rfl, rfl⟩)
    all_goals
      go_wp2_with fail
      go_meet
      exact ⟨rfl, rfl, rfl⟩
  case rest =>
    obtain ⟨rfl, rfl, rfl⟩ := hcut
    have hdr : Gr w3 w3.drew := (Gr.refl _).drew
    have HP4 := Lib.hid (HP3.out.keep hdr)
    have HG4 := Lib.hid (HG3.out.trans hdr)
    have HO4 := Lib.hid (HO3.out.keep hdr)
    generalize w3.drew = w4 at HP4 HG4 HO4 ⊢
    clear HP3 HG3 HO3 hdr q0 q1 hwx hwy
    go_wp2_with fail
    obtain ⟨i0, hi, hz0, hz1, hz2⟩ := info_parts Try.info23
    go_loopw [10, 11] (fun v z wr => ∃ k : Nat, k ≤ q ∧ z = .int .i64 k ∧ Hid (wr.ownsRow w4.heap.size 40 2 v k (flat2 ((qs.take k).map (tr (x, y))))) ∧ Hid (Gr w4 wr)) (fun _ z _ => q - (intOf z).toNat)
    case atStart => exact ⟨0, Nat.zero_le _, rfl, Lib.hid (World.ownsRow_nil w4 _ _ _), Lib.hid (Gr.refl _)⟩
    case round =>
      obtain ⟨k, hk, rfl, hown, hg⟩ := hrel
      by_cases hlt : k < q
      · have HTK : Hid ((qs.take (k + 1)).map (tr (x, y)) = (qs.take k).map (tr (x, y)) ++ [tr (x, y) (qs.getD k (0, 0))]) := Lib.hid (by
          rw [List.take_add_one, getD_of (0, 0) (by have := HQ.out; omega)]; simp)
        obtain ⟨⟨c0, c1'⟩, -, -⟩ := (HO4.out.keep hg.out) k (by have := HQ.out; omega)
        rw [Nat.zero_add] at c0 c1'
        have hca := Co_at HCO.out (k := k) (by have := HQ.out; omega)
        generalize qs.getD k (0, 0) = a at c0 c1' hca HTK
        obtain ⟨a1, a2⟩ := a
        dsimp only at c0 c1' hca
        unfold Co at hca
        have hsz := hg.out.size
        have hw1 : IntKind.i64.wrap (a1 + x) = a1 + x := IntWalk.i64_in _ (by omega)
        have hw2 : IntKind.i64.wrap (a2 + y) = a2 + y := IntWalk.i64_in _ (by omega)
        go_wp2_with fail
        go_region_law (refine step_append_lies _ (by rfl) (.tmp 48) (.tmp 64) 22 (by rfl) w4.heap.size 40 i0 _ 2 16 Try.underlying22 hi hz0 hz1 hz2 rfl (by decide) u10 k (flat2 ((qs.take k).map (tr (x, y)))) (by rfl) (owns_gr hown.out (((Gr.refl _).alloc _).drew)) ⟨wr.heap.size, 0, none⟩ 1 1 [.int .i64 (a1 + x), .int .i64 (a2 + y)] (by rfl) rfl (World.news_of_block (heap_alloc_new _ _)) (by intro u hu; simp at hu; rcases hu with rfl | rfl <;> rfl) (by decide) (by unfold maxLen; omega) (by omega) (by simp; omega) _ rfl ?_; intro g' cap' w5 hown' hgrow _ _)
        all_goals
          have hgn : Gr w4 w5 := Below.grown (hg.out.trans (((Gr.refl _).alloc _).drew)) hgrow (by simp; omega) (fun t ht => (hown.out.lt t ht).1)
          have hon : w5.ownsRow w4.heap.size 40 2 (.slice (some ⟨g', 0, none⟩) (k + 1) cap') (k + 1) (flat2 ((qs.take (k + 1)).map (tr (x, y)))) := by
            rw [HTK.out, flat2_snoc]; exact hown'
          have HGN := Lib.hid hgn
          have HON := Lib.hid hon
          clear hgn hon hown' hgrow
          go_wp2_with fail
          go_roundw
          case rel => exact ⟨k + 1, by omega, by go_num, HON, HGN⟩
          case measure => simp [intOf]; omega
      · have hkq : k = q := by omega
        rw [hkq, List.take_of_length_le (by rw [HQ.out]; exact Nat.le_refl _)] at hown
        have hlt' : ¬ ((k : Int) < (q : Int)) := by omega
        have hwx0 : IntKind.i64.wrap (x0 + x) = x0 + x := IntWalk.i64_in _ (by have := hgc.1; unfold Co at this; omega)
        have hwy0 : IntKind.i64.wrap (y0 + y) = y0 + y := IntWalk.i64_in _ (by have := hgc.2; unfold Co at this; omega)
        have HGC := Lib.hid hgc
        obtain ⟨ms, hms⟩ : ∃ ms, qs.map (tr (x, y)) = ms := ⟨_, rfl⟩
        have HMS := Lib.hid hms
        have HML : Hid (ms.length = q) := Lib.hid (by rw [← hms, List.length_map, HQ.out])
        rw [hms] at hown
        clear hgc hms
        obtain ⟨g2, c2, hvv⟩ : ∃ v0 v1, u10 = .slice (some ⟨v0, 0, none⟩) q v1 := by
          rcases hown.out.2 with ⟨_, hz⟩ | ⟨gv, cv, _, hv, _⟩
          · omega
          · exact ⟨gv, cv, hv⟩
        subst hvv
        have HOM : Hid (Own wr g2 0 ms) := Lib.hid (Own_of HML.out hown.out)
        have HOQ : Hid (Own wr g1 0 qs) := Lib.hid (HO4.out.keep hg.out)
        have HGW := Lib.hid (HG4.out.trans hg.out)
        have HPW := Lib.hid (HP4.out.keep hg.out)
        have p0 := HPW.out.cell 0
        have p1 := HPW.out.cell 1
        clear hown hg HO4 HP4 HG4
        go_wp2_with fail
        obtain ⟨wz, hwz⟩ : ∃ wz, wr.alloc (.cells #[.int .i64 (x0 + x), .int .i64 (y0 + y)] 40) = wz := ⟨_, rfl⟩
        have hgz : Gr wr wz := by rw [← hwz]; exact (Gr.refl _).alloc _
        have HQZ : Hid (Blk wz wr.heap.size 40 #[.int .i64 (x0 + x), .int .i64 (y0 + y)]) := Lib.hid (by rw [← hwz]; exact Blk.new _ _ _ rfl)
        rw [hwz]
        have HPZ := Lib.hid (HPW.out.keep hgz)
        have HOM' := Lib.hid (HOM.out.keep hgz)
        have HOQ' := Lib.hid (HOQ.out.keep hgz)
        have HGZ := Lib.hid (HGW.out.trans hgz)
        generalize wr.heap.size = QB at HQZ ⊢
        clear hwz hgz HPW HOM HOQ HGW p0 p1 hlt' HP0 HB0 HG0 HO1 hlt hkq hk
        rcases hvM : (ms.all fun p => vld p.1 p.2) with _ | _
        · refine (rValids_any (some ⟨g2, 0, none⟩) q c2 ms wz HML.out (by omega) HOM'.out.pts _ hvM).mono ?_
          rintro e w5 ⟨rfl, hb5⟩
          clear hvM
          go_wp2_with fail
          refine (awake_any _).mono ?_
          rintro e w6 ⟨rfl, hb6⟩
          go_wp2_with fail
          try rw [Exit.noGoto_ret]
          go_ret
          exact ⟨rfl, (HGZ.out.trans hb5).trans hb6⟩
        · refine (rValids_any (some ⟨g2, 0, none⟩) q c2 ms wz HML.out (by omega) HOM'.out.pts _ hvM).mono ?_
          rintro e w5 ⟨rfl, hb5⟩
          have HVM := Lib.hid hvM
          clear hvM
          have r0 := (HQZ.out.keep hb5).cell 0
          have r1 := (HQZ.out.keep hb5).cell 1
          rcases hvQ : vld (x0 + x) (y0 + y) with _ | _
          · have HVQ := Lib.hid hvQ
            clear hvQ
            go_wp2_with fail
            refine (rValid_any (x0 + x) (y0 + y) _ _ HVQ.out).mono ?_
            rintro e w6 ⟨rfl, hb6⟩
            go_wp2_with fail
            refine (awake_any _).mono ?_
            rintro e w7 ⟨rfl, hb7⟩
            go_wp2_with fail
            try rw [Exit.noGoto_ret]
            go_ret
            exact ⟨rfl, ((HGZ.out.trans hb5).trans hb6).trans hb7⟩
          · have HVQ := Lib.hid hvQ
            clear hvQ
            go_wp2_with fail
            refine (rValid_any (x0 + x) (y0 + y) _ _ HVQ.out).mono ?_
            rintro e w6 ⟨rfl, hb6⟩
            have hg6 := hb5.trans hb6
            clear r0 r1 hb5 hb6
            have HVO : Hid ((qs.all fun p => vld p.1 p.2) = true) := Lib.hid (all_vld' HCO.out)
            have hcl := cornersL_len qs (by have := HQ.out; omega)
            have hcc := all_Cos (cornersL_co (Cos_all HCO.out))
            have hct := cornersL_tr (x, y) qs
            have hwi := widest_tr (x, y) (l := qs) (by have := HQ.out; omega)
            have har := area_tr (x, y) qs
            rw [HMS.out] at hct hwi har
            obtain ⟨cs, hcs⟩ : ∃ cs, cornersL qs = cs := ⟨_, rfl⟩
            rw [hcs] at hcl hcc hct hwi
            obtain ⟨r, hr⟩ : ∃ r, cs.length = r := ⟨_, rfl⟩
            rw [hr, HQ.out] at hcl
            obtain ⟨ar, har0⟩ : ∃ ar, areaL qs = ar := ⟨_, rfl⟩
            obtain ⟨wi, hwi0⟩ : ∃ wi, widestL cs = wi := ⟨_, rfl⟩
            have HA1 := Lib.hid har0
            have HA2 := Lib.hid (har.trans har0)
            have HW2 := Lib.hid (hwi.trans hwi0)
            have HW1 := Lib.hid hwi0
            have HE := Lib.hid hcs
            have HE2 := Lib.hid hct
            have HR := Lib.hid hr
            have HRM : Hid ((cs.map (tr (x, y))).length = r) := Lib.hid (by rw [List.length_map, hr])
            have HCC := Lib.hid hcc
            clear har0 har hwi hwi0 hcs hct hr hcc
            go_wp2_with fail
            refine (Hull_yes _ q c1 qs _ HQ.out hql.1 (by omega) (HOQ'.out.keep hg6).pts HVO.out).mono ?_
            rintro e w7 ⟨g3, c3, rfl, hc3, hg3, hO3, hb7⟩
            rw [HE.out] at hO3 hc3 ⊢
            rw [HR.out] at hc3 ⊢
            have hg7 := hg6.trans hb7
            go_wp2_with fail
            refine (Hull_yes _ q c2 ms _ HML.out hql.1 (by omega) (HOM'.out.keep hg7).pts HVM.out).mono ?_
            rintro e w8 ⟨g4, c4, rfl, hc4, hg4, hO4, hb8⟩
            rw [HE2.out] at hO4 hc4 ⊢
            rw [HRM.out] at hc4 ⊢
            have hg8 := hg7.trans hb8
            have HO3 := Lib.hid (hO3.keep hb8)
            have HO4 := Lib.hid hO4
            clear hO3 hO4 hg3 hg4 hb7 hb8 hg6 hg7
            go_wp2_with fail
            refine (Area_yes _ q c1 qs _ HQ.out (by omega) (HOQ'.out.keep hg8).pts HVO.out).mono ?_
            rintro e w9 ⟨rfl, hb9⟩
            rw [HA1.out]
            have hg9 := hg8.trans hb9
            go_wp2_with fail
            refine (Area_yes _ q c2 ms _ HML.out (by omega) (HOM'.out.keep hg9).pts HVM.out).mono ?_
            rintro e w10 ⟨rfl, hb10⟩
            rw [HA2.out]
            have hg10 := hg9.trans hb10
            go_wp2_with fail
            refine (Widest_yes _ q c1 qs _ HQ.out hql.1 (by omega) (HOQ'.out.keep hg10).pts HVO.out).mono ?_
            rintro e w11 ⟨rfl, hb11⟩
            rw [HE.out, HW1.out]
            have hg11 := hg10.trans hb11
            go_wp2_with fail
            refine (Widest_yes _ q c2 ms _ HML.out hql.1 (by omega) (HOM'.out.keep hg11).pts HVM.out).mono ?_
            rintro e w12 ⟨rfl, hb12⟩
            rw [HW2.out]
            have HG12 := Lib.hid (hg11.trans hb12)
            have hs1 : (ar == ar) = true := by simp
            have hs2 : (wi == wi) = true := by simp
            have hs3 : ((r : Int) == (r : Int)) = true := by simp
            have HO3' := Lib.hid (HO3.out.keep (((hb9.trans hb10).trans hb11).trans hb12))
            have HO4' := Lib.hid (HO4.out.keep (((hb9.trans hb10).trans hb11).trans hb12))
            clear hg8 hg9 hg10 hg11 hb9 hb10 hb11 hb12 HO3 HO4
            have hv0 : vld x0 y0 = true := (vld_iff _ _).2 HGC.out
            have hin := inside_tr (x, y) qs x0 y0
            have hsm : SimpleP ms ↔ SimpleP qs := by rw [← HMS.out]; exact simple_tr HVO.out (by rw [HMS.out]; exact HVM.out)
            rw [HMS.out] at hin
            dsimp only at hin
            obtain ⟨v, ec, HI1, HI2⟩ : ∃ v ec : Int, Hid (∀ W, Gr wz W → Calls Try.prog 31 #[.slice (some ⟨g1, 0, none⟩) q c1, .agg #[.int .i64 x0, .int .i64 y0]] W fun e w' => e = .returned (.tuple #[.int .i64 v, .int .i64 ec]) ∧ Gr W w') ∧ Hid (∀ W, Gr wz W → Calls Try.prog 31 #[.slice (some ⟨g2, 0, none⟩) q c2, .agg #[.int .i64 (x0 + x), .int .i64 (y0 + y)]] W fun e w' => e = .returned (.tuple #[.int .i64 v, .int .i64 ec]) ∧ Gr W w') := by
              by_cases hs : SimpleP qs
              · exact ⟨insideL qs x0 y0, 0, Lib.hid (fun W h => Inside_yes _ q c1 qs x0 y0 W HQ.out (by omega) (HOQ'.out.keep h).pts hs hv0), Lib.hid (fun W h => by
                  have := Inside_yes (some ⟨g2, 0, none⟩) q c2 ms (x0 + x) (y0 + y) W HML.out (by omega) (HOM'.out.keep h).pts (hsm.2 hs) HVQ.out
                  rw [hin] at this; exact this)⟩
              · exact ⟨0, 2, Lib.hid (fun W h => Inside_no _ q c1 qs x0 y0 W HQ.out (by omega) (HOQ'.out.keep h).pts (Or.inl hs)), Lib.hid (fun W h => Inside_no _ q c2 ms (x0 + x) (y0 + y) W HML.out (by omega) (HOM'.out.keep h).pts (Or.inl (fun h => hs (hsm.1 h))))⟩
            obtain ⟨b, HS1, HS2⟩ : ∃ b : Bool, Hid (∀ W, Gr wz W → Calls Try.prog 32 #[.slice (some ⟨g1, 0, none⟩) q c1] W fun e w' => e = .returned (.bool b) ∧ Gr W w') ∧ Hid (∀ W, Gr wz W → Calls Try.prog 32 #[.slice (some ⟨g2, 0, none⟩) q c2] W fun e w' => e = .returned (.bool b) ∧ Gr W w') := by
              obtain ⟨b, hb⟩ : ∃ b : Bool, (b = true ↔ SimpleP qs) := by
                by_cases hs : SimpleP qs
                · exact ⟨true, by simp [hs]⟩
                · exact ⟨false, by simp [hs]⟩
              refine ⟨b, Lib.hid (fun W h => (Simple_any (some ⟨g1, 0, none⟩) q c1 qs W HQ.out (by omega) (HOQ'.out.keep h).pts).mono ?_), Lib.hid (fun W h => (Simple_any (some ⟨g2, 0, none⟩) q c2 ms W HML.out (by omega) (HOM'.out.keep h).pts).mono ?_)⟩
              · rintro e w' ⟨z, rfl, hz, hg⟩
                obtain rfl : z = b := Bool.eq_iff_iff.2 (hz.trans hb.symm)
                exact ⟨rfl, hg⟩
              · rintro e w' ⟨z, rfl, hz, hg⟩
                obtain rfl : z = b := Bool.eq_iff_iff.2 ((hz.trans hsm).trans hb.symm)
                exact ⟨rfl, hg⟩
            clear hin hsm hv0
            go_wp2_with fail
            go_loopw [25] (fun z wr => ∃ k : Nat, k ≤ r ∧ z = .int .i64 k ∧ Hid (Gr w12 wr)) (fun z _ => r - (intOf z).toNat)
            case atStart => exact ⟨0, Nat.zero_le _, rfl, Lib.hid (Gr.refl _)⟩
            case round =>
              obtain ⟨k, hk, rfl, hG⟩ := hrel
              by_cases hlt : k < r
              · obtain ⟨⟨d0, d1⟩, -, -⟩ := (HO3'.out.keep hG.out) k (by have := HR.out; omega)
                obtain ⟨⟨e0, e1⟩, -, -⟩ := (HO4'.out.keep hG.out) k (by have := HRM.out; omega)
                rw [Nat.zero_add] at d0 d1 e0 e1
                rw [getD_map (by have := HR.out; omega)] at e0 e1
                have hca := Co_at HCC.out (k := k) (by have := HR.out; omega)
                generalize cs.getD k (0, 0) = a at d0 d1 e0 e1 hca
                obtain ⟨a1, a2⟩ := a
                dsimp only [tr] at d0 d1 e0 e1 hca
                unfold Co at hca
                have hw1 : IntKind.i64.wrap (a1 + x) = a1 + x := IntWalk.i64_in _ (by omega)
                have hw2 : IntKind.i64.wrap (a2 + y) = a2 + y := IntWalk.i64_in _ (by omega)
                have hb1 : ((a1 + x) == (a1 + x)) = true := by simp
                have hb2 : ((a2 + y) == (a2 + y)) = true := by simp
                go_wp2_with fail
                go_quiet (fail)
                go_wp2_with fail
                go_roundw
                case rel => exact ⟨k + 1, by omega, by go_num, Lib.hid (by first | exact Below.drewN hG.out _ | exact hG.out.drewN _ | exact hG.out.drew | exact hG.out)⟩
                case measure => simp [intOf]; omega
              · have hlt' : ¬ ((k : Int) < (r : Int)) := by omega
                have hgq := HG12.out.trans hG.out
                have s0 := (HPZ.out.keep hgq).cell 0
                have s1 := (HPZ.out.keep hgq).cell 1
                go_wp2_with fail
                refine (HI1.out _ hgq).mono ?_
                rintro e w13 ⟨rfl, hb13⟩
                have hg13 := hgq.trans hb13
                have t0 := (HQZ.out.keep hg13).cell 0
                have t1 := (HQZ.out.keep hg13).cell 1
                go_wp2_with fail
                refine (HI2.out _ hg13).mono ?_
                rintro e w14 ⟨rfl, hb14⟩
                have hg14 := hg13.trans hb14
                clear s0 s1 t0 t1 hgq hb13 hb14 hg13
                obtain ⟨m2, hm2⟩ : ∃ m2, q = m2 + 1 := ⟨q - 1, by omega⟩
                have hq1 : (q : Int) - 1 = (m2 : Int) := by omega
                have hm3 : (m2 : Int) < (q : Int) := by omega
                have hm4 : 0 < q := by omega
                have hm6 : IntKind.i64.wrap (m2 : Int) = (m2 : Int) := IntWalk.i64_in _ (by omega)
                have hm7 : m2 < q := by omega
                have hm5 : (0 : Int) ≤ (m2 : Int) := by omega
                obtain ⟨⟨a0, a0'⟩, -, -⟩ := (HOQ'.out.keep hg14) 0 (by have := HQ.out; omega)
                obtain ⟨⟨l0, l0'⟩, -, -⟩ := (HOQ'.out.keep hg14) m2 (by have := HQ.out; omega)
                obtain ⟨⟨e0, e0'⟩, -, -⟩ := (HOM'.out.keep hg14) 0 (by have := HML.out; omega)
                obtain ⟨⟨f0, f0'⟩, -, -⟩ := (HOM'.out.keep hg14) m2 (by have := HML.out; omega)
                rw [← HMS.out, getD_map (by have := HQ.out; omega)] at e0 e0' f0 f0'
                rw [Nat.zero_add] at l0 l0' f0 f0'
                rw [Nat.zero_mul, Nat.zero_add] at a0 a0' e0 e0'
                have ca := Co_at HCO.out (k := 0) (by have := HQ.out; omega)
                have cl := Co_at HCO.out (k := m2) (by have := HQ.out; omega)
                have hvms : AllCo ms := fun p hp => (vld_iff _ _).1 (List.all_eq_true.1 HVM.out p hp)
                have ce := Co_at hvms (k := 0) (by have := HML.out; omega)
                have cf := Co_at hvms (k := m2) (by have := HML.out; omega)
                rw [← HMS.out, getD_map (by have := HQ.out; omega)] at ce cf
                generalize qs.getD 0 (0, 0) = pa at a0 a0' e0 e0' ca ce
                generalize qs.getD m2 (0, 0) = pl at l0 l0' f0 f0' cl cf
                obtain ⟨ax, ay⟩ := pa
                obtain ⟨lx, ly⟩ := pl
                dsimp only [tr] at a0 a0' e0 e0' ca ce l0 l0' f0 f0' cl cf
                have cq := (vld_iff _ _).1 HVQ.out
                have cp := HGC.out
                obtain ⟨s, hs⟩ : ∃ s, sgn (crs ax ay x0 y0 lx ly) = s := ⟨_, rfl⟩
                have HT1 : Hid (∀ W, Calls Try.prog 33 #[.agg #[.int .i64 ax, .int .i64 ay], .agg #[.int .i64 x0, .int .i64 y0], .agg #[.int .i64 lx, .int .i64 ly]] W fun e w' => e = .returned (.int .i64 s) ∧ Gr W w') := Lib.hid (fun W => by
                  have h := lturn_any ax ay x0 y0 lx ly W ca.1 ca.2 cp.1 cp.2 cl.1 cl.2
                  rwa [hs] at h)
                have HT2 : Hid (∀ W, Calls Try.prog 33 #[.agg #[.int .i64 (ax + x), .int .i64 (ay + y)], .agg #[.int .i64 (x0 + x), .int .i64 (y0 + y)], .agg #[.int .i64 (lx + x), .int .i64 (ly + y)]] W fun e w' => e = .returned (.int .i64 s) ∧ Gr W w') := Lib.hid (fun W => by
                  have h := lturn_any (ax + x) (ay + y) (x0 + x) (y0 + y) (lx + x) (ly + y) W ce.1 ce.2 cq.1 cq.2 cf.1 cf.2
                  rwa [crs_tr, hs] at h)
                have p0 := (HPZ.out.keep hg14).cell 0
                have p1 := (HPZ.out.keep hg14).cell 1
                have q0 := (HQZ.out.keep hg14).cell 0
                have q1 := (HQZ.out.keep hg14).cell 1
                have KS : Hid (∀ W', Gr w14 W' → (Gr w14 W' ∧ (W'.cell? ⟨g1, 0, none⟩ = some (.int .i64 ax) ∧ W'.cell? ⟨g1, 1, none⟩ = some (.int .i64 ay)) ∧ (W'.cell? ⟨g1, m2 * 2, none⟩ = some (.int .i64 lx) ∧ W'.cell? ⟨g1, m2 * 2 + 1, none⟩ = some (.int .i64 ly)) ∧ (W'.cell? ⟨g2, 0, none⟩ = some (.int .i64 (ax + x)) ∧ W'.cell? ⟨g2, 1, none⟩ = some (.int .i64 (ay + y))) ∧ (W'.cell? ⟨g2, m2 * 2, none⟩ = some (.int .i64 (lx + x)) ∧ W'.cell? ⟨g2, m2 * 2 + 1, none⟩ = some (.int .i64 (ly + y))) ∧ (W'.cell? ⟨P, 0, none⟩ = some (.int .i64 x0) ∧ W'.cell? ⟨P, 1, none⟩ = some (.int .i64 y0)) ∧ (W'.cell? ⟨QB, 0, none⟩ = some (.int .i64 (x0 + x)) ∧ W'.cell? ⟨QB, 1, none⟩ = some (.int .i64 (y0 + y))))) := Lib.hid (fun W' h => ⟨h, ⟨h.keep a0, h.keep a0'⟩, ⟨h.keep l0, h.keep l0'⟩, ⟨h.keep e0, h.keep e0'⟩, ⟨h.keep f0, h.keep f0'⟩, ⟨h.keep p0, h.keep p1⟩, ⟨h.keep q0, h.keep q1⟩⟩)
                have HG14 := Lib.hid hg14
                clear a0 a0' l0 l0' e0 e0' f0 f0' p0 p1 q0 q1 hs ca cl ce cf cq cp hg14 hvms hm2
                have hsb : (b == b) = true := by simp
                have hsv : (v == v) = true := by simp
                have hse : (ec == ec) = true := by simp
                have hss : (s == s) = true := by simp
                go_wp2_with fail
                refine wp_region_held_drew (S := (fun W' => Gr w14 W' ∧ (W'.cell? ⟨g1, 0, none⟩ = some (.int .i64 ax) ∧ W'.cell? ⟨g1, 1, none⟩ = some (.int .i64 ay)) ∧ (W'.cell? ⟨g1, m2 * 2, none⟩ = some (.int .i64 lx) ∧ W'.cell? ⟨g1, m2 * 2 + 1, none⟩ = some (.int .i64 ly)) ∧ (W'.cell? ⟨g2, 0, none⟩ = some (.int .i64 (ax + x)) ∧ W'.cell? ⟨g2, 1, none⟩ = some (.int .i64 (ay + y))) ∧ (W'.cell? ⟨g2, m2 * 2, none⟩ = some (.int .i64 (lx + x)) ∧ W'.cell? ⟨g2, m2 * 2 + 1, none⟩ = some (.int .i64 (ly + y))) ∧ (W'.cell? ⟨P, 0, none⟩ = some (.int .i64 x0) ∧ W'.cell? ⟨P, 1, none⟩ = some (.int .i64 y0)) ∧ (W'.cell? ⟨QB, 0, none⟩ = some (.int .i64 (x0 + x)) ∧ W'.cell? ⟨QB, 1, none⟩ = some (.int .i64 (y0 + y))))) ?_ ?_ (fun hHeld => ?_)
                · kernel_rfl
                · ((try dsimp only); (refine KS.out _ ?_; (repeat (first | exact Gr.refl _ | exact hHeld.1 | (refine Gr.drew ?_) | (refine Gr.trans ?_ (by assumption))))))
                refine take_in (i := 0) (v := ?_) (d := (some 199)) rfl rfl ?_ ?_ ?_ ?_ ?_ ?_ ?_ ?_
                rotate_left
                · kernel_rfl
                · kernel_rfl
                · kernel_rfl
                · (intro _ _ _ hq; exact hq)
                · rfl
                · (intro _w hSw; (try dsimp only at hSw); go_simp; try with_reducible rfl)
                · assumption
                try simp only [Act.put, List.setIfInBounds_toArray, List.set_cons_zero, List.set_cons_succ]
                refine take_in (i := 2) (v := ?_) (d := (some 201)) rfl rfl ?_ ?_ ?_ ?_ ?_ ?_ ?_ ?_
                rotate_left
                · kernel_rfl
                · kernel_rfl
                · kernel_rfl
                · (intro _ _ _ hq; exact hq)
                · rfl
                · (intro _w hSw; (try dsimp only at hSw); go_simp; try with_reducible rfl)
                · assumption
                try simp only [Act.put, List.setIfInBounds_toArray, List.set_cons_zero, List.set_cons_succ]
                refine wpAnyH_ready (rs := [1]) ?_ ?_ ?_
                · kernel_rfl
                · simp
                refine (AllReadyH.cons rfl (fun K hK => ?_) AllReadyH.nil)
                go_simp
                first | (go_at_call 32; (with_reducible refine (HS1.out _ (HG14.out.trans hHeld.1)).mono ?_); rintro e w4 ⟨rfl, hb⟩) | (go_at_call 32; (with_reducible refine (HS2.out _ (HG14.out.trans hHeld.1)).mono ?_); rintro e w4 ⟨rfl, hb⟩) | (go_at_call 33; (with_reducible refine (HT1.out _).mono ?_); rintro e w4 ⟨rfl, hb⟩) | (go_at_call 33; (with_reducible refine (HT2.out _).mono ?_); rintro e w4 ⟨rfl, hb⟩) | (go_at_call 16; (with_reducible refine (awake_any _).mono ?_); rintro e w4 ⟨rfl, hb⟩)
                refine hK.out _ _ ?_ (fun hHeld => ?_)
                · ((try dsimp only); (refine KS.out _ ?_; (repeat (first | exact Gr.refl _ | exact hHeld.1 | (refine Gr.drew ?_) | (refine Gr.trans ?_ (by assumption))))))
                clear hK K
                try simp only [Act.put, List.setIfInBounds_toArray, List.set_cons_zero, List.set_cons_succ]
                refine wpAnyH_ready (rs := [3]) ?_ ?_ ?_
                · kernel_rfl
                · simp
                refine (AllReadyH.cons rfl (fun K hK => ?_) AllReadyH.nil)
                go_simp
                first | (go_at_call 32; (with_reducible refine (HS1.out _ (HG14.out.trans hHeld.1)).mono ?_); rintro e w4 ⟨rfl, hb⟩) | (go_at_call 32; (with_reducible refine (HS2.out _ (HG14.out.trans hHeld.1)).mono ?_); rintro e w4 ⟨rfl, hb⟩) | (go_at_call 33; (with_reducible refine (HT1.out _).mono ?_); rintro e w4 ⟨rfl, hb⟩) | (go_at_call 33; (with_reducible refine (HT2.out _).mono ?_); rintro e w4 ⟨rfl, hb⟩) | (go_at_call 16; (with_reducible refine (awake_any _).mono ?_); rintro e w4 ⟨rfl, hb⟩)
                refine hK.out _ _ ?_ (fun hHeld => ?_)
                · ((try dsimp only); (refine KS.out _ ?_; (repeat (first | exact Gr.refl _ | exact hHeld.1 | (refine Gr.drew ?_) | (refine Gr.trans ?_ (by assumption))))))
                clear hK K
                try simp only [Act.put, List.setIfInBounds_toArray, List.set_cons_zero, List.set_cons_succ]
                refine take_in (i := 4) (v := ?_) (d := (some 203)) rfl rfl ?_ ?_ ?_ ?_ ?_ ?_ ?_ ?_
                rotate_left
                · kernel_rfl
                · kernel_rfl
                · kernel_rfl
                · (intro _ _ _ hq; exact hq)
                · rfl
                · (intro _w hSw; (try dsimp only at hSw); go_simp; try with_reducible rfl)
                · assumption
                try simp only [Act.put, List.setIfInBounds_toArray, List.set_cons_zero, List.set_cons_succ]
                refine take_in (i := 5) (v := ?_) (d := (some 204)) rfl rfl ?_ ?_ ?_ ?_ ?_ ?_ ?_ ?_
                rotate_left
                · kernel_rfl
                · kernel_rfl
                · kernel_rfl
                · (intro _ _ _ hq; exact hq)
                · rfl
                · (intro _w hSw; (try dsimp only at hSw); go_simp; try with_reducible rfl)
                · assumption
                try simp only [Act.put, List.setIfInBounds_toArray, List.set_cons_zero, List.set_cons_succ]
                refine take_in (i := 6) (v := ?_) (d := (some 205)) rfl rfl ?_ ?_ ?_ ?_ ?_ ?_ ?_ ?_
                rotate_left
                · kernel_rfl
                · kernel_rfl
                · kernel_rfl
                · (intro _ _ _ hq; exact hq)
                · rfl
                · (intro _w hSw; (try dsimp only at hSw); go_simp; try with_reducible rfl)
                · assumption
                try simp only [Act.put, List.setIfInBounds_toArray, List.set_cons_zero, List.set_cons_succ]
                refine take_in (i := 7) (v := ?_) (d := (some 206)) rfl rfl ?_ ?_ ?_ ?_ ?_ ?_ ?_ ?_
                rotate_left
                · kernel_rfl
                · kernel_rfl
                · kernel_rfl
                · (intro _ _ _ hq; exact hq)
                · rfl
                · (intro _w hSw; (try dsimp only at hSw); go_simp; try with_reducible rfl)
                · assumption
                try simp only [Act.put, List.setIfInBounds_toArray, List.set_cons_zero, List.set_cons_succ]
                refine take_in (i := 8) (v := ?_) (d := (some 207)) rfl rfl ?_ ?_ ?_ ?_ ?_ ?_ ?_ ?_
                rotate_left
                · kernel_rfl
                · kernel_rfl
                · kernel_rfl
                · (intro _ _ _ hq; exact hq)
                · rfl
                · (intro _w hSw; (try dsimp only at hSw); go_simp; try with_reducible rfl)
                · assumption
                try simp only [Act.put, List.setIfInBounds_toArray, List.set_cons_zero, List.set_cons_succ]
                refine take_in (i := 9) (v := ?_) (d := (some 208)) rfl rfl ?_ ?_ ?_ ?_ ?_ ?_ ?_ ?_
                rotate_left
                · kernel_rfl
                · kernel_rfl
                · kernel_rfl
                · (intro _ _ _ hq; exact hq)
                · rfl
                · (intro _w hSw; (try dsimp only at hSw); go_simp; try with_reducible rfl)
                · assumption
                try simp only [Act.put, List.setIfInBounds_toArray, List.set_cons_zero, List.set_cons_succ]
                refine take_in (i := 10) (v := ?_) (d := (some 209)) rfl rfl ?_ ?_ ?_ ?_ ?_ ?_ ?_ ?_
                rotate_left
                · kernel_rfl
                · kernel_rfl
                · kernel_rfl
                · (intro _ _ _ hq; exact hq)
                · rfl
                · (intro _w hSw; (try dsimp only at hSw); go_simp; try with_reducible rfl)
                · assumption
                try simp only [Act.put, List.setIfInBounds_toArray, List.set_cons_zero, List.set_cons_succ]
                refine take_in (i := 11) (v := ?_) (d := (some 210)) rfl rfl ?_ ?_ ?_ ?_ ?_ ?_ ?_ ?_
                rotate_left
                · kernel_rfl
                · kernel_rfl
                · kernel_rfl
                · (intro _ _ _ hq; exact hq)
                · rfl
                · (intro _w hSw; (try dsimp only at hSw); go_simp; try with_reducible rfl)
                · assumption
                try simp only [Act.put, List.setIfInBounds_toArray, List.set_cons_zero, List.set_cons_succ]
                refine take_in (i := 12) (v := ?_) (d := (some 211)) rfl rfl ?_ ?_ ?_ ?_ ?_ ?_ ?_ ?_
                rotate_left
                · kernel_rfl
                · kernel_rfl
                · kernel_rfl
                · (intro _ _ _ hq; exact hq)
                · rfl
                · (intro _w hSw; (try dsimp only at hSw); go_simp; try with_reducible rfl)
                · assumption
                try simp only [Act.put, List.setIfInBounds_toArray, List.set_cons_zero, List.set_cons_succ]
                refine take_in (i := 13) (v := ?_) (d := (some 212)) rfl rfl ?_ ?_ ?_ ?_ ?_ ?_ ?_ ?_
                rotate_left
                · kernel_rfl
                · kernel_rfl
                · kernel_rfl
                · (intro _ _ _ hq; exact hq)
                · rfl
                · (intro _w hSw; (try dsimp only at hSw); go_simp; try with_reducible rfl)
                · assumption
                try simp only [Act.put, List.setIfInBounds_toArray, List.set_cons_zero, List.set_cons_succ]
                refine take_in (i := 14) (v := ?_) (d := (some 213)) rfl rfl ?_ ?_ ?_ ?_ ?_ ?_ ?_ ?_
                rotate_left
                · kernel_rfl
                · kernel_rfl
                · kernel_rfl
                · (intro _ _ _ hq; exact hq)
                · rfl
                · (intro _w hSw; (try dsimp only at hSw); go_simp; try with_reducible rfl)
                · assumption
                try simp only [Act.put, List.setIfInBounds_toArray, List.set_cons_zero, List.set_cons_succ]
                refine take_in (i := 15) (v := ?_) (d := (some 214)) rfl rfl ?_ ?_ ?_ ?_ ?_ ?_ ?_ ?_
                rotate_left
                · kernel_rfl
                · kernel_rfl
                · kernel_rfl
                · (intro _ _ _ hq; exact hq)
                · rfl
                · (intro _w hSw; (try dsimp only at hSw); go_simp; try with_reducible rfl)
                · assumption
                try simp only [Act.put, List.setIfInBounds_toArray, List.set_cons_zero, List.set_cons_succ]
                refine take_in (i := 16) (v := ?_) (d := (some 215)) rfl rfl ?_ ?_ ?_ ?_ ?_ ?_ ?_ ?_
                rotate_left
                · kernel_rfl
                · kernel_rfl
                · kernel_rfl
                · (intro _ _ _ hq; exact hq)
                · rfl
                · (intro _w hSw; (try dsimp only at hSw); go_simp; try with_reducible rfl)
                · assumption
                try simp only [Act.put, List.setIfInBounds_toArray, List.set_cons_zero, List.set_cons_succ]
                refine take_in (i := 17) (v := ?_) (d := (some 216)) rfl rfl ?_ ?_ ?_ ?_ ?_ ?_ ?_ ?_
                rotate_left
                · kernel_rfl
                · kernel_rfl
                · kernel_rfl
                · (intro _ _ _ hq; exact hq)
                · rfl
                · (intro _w hSw; (try dsimp only at hSw); go_simp; try with_reducible rfl)
                · assumption
                try simp only [Act.put, List.setIfInBounds_toArray, List.set_cons_zero, List.set_cons_succ]
                refine take_in (i := 18) (v := ?_) (d := (some 217)) rfl rfl ?_ ?_ ?_ ?_ ?_ ?_ ?_ ?_
                rotate_left
                · kernel_rfl
                · kernel_rfl
                · kernel_rfl
                · (intro _ _ _ hq; exact hq)
                · rfl
                · (intro _w hSw; (try dsimp only at hSw); go_simp; try with_reducible rfl)
                · assumption
                try simp only [Act.put, List.setIfInBounds_toArray, List.set_cons_zero, List.set_cons_succ]
                refine take_in (i := 19) (v := ?_) (d := (some 218)) rfl rfl ?_ ?_ ?_ ?_ ?_ ?_ ?_ ?_
                rotate_left
                · kernel_rfl
                · kernel_rfl
                · kernel_rfl
                · (intro _ _ _ hq; exact hq)
                · rfl
                · (intro _w hSw; (try dsimp only at hSw); go_simp; try with_reducible rfl)
                · assumption
                try simp only [Act.put, List.setIfInBounds_toArray, List.set_cons_zero, List.set_cons_succ]
                refine take_in (i := 20) (v := ?_) (d := (some 219)) rfl rfl ?_ ?_ ?_ ?_ ?_ ?_ ?_ ?_
                rotate_left
                · kernel_rfl
                · kernel_rfl
                · kernel_rfl
                · (intro _ _ _ hq; exact hq)
                · rfl
                · (intro _w hSw; (try dsimp only at hSw); go_simp; try with_reducible rfl)
                · assumption
                try simp only [Act.put, List.setIfInBounds_toArray, List.set_cons_zero, List.set_cons_succ]
                refine take_in (i := 21) (v := ?_) (d := (some 220)) rfl rfl ?_ ?_ ?_ ?_ ?_ ?_ ?_ ?_
                rotate_left
                · kernel_rfl
                · kernel_rfl
                · kernel_rfl
                · (intro _ _ _ hq; exact hq)
                · rfl
                · (intro _w hSw; (try dsimp only at hSw); go_simp; try with_reducible rfl)
                · assumption
                try simp only [Act.put, List.setIfInBounds_toArray, List.set_cons_zero, List.set_cons_succ]
                refine take_in (i := 22) (v := ?_) (d := (some 221)) rfl rfl ?_ ?_ ?_ ?_ ?_ ?_ ?_ ?_
                rotate_left
                · kernel_rfl
                · kernel_rfl
                · kernel_rfl
                · (intro _ _ _ hq; exact hq)
                · rfl
                · (intro _w hSw; (try dsimp only at hSw); go_simp; try with_reducible rfl)
                · assumption
                try simp only [Act.put, List.setIfInBounds_toArray, List.set_cons_zero, List.set_cons_succ]
                refine take_in (i := 23) (v := ?_) (d := (some 222)) rfl rfl ?_ ?_ ?_ ?_ ?_ ?_ ?_ ?_
                rotate_left
                · kernel_rfl
                · kernel_rfl
                · kernel_rfl
                · (intro _ _ _ hq; exact hq)
                · rfl
                · (intro _w hSw; (try dsimp only at hSw); go_simp; try with_reducible rfl)
                · assumption
                try simp only [Act.put, List.setIfInBounds_toArray, List.set_cons_zero, List.set_cons_succ]
                refine take_in (i := 24) (v := ?_) (d := (some 223)) rfl rfl ?_ ?_ ?_ ?_ ?_ ?_ ?_ ?_
                rotate_left
                · kernel_rfl
                · kernel_rfl
                · kernel_rfl
                · (intro _ _ _ hq; exact hq)
                · rfl
                · (intro _w hSw; (try dsimp only at hSw); go_simp; try with_reducible rfl)
                · assumption
                try simp only [Act.put, List.setIfInBounds_toArray, List.set_cons_zero, List.set_cons_succ]
                refine take_in (i := 25) (v := ?_) (d := (some 224)) rfl rfl ?_ ?_ ?_ ?_ ?_ ?_ ?_ ?_
                rotate_left
                · kernel_rfl
                · kernel_rfl
                · kernel_rfl
                · (intro _ _ _ hq; exact hq)
                · rfl
                · (intro _w hSw; (try dsimp only at hSw); go_simp; try with_reducible rfl)
                · assumption
                try simp only [Act.put, List.setIfInBounds_toArray, List.set_cons_zero, List.set_cons_succ]
                refine take_in (i := 27) (v := ?_) (d := (some 226)) rfl rfl ?_ ?_ ?_ ?_ ?_ ?_ ?_ ?_
                rotate_left
                · kernel_rfl
                · kernel_rfl
                · kernel_rfl
                · (intro _ _ _ hq; exact hq)
                · rfl
                · (intro _w hSw; (try dsimp only at hSw); go_simp; try with_reducible rfl)
                · assumption
                try simp only [Act.put, List.setIfInBounds_toArray, List.set_cons_zero, List.set_cons_succ]
                refine take_in (i := 28) (v := ?_) (d := (some 227)) rfl rfl ?_ ?_ ?_ ?_ ?_ ?_ ?_ ?_
                rotate_left
                · kernel_rfl
                · kernel_rfl
                · kernel_rfl
                · (intro _ _ _ hq; exact hq)
                · rfl
                · (intro _w hSw; (try dsimp only at hSw); go_simp; try with_reducible rfl)
                · assumption
                try simp only [Act.put, List.setIfInBounds_toArray, List.set_cons_zero, List.set_cons_succ]
                refine take_in (i := 29) (v := ?_) (d := (some 228)) rfl rfl ?_ ?_ ?_ ?_ ?_ ?_ ?_ ?_
                rotate_left
                · kernel_rfl
                · kernel_rfl
                · kernel_rfl
                · (intro _ _ _ hq; exact hq)
                · rfl
                · (intro _w hSw; (try dsimp only at hSw); go_simp; try with_reducible rfl)
                · assumption
                try simp only [Act.put, List.setIfInBounds_toArray, List.set_cons_zero, List.set_cons_succ]
                refine take_in (i := 30) (v := ?_) (d := (some 229)) rfl rfl ?_ ?_ ?_ ?_ ?_ ?_ ?_ ?_
                rotate_left
                · kernel_rfl
                · kernel_rfl
                · kernel_rfl
                · (intro _ _ _ hq; exact hq)
                · rfl
                · (intro _w hSw; (try dsimp only at hSw); go_simp; try with_reducible rfl)
                · assumption
                try simp only [Act.put, List.setIfInBounds_toArray, List.set_cons_zero, List.set_cons_succ]
                refine take_in (i := 31) (v := ?_) (d := (some 230)) rfl rfl ?_ ?_ ?_ ?_ ?_ ?_ ?_ ?_
                rotate_left
                · kernel_rfl
                · kernel_rfl
                · kernel_rfl
                · (intro _ _ _ hq; exact hq)
                · rfl
                · (intro _w hSw; (try dsimp only at hSw); go_simp; try with_reducible rfl)
                · assumption
                try simp only [Act.put, List.setIfInBounds_toArray, List.set_cons_zero, List.set_cons_succ]
                refine take_in (i := 32) (v := ?_) (d := (some 231)) rfl rfl ?_ ?_ ?_ ?_ ?_ ?_ ?_ ?_
                rotate_left
                · kernel_rfl
                · kernel_rfl
                · kernel_rfl
                · (intro _ _ _ hq; exact hq)
                · rfl
                · (intro _w hSw; (try dsimp only at hSw); go_simp; try with_reducible rfl)
                · assumption
                try simp only [Act.put, List.setIfInBounds_toArray, List.set_cons_zero, List.set_cons_succ]
                refine take_in (i := 33) (v := ?_) (d := (some 232)) rfl rfl ?_ ?_ ?_ ?_ ?_ ?_ ?_ ?_
                rotate_left
                · kernel_rfl
                · kernel_rfl
                · kernel_rfl
                · (intro _ _ _ hq; exact hq)
                · rfl
                · (intro _w hSw; (try dsimp only at hSw); go_simp; try with_reducible rfl)
                · assumption
                try simp only [Act.put, List.setIfInBounds_toArray, List.set_cons_zero, List.set_cons_succ]
                refine take_in (i := 34) (v := ?_) (d := (some 233)) rfl rfl ?_ ?_ ?_ ?_ ?_ ?_ ?_ ?_
                rotate_left
                · kernel_rfl
                · kernel_rfl
                · kernel_rfl
                · (intro _ _ _ hq; exact hq)
                · rfl
                · (intro _w hSw; (try dsimp only at hSw); go_simp; try with_reducible rfl)
                · assumption
                try simp only [Act.put, List.setIfInBounds_toArray, List.set_cons_zero, List.set_cons_succ]
                refine take_in (i := 35) (v := ?_) (d := (some 234)) rfl rfl ?_ ?_ ?_ ?_ ?_ ?_ ?_ ?_
                rotate_left
                · kernel_rfl
                · kernel_rfl
                · kernel_rfl
                · (intro _ _ _ hq; exact hq)
                · rfl
                · (intro _w hSw; (try dsimp only at hSw); go_simp; try with_reducible rfl)
                · assumption
                try simp only [Act.put, List.setIfInBounds_toArray, List.set_cons_zero, List.set_cons_succ]
                refine take_in (i := 36) (v := ?_) (d := (some 235)) rfl rfl ?_ ?_ ?_ ?_ ?_ ?_ ?_ ?_
                rotate_left
                · kernel_rfl
                · kernel_rfl
                · kernel_rfl
                · (intro _ _ _ hq; exact hq)
                · rfl
                · (intro _w hSw; (try dsimp only at hSw); go_simp; try with_reducible rfl)
                · assumption
                try simp only [Act.put, List.setIfInBounds_toArray, List.set_cons_zero, List.set_cons_succ]
                refine wpAnyH_ready (rs := [26]) ?_ ?_ ?_
                · kernel_rfl
                · simp
                refine (AllReadyH.cons rfl (fun K hK => ?_) AllReadyH.nil)
                go_simp
                first | (go_at_call 32; (with_reducible refine (HS1.out _ (HG14.out.trans hHeld.1)).mono ?_); rintro e w4 ⟨rfl, hb⟩) | (go_at_call 32; (with_reducible refine (HS2.out _ (HG14.out.trans hHeld.1)).mono ?_); rintro e w4 ⟨rfl, hb⟩) | (go_at_call 33; (with_reducible refine (HT1.out _).mono ?_); rintro e w4 ⟨rfl, hb⟩) | (go_at_call 33; (with_reducible refine (HT2.out _).mono ?_); rintro e w4 ⟨rfl, hb⟩) | (go_at_call 16; (with_reducible refine (awake_any _).mono ?_); rintro e w4 ⟨rfl, hb⟩)
                refine hK.out _ _ ?_ (fun hHeld => ?_)
                · ((try dsimp only); (refine KS.out _ ?_; (repeat (first | exact Gr.refl _ | exact hHeld.1 | (refine Gr.drew ?_) | (refine Gr.trans ?_ (by assumption))))))
                clear hK K
                try simp only [Act.put, List.setIfInBounds_toArray, List.set_cons_zero, List.set_cons_succ]
                refine wpAnyH_ready (rs := [37]) ?_ ?_ ?_
                · kernel_rfl
                · simp
                refine (AllReadyH.cons rfl (fun K hK => ?_) AllReadyH.nil)
                go_simp
                first | (go_at_call 32; (with_reducible refine (HS1.out _ (HG14.out.trans hHeld.1)).mono ?_); rintro e w4 ⟨rfl, hb⟩) | (go_at_call 32; (with_reducible refine (HS2.out _ (HG14.out.trans hHeld.1)).mono ?_); rintro e w4 ⟨rfl, hb⟩) | (go_at_call 33; (with_reducible refine (HT1.out _).mono ?_); rintro e w4 ⟨rfl, hb⟩) | (go_at_call 33; (with_reducible refine (HT2.out _).mono ?_); rintro e w4 ⟨rfl, hb⟩) | (go_at_call 16; (with_reducible refine (awake_any _).mono ?_); rintro e w4 ⟨rfl, hb⟩)
                refine hK.out _ _ ?_ (fun hHeld => ?_)
                · ((try dsimp only); (refine KS.out _ ?_; (repeat (first | exact Gr.refl _ | exact hHeld.1 | (refine Gr.drew ?_) | (refine Gr.trans ?_ (by assumption))))))
                clear hK K
                try simp only [Act.put, List.setIfInBounds_toArray, List.set_cons_zero, List.set_cons_succ]
                refine take_in (i := 38) (v := ?_) (d := (some 237)) rfl rfl ?_ ?_ ?_ ?_ ?_ ?_ ?_ ?_
                rotate_left
                · kernel_rfl
                · kernel_rfl
                · kernel_rfl
                · (intro _ _ _ hq; exact hq)
                · rfl
                · (intro _w hSw; (try dsimp only at hSw); go_simp; try with_reducible rfl)
                · assumption
                try simp only [Act.put, List.setIfInBounds_toArray, List.set_cons_zero, List.set_cons_succ]
                refine take_in (i := 39) (v := ?_) (d := (some 238)) rfl rfl ?_ ?_ ?_ ?_ ?_ ?_ ?_ ?_
                rotate_left
                · kernel_rfl
                · kernel_rfl
                · kernel_rfl
                · (intro _ _ _ hq; exact hq)
                · rfl
                · (intro _w hSw; (try dsimp only at hSw); go_simp; try with_reducible rfl)
                · assumption
                try simp only [Act.put, List.setIfInBounds_toArray, List.set_cons_zero, List.set_cons_succ]
                refine take_in (i := 40) (v := ?_) (d := (some 239)) rfl rfl ?_ ?_ ?_ ?_ ?_ ?_ ?_ ?_
                rotate_left
                · kernel_rfl
                · kernel_rfl
                · kernel_rfl
                · (intro _ _ _ hq; exact hq)
                · rfl
                · (intro _w hSw; (try dsimp only at hSw); go_simp; try with_reducible rfl)
                · assumption
                try simp only [Act.put, List.setIfInBounds_toArray, List.set_cons_zero, List.set_cons_succ]
                refine wpAnyH_ready (rs := [41]) ?_ ?_ ?_
                · kernel_rfl
                · simp
                refine (AllReadyH.cons rfl (fun K hK => ?_) AllReadyH.nil)
                go_simp
                first | (go_at_call 32; (with_reducible refine (HS1.out _ (HG14.out.trans hHeld.1)).mono ?_); rintro e w4 ⟨rfl, hb⟩) | (go_at_call 32; (with_reducible refine (HS2.out _ (HG14.out.trans hHeld.1)).mono ?_); rintro e w4 ⟨rfl, hb⟩) | (go_at_call 33; (with_reducible refine (HT1.out _).mono ?_); rintro e w4 ⟨rfl, hb⟩) | (go_at_call 33; (with_reducible refine (HT2.out _).mono ?_); rintro e w4 ⟨rfl, hb⟩) | (go_at_call 16; (with_reducible refine (awake_any _).mono ?_); rintro e w4 ⟨rfl, hb⟩)
                refine hK.out _ _ ?_ (fun hHeld => ?_)
                · ((try dsimp only); (refine KS.out _ ?_; (repeat (first | exact Gr.refl _ | exact hHeld.1 | (refine Gr.drew ?_) | (refine Gr.trans ?_ (by assumption))))))
                clear hK K
                try simp only [Act.put, List.setIfInBounds_toArray, List.set_cons_zero, List.set_cons_succ]
                refine take_in (i := 42) (v := ?_) (d := (some 241)) rfl rfl ?_ ?_ ?_ ?_ ?_ ?_ ?_ ?_
                rotate_left
                · kernel_rfl
                · kernel_rfl
                · kernel_rfl
                · (intro _ _ _ hq; exact hq)
                · rfl
                · (intro _w hSw; (try dsimp only at hSw); go_simp; try with_reducible rfl)
                · assumption
                try simp only [Act.put, List.setIfInBounds_toArray, List.set_cons_zero, List.set_cons_succ]
                refine take_in (i := 43) (v := ?_) (d := (some 6)) rfl rfl ?_ ?_ ?_ ?_ ?_ ?_ ?_ ?_
                rotate_left
                · kernel_rfl
                · kernel_rfl
                · kernel_rfl
                · (intro _ _ _ hq; exact hq)
                · rfl
                · (intro _w hSw; (try dsimp only at hSw); go_simp; try with_reducible rfl)
                · assumption
                try simp only [Act.put, List.setIfInBounds_toArray, List.set_cons_zero, List.set_cons_succ]
                refine wpAnyH_done ?_ ?_ _
                · kernel_rfl
                rotate_left
                all_goals
                  go_wp2_with fail
                  try rw [Exit.noGoto_ret]
                  first | go_ret | go_ret2
                  exact ⟨rfl, (HGZ.out.trans HG14.out).trans hHeld.1⟩
end Go.Proofs.Ytcojionipffanac
