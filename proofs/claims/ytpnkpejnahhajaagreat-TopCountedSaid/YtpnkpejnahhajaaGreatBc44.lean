/- The law TopCounted as a walk. -/
import Derived.Test.YtpnkpejnahhajaaGreatBc22
import Derived.Test.YtpnkpejnahhajaaGreatBc43
namespace Go.Proofs.YtpnkpejnahhajaaGreat
open Go.RowKit
set_option linter.unusedSimpArgs false

theorem Tryz.infoTpB : (Tryz.prog.info? 5).map (fun i => (i.zero, i.size, i.bytes)) = some (some (.int .u8 0), 1, 1) := by kernel_rfl
theorem Tryz.infoTpS : (Tryz.prog.info? 61).map (fun i => (i.zero, i.size, i.bytes)) = some (some (.agg #[.int .i64 0, .int .i64 0]), 2, 16) := by kernel_rfl
theorem task12c_ok (W H : Int) (bs : List Bl) : taskB (sdT 12 W) (sdT 12 H) ((bs.take 8).map (fixT 12)) = true := by
  have h1 := sdT_in (M := 12) W (by omega) (by omega)
  have h2 := sdT_in (M := 12) H (by omega) (by omega)
  refine (taskB_iff _ _ _).2 ⟨by omega, by omega, ?_, ?_⟩
  · simp; omega
  · intro b hb
    obtain ⟨c, -, rfl⟩ := List.mem_map.1 hb
    exact fixT_ok c (by omega) (by omega)
theorem planG_next {P : List St} {k b1 b2 : Nat} (h : P[k]? = some ((b1 : Int), (b2 : Int))) (h1 : b1 ≤ 255) (h2 : b2 ≤ 255) : flatE encG (planG (P.take (k + 1))) = flatE encG (planG (P.take k)) ++ [.int .u8 (b1 : Int), .int .u8 (b2 : Int)] := by
  rw [List.take_add_one, h, Option.toList_some, planG_app, flatE_app]
  congr 1
  have e1 : b1 % 256 = b1 := Nat.mod_eq_of_lt (by omega)
  have e2 : b2 % 256 = b2 := Nat.mod_eq_of_lt (by omega)
  simp [planG, flatE, encG, e1, e2]
theorem ByP.at {P : List St} (h : ByP P) {k : Nat} {s : St} (hk : P[k]? = some s) : ∃ b1 b2 : Nat, s = ((b1 : Int), (b2 : Int)) ∧ b1 ≤ 255 ∧ b2 ≤ 255 := by
  obtain ⟨h1, h2⟩ := h s (List.mem_of_getElem? hk)
  obtain ⟨a, b⟩ := s
  dsimp only at h1 h2
  exact ⟨a.toNat, b.toNat, by simp only [Prod.mk.injEq]; omega, by omega, by omega⟩

theorem txt_at {S : ByteArray} {xs : List G} (h : ∀ j : Nat, S.data[j]? = (xs[j]?).map u8) {j : Nat} {x : G} (hx : xs[j]? = some x) (hj : j < S.size) : S[j].toNat = x.v := by
  have h1 := h j
  rw [hx] at h1
  have h2 : S.data[j]? = some S[j] := Array.getElem?_eq_getElem hj
  rw [h2] at h1
  injection h1 with h1
  rw [h1, u8_nat]
theorem enc2_next {P : List St} {k : Nat} {s : St} (h : P[k]? = some s) : flatE enc2 (P.take (k + 1)) = flatE enc2 (P.take k) ++ enc2 s := by
  rw [List.take_add_one, h, Option.toList_some, flatE_app]; simp [flatE]

set_option maxRecDepth 100000 in
set_option maxHeartbeats 80000000 in
theorem lawCounted_any (W H : Int) (A : Option Addr) (n c : Nat) (bs : List Bl) (p : Int) (CA : Option Addr) (cm cc : Nat) (cs : List (Int × G)) (w : World) (hn : bs.length = n) (hl : n ≤ 9223372036854775807) (hp : Tris w A bs)
    (hcn : cs.length = cm) (hcl : cm ≤ 9223372036854775807) (hC : Chgs w CA cs) :
    Calls Tryz.prog 5 #[.agg #[.int .i64 W, .int .i64 H, .slice A n c], .int .i64 p, .slice CA cm cc] w fun e w' => e = .returned (.bool true) ∧ Gr w w' := by
  have HT : Hid (∀ W', Gr w W' → Calls Tryz.prog 11 #[.agg #[.int .i64 W, .int .i64 H, .slice A n c], .int .i64 12, .int .i64 8] W' (TaskPost (sdT 12 W) (sdT 12 H) ((bs.take 8).map (fixT 12)) W')) :=
    Lib.hid (fun W' g => task_any W H A n c bs 12 8 W' (by omega) (by omega) (by omega) hn hl (hp.keep g))
  have hok := task12c_ok W H bs
  have h1 := sdT_in (M := 12) W (by omega) (by omega)
  have h2 := sdT_in (M := 12) H (by omega) (by omega)
  have h3 : ((bs.take 8).map (fixT 12)).length ≤ 8 := by simp; omega
  have hm := modT_le (x := p) (n := 13) (by omega) (by omega)
  have HMO := Lib.hid (fun W => tmod_any p 13 W (by omega) (by omega))
  clear hn hp hl
  generalize modT p 13 = mo at hm HMO
  obtain ⟨q0, rfl⟩ : ∃ q : Nat, mo = (q : Int) := ⟨mo.toNat, by omega⟩
  have HCA := Lib.hid (fun (S1 : ByteArray) W (hW : Gr w W) (hS : S1.size ≤ 65536) => carried_any S1 q0 CA cm cc cs W hS (by omega) hcn hcl (hC.keep hW))
  clear hcn hcl hC
  generalize (bs.take 8).map (fixT 12) = qs at HT hok h3
  generalize sdT 12 W = X at HT hok h1
  generalize sdT 12 H = Y at HT hok h2
  obtain ⟨x, rfl⟩ : ∃ x : Nat, X = x := ⟨X.toNat, by omega⟩
  obtain ⟨y, rfl⟩ : ∃ y : Nat, Y = y := ⟨Y.toNat, by omega⟩
  have HOK := Lib.hid hok
  clear hok
  go_enter Tryz.func5, Tryz.ntmps5
  go_wp2_with fail
  generalize hW0 : World.alloc w _ = W0
  have hg0 : Gr w W0 := by rw [← hW0]; exact (Gr.refl w).alloc _
  clear hW0
  refine (HT.out _ hg0).mono ?_
  rintro e W1 ⟨A1, c1, rfl, hq, hg1⟩
  have HQ := Lib.hid hq
  obtain ⟨q, hqn⟩ : ∃ q, qs.length = q := ⟨_, rfl⟩
  rw [hqn] at h3 ⊢
  have HQN := Lib.hid hqn
  have hg01 := hg0.trans hg1
  clear hq hqn hg0 hg1 HT
  go_upto_region 2 with fail
  generalize hW2 : World.alloc W1 _ = W2
  have hg2 : Gr W1 W2 := by rw [← hW2]; exact (Gr.refl W1).alloc _
  have hB2 : Blk W2 W1.heap.size 45 #[.int .i64 (x : Int), .int .i64 (y : Int), .slice A1 q c1] := by rw [← hW2]; exact heap_alloc_new W1 _
  generalize W1.heap.size = T at hB2 ⊢
  have HB2 := Lib.hid hB2
  have hg02 := hg01.trans hg2
  have HQ2 := Lib.hid (HQ.out.keep hg2)
  clear hW2 hB2 hg2 hg01 HQ
  have t0 := HB2.out.cell 0
  have t1 := HB2.out.cell 1
  have t2 := HB2.out.cell 2
  go_wp2_with fail
  refine (Best_one x y A1 q c1 qs _ HQN.out (by omega) HQ2.out HOK.out).mono ?_
  rintro e W3 ⟨P, m, g, c0, g2, rfl, hM, ⟨-, hP⟩, hPc, -, -, hown, -, hg3⟩
  have HPP := Lib.hid (Rd_of_owns enc2_len rfl hown)
  have hshort := hM.short (by omega) (by omega) (by omega) (by omega)
  have HBY := Lib.hid (hM.bytes (by rw [HQN.out]; omega) (by omega) (by omega))
  have HWL : Hid (worthL x y qs P = (sumV m, 0)) := Lib.hid (by unfold worthL; rw [if_pos HOK.out, hM.readT (by omega) (by omega) (by omega) (by omega)])
  obtain ⟨pn, hpn⟩ : ∃ pn, P.length = pn := ⟨_, rfl⟩
  rw [hpn] at hPc hshort ⊢
  have HPN := Lib.hid hpn
  have HB3 := Lib.hid (HB2.out.keep hg3)
  have HQ3 := Lib.hid (HQ2.out.keep hg3)
  have hg03 := hg02.trans hg3
  obtain ⟨i0, hi, hz0, hz1, hz2⟩ := info_parts Tryz.infoTpB
  have HI := Lib.hid (And.intro hi (And.intro hz0 (And.intro hz1 hz2)))
  clear hM hP hown hpn hg3 hg02 HB2 HQ2 t0 t1 t2 hi hz0 hz1 hz2
  go_wp2_with fail
  go_loopw [11, 12] (fun u z wr => ∃ (k : Nat) (A8 : Option Addr) (c8 : Nat), k ≤ pn ∧ z = .int .i64 (k : Int) ∧ u = .slice A8 (2 * k) c8 ∧ Hid (wr.ownsRow W3.heap.size 5 1 (.slice A8 (2 * k) c8) (2 * k) (flatE encG (planG (P.take k)))) ∧ Gr W3 wr) (fun _ z _ => pn - (intOf z).toNat)
  case atStart => exact ⟨0, none, 0, Nat.zero_le _, rfl, rfl, Lib.hid (World.ownsRow_nil W3 _ _ _), Gr.refl _⟩
  case round =>
    obtain ⟨k, A8, c8, hk, rfl, rfl, hown, hgr⟩ := hrel
    by_cases hlt : k < pn
    · obtain ⟨s, hs⟩ : ∃ s, P[k]? = some s := ⟨_, List.getElem?_eq_getElem (by rw [HPN.out]; exact hlt)⟩
      obtain ⟨b1, b2, rfl, hb1, hb2⟩ := HBY.out.at hs
      have HNX := Lib.hid (planG_next hs hb1 hb2)
      have KS : Hid (∀ W', Gr W3 W' → W'.cell? ⟨g, k * 2, none⟩ = some (.int .i64 (b1 : Int)) ∧ W'.cell? ⟨g, k * 2 + 1, none⟩ = some (.int .i64 (b2 : Int))) := Lib.hid (fun W' h => by
        obtain ⟨b', o', e', hc⟩ := (HPP.out.keep h) k _ hs
        injection e' with e'
        injection e' with e3 e4
        have a0 := hc 0 _ rfl
        have a1 := hc 1 _ rfl
        rw [← e3, ← e4] at a0 a1
        simp only [Nat.zero_add] at a0 a1
        exact ⟨a0, a1⟩)
      have hki : (k : Int) < (pn : Int) := by omega
      have u1 : IntKind.u8.wrap (b1 : Int) = (b1 : Int) := IntWalk.u8_in _ (by omega)
      have u2 : IntKind.u8.wrap (b2 : Int) = (b2 : Int) := IntWalk.u8_in _ (by omega)
      have hda : Gr wr (wr.alloc (.cells #[.int .u8 (b1 : Int), .int .u8 (b2 : Int)] 5)).drew := ((Gr.refl wr).alloc _).drew
      have HOa := Lib.hid (owns_gr hown.out hda)
      have hga := hgr.trans hda
      have HGG : Hid (∀ w5 : World, World.grownBy (wr.alloc (.cells #[.int .u8 (b1 : Int), .int .u8 (b2 : Int)] 5)).drew w5 (Value.slice A8 (2 * k) c8).ownBlock → Gr W3 w5) := Lib.hid (fun w5 hg => Below.grown hga hg hga.size (fun t ht => (HOa.out.lt t ht).1))
      have hbs : W3.heap.size ≤ wr.heap.size := hgr.size
      clear hs hown hda
      obtain ⟨hi, hz0, hz1, hz2⟩ := HI.out
      go_upto_region 9 with fail
      refine wp_region_held_drew (S := (fun W' => W'.cell? ⟨g, k * 2, none⟩ = some (.int .i64 (b1 : Int)) ∧ W'.cell? ⟨g, k * 2 + 1, none⟩ = some (.int .i64 (b2 : Int)))) ?_ ?_ (fun hHeld => ?_)
      · kernel_rfl
      · ((try dsimp only); (first | exact hHeld | (refine KS.out _ ?_; repeat (first | exact hgr | exact HG5.out | (refine Gr.drew ?_) | (refine Gr.alloc ?_ _)))))
      refine take_in (i := 0) (v := ?_) (d := (some 42)) rfl rfl ?_ ?_ ?_ ?_ ?_ ?_ ?_ ?_
      rotate_left
      · kernel_rfl
      · kernel_rfl
      · kernel_rfl
      · (intro _ _ _ hq; exact hq)
      · rfl
      · (intro _w hSw; (try dsimp only at hSw); go_simp; try with_reducible rfl)
      · assumption
      try simp only [Act.put, List.setIfInBounds_toArray, List.set_cons_zero, List.set_cons_succ]
      refine take_in (i := 1) (v := ?_) (d := (some 43)) rfl rfl ?_ ?_ ?_ ?_ ?_ ?_ ?_ ?_
      rotate_left
      · kernel_rfl
      · kernel_rfl
      · kernel_rfl
      · (intro _ _ _ hq; exact hq)
      · rfl
      · (intro _w hSw; (try dsimp only at hSw); go_simp; try with_reducible rfl)
      · assumption
      try simp only [Act.put, List.setIfInBounds_toArray, List.set_cons_zero, List.set_cons_succ]
      refine take_in (i := 2) (v := ?_) (d := (some 44)) rfl rfl ?_ ?_ ?_ ?_ ?_ ?_ ?_ ?_
      rotate_left
      · kernel_rfl
      · kernel_rfl
      · kernel_rfl
      · (intro _ _ _ hq; exact hq)
      · rfl
      · (intro _w hSw; (try dsimp only at hSw); go_simp; try with_reducible rfl)
      · assumption
      try simp only [Act.put, List.setIfInBounds_toArray, List.set_cons_zero, List.set_cons_succ]
      refine take_in (i := 3) (v := ?_) (d := (some 45)) rfl rfl ?_ ?_ ?_ ?_ ?_ ?_ ?_ ?_
      rotate_left
      · kernel_rfl
      · kernel_rfl
      · kernel_rfl
      · (intro _ _ _ hq; exact hq)
      · rfl
      · (intro _w hSw; (try dsimp only at hSw); go_simp; try with_reducible rfl)
      · assumption
      try simp only [Act.put, List.setIfInBounds_toArray, List.set_cons_zero, List.set_cons_succ]
      refine take_in (i := 4) (v := ?_) (d := (some 46)) rfl rfl ?_ ?_ ?_ ?_ ?_ ?_ ?_ ?_
      rotate_left
      · kernel_rfl
      · kernel_rfl
      · kernel_rfl
      · (intro _ _ _ hq; exact hq)
      · rfl
      · (intro _w hSw; (try dsimp only at hSw); go_simp; try with_reducible rfl)
      · assumption
      try simp only [Act.put, List.setIfInBounds_toArray, List.set_cons_zero, List.set_cons_succ]
      refine take_in (i := 5) (v := ?_) (d := (some 47)) rfl rfl ?_ ?_ ?_ ?_ ?_ ?_ ?_ ?_
      rotate_left
      · kernel_rfl
      · kernel_rfl
      · kernel_rfl
      · (intro _ _ _ hq; exact hq)
      · rfl
      · (intro _w hSw; (try dsimp only at hSw); go_simp; try with_reducible rfl)
      · assumption
      try simp only [Act.put, List.setIfInBounds_toArray, List.set_cons_zero, List.set_cons_succ]
      refine take_in (i := 6) (v := ?_) (d := (some 48)) rfl rfl ?_ ?_ ?_ ?_ ?_ ?_ ?_ ?_
      rotate_left
      · kernel_rfl
      · kernel_rfl
      · kernel_rfl
      · (intro _ _ _ hq; exact hq)
      · rfl
      · (intro _w hSw; (try dsimp only at hSw); go_simp; try with_reducible rfl)
      · assumption
      try simp only [Act.put, List.setIfInBounds_toArray, List.set_cons_zero, List.set_cons_succ]
      refine take_in (i := 7) (v := ?_) (d := (some 49)) rfl rfl ?_ ?_ ?_ ?_ ?_ ?_ ?_ ?_
      rotate_left
      · kernel_rfl
      · kernel_rfl
      · kernel_rfl
      · (intro _ _ _ hq; exact hq)
      · rfl
      · (intro _w hSw; (try dsimp only at hSw); go_simp; try with_reducible rfl)
      · assumption
      try simp only [Act.put, List.setIfInBounds_toArray, List.set_cons_zero, List.set_cons_succ]
      refine take_in (i := 8) (v := ?_) (d := (some 50)) rfl rfl ?_ ?_ ?_ ?_ ?_ ?_ ?_ ?_
      rotate_left
      · kernel_rfl
      · kernel_rfl
      · kernel_rfl
      · (intro _ _ _ hq; exact hq)
      · rfl
      · (intro _w hSw; (try dsimp only at hSw); go_simp; try with_reducible rfl)
      · assumption
      try simp only [Act.put, List.setIfInBounds_toArray, List.set_cons_zero, List.set_cons_succ]
      refine take_in (i := 9) (v := ?_) (d := (some 51)) rfl rfl ?_ ?_ ?_ ?_ ?_ ?_ ?_ ?_
      rotate_left
      · kernel_rfl
      · kernel_rfl
      · kernel_rfl
      · (intro _ _ _ hq; exact hq)
      · rfl
      · (intro _w hSw; (try dsimp only at hSw); go_simp; try with_reducible rfl)
      · assumption
      try simp only [Act.put, List.setIfInBounds_toArray, List.set_cons_zero, List.set_cons_succ]
      refine take_in (i := 10) (v := ?_) (d := (some 52)) rfl rfl ?_ ?_ ?_ ?_ ?_ ?_ ?_ ?_
      rotate_left
      · kernel_rfl
      · kernel_rfl
      · kernel_rfl
      · (intro _ _ _ hq; exact hq)
      · rfl
      · (intro _w hSw; (try dsimp only at hSw); go_simp; try with_reducible rfl)
      · assumption
      try simp only [Act.put, List.setIfInBounds_toArray, List.set_cons_zero, List.set_cons_succ]
      refine take_in (i := 11) (v := ?_) (d := (some 53)) rfl rfl ?_ ?_ ?_ ?_ ?_ ?_ ?_ ?_
      rotate_left
      · kernel_rfl
      · kernel_rfl
      · kernel_rfl
      · (intro _ _ _ hq; exact hq)
      · rfl
      · (intro _w hSw; (try dsimp only at hSw); go_simp; try with_reducible rfl)
      · assumption
      try simp only [Act.put, List.setIfInBounds_toArray, List.set_cons_zero, List.set_cons_succ]
      refine take_in (i := 12) (v := ?_) (d := (some 54)) rfl rfl ?_ ?_ ?_ ?_ ?_ ?_ ?_ ?_
      rotate_left
      · kernel_rfl
      · kernel_rfl
      · kernel_rfl
      · (intro _ _ _ hq; exact hq)
      · rfl
      · (intro _w hSw; (try dsimp only at hSw); go_simp; try with_reducible rfl)
      · assumption
      try simp only [Act.put, List.setIfInBounds_toArray, List.set_cons_zero, List.set_cons_succ]
      refine wpAnyH_ready (rs := [13]) ?_ ?_ ?_
      · kernel_rfl
      · simp
      refine (AllReadyH.cons rfl (fun K hK => ?_) AllReadyH.nil)
      go_simp
      refine hK.out _ _ ?_ (fun hHeld => ?_)
      · ((try dsimp only); (first | exact hHeld | (refine KS.out _ ?_; repeat (first | exact hgr | exact HG5.out | (refine Gr.drew ?_) | (refine Gr.alloc ?_ _)))))
      clear hK K
      try simp only [Act.put, List.setIfInBounds_toArray, List.set_cons_zero, List.set_cons_succ]
      refine wpAnyH_ready (rs := [14]) ?_ ?_ ?_
      · kernel_rfl
      · simp
      refine (AllReadyH.cons rfl (fun K hK => ?_) AllReadyH.nil)
      first | (refine step_append_lies _ (by rfl) (.tmp 42) (.tmp 55) 59 (by rfl) W3.heap.size 5 i0 _ 1 1 Tryz.underlying59 hi hz0 hz1 hz2 rfl (by decide) (.slice A8 (2 * k) c8) (2 * k) (flatE encG (planG (P.take k))) (by rfl) HOa.out ⟨wr.heap.size, 0, none⟩ 2 2 [.int .u8 (b1 : Int), .int .u8 (b2 : Int)] (by rfl) rfl (World.news_of_block (heap_alloc_new _ _)) (by intro u hu; simp at hu; rcases hu with rfl | rfl <;> rfl) (by decide) (by unfold maxLen; omega) (by omega) (by simp; omega) _ rfl ?_; intro g' cap' w5 hown' hgrow _ _; have HG5 := Lib.hid (HGG.out _ hgrow); have HO5 := Lib.hid hown'; clear hown' hgrow)
      refine hK.out _ _ ?_ (fun hHeld => ?_)
      · ((try dsimp only); (first | exact hHeld | (refine KS.out _ ?_; repeat (first | exact hgr | exact HG5.out | (refine Gr.drew ?_) | (refine Gr.alloc ?_ _)))))
      clear hK K
      try simp only [Act.put, List.setIfInBounds_toArray, List.set_cons_zero, List.set_cons_succ]
      refine take_in (i := 15) (v := ?_) (d := (some 11)) rfl rfl ?_ ?_ ?_ ?_ ?_ ?_ ?_ ?_
      rotate_left
      · kernel_rfl
      · kernel_rfl
      · kernel_rfl
      · (intro _ _ _ hq; exact hq)
      · rfl
      · (intro _w hSw; (try dsimp only at hSw); go_simp; try with_reducible rfl)
      · assumption
      try simp only [Act.put, List.setIfInBounds_toArray, List.set_cons_zero, List.set_cons_succ]
      refine wpAnyH_done ?_ ?_ _
      · kernel_rfl
      rotate_left
      all_goals
        clear hHeld hi hz0 hz1 hz2 HGG KS HOa
        go_wp2_with fail
        go_roundw
        case rel => exact ⟨k + 1, some ⟨g', 0, none⟩, cap', by omega, by go_num, rfl, Lib.hid (by rw [HNX.out]; exact HO5.out), HG5.out⟩
        case measure => simp [intOf]; omega
    · obtain rfl : k = pn := by omega
      rw [List.take_of_length_le (by rw [HPN.out]; omega)] at hown
      obtain ⟨_, _, e1, -, hRB, -⟩ := own_row (enc := encG) (fun _ => rfl) (xs := planG P) (by rw [planG_len, HPN.out]) hown.out
      cases e1
      have HRB := Lib.hid hRB
      have hgw := hg03.trans hgr
      obtain ⟨wB, hwB⟩ : ∃ wB, wB = wr := ⟨_, rfl⟩
      subst hwB
      have HBK : Hid (∀ W', Gr wB W' → (convert 59 9 (.slice A8 (2 * k) c8)).run Tryz.prog W' = .ok (.string (txt (planG P))) W') := Lib.hid (fun W' h => back_any A8 (2 * k) c8 (planG P) (by rw [planG_len, HPN.out]) W' (HRB.out.keep h))
      have hsz : (txt (planG P)).size = 2 * k := by rw [txt_size, planG_len, HPN.out]
      have HCB := Lib.hid (fun W (hW : Gr wB W) => HCA.out (txt (planG P)) W (hgw.trans hW) (by rw [hsz]; omega))
      have HGI : Hid (∀ j : Nat, (txt (planG P)).data[j]? = ((planG P)[j]?).map u8) := Lib.hid (fun j => by unfold txt; rw [List.getElem?_toArray, List.getElem?_map])
      generalize txt (planG P) = S1 at HBK hsz HCB HGI
      have hszi : (S1.size : Int) = 2 * (k : Int) := by omega
      have HBr := Lib.hid (HB3.out.keep hgr)
      have HQr := Lib.hid (HQ3.out.keep hgr)
      have HPr := Lib.hid (HPP.out.keep hgr)
      clear hRB hown hlt HCA HB3 HQ3 HPP hgr
      go_upto_region 10 with fail
      have hr0 := Gr.refl wB
      refine wp_region_held_drew (S := (fun W' => Gr wB W' ∧ (convert 59 9 (.slice A8 (2 * k) c8)).run Tryz.prog W' = .ok (.string S1) W')) ?_ ?_ (fun hHeld => ?_)
      · kernel_rfl
      · ((try dsimp only); (first | exact hHeld | (refine And.intro ?_ (HBK.out _ ?_) <;> (repeat (first | exact hr0 | exact HG7.out | (refine Gr.drew ?_))))))
      refine take_in (i := 0) (v := ?_) (d := (some 58)) rfl rfl ?_ ?_ ?_ ?_ ?_ ?_ ?_ ?_
      rotate_left
      · kernel_rfl
      · kernel_rfl
      · kernel_rfl
      · (intro _ _ _ hq; exact hq)
      · rfl
      · (intro _w hSw; (try dsimp only at hSw); go_simp; try with_reducible rfl)
      · assumption
      try simp only [Act.put, List.setIfInBounds_toArray, List.set_cons_zero, List.set_cons_succ]
      refine take_in (i := 1) (v := ?_) (d := (some 59)) rfl rfl ?_ ?_ ?_ ?_ ?_ ?_ ?_ ?_
      rotate_left
      · kernel_rfl
      · kernel_rfl
      · kernel_rfl
      · (intro _ _ _ hq; exact hq)
      · rfl
      · (intro _w hSw; (try dsimp only at hSw); go_simp; try with_reducible rfl)
      · assumption
      try simp only [Act.put, List.setIfInBounds_toArray, List.set_cons_zero, List.set_cons_succ]
      refine take_in (i := 2) (v := ?_) (d := (some 60)) rfl rfl ?_ ?_ ?_ ?_ ?_ ?_ ?_ ?_
      rotate_left
      · kernel_rfl
      · kernel_rfl
      · kernel_rfl
      · (intro _ _ _ hq; exact hq)
      · rfl
      · (intro _w hSw; (try dsimp only at hSw); go_simp; try with_reducible rfl)
      · assumption
      try simp only [Act.put, List.setIfInBounds_toArray, List.set_cons_zero, List.set_cons_succ]
      refine take_in (i := 4) (v := ?_) (d := (some 62)) rfl rfl ?_ ?_ ?_ ?_ ?_ ?_ ?_ ?_
      rotate_left
      · kernel_rfl
      · kernel_rfl
      · kernel_rfl
      · (intro _ _ _ hq; exact hq)
      · rfl
      · (intro _w hSw; (try dsimp only at hSw); go_simp; try with_reducible rfl)
      · assumption
      try simp only [Act.put, List.setIfInBounds_toArray, List.set_cons_zero, List.set_cons_succ]
      refine wpAnyH_ready (rs := [3]) ?_ ?_ ?_
      · kernel_rfl
      · simp
      refine (AllReadyH.cons rfl (fun K hK => ?_) AllReadyH.nil)
      go_simp
      first | (go_at_call 7; (with_reducible refine (HMO.out _).mono ?_); rintro e w' ⟨rfl, rfl⟩) | (go_at_call 15; (with_reducible refine (HCB.out _ hHeld.1).mono ?_); rintro e w7 ⟨rfl, hg7⟩; have HG7 := Lib.hid (hHeld.1.trans hg7); clear hg7)
      refine hK.out _ _ ?_ (fun hHeld => ?_)
      · ((try dsimp only); (first | exact hHeld | (refine And.intro ?_ (HBK.out _ ?_) <;> (repeat (first | exact hr0 | exact HG7.out | (refine Gr.drew ?_))))))
      clear hK K
      try simp only [Act.put, List.setIfInBounds_toArray, List.set_cons_zero, List.set_cons_succ]
      refine wpAnyH_ready (rs := [5]) ?_ ?_ ?_
      · kernel_rfl
      · simp
      refine (AllReadyH.cons rfl (fun K hK => ?_) AllReadyH.nil)
      go_simp
      first | (go_at_call 7; (with_reducible refine (HMO.out _).mono ?_); rintro e w' ⟨rfl, rfl⟩) | (go_at_call 15; (with_reducible refine (HCB.out _ hHeld.1).mono ?_); rintro e w7 ⟨rfl, hg7⟩; have HG7 := Lib.hid (hHeld.1.trans hg7); clear hg7)
      refine hK.out _ _ ?_ (fun hHeld => ?_)
      · ((try dsimp only); (first | exact hHeld | (refine And.intro ?_ (HBK.out _ ?_) <;> (repeat (first | exact hr0 | exact HG7.out | (refine Gr.drew ?_))))))
      clear hK K
      try simp only [Act.put, List.setIfInBounds_toArray, List.set_cons_zero, List.set_cons_succ]
      refine take_in (i := 6) (v := ?_) (d := (some 57)) rfl rfl ?_ ?_ ?_ ?_ ?_ ?_ ?_ ?_
      rotate_left
      · kernel_rfl
      · kernel_rfl
      · kernel_rfl
      · (intro _ _ _ hq; exact hq)
      · rfl
      · (intro _w hSw; (try dsimp only at hSw); go_simp; try with_reducible rfl)
      · assumption
      try simp only [Act.put, List.setIfInBounds_toArray, List.set_cons_zero, List.set_cons_succ]
      refine take_in (i := 7) (v := ?_) (d := (some 64)) rfl rfl ?_ ?_ ?_ ?_ ?_ ?_ ?_ ?_
      rotate_left
      · kernel_rfl
      · kernel_rfl
      · kernel_rfl
      · (intro _ _ _ hq; exact hq)
      · rfl
      · (intro _w hSw; (try dsimp only at hSw); go_simp; try with_reducible rfl)
      · assumption
      try simp only [Act.put, List.setIfInBounds_toArray, List.set_cons_zero, List.set_cons_succ]
      refine take_in (i := 8) (v := ?_) (d := (some 65)) rfl rfl ?_ ?_ ?_ ?_ ?_ ?_ ?_ ?_
      rotate_left
      · kernel_rfl
      · kernel_rfl
      · kernel_rfl
      · (intro _ _ _ hq; exact hq)
      · rfl
      · (intro _w hSw; (try dsimp only at hSw); go_simp; try with_reducible rfl)
      · assumption
      try simp only [Act.put, List.setIfInBounds_toArray, List.set_cons_zero, List.set_cons_succ]
      refine take_in (i := 9) (v := ?_) (d := (some 13)) rfl rfl ?_ ?_ ?_ ?_ ?_ ?_ ?_ ?_
      rotate_left
      · kernel_rfl
      · kernel_rfl
      · kernel_rfl
      · (intro _ _ _ hq; exact hq)
      · rfl
      · (intro _w hSw; (try dsimp only at hSw); go_simp; try with_reducible rfl)
      · assumption
      try simp only [Act.put, List.setIfInBounds_toArray, List.set_cons_zero, List.set_cons_succ]
      refine take_in (i := 10) (v := ?_) (d := (some 14)) rfl rfl ?_ ?_ ?_ ?_ ?_ ?_ ?_ ?_
      rotate_left
      · kernel_rfl
      · kernel_rfl
      · kernel_rfl
      · (intro _ _ _ hq; exact hq)
      · rfl
      · (intro _w hSw; (try dsimp only at hSw); go_simp; try with_reducible rfl)
      · assumption
      try simp only [Act.put, List.setIfInBounds_toArray, List.set_cons_zero, List.set_cons_succ]
      refine wpAnyH_done ?_ ?_ _
      · kernel_rfl
      rotate_left
      clear hHeld hr0 HBK HCB hm HMO HRB HI
      have hg7 := HG7.out
      obtain ⟨i1, ji, jz0, jz1, jz2⟩ := info_parts Tryz.infoTpS
      have HI := Lib.hid (And.intro ji (And.intro jz0 (And.intro jz1 jz2)))
      have hk2 : IntKind.i64.wrap (2 * (k : Int)) = 2 * (k : Int) := IntWalk.i64_in _ (by omega)
      clear ji jz0 jz1 jz2
      go_wp2_with fail
      go_loopw [15, 16] (fun u z wr => ∃ (i j : Nat) (A9 : Option Addr) (c9 : Nat), i ≤ k ∧ j = 2 * i ∧ z = .int .i64 (j : Int) ∧ u = .slice A9 i c9 ∧ Hid (wr.ownsRow w7.heap.size 61 2 (.slice A9 i c9) i (flatE enc2 (P.take i))) ∧ Gr w7 wr) (fun _ z _ => 2 * k - (intOf z).toNat)
      case atStart => exact ⟨0, 0, none, 0, Nat.zero_le _, rfl, rfl, rfl, Lib.hid (World.ownsRow_nil w7 _ _ _), Gr.refl _⟩
      case round =>
        obtain ⟨i, j, A9, c9, hik, hj2, rfl, rfl, hown, hgi⟩ := hrel
        obtain ⟨j1, hj1⟩ : ∃ j1, j + 1 = j1 := ⟨_, rfl⟩
        have hwj : IntKind.i64.wrap ((j : Int) + 1) = (j1 : Int) := by rw [show (j : Int) + 1 = (j1 : Int) by omega]; exact IntWalk.i64_in _ (by omega)
        by_cases hlt : i < k
        · obtain ⟨s, hs⟩ : ∃ s, P[i]? = some s := ⟨_, List.getElem?_eq_getElem (by rw [HPN.out]; exact hlt)⟩
          obtain ⟨b1, b2, rfl, hb1, hb2⟩ := HBY.out.at hs
          obtain ⟨a1, a2⟩ := planG_at P i _ hs
          rw [← hj2] at a1 a2
          rw [hj1] at a2
          have hjs : j < S1.size := by omega
          have hjs1 : j1 < S1.size := by omega
          have v1 : (S1[j].toNat : Int) = (b1 : Int) := by
            rw [txt_at HGI.out a1 hjs]
            dsimp only
            rw [Int.toNat_natCast, Nat.mod_eq_of_lt (by omega)]
          have v2 : (S1[j1].toNat : Int) = (b2 : Int) := by
            rw [txt_at HGI.out a2 hjs1]
            dsimp only
            rw [Int.toNat_natCast, Nat.mod_eq_of_lt (by omega)]
          have HNX := Lib.hid (enc2_next hs)
          have hj1i : (j1 : Int) < 2 * (k : Int) := by omega
          have hji : (j : Int) < 2 * (k : Int) := by omega
          have u1 : IntKind.i64.wrap (b1 : Int) = (b1 : Int) := IntWalk.i64_in _ (by omega)
          have u2 : IntKind.i64.wrap (b2 : Int) = (b2 : Int) := IntWalk.i64_in _ (by omega)
          have hda : Gr wr (wr.alloc (.cells #[.int .i64 (b1 : Int), .int .i64 (b2 : Int)] 61)).drew := ((Gr.refl wr).alloc _).drew
          have HOa := Lib.hid (owns_gr hown.out hda)
          have hga := hgi.trans hda
          have HGG : Hid (∀ w5 : World, World.grownBy (wr.alloc (.cells #[.int .i64 (b1 : Int), .int .i64 (b2 : Int)] 61)).drew w5 (Value.slice A9 i c9).ownBlock → Gr w7 w5) := Lib.hid (fun w5 hg => Below.grown hga hg hga.size (fun t ht => (HOa.out.lt t ht).1))
          have hbs : w7.heap.size ≤ wr.heap.size := hgi.size
          have HJ2 := Lib.hid hj2
          have HJ1 := Lib.hid hj1
          clear hs hown hda a1 a2 hj2 hj1
          obtain ⟨hi, hz0, hz1, hz2⟩ := HI.out
          go_upto_region 17 with fail
          refine wp_region_held_drew (S := (fun _ => True)) ?_ ?_ (fun hHeld => ?_)
          · kernel_rfl
          · ((try dsimp only); (try trivial))
          refine take_in (i := 0) (v := ?_) (d := (some 83)) rfl rfl ?_ ?_ ?_ ?_ ?_ ?_ ?_ ?_
          rotate_left
          · kernel_rfl
          · kernel_rfl
          · kernel_rfl
          · (intro _ _ _ hq; exact hq)
          · rfl
          · (intro _w hSw; (try dsimp only at hSw); go_simp; try with_reducible rfl)
          · assumption
          try simp only [Act.put, List.setIfInBounds_toArray, List.set_cons_zero, List.set_cons_succ]
          refine take_in (i := 1) (v := ?_) (d := (some 84)) rfl rfl ?_ ?_ ?_ ?_ ?_ ?_ ?_ ?_
          rotate_left
          · kernel_rfl
          · kernel_rfl
          · kernel_rfl
          · (intro _ _ _ hq; exact hq)
          · rfl
          · (intro _w hSw; (try dsimp only at hSw); go_simp; try with_reducible rfl)
          · assumption
          try simp only [Act.put, List.setIfInBounds_toArray, List.set_cons_zero, List.set_cons_succ]
          refine take_in (i := 2) (v := ?_) (d := (some 85)) rfl rfl ?_ ?_ ?_ ?_ ?_ ?_ ?_ ?_
          rotate_left
          · kernel_rfl
          · kernel_rfl
          · kernel_rfl
          · (intro _ _ _ hq; exact hq)
          · rfl
          · (intro _w hSw; (try dsimp only at hSw); go_simp; try with_reducible rfl)
          · assumption
          try simp only [Act.put, List.setIfInBounds_toArray, List.set_cons_zero, List.set_cons_succ]
          refine take_in (i := 3) (v := ?_) (d := (some 86)) rfl rfl ?_ ?_ ?_ ?_ ?_ ?_ ?_ ?_
          rotate_left
          · kernel_rfl
          · kernel_rfl
          · kernel_rfl
          · (intro _ _ _ hq; exact hq)
          · rfl
          · (intro _w hSw; (try dsimp only at hSw); go_simp; try with_reducible rfl)
          · assumption
          try simp only [Act.put, List.setIfInBounds_toArray, List.set_cons_zero, List.set_cons_succ]
          refine take_in (i := 4) (v := ?_) (d := (some 87)) rfl rfl ?_ ?_ ?_ ?_ ?_ ?_ ?_ ?_
          rotate_left
          · kernel_rfl
          · kernel_rfl
          · kernel_rfl
          · (intro _ _ _ hq; exact hq)
          · rfl
          · (intro _w hSw; (try dsimp only at hSw); go_simp; try with_reducible rfl)
          · assumption
          try simp only [Act.put, List.setIfInBounds_toArray, List.set_cons_zero, List.set_cons_succ]
          refine take_in (i := 5) (v := ?_) (d := (some 88)) rfl rfl ?_ ?_ ?_ ?_ ?_ ?_ ?_ ?_
          rotate_left
          · kernel_rfl
          · kernel_rfl
          · kernel_rfl
          · (intro _ _ _ hq; exact hq)
          · rfl
          · (intro _w hSw; (try dsimp only at hSw); go_simp; try with_reducible rfl)
          · assumption
          try simp only [Act.put, List.setIfInBounds_toArray, List.set_cons_zero, List.set_cons_succ]
          refine take_in (i := 6) (v := ?_) (d := (some 89)) rfl rfl ?_ ?_ ?_ ?_ ?_ ?_ ?_ ?_
          rotate_left
          · kernel_rfl
          · kernel_rfl
          · kernel_rfl
          · (intro _ _ _ hq; exact hq)
          · rfl
          · (intro _w hSw; (try dsimp only at hSw); go_simp; try with_reducible rfl)
          · assumption
          try simp only [Act.put, List.setIfInBounds_toArray, List.set_cons_zero, List.set_cons_succ]
          refine take_in (i := 7) (v := ?_) (d := (some 90)) rfl rfl ?_ ?_ ?_ ?_ ?_ ?_ ?_ ?_
          rotate_left
          · kernel_rfl
          · kernel_rfl
          · kernel_rfl
          · (intro _ _ _ hq; exact hq)
          · rfl
          · (intro _w hSw; (try dsimp only at hSw); go_simp; try with_reducible rfl)
          · assumption
          try simp only [Act.put, List.setIfInBounds_toArray, List.set_cons_zero, List.set_cons_succ]
          refine take_in (i := 8) (v := ?_) (d := (some 91)) rfl rfl ?_ ?_ ?_ ?_ ?_ ?_ ?_ ?_
          rotate_left
          · kernel_rfl
          · kernel_rfl
          · kernel_rfl
          · (intro _ _ _ hq; exact hq)
          · rfl
          · (intro _w hSw; (try dsimp only at hSw); go_simp; try with_reducible rfl)
          · assumption
          try simp only [Act.put, List.setIfInBounds_toArray, List.set_cons_zero, List.set_cons_succ]
          refine take_in (i := 9) (v := ?_) (d := (some 92)) rfl rfl ?_ ?_ ?_ ?_ ?_ ?_ ?_ ?_
          rotate_left
          · kernel_rfl
          · kernel_rfl
          · kernel_rfl
          · (intro _ _ _ hq; exact hq)
          · rfl
          · (intro _w hSw; (try dsimp only at hSw); go_simp; try with_reducible rfl)
          · assumption
          try simp only [Act.put, List.setIfInBounds_toArray, List.set_cons_zero, List.set_cons_succ]
          refine take_in (i := 10) (v := ?_) (d := (some 93)) rfl rfl ?_ ?_ ?_ ?_ ?_ ?_ ?_ ?_
          rotate_left
          · kernel_rfl
          · kernel_rfl
          · kernel_rfl
          · (intro _ _ _ hq; exact hq)
          · rfl
          · (intro _w hSw; (try dsimp only at hSw); go_simp; try with_reducible rfl)
          · assumption
          try simp only [Act.put, List.setIfInBounds_toArray, List.set_cons_zero, List.set_cons_succ]
          refine wpAnyH_ready (rs := [11]) ?_ ?_ ?_
          · kernel_rfl
          · simp
          refine (AllReadyH.cons rfl (fun K hK => ?_) AllReadyH.nil)
          go_simp
          refine hK.out _ _ ?_ (fun hHeld => ?_)
          · ((try dsimp only); (try trivial))
          clear hK K
          try simp only [Act.put, List.setIfInBounds_toArray, List.set_cons_zero, List.set_cons_succ]
          refine wpAnyH_ready (rs := [12]) ?_ ?_ ?_
          · kernel_rfl
          · simp
          refine (AllReadyH.cons rfl (fun K hK => ?_) AllReadyH.nil)
          first | (refine step_append_lies _ (by rfl) (.tmp 83) (.tmp 94) 55 (by rfl) w7.heap.size 61 i1 _ 2 16 Tryz.underlying55 hi hz0 hz1 hz2 rfl (by decide) (.slice A9 i c9) i (flatE enc2 (P.take i)) (by rfl) HOa.out ⟨wr.heap.size, 0, none⟩ 1 1 [.int .i64 (b1 : Int), .int .i64 (b2 : Int)] (by rfl) rfl (World.news_of_block (heap_alloc_new _ _)) (by intro u hu; simp at hu; rcases hu with rfl | rfl <;> rfl) (by decide) (by unfold maxLen; omega) (by omega) (by simp; omega) _ rfl ?_; intro g' cap' w5 hown' hgrow _ _; have HG5 := Lib.hid (HGG.out _ hgrow); have HO5 := Lib.hid hown'; clear hown' hgrow)
          refine hK.out _ _ ?_ (fun hHeld => ?_)
          · ((try dsimp only); (try trivial))
          clear hK K
          try simp only [Act.put, List.setIfInBounds_toArray, List.set_cons_zero, List.set_cons_succ]
          refine take_in (i := 13) (v := ?_) (d := (some 15)) rfl rfl ?_ ?_ ?_ ?_ ?_ ?_ ?_ ?_
          rotate_left
          · kernel_rfl
          · kernel_rfl
          · kernel_rfl
          · (intro _ _ _ hq; exact hq)
          · rfl
          · (intro _w hSw; (try dsimp only at hSw); go_simp; try with_reducible rfl)
          · assumption
          try simp only [Act.put, List.setIfInBounds_toArray, List.set_cons_zero, List.set_cons_succ]
          refine wpAnyH_done ?_ ?_ _
          · kernel_rfl
          rotate_left
          all_goals
            clear hHeld hi hz0 hz1 hz2 HGG HOa
            go_wp2_with fail
            go_roundw
            case rel => exact ⟨i + 1, j + 2, some ⟨g', 0, none⟩, cap', by omega, by have := HJ2.out; omega, by go_num, rfl, Lib.hid (by rw [HNX.out]; exact HO5.out), HG5.out⟩
            case measure => simp [intOf]; omega
        · obtain rfl : i = k := by omega
          rw [List.take_of_length_le (by rw [HPN.out]; omega)] at hown
          obtain ⟨_, _, e1, -, hRP, -⟩ := own_row enc2_len (xs := P) HPN.out hown.out
          cases e1
          have hgz := hg7.trans hgi
          have HBz := Lib.hid (HBr.out.keep hgz)
          have t0 := HBz.out.cell 0
          have t1 := HBz.out.cell 1
          have t2 := HBz.out.cell 2
          have HW1 := Lib.hid (Worth_any x y A1 (some ⟨g, 0, none⟩) q c1 i c0 qs P wr HQN.out (by omega) HPN.out (by omega) (HQr.out.keep hgz) (HPr.out.keep hgz))
          rw [HWL.out] at HW1
          have HW2 := Lib.hid (fun W (hW : Gr wr W) => Worth_any x y A1 A9 q c1 i c9 qs P W HQN.out (by omega) HPN.out (by omega) (HQr.out.keep (hgz.trans hW)) (hRP.keep hW))
          rw [HWL.out] at HW2
          have hge : ¬ ((j1 : Int) < 2 * (i : Int)) := by omega
          clear hRP hown hlt hj2 hj1
          go_wp2_with fail
          refine HW1.out.mono ?_
          rintro e w8 ⟨rfl, hg8⟩
          dsimp only
          have HBy := Lib.hid (HBz.out.keep hg8)
          clear t0 t1 t2
          have t0 := HBy.out.cell 0
          have t1 := HBy.out.cell 1
          have t2 := HBy.out.cell 2
          go_wp2_with fail
          refine (HW2.out _ hg8).mono ?_
          rintro e w9 ⟨rfl, hg9⟩
          dsimp only
          generalize sumV m = sv
          go_wp2_with fail
          refine (four_any _).mono ?_
          rintro e w10 ⟨rfl, hg10⟩
          go_wp2_with fail
          go_ret
          exact ⟨rfl, (((hgw.trans hgz).trans hg8).trans hg9).trans hg10⟩

end Go.Proofs.YtpnkpejnahhajaaGreat
