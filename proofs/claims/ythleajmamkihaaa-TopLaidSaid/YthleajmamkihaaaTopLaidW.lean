/- The law TopLaid as a walk. -/
import Derived.Test.YthleajmamkihaaaTopTask
import Derived.Test.YthleajmamkihaaaTopPlan
import Derived.Test.YthleajmamkihaaaArea
import Derived.Test.YthleajmamkihaaaInside
namespace Go.Proofs.Ythleajmamkihaaa
open Go.RowKit
set_option linter.unusedSimpArgs false

theorem sumBx_take {l : List Bx} {k : Nat} {b : Bx} (h : l[k]? = some b) : sumBx (l.take (k + 1)) = sumBx (l.take k) + bxA b := by
  rw [List.take_add_one, h, sumBx_app]; simp [sumBx]
theorem madeBx_take {bs : List Bl} {l : List Bx} {k : Nat} {b : Bx} (h : l[k]? = some b) : madeBx bs (l.take (k + 1)) = madeBx bs (l.take k) + (if 0 ≤ b.k then (bl bs b.k.toNat).1 * (bl bs b.k.toNat).2.1 else 0) := by
  rw [List.take_add_one, h, madeBx_app]; simp [madeBx]
theorem bxA_bd {b : Bx} (h : b.w ≤ 10 ∧ b.h ≤ 10) : 0 ≤ bxA b ∧ bxA b ≤ 100 := by
  unfold bxA
  have h1 : b.w * b.h ≤ 10 * 10 := Nat.mul_le_mul h.1 h.2
  have h2 : ((b.w * b.h : Nat) : Int) = (b.w : Int) * b.h := Int.natCast_mul _ _
  omega
theorem sumBx_bd {l : List Bx} (h : ∀ b ∈ l, b.w ≤ 10 ∧ b.h ≤ 10) : 0 ≤ sumBx l ∧ sumBx l ≤ 100 * l.length := by
  induction l with
  | nil => simp [sumBx]
  | cons b r ih =>
    have h1 := ih (fun c hc => h c (List.mem_cons_of_mem _ hc))
    have h2 := bxA_bd (h b List.mem_cons_self)
    simp only [sumBx, List.length_cons]; omega
theorem madeBx_bd {bs : List Bl} (hb : ∀ b ∈ bs, blB b = true) {l : List Bx} (h : ∀ b ∈ l, BxFits bs b) : 0 ≤ madeBx bs l ∧ madeBx bs l ≤ 2304 * l.length := by
  induction l with
  | nil => simp [madeBx]
  | cons b r ih =>
    have h1 := ih (fun c hc => h c (List.mem_cons_of_mem _ hc))
    have h2 : 0 ≤ (if 0 ≤ b.k then (bl bs b.k.toNat).1 * (bl bs b.k.toNat).2.1 else 0) ∧ (if 0 ≤ b.k then (bl bs b.k.toNat).1 * (bl bs b.k.toNat).2.1 else 0) ≤ 2304 := by
      rcases h b List.mem_cons_self with e | ⟨i, e, hi, -⟩
      · rw [if_neg (by omega)]; omega
      · rw [if_pos (by omega), e, Int.toNat_natCast]
        obtain ⟨⟨a1, a2⟩, ⟨a3, a4⟩, -⟩ := (blB_iff _).1 (hb _ (bl_mem hi))
        have m1 : (bl bs i).1 * (bl bs i).2.1 ≤ 48 * 48 := Int.mul_le_mul a2 a4 (by omega) (by omega)
        have m2 : 0 ≤ (bl bs i).1 * (bl bs i).2.1 := Int.mul_nonneg (by omega) (by omega)
        omega
    simp only [madeBx, List.length_cons]; omega
theorem task_ok (W H : Int) (bs : List Bl) : taskB (sdT 10 W) (sdT 10 H) ((bs.take 8).map (fixT 10)) = true := by
  have h1 := sdT_in (M := 10) W (by omega) (by omega)
  have h2 := sdT_in (M := 10) H (by omega) (by omega)
  refine (taskB_iff _ _ _).2 ⟨by omega, by omega, ?_, ?_⟩
  · simp; omega
  · intro b hb
    obtain ⟨c, -, rfl⟩ := List.mem_map.1 hb
    exact fixT_ok c (by omega) (by omega)

set_option maxRecDepth 100000 in
set_option maxHeartbeats 80000000 in
theorem lawLaid_any (W H : Int) (A : Option Addr) (n c : Nat) (bs : List Bl) (w : World) (hn : bs.length = n) (hl : n ≤ 9223372036854775807) (hp : Tris w A bs) :
    Calls Try.prog 3 #[.agg #[.int .i64 W, .int .i64 H, .slice A n c]] w fun e w' => e = .returned (.bool true) ∧ Gr w w' := by
  have HT : Hid (∀ W', Gr w W' → Calls Try.prog 4 #[.agg #[.int .i64 W, .int .i64 H, .slice A n c], .int .i64 10, .int .i64 8] W' (TaskPost (sdT 10 W) (sdT 10 H) ((bs.take 8).map (fixT 10)) W')) :=
    Lib.hid (fun W' g => task_any W H A n c bs 10 8 W' (by omega) (by omega) (by omega) hn hl (hp.keep g))
  have hok := task_ok W H bs
  have h1 := sdT_in (M := 10) W (by omega) (by omega)
  have h2 := sdT_in (M := 10) H (by omega) (by omega)
  have h3 : ((bs.take 8).map (fixT 10)).length ≤ 8 := by simp; omega
  clear hn hp hl
  generalize (bs.take 8).map (fixT 10) = qs at HT hok h3
  generalize sdT 10 W = X at HT hok h1
  generalize sdT 10 H = Y at HT hok h2
  obtain ⟨x, rfl⟩ : ∃ x : Nat, X = x := ⟨X.toNat, by omega⟩
  obtain ⟨y, rfl⟩ : ∃ y : Nat, Y = y := ⟨Y.toNat, by omega⟩
  have HOK := Lib.hid hok
  have HBS := Lib.hid ((taskB_iff _ _ _).1 hok).2.2.2
  clear hok
  go_enter Try.func3, Try.ntmps3
  go_wp2_with fail
  generalize hW0 : World.alloc w _ = W0
  have hg0 : Gr w W0 := by rw [← hW0]; exact (Gr.refl w).alloc _
  clear hW0
  refine (HT.out _ hg0).mono ?_
  rintro e W1 ⟨A1, c1, rfl, hq, hg1⟩
  have HQ := Lib.hid hq
  obtain ⟨q, hqn⟩ : ∃ q, qs.length = q := ⟨_, rfl⟩
  rw [hqn] at h3 ⊢
  have HQN := Lib.hid hqn
  have hg01 := hg0.trans hg1
  clear hq hqn hg0 hg1
  go_upto_region 2 with fail
  generalize hW2 : World.alloc W1 _ = W2
  have hg2 : Gr W1 W2 := by rw [← hW2]; exact (Gr.refl W1).alloc _
  have hB2 : Blk W2 W1.heap.size 24 #[.int .i64 (x : Int), .int .i64 (y : Int), .slice A1 q c1] := by rw [← hW2]; exact heap_alloc_new W1 _
  generalize W1.heap.size = T at hB2 ⊢
  have HB2 := Lib.hid hB2
  have hg02 := hg01.trans hg2
  have HQ2 := Lib.hid (HQ.out.keep hg2)
  clear hW2 hB2 hg2 hg01 HQ
  have t0 := HB2.out.cell 0
  have t1 := HB2.out.cell 1
  have t2 := HB2.out.cell 2
  go_wp2_with fail
  refine (planned_any x y A1 q c1 qs _ HQN.out (by omega) HQ2.out HOK.out).mono ?_
  rintro e W3 ⟨P, m, l, g, c, v, ⟨hM, hP, -⟩, hBx, hmade, rfl, hrd, hg3⟩
  have HM := Lib.hid (And.intro hM hP)
  have HBX := Lib.hid hBx
  have HMD := Lib.hid hmade
  have HR3 := Lib.hid hrd
  have HB3 := Lib.hid (HB2.out.keep hg3)
  have HQ3 := Lib.hid (HQ2.out.keep hg3)
  have hg03 := hg02.trans hg3
  have hcnt : l.length ≤ 4608 := by
    have a1 := hBx.count
    have a2 := hM.short (by omega) (by omega) (by omega) (by omega)
    omega
  obtain ⟨nl, hnl⟩ : ∃ nl, l.length = nl := ⟨_, rfl⟩
  rw [hnl] at hcnt ⊢
  have HNL := Lib.hid hnl
  have HIN := Lib.hid (hBx.inside (by omega) (by omega))
  have HFT := Lib.hid hBx.fits
  clear hM hP hBx hmade hrd hg3 hg02 hnl HB2 HQ2 t0 t1 t2
  have t0 := HB3.out.cell 0
  have t1 := HB3.out.cell 1
  have t2 := HB3.out.cell 2
  go_upto_region 6 with fail
  generalize hW4 : World.alloc W3 _ = W4
  have hg4 : Gr W3 W4 := by rw [← hW4]; exact (Gr.refl W3).alloc _
  have hpc : Pts W4 (some ⟨W3.heap.size, 0, none⟩) (rect 0 0 (6 * (x : Int)) (6 * (y : Int))) := by rw [← hW4]; exact Rd_lit enc2_len (heap_alloc_new W3 _) rfl
  generalize W3.heap.size = V at hpc ⊢
  have HPC := Lib.hid hpc
  have HB4 := Lib.hid (HB3.out.keep hg4)
  have HQ4 := Lib.hid (HQ3.out.keep hg4)
  have HR4 := Lib.hid (HR3.out.keep hg4)
  have hg04 := hg03.trans hg4
  clear hW4 hpc hg4 hg03 HB3 HQ3 HR3 t0 t1 t2
  have HSUM := Lib.hid (fun k => sumBx_bd (l := l.take k) (fun b hb => by
    have h := HIN.out b (List.mem_of_mem_take hb)
    unfold BxIn at h; omega))
  have HMAD := Lib.hid (fun k => madeBx_bd HBS.out (l := l.take k) (fun b hb => HFT.out b (List.mem_of_mem_take hb)))
  go_wp2_with fail
  go_loopw [8, 9, 10] (fun s p z wr => ∃ k : Nat, k ≤ nl ∧ z = .int .i64 k ∧ s = .int .i64 (2 * sumBx (l.take k)) ∧ p = .int .i64 (madeBx qs (l.take k)) ∧ Gr W4 wr) (fun _ _ z _ => nl - (intOf z).toNat)
  case atStart => exact ⟨0, Nat.zero_le _, rfl, rfl, rfl, Gr.refl _⟩
  case round =>
    obtain ⟨k, hk, rfl, rfl, rfl, hgr⟩ := hrel
    have hs1 := HSUM.out k
    have hm1 := HMAD.out k
    have hlk : (l.take k).length ≤ nl := by have := HNL.out; simp; omega
    by_cases hlt : k < nl
    · obtain ⟨b, hb⟩ : ∃ b, l[k]? = some b := ⟨_, List.getElem?_eq_getElem (by rw [HNL.out]; exact hlt)⟩
      obtain ⟨gb, ob, e0, c0, c1', c2, c3, c4⟩ := Bx_at (HR4.out.keep hgr) hb
      cases e0
      simp only [Nat.zero_add] at c0 c1' c2 c3 c4
      have hbm := List.mem_of_getElem? hb
      have hin := HIN.out b hbm
      have HFB := Lib.hid (HFT.out b hbm)
      have HINS := Lib.hid (piece_inside (W := x) (H := y) hin)
      have HS1 := Lib.hid (sumBx_take hb)
      have HM1 := Lib.hid (madeBx_take (bs := qs) hb)
      have hab : 0 ≤ bxA b ∧ bxA b ≤ 100 := bxA_bd (by unfold BxIn at hin; omega)
      have HAB : Hid (bxA b = (b.w : Int) * b.h) := Lib.hid rfl
      clear hb hbm
      unfold BxIn at hin
      obtain ⟨bx, by_, bw, bh, bk⟩ := b
      dsimp only at c0 c1' c2 c3 c4 hin HFB HINS HS1 HM1 hab HAB
      generalize sumBx (l.take k) = su at hs1 HS1 ⊢
      generalize madeBx qs (l.take k) = ma at hm1 HM1 ⊢
      generalize bxA ⟨bx, by_, bw, bh, bk⟩ = ab at HS1 hab HAB
      have hki : (k : Int) < (nl : Int) := by omega
      go_upto_region 11 with fail
      generalize hW5 : World.alloc wr _ = w5
      obtain ⟨hg5, hB5⟩ := box5b hW5
      generalize wr.heap.size = Z at hB5 ⊢
      have HB5 := Lib.hid hB5
      have hgr5 := hgr.trans hg5
      obtain ⟨⟨b0, b1, b2, b3, b4⟩, -⟩ := Blk5 hB5
      have HA : Hid (areaL (rect bx by_ ((bx : Int) + bw) ((by_ : Int) + bh)) = 2 * ab) := Lib.hid (by rw [rect_area, HAB.out, show (bx : Int) + bw - bx = bw by omega, show (by_ : Int) + bh - by_ = bh by omega])
      have hvl : ((rect bx by_ ((bx : Int) + bw) ((by_ : Int) + bh)).all fun p => vld p.1 p.2) = true := List.all_eq_true.2 fun p hp => (vld_iff _ _).2 (by obtain ⟨h1, h2⟩ := mem_rect hp; omega)
      have HVL := Lib.hid hvl
      clear hW5 hB5 hg5 hgr hvl c0 c1' c2 c3 c4
      go_wp2_with fail
      generalize hW6 : World.alloc w5 _ = w6
      have hg6 : Gr w5 w6 := by rw [← hW6]; exact (Gr.refl w5).alloc _
      have hp6 : Pts w6 (some ⟨w5.heap.size, 0, none⟩) (rect bx by_ ((bx : Int) + bw) ((by_ : Int) + bh)) := by rw [← hW6]; exact Rd_lit enc2_len (heap_alloc_new w5 _) rfl
      generalize w5.heap.size = Z2 at hp6 ⊢
      clear hW6
      refine (Area_yes (some ⟨Z2, 0, none⟩) 4 4 _ w6 rfl (by omega) hp6 HVL.out).mono ?_
      rintro e w7 ⟨rfl, hg7⟩
      rw [HA.out]
      have hg57 := hg6.trans hg7
      have HB7 := Lib.hid (HB5.out.keep hg57)
      have hgr7 := hgr5.trans hg57
      clear hp6 hg6 hg7 hg57 hgr5 HB5 b0 b1 b2 b3 b4
      obtain ⟨⟨b0, b1, b2, b3, b4⟩, -⟩ := Blk5 HB7.out
      have HCI := Lib.hid (Inside_yes (some ⟨V, 0, none⟩) 4 4 (rect 0 0 (6 * (x : Int)) (6 * (y : Int))) (6 * (bx : Int) + 3 * (bw : Int)) (6 * (by_ : Int) + 3 * (bh : Int)) w7 rfl (by omega) (HPC.out.keep hgr7) (piece_simple (by omega) (by omega)) ((vld_iff _ _).2 (by omega)))
      rw [HINS.out] at HCI
      go_wp2_with fail
      refine HCI.out.mono ?_
      rintro e w8 ⟨rfl, hg8⟩
      have HB8 := Lib.hid (HB7.out.keep hg8)
      have hgr8 := hgr7.trans hg8
      clear hg8 hgr7 HB7 HCI b0 b1 b2 b3 b4
      obtain ⟨⟨b0, b1, b2, b3, b4⟩, -⟩ := Blk5 HB8.out
      have hpr : 2 * (bw : Int) * (bh : Int) = 2 * ab := by rw [HAB.out, Int.mul_assoc]
      have HFB' := HFB.out
      rcases HFB' with e | ⟨i, e, hi, hf⟩
      · dsimp only at e
        subst e
        have hm' : madeBx qs (l.take (k + 1)) = ma := by rw [HM1.out]; simp
        have hs' : 2 * sumBx (l.take (k + 1)) = 2 * su + 2 * ab := by rw [HS1.out]; omega
        have HSS := Lib.hid (And.intro hm' hs')
        clear hm' hs'
        go_wp2_with fail
        go_roundw
        case rel => exact ⟨k + 1, by omega, by go_num, by rw [HSS.out.2], by rw [HSS.out.1], hgr8⟩
        case measure => simp [intOf]; omega
      · dsimp only at e hf
        subst e
        obtain ⟨gq, oq, rfl, q0, q1, q2⟩ := Tris_at (HQ4.out.keep hgr8) hi
        rw [bl_getD] at q0 q1 q2
        obtain ⟨⟨v1, v2⟩, ⟨v3, v4⟩, v5, v6⟩ := (blB_iff _).1 (HBS.out _ (bl_mem hi))
        have hf' : (bl qs i).1 ≤ (bw : Int) ∧ (bl qs i).2.1 ≤ (bh : Int) := by
          unfold fitsB at hf; simpa using hf
        have hm' : madeBx qs (l.take (k + 1)) = ma + (bl qs i).1 * (bl qs i).2.1 := by rw [HM1.out]; simp
        have hs' : 2 * sumBx (l.take (k + 1)) = 2 * su + 2 * ab := by rw [HS1.out]; omega
        have hiq : i < q := by rw [← HQN.out]; exact hi
        generalize bl qs i = bb at q0 q1 q2 v1 v2 v3 v4 v5 v6 hf' hm'
        obtain ⟨p1, p2, p3⟩ := bb
        dsimp only at q0 q1 q2 v1 v2 v3 v4 v5 v6 hf' hm'
        have m1 : p1 * p2 ≤ 48 * 48 := Int.mul_le_mul v2 v4 (by omega) (by omega)
        have m2 : 0 ≤ p1 * p2 := Int.mul_nonneg (by omega) (by omega)
        obtain ⟨pr, hpp⟩ : ∃ pr, p1 * p2 = pr := ⟨_, rfl⟩
        rw [hpp] at m1 m2 hm'
        have HSS := Lib.hid (And.intro hm' hs')
        have hT2 := (HB4.out.keep hgr8).cell 2
        have hig : (0 : Int) ≤ (i : Int) := by omega
        have hiq' : (i : Int) < (q : Int) := by omega
        clear hm' hs' hf hi
        go_upto_region 18 with fail
        generalize hW9 : World.alloc w8 _ = w9
        obtain ⟨hga, d0, d1, d2⟩ := cell3 hW9
        replace b2 := hga.keep b2
        replace b3 := hga.keep b3
        have hgr9 := hgr8.trans hga
        generalize w8.heap.size = Z3 at d0 d1 d2 ⊢
        clear hW9 q0 q1 q2 hT2
        go_wp2_with fail
        go_roundw
        case rel => exact ⟨k + 1, by omega, by go_num, by rw [HSS.out.2], by rw [HSS.out.1], hgr9⟩
        case measure => simp [intOf]; omega
    · obtain rfl : k = nl := by omega
      have htk : l.take k = l := List.take_of_length_le (by have := HNL.out; omega)
      obtain ⟨xy, hxy⟩ : ∃ xy, (x : Int) * (y : Int) = xy := ⟨_, rfl⟩
      have hxyb : 0 ≤ xy ∧ xy ≤ 100 := by
        have m1 : x * y ≤ 10 * 10 := Nat.mul_le_mul (by omega) (by omega)
        have m2 : ((x * y : Nat) : Int) = (x : Int) * y := Int.natCast_mul _ _
        omega
      have hsu : sumBx (l.take k) = xy := by rw [htk, HBX.out.area, hxy]
      have hma : madeBx qs (l.take k) = sumA m := by rw [htk]; exact HMD.out
      rw [hsu] at hs1 ⊢
      rw [hma] at hm1 ⊢
      have t0 := (HB4.out.keep hgr).cell 0
      have t1 := (HB4.out.keep hgr).cell 1
      have t2 := (HB4.out.keep hgr).cell 2
      clear hsu hma htk hlt
      go_wp2_with fail
      refine (Best_one x y A1 q c1 qs _ HQN.out (by omega) (HQ4.out.keep hgr) HOK.out).mono ?_
      rintro e w9 ⟨P2, m2, g2, c2, g3, rfl, hM2, ⟨-, hP2⟩, hPc, -, -, hown, -, hg9⟩
      obtain rfl := HM.out.2.one hP2
      obtain rfl : m = m2 := by
        have a := HM.out.1.readT (by omega) (by omega) (by omega) (by omega)
        have b := hM2.readT (by omega) (by omega) (by omega) (by omega)
        rw [a] at b; injection b
      have HPP := Lib.hid (Rd_of_owns enc2_len rfl hown)
      have hshort := hM2.short (by omega) (by omega) (by omega) (by omega)
      have HRL : Hid (restL x y qs P = (xy - sumA m, 0)) := Lib.hid (by unfold restL; rw [if_pos HOK.out, hM2.readT (by omega) (by omega) (by omega) (by omega), ← hxy])
      obtain ⟨pn, hpn⟩ : ∃ pn, P.length = pn := ⟨_, rfl⟩
      rw [hpn] at hPc hshort ⊢
      have HPN := Lib.hid hpn
      have hgr9 := hgr.trans hg9
      clear hM2 hP2 hown hpn hg9 hgr t0 t1 t2
      have t0 := (HB4.out.keep hgr9).cell 0
      have t1 := (HB4.out.keep hgr9).cell 1
      have t2 := (HB4.out.keep hgr9).cell 2
      go_wp2_with fail
      refine (Rest_any x y A1 (some ⟨g2, 0, none⟩) q c1 pn c2 qs P _ HQN.out (by omega) HPN.out (by omega) (HQ4.out.keep hgr9) HPP.out).mono ?_
      rintro e w10 ⟨rfl, hg10⟩
      rw [HRL.out]
      have hgr10 := hgr9.trans hg10
      clear hg10 hgr9 t0 t1 t2
      have t0 := (HB4.out.keep hgr10).cell 0
      have t1 := (HB4.out.keep hgr10).cell 1
      have t2 := (HB4.out.keep hgr10).cell 2
      have HAP := Lib.hid (tapart_any (some ⟨g, 0, none⟩) k c l w10 HNL.out (by omega) (HR4.out.keep hgr10) (fun b hb => by have h := HIN.out b hb; unfold BxIn at h; unfold BxOk; omega) (HBX.out.apart (by omega) (by omega)))
      have hxy2 : 2 * (x : Int) * (y : Int) = 2 * xy := by rw [Int.mul_assoc, hxy]
      dsimp only
      generalize sumA m = sa at hm1 ⊢
      have hk2 : ((l.take k).length : Int) ≤ 4608 := by omega
      go_wp2_with fail
      refine HAP.out.mono ?_
      rintro e w11 ⟨rfl, hg11⟩
      have hgr11 := hgr10.trans hg11
      go_wp2_with fail
      refine (two_any _).mono ?_
      rintro e w12 ⟨rfl, hg12⟩
      go_wp2_with fail
      go_ret
      exact ⟨rfl, hg04.trans (hgr11.trans hg12)⟩

end Go.Proofs.Ythleajmamkihaaa
