/- The law TopHours as a walk. -/
import Derived.Test.YtobcdkjomehdkaaGreatBu46
import Derived.Test.YtobcdkjomehdkaaGreatBu26
import Derived.Test.YtobcdkjomehdkaaGreatBu44
import Derived.Maps.AppendAt
import Derived.Test.YtobcdkjomehdkaaGreatBu28
import Derived.OpenShut
namespace Go.Proofs.YtobcdkjomehdkaaGreat
open Go.RowKit
set_option linter.unusedSimpArgs false
set_option maxRecDepth 100000
set_option maxHeartbeats 80000000

theorem Tryz.infoTpH : (Tryz.prog.info? 50).map (fun i => (i.zero, i.size, i.bytes)) = some (some (.agg #[.int .i64 0, .int .i64 0, .int .i64 0]), 3, 24) := by kernel_rfl
theorem jbH_at (d : Nat) {ys : List Int} {j : Nat} (h : j < ys.length) : (jbH d ys).getD j (0, 0, 0) = (0, (d : Int), ys.getD j 0) := by
 unfold jbH
 rw [List.getD_eq_getElem?_getD, List.getElem?_map, List.getElem?_eq_getElem h, List.getD_eq_getElem?_getD, List.getElem?_eq_getElem h]
 rfl
theorem box3b {w W : World} {t : TypeId} {a b c : Value} (hW : w.alloc (.cells #[a, b, c] t) = W) : Gr w W ∧ Blk W w.heap.size t #[a, b, c] := by
 subst hW; exact ⟨(Gr.refl _).alloc _, heap_alloc_new w _⟩
theorem take_app1 {ys : List Int} {j : Nat} (h : j < ys.length) : ys.take (j + 1) = ys.take j ++ [ys.getD j 0] := by
 rw [List.take_add_one, List.getElem?_eq_getElem h, List.getD_eq_getElem?_getD, List.getElem?_eq_getElem h]
 rfl

theorem lawHours_any (x0 x1 : Int) (A : Option Addr) (n c : Nat) (ws : List Int) (OA : Option Addr) (on oc : Nat) (ol : List Int) (w : World) (hn : ws.length = n) (_hl : n ≤ 9223372036854775807) (hp : Ints w A ws) (hon : ol.length = on) (_hol : on ≤ 9223372036854775807) (hop : Ints w OA ol) :
 Calls Tryz.prog 4 #[.agg #[.int .i64 x0, .int .i64 x1], .slice A n c, .slice OA on oc] w fun e w' => e = .returned (.bool true) ∧ Gr w w' := by
 have HN := Lib.hid hn
 have HP := Lib.hid hp
 have HON := Lib.hid hon
 have HOP := Lib.hid hop
 have hm0 := modT_le (x := x0) (n := 8) (by omega) (by omega)
 have hm1 := modT_le (x := x1) (n := 30) (by omega) (by omega)
 have HM0 := Lib.hid (fun W => tmod_any x0 8 W (by omega) (by omega))
 have HM1 := Lib.hid (fun W => tmod_any x1 30 W (by omega) (by omega))
 generalize modT x0 8 = m0 at hm0 HM0
 generalize modT x1 30 = m1 at hm1 HM1
 obtain ⟨nb, hnb⟩ : ∃ nb : Nat, 1 + m0 = (nb : Int) := ⟨(1 + m0).toNat, by omega⟩
 obtain ⟨d, hd⟩ : ∃ d : Nat, 1 + m1 = (d : Int) := ⟨(1 + m1).toNat, by omega⟩
 have hwn : IntKind.i64.wrap (1 + m0) = (nb : Int) := by rw [← hnb]; exact IntWalk.i64_in _ (by omega)
 have hwd : IntKind.i64.wrap (1 + m1) = (d : Int) := by rw [← hd]; exact IntWalk.i64_in _ (by omega)
 have HNB : Hid (1 ≤ nb ∧ nb ≤ 8) := Lib.hid (by omega)
 have HDB : Hid (1 ≤ d ∧ d ≤ 30) := Lib.hid (by omega)
 clear hn hp hon hop hnb hd hm0 hm1
 go_enter Tryz.func4, Tryz.ntmps4
 go_upto_region 1 with fail
 generalize hW0 : World.alloc w _ = W0
 obtain ⟨hg0, k0, k1⟩ := box2q hW0
 generalize w.heap.size = D at k0 k1 ⊢
 have hgd : Gr W0 W0.drew := (Gr.refl W0).drew
 have q0 := hgd.keep k0
 have q1 := hgd.keep k1
 have HG0 := Lib.hid hg0
 clear hW0 hg0
 go_cut [7, 8] from 24 to 31 (fun v1 v2 wx => v1 = .int .i64 (nb : Int) ∧ v2 = .int .i64 (d : Int) ∧ Gr W0 wx)
 case first =>
  refine wp_region_held_drew (S := (fun W' => Gr W0 W' ∧ W'.cell? ⟨D, 0, none⟩ = some (.int .i64 x0) ∧ W'.cell? ⟨D, 1, none⟩ = some (.int .i64 x1))) ?_ ?_ (fun hHeld => ?_)
  ·kernel_rfl
  ·((try dsimp only); (first | exact hHeld | exact ⟨hgd, q0, q1⟩))
  refine ti 0 (some 24) rfl rfl ?_; try simp only [Act.put, lA, lB, lC]
  refine ti 1 (some 25) rfl rfl ?_; try simp only [Act.put, lA, lB, lC]
  refine ti 4 (some 28) rfl rfl ?_; try simp only [Act.put, lA, lB, lC]
  refine ti 5 (some 29) rfl rfl ?_; try simp only [Act.put, lA, lB, lC]
  refine tr [2] (.cons rfl (fun K hK => ?_) .nil)
  go_simp
  first | (go_at_call 9; (with_reducible refine (HM0.out _).mono ?_); rintro e w' ⟨rfl, rfl⟩) | (go_at_call 9; (with_reducible refine (HM1.out _).mono ?_); rintro e w' ⟨rfl, rfl⟩)
  refine hK.out _ _ ?_ (fun hHeld => ?_)
  ·((try dsimp only); (first | exact hHeld | exact ⟨hgd, q0, q1⟩))
  clear hK K; try simp only [Act.put, lA, lB, lC]
  refine ti 3 (some 27) rfl rfl ?_; try simp only [Act.put, lA, lB, lC]
  refine tr [6] (.cons rfl (fun K hK => ?_) .nil)
  go_simp
  first | (go_at_call 9; (with_reducible refine (HM0.out _).mono ?_); rintro e w' ⟨rfl, rfl⟩) | (go_at_call 9; (with_reducible refine (HM1.out _).mono ?_); rintro e w' ⟨rfl, rfl⟩)
  refine hK.out _ _ ?_ (fun hHeld => ?_)
  ·((try dsimp only); (first | exact hHeld | exact ⟨hgd, q0, q1⟩))
  clear hK K; try simp only [Act.put, lA, lB, lC]
  refine ti 7 (some 31) rfl rfl ?_; try simp only [Act.put, lA, lB, lC]
  refine ti 8 (some 7) rfl rfl ?_; try simp only [Act.put, lA, lB, lC]
  refine ti 9 (some 8) rfl rfl ?_; try simp only [Act.put, lA, lB, lC]
  refine wpAnyH_done ?_ ?_ _
  ·kernel_rfl
  rotate_left
  all_goals
   go_wp2_with fail
   go_meet
   exact ⟨rfl, rfl, by first | exact hHeld.1 | exact hgd⟩
 case rest =>
 obtain ⟨rfl, rfl, hg01⟩ := hcut
 rename World => W1
 have hgq := HG0.out.trans hg01
 have HG1 := Lib.hid hgq
 obtain ⟨i0, hi, hz0, hz1, hz2⟩ := info_parts Tryz.infoTpH
 have HI := Lib.hid (And.intro hi (And.intro hz0 (And.intro hz1 hz2)))
 have hd1 := HDB.out
 clear hgq hg01 hgd q0 q1 k0 k1 hwn hwd HM0 HM1 hi hz0 hz1 hz2 HG0
 go_wp2_with fail
 go_loopw [9, 10, 11] (fun u s z wr => ∃ (i : Nat) (A8 : Option Addr) (c8 : Nat) (ys : List Int), i ≤ n ∧ i ≤ 12 ∧ z = .int .i64 (i : Int) ∧ u = .slice A8 i c8 ∧ s = .int .i64 ys.sum ∧ Hid (ys.length = i ∧ ∀ y ∈ ys, 1 ≤ y ∧ y ≤ (d : Int)) ∧ Hid (wr.ownsRow W1.heap.size 50 3 (.slice A8 i c8) i (flatE enc3 (jbH d ys))) ∧ Hid (Gr W1 wr)) (fun _ _ z _ => n - (intOf z).toNat)
 case atStart => exact ⟨0, none, 0, [], Nat.zero_le _, by omega, rfl, rfl, rfl, Lib.hid ⟨rfl, fun y hy => by cases hy⟩, Lib.hid (World.ownsRow_nil _ _ _ _), Lib.hid (Gr.refl _)⟩
 case round =>
  obtain ⟨i, A8, c8, ys, hin, hi12, rfl, rfl, rfl, hys, hown, hgr⟩ := hrel
  by_cases hlt : i < n ∧ i < 12
  ·have hlt1 := hlt.1
   have hlt2 := hlt.2
   have hii : (i : Int) < (n : Int) := by omega
   have hii2 : (i : Int) < 12 := by omega
   have hi00 : (0 : Int) ≤ (i : Int) := by omega
   obtain ⟨b, off, rfl, hcell⟩ := Ints_at (HP.out.keep (HG1.out.trans hgr.out)) (i := i) (by rw [HN.out]; exact hlt1)
   generalize ws.getD i 0 = x at hcell
   have HMX := Lib.hid (fun W => tmod_any x (d : Int) W (by omega) (by omega))
   have hx := modT_le (x := x) (n := (d : Int)) (by omega) (by omega)
   generalize modT x (d : Int) = mx at HMX hx
   obtain ⟨y, hy⟩ : ∃ y, 1 + mx = y := ⟨_, rfl⟩
   have hwy : IntKind.i64.wrap (1 + mx) = y := by rw [← hy]; exact IntWalk.i64_in _ (by omega)
   have HYR : Hid (1 ≤ y ∧ y ≤ (d : Int)) := Lib.hid (by omega)
   have hsr := sum_up hys.out.2
   have hld : (ys.length : Int) * d ≤ 12 * 30 := Int.mul_le_mul (by rw [hys.out.1]; omega) (by omega) (by omega) (by omega)
   have hws : IntKind.i64.wrap (ys.sum + y) = ys.sum + y := IntWalk.i64_in _ (by omega)
   have HYS : Hid ((ys ++ [y]).length = i + 1 ∧ ∀ z ∈ ys ++ [y], 1 ≤ z ∧ z ≤ (d : Int)) := Lib.hid ⟨by rw [List.length_append, hys.out.1]; rfl, fun z hz => by
    rcases List.mem_append.1 hz with h1 | h1
    ·exact hys.out.2 z h1
    ·rw [List.mem_singleton.1 h1]; exact HYR.out⟩
   have HSM : Hid ((ys ++ [y]).sum = ys.sum + y) := Lib.hid (by rw [List.sum_append]; simp)
   generalize ys.sum = sm at hws HSM ⊢
   clear hy hx hsr hld hlt
   go_wp2_with fail
   refine (HMX.out _).mono ?_
   rintro e w2 ⟨rfl, rfl⟩
   go_upto_region 8 with fail
   (try rw [hwy])
   generalize hWA : World.alloc w2 _ = wA
   obtain ⟨hgA, hBA⟩ := box3b hWA
   obtain ⟨Z, hZ⟩ : ∃ Z, w2.heap.size = Z := ⟨_, rfl⟩
   rw [hZ] at hBA ⊢
   have hb0 := hBA.cell 0
   have hb1 := hBA.cell 1
   have hb2 := hBA.cell 2
   have HBA := Lib.hid hBA
   have HRW := Lib.hid (owns_gr hown.out hgA)
   have HZR : Hid (∀ t, (Value.slice A8 i c8).ownBlock = some t → t ≠ Z) := Lib.hid (fun t ht e => by
    have := (hown.out.lt t ht).2
    omega)
   have HGA := Lib.hid (hgr.out.trans hgA)
   obtain ⟨hi, hz0, hz1, hz2⟩ := HI.out
   have HBS : Hid (W1.heap.size ≤ wA.heap.size) := Lib.hid HGA.out.size
   clear hBA hgA hZ hwy hcell hWA
   go_wp2_with (at_builtin; refine wpList_append_own_at _ rfl _ _ 48 rfl W1.heap.size 50 i0 _ 3 24 Tryz.underlying48 hi hz0 hz1 hz2 rfl (by decide) _ _ _ rfl (HRW.out.alloc _) ⟨wA.heap.size, 0, none⟩ 1 1 [.int .i64 0, .int .i64 (d : Int), .int .i64 y] rfl rfl ?q1 ?q2 ?q3 ?q4 ?q5 ?_)
   case q1 => intro j u hu; rw [Addr.add_lit]; exact alloc_new rfl (by rw [Nat.zero_add]; simpa using hu)
   case q2 => exact fun u hu => enc3_one (0, (d : Int), y) u hu
   case q3 => unfold maxLen; omega
   case q4 => omega
   case q5 => have := HBS.out; simp; omega
   intro v' w10 hown' hgrow hnv hfr
   have hgA2 : Gr wA (wA.alloc (.cells #[.int .i64 0, .int .i64 (d : Int), .int .i64 y] 50)) := (Gr.refl _).alloc _
   have hown'' : w10.ownsRow W1.heap.size 50 3 v' (i + 1) (flatE enc3 (jbH d (ys ++ [y]))) := by
    rw [jbH_app, flatE_app]
    simpa [flatE, enc3] using hown'
   have hlen2 : (jbH d (ys ++ [y])).length = i + 1 := by rw [jbH_len]; exact HYS.out.1
   obtain ⟨A9, c9, rfl, -, -, -⟩ := own_row enc3_len hlen2 hown''
   have HO9 := Lib.hid hown''
   have HG9 : Hid (Gr W1 w10) := Lib.hid (Below.grown (HGA.out.trans hgA2) hgrow (HGA.out.trans hgA2).size (fun t ht => ((HRW.out.alloc (.cells #[.int .i64 0, .int .i64 (d : Int), .int .i64 y] 50)).lt t ht).1))
   have hBZ : Blk w10 Z 50 #[.int .i64 0, .int .i64 (d : Int), .int .i64 y] := (HBA.out.keep hgA2).grown hgrow (fun e => HZR.out Z e.symm rfl)
   have hc2 := hBZ.cell 2
   clear hown' hown'' hgrow hnv hfr hgA2 hlen2 hBZ hi hz0 hz1 hz2 hb0 hb1 hb2
   go_wp2_with fail
   go_roundw
   case rel => exact ⟨i + 1, A9, c9, ys ++ [y], by omega, by omega, by go_num, rfl, by rw [HSM.out], HYS, HO9, HG9⟩
   case measure => simp [intOf]; omega
  ·have hex : (i < n ∧ ¬ i < 12) ∨ i = n := by omega
   have HOK : Hid (HrsOk nb d ys) := Lib.hid ⟨HNB.out, HDB.out, by rw [hys.out.1]; exact hi12, hys.out.2⟩
   obtain ⟨nd, hnd⟩ : ∃ nd : Int, (nb : Int) * (d : Int) = nd := ⟨_, rfl⟩
   have hnd2 : 0 ≤ nd ∧ nd ≤ 240 := by
    have h1 := HNB.out
    have h2 := HDB.out
    have h3 : (nb : Int) * d ≤ 8 * 30 := Int.mul_le_mul (by omega) (by omega) (by omega) (by omega)
    have h4 : 0 ≤ (nb : Int) * d := Int.mul_nonneg (by omega) (by omega)
    omega
   have hmul : IntKind.i64.wrap ((nb : Int) * (d : Int)) = nd := by rw [hnd]; exact IntWalk.i64_in _ (by omega)
   have HND := Lib.hid hnd
   have HSR := Lib.hid (sum_up hys.out.2)
   have HGW := Lib.hid (HG1.out.trans hgr.out)
   have hlen : (jbH d ys).length = i := by rw [jbH_len]; exact hys.out.1
   have HL0 : Hid (Tris wr A8 (jbH d ys)) := Lib.hid (Rd_of_rows enc3_len hlen hown.out)
   have HLJ := Lib.hid hlen
   have HYL := Lib.hid hys.out.1
   rcases hex with ⟨hi1, hi2⟩ | hi1
   all_goals
    first
    | (have hii : (i : Int) < (n : Int) := by omega
       have hi12' : ¬ (i : Int) < 12 := by omega)
    | (have hii : ¬ (i : Int) < (n : Int) := by omega)
    clear hlt hi1 hown hlen hgr hys hd1
    go_wp2_with fail
    (try rw [hmul])
    generalize hWB : World.alloc wr _ = wB
    have hgB : Gr wr wB := by rw [← hWB]; exact (Gr.refl _).alloc _
    have hBB : Ints wB (some ⟨wr.heap.size, 0, none⟩) [nd, 0] := by
     rw [← hWB]
     exact Rd_lit (enc := enc1) (fun _ => rfl) (Blk.new wr #[.int .i64 nd, .int .i64 0] 3 rfl) rfl
    generalize wr.heap.size = DB at hBB ⊢
    have HBB := Lib.hid hBB
    have HGB := Lib.hid hgB
    clear hWB hBB hgB hmul hnd
    refine (New_any (some ⟨DB, 0, none⟩) 2 2 [nd, 0] wB rfl (by omega) HBB.out).mono ?_
    rintro e w4 (⟨hno, -⟩ | ⟨-, N, rfl, hnet, hnl, hml, hbg, hg4⟩)
    ·have h1 := (okStocks_iff [nd, 0]).2 ⟨by simp, by simp, fun x hx => by
      simp only [List.mem_cons, List.not_mem_nil, or_false] at hx
      rcases hx with rfl | rfl <;> omega⟩
     rw [h1] at hno; cases hno
    have hst : okStocks [nd, 0] = true := (okStocks_iff [nd, 0]).2 ⟨by simp, by simp, fun x hx => by
     simp only [List.mem_cons, List.not_mem_nil, or_false] at hx
     rcases hx with rfl | rfl <;> omega⟩
    have hnz := newN_of hnl hml hbg
    obtain ⟨B, hB⟩ : ∃ B, wB.heap.size = B := ⟨_, rfl⟩
    obtain ⟨p, hpp⟩ : ∃ p, N.p = p := ⟨_, rfl⟩
    rw [hB] at hnet
    rw [hpp]
    have HSF0 : Hid (Sf (nzN N) [nd, 0] (mvH (ys.take 0))) := Lib.hid (by rw [hnz]; exact sf_new hst)
    have HBW : Hid (∀ X, Gr wB X → Gr w X) := Lib.hid (fun X hX => HGW.out.trans (HGB.out.trans hX))
    have HL4 := Lib.hid (HL0.out.keep (HGB.out.trans hg4))
    have HPL := Lib.hid (planB_any (nb : Int) A8 i c8 (jbH d ys) w4 HLJ.out (by omega) HL4.out)
    have HG4 := Lib.hid hg4
    have HN4 := Lib.hid hnet
    have HPP := Lib.hid hpp
    have HBS := Lib.hid hB
    clear hnet hnl hml hbg hg4 hnz hB hpp hst
    go_wp2_with fail
    refine HPL.out.mono ?_
    intro e w5 hp5
    obtain ⟨pb, A2, ns, c2, v2, v3, rfl, ⟨n2, n3, c5, c6, A5, A6, rfl, rfl⟩, hpb, hg5⟩ := hours_plan HOK.out hp5
    have HPB := Lib.hid hpb
    clear hp5 hpb HPL
    go_upto_region 12 with fail
    generalize hW6 : World.alloc w5 _ = w6
    have hg6 : Gr w5 w6 := by rw [← hW6]; exact (Gr.refl _).alloc _
    have hZ : w6.cell? ⟨w5.heap.size, 0, none⟩ = some (.bool pb) := by rw [← hW6]; exact alloc_new rfl rfl
    have hZn : w5.heap.size ∉ ownB N := fun hm => by
     have h1 := (HN4.out.own _ hm).2
     have h2 := hg5.size
     omega
    generalize w5.heap.size = Z at hZ hZn ⊢
    have hg46 := hg5.trans hg6
    have HNT := Lib.hid (HN4.out.keep hg46)
    have HUP : Hid (∀ X, Ch (ownB N) w6 X → Gr wB X) := Lib.hid (fun X hX => hX.up (HG4.out.trans hg46) (fun x hx => by have := (HN4.out.own x hx).1; have := HBS.out; omega))
    have HJR : Hid (∀ X, Ch (ownB N) w6 X → Tris X A8 (jbH d ys)) := Lib.hid (fun X hX => HL0.out.keep (HGB.out.trans (HUP.out X hX)))
    have HLB : Hid (∀ g o v, wB.cell? ⟨g, o, none⟩ = some v → g < B) := Lib.hid (fun g o v h => by have := cell_lt2 h; have := HBS.out; omega)
    have HLW : Hid (Tris wB A8 (jbH d ys)) := Lib.hid (HL0.out.keep HGB.out)
    have HOI : Hid (∀ X, Ch (ownB N) w6 X → Ints X OA ol) := Lib.hid (fun X hX => HOP.out.keep (HBW.out X (HUP.out X hX)))
    have HZC : Hid (∀ X, Ch (ownB N) w6 X → X.cell? ⟨Z, 0, none⟩ = some (.bool pb)) := Lib.hid (fun X hX => cell_ch2 hX hZ hZn)
    have HGX : Hid (∀ X, Ch (ownB N) w6 X → Gr w X) := Lib.hid (fun X hX => HBW.out X (HUP.out X hX))
    have HN6 := Lib.hid (NetTo.refl HNT.out (Gr.refl w6))
    clear hW6 hZ hZn hg5 hg6 hg46 HL4 HN4 HNT HG4 HL0 HUP HBW HBB
    go_wp2_with fail
    go_loopw [17] (fun z wr => ∃ (j : Nat) (M : Nx), j ≤ i ∧ z = .int .i64 (j : Int) ∧ Hid (NetTo B w6 N M wr) ∧ Hid (Sf (nzN M) [nd, 0] (mvH (ys.take j)))) (fun z _ => i - (intOf z).toNat)
    case atStart => exact ⟨0, N, Nat.zero_le _, rfl, HN6, HSF0⟩
    case round =>
     obtain ⟨j, M, hj, rfl, hto, hsf⟩ := hrel
     clear HSF0 HN6
     have hMp : M.p = p := hto.out.p.trans HPP.out
     have hM2 : M.sites.length = 2 := by
      have h1 := hsf.out.cm.stk.1
      rw [nz_len] at h1
      simpa using h1.symm
     have HML := Lib.hid hM2
     have HMP := Lib.hid hMp
     clear hM2 hMp
     by_cases hji : j < i
     ·have hjI : (j : Int) < (i : Int) := by omega
      have hj00 : (0 : Int) ≤ (j : Int) := by omega
      obtain ⟨gq, oq, e0, -, -, t2⟩ := Tris_at (HJR.out wr hto.out.ch) (i := j) (by rw [HLJ.out]; exact hji)
      subst e0
      obtain ⟨gq', oq', e1, -, -, t2'⟩ := Tris_at HLW.out (i := j) (by rw [HLJ.out]; exact hji)
      injection e1 with e1
      injection e1 with e1 e2
      subst e1 e2
      have hgB := HLB.out _ _ _ t2'
      have hgM : gq ∉ ownB M := fun hm => by have := (hto.out.net.own _ hm).1; omega
      rw [jbH_at d (by rw [HYL.out]; exact hji)] at t2
      dsimp only at t2
      have HYJ : Hid (1 ≤ ys.getD j 0 ∧ ys.getD j 0 ≤ (d : Int)) := Lib.hid (HOK.out.y1 _ (by
       rw [List.getD_eq_getElem?_getD, List.getElem?_eq_getElem (by rw [HYL.out]; exact hji)]
       exact List.getElem_mem _))
      have HTK := Lib.hid (take_app1 (ys := ys) (j := j) (by rw [HYL.out]; exact hji))
      have HTL : Hid ((mvH (ys.take j)).length = j) := Lib.hid (by unfold mvH; rw [List.length_map, List.length_take, HYL.out]; omega)
      generalize ys.getD j 0 = y at t2 HYJ HTK
      have hyj := HYJ.out
      have hdb := HDB.out
      have hneg : IntKind.i64.wrap (-y) = -y := IntWalk.i64_in _ (by omega)
      have hgd : Gr wr wr.drew := (Gr.refl wr).drew
      have t2d := hgd.keep t2
      have HBG : Hid (Calls Tryz.prog 10 #[.pointer (some ⟨p, 0, none⟩), .int .i64 1, .slice (some ⟨wr.heap.size, 0, none⟩) 2 2] (wr.alloc (.cells #[.int .i64 0, .int .i64 (-y), .int .i64 1, .int .i64 y] 42)).drew fun e w' => e = .returned (.tuple #[.int .i64 ((j : Int) + 1), .int .i64 0]) ∧ ∃ N1, NetTo B wr M N1 w' ∧ Sf (nzN N1) [nd, 0] (mvH (ys.take (j + 1)))) := Lib.hid (by
       have h1 := begin_two (q := 1) (s := 1) (x := y) hto.out.net hsf.out (by rw [HTL.out]; omega) (by rw [HML.out]; omega) (by omega) (by rw [HML.out]; omega) (by omega) (by omega) (Gr.refl _).drew
       rw [HMP.out, HTL.out] at h1
       rw [HTK.out, mvH_app]
       exact h1)
      clear t2' hgB hyj hdb
      go_upto_region 17 with fail
      refine wp_region_held_drew (S := (fun W' => W'.cell? ⟨gq, oq + j * 3 + 2, none⟩ = some (.int .i64 y))) ?_ ?_ (fun hHeld => ?_)
      ·kernel_rfl
      ·((try dsimp only); (first | exact t2d | exact hHeld | exact HZ.out | exact (((Gr.refl _).alloc _).drew).keep t2 | exact ((Gr.refl _).alloc _).keep t2))
      refine ti 0 (some 90) rfl rfl ?_; try simp only [Act.put, lA, lB, lC]
      refine ti 1 (some 91) rfl rfl ?_; try simp only [Act.put, lA, lB, lC]
      refine ti 2 (some 92) rfl rfl ?_; try simp only [Act.put, lA, lB, lC]
      refine ti 3 (some 93) rfl rfl ?_; try simp only [Act.put, lA, lB, lC]
      refine ti 4 (some 94) rfl rfl ?_; try simp only [Act.put, lA, lB, lC]
      refine ti 5 (some 95) rfl rfl ?_; try simp only [Act.put, lA, lB, lC]
      refine ti 6 (some 96) rfl rfl ?_; try simp only [Act.put, lA, lB, lC]
      refine ti 7 (some 97) rfl rfl ?_; try simp only [Act.put, lA, lB, lC]
      refine ti 8 (some 98) rfl rfl ?_; try simp only [Act.put, lA, lB, lC]
      refine ti 9 (some 99) rfl rfl ?_; try simp only [Act.put, lA, lB, lC]
      refine ti 10 (some 100) rfl rfl ?_; try simp only [Act.put, lA, lB, lC]
      refine ti 11 (some 101) rfl rfl ?_; try simp only [Act.put, lA, lB, lC]
      refine ti 12 (some 102) rfl rfl ?_; try simp only [Act.put, lA, lB, lC]
      refine ti 13 (some 103) rfl rfl ?_; try simp only [Act.put, lA, lB, lC]
      refine tr [14] (.cons rfl (fun K hK => ?_) .nil)
      go_simp
      refine hK.out _ _ ?_ (fun hHeld => ?_)
      ·((try dsimp only); (first | exact t2d | exact hHeld | exact HZ.out | exact (((Gr.refl _).alloc _).drew).keep t2 | exact ((Gr.refl _).alloc _).keep t2))
      clear hK K; try simp only [Act.put, lA, lB, lC]
      refine tr [15] (.cons rfl (fun K hK => ?_) .nil)
      go_simp
      first | (go_at_call 10; (with_reducible refine HBG.out.mono ?_); rintro e w7 ⟨rfl, N1, hto1, hsf1⟩; have HTO := Lib.hid hto1; have HSF1 := Lib.hid hsf1; have HZ := Lib.hid (cell_ch2 hto1.ch t2 hgM); clear hto1 hsf1)
      refine hK.out _ _ ?_ (fun hHeld => ?_)
      ·((try dsimp only); (first | exact t2d | exact hHeld | exact HZ.out | exact (((Gr.refl _).alloc _).drew).keep t2 | exact ((Gr.refl _).alloc _).keep t2))
      clear hK K; try simp only [Act.put, lA, lB, lC]
      refine ti 16 (some 89) rfl rfl ?_; try simp only [Act.put, lA, lB, lC]
      refine ti 17 (some 106) rfl rfl ?_; try simp only [Act.put, lA, lB, lC]
      refine ti 18 (some 107) rfl rfl ?_; try simp only [Act.put, lA, lB, lC]
      refine ti 19 (some 18) rfl rfl ?_; try simp only [Act.put, lA, lB, lC]
      refine ti 20 (some 19) rfl rfl ?_; try simp only [Act.put, lA, lB, lC]
      refine wpAnyH_done ?_ ?_ _
      ·kernel_rfl
      rotate_left
      all_goals
       have HT2 := Lib.hid (hto.out.trans HTO.out)
       clear hHeld t2d t2 hneg
       go_wp2_with fail
       go_roundw
       case rel => exact ⟨j + 1, N1, by omega, by go_num, HT2, HSF1⟩
       case measure => simp [intOf]; omega
     ·obtain rfl : j = i := by omega
      have htk : ys.take j = ys := List.take_of_length_le (by rw [HYL.out]; exact Nat.le_refl _)
      rw [htk] at hsf
      have HVL : Hid ((mvH ys).length = j) := Lib.hid (by unfold mvH; rw [List.length_map, HYL.out])
      have HFL : Hid (Fl M [nd, 0] (mvH ys) (ys.sum ≤ (nb : Int) * d) 0) := Lib.hid (hsf.out.fl (by rw [HVL.out]; omega) (fun hF => by rw [← HND.out]; exact HOK.out.fits hF))
      have HST := Lib.hid (still_any OA on oc ol [nd, 0] (mvH ys) wr hto.out.net HFL.out HON.out (fun X hX => HOI.out X (hto.out.ch.trans hX hto.out.own)))
      rw [HMP.out] at HST
      clear htk hsf HFL
      go_wp2_with fail
      refine HST.out.mono ?_
      rintro e w7 ⟨rfl, M2, hto2, hm2, hsl⟩
      have HT2 := Lib.hid (hto.out.trans hto2)
      have HM2 := Lib.hid hm2
      have HSL := Lib.hid hsl
      have hMp2 : M2.p = p := HT2.out.p.trans HPP.out
      have HSE : Hid (Calls Tryz.prog 12 #[.pointer (some ⟨p, 0, none⟩)] w7 fun e w' => e = .returned (.bool true) ∧ w' = w7) := Lib.hid (by
       have h1 := Settled_any HT2.out.net (by have := hsl.ok.lo; rw [nz_len] at this; exact this)
       rw [hMp2, ← settledN_nz, hsl.cm.isSettled hm2] at h1
       exact h1)
      have HML2 : Hid (M2.sites.length = 2) := Lib.hid (by
       have h1 := hsl.stk.1
       rw [nz_len] at h1
       simpa using h1.symm)
      have HMP2 := Lib.hid hMp2
      clear hm2 hsl hto2 hto HST hMp2 HML HMP
      go_wp2_with fail
      refine HSE.out.mono ?_
      rintro e w8 ⟨rfl, rfl⟩
      clear HSE
      go_wp2_with fail
      go_loopw [20, 21] (fun y z wr => ∃ (r : Nat), r ≤ j ∧ z = .int .i64 (r : Int) ∧ y = .int .i64 ((bkN (nzN M2) r : Nat) : Int) ∧ Hid (NetTo B w6 N M2 wr)) (fun _ z _ => j - (intOf z).toNat)
      case atStart => exact ⟨0, Nat.zero_le _, rfl, rfl, HT2⟩
      case round =>
       obtain ⟨r, hr, rfl, rfl, hto⟩ := hrel
       clear HT2
       by_cases hrj : r < j
       ·have hrI : (r : Int) < (j : Int) := by omega
        have HOU := Lib.hid (Outcome_any hto.out.net 0 ((r : Int) + 1) (by unfold I64; omega))
        have hok : (outN M2 0 ((r : Int) + 1) == 2) = (atN (nzN M2) ((r : Int) + 1) 0).kp := by
         rw [out_at ⟨by omega, by rw [HML2.out]; omega⟩]
         exact HSL.out.cm.out2 HM2.out _ _
        rw [HMP2.out] at HOU
        have HBK := Lib.hid (bkN_succ (nzN M2) r)
        have hble := bkN_le (nzN M2) r
        generalize outN M2 0 ((r : Int) + 1) = o at HOU hok
        generalize (atN (nzN M2) ((r : Int) + 1) 0).kp = kb at hok HBK
        go_wp2_with fail
        refine HOU.out.mono ?_
        rintro e w9 ⟨rfl, hg9⟩
        have HT9 := Lib.hid (hto.out.post hg9)
        clear hg9 HOU
        cases kb with
        | true =>
          have HB2 : Hid (bkN (nzN M2) (r + 1) = bkN (nzN M2) r + 1) := Lib.hid HBK.out
          go_wp2_with fail
          go_roundw
          case rel => exact ⟨r + 1, by omega, by go_num, by rw [HB2.out]; go_num, HT9⟩
          case measure => simp [intOf]; omega
        | false =>
          have HB2 : Hid (bkN (nzN M2) (r + 1) = bkN (nzN M2) r) := Lib.hid HBK.out
          go_wp2_with fail
          go_roundw
          case rel => exact ⟨r + 1, by omega, by go_num, by rw [HB2.out], HT9⟩
          case measure => simp [intOf]; omega
       ·obtain rfl : r = j := by omega
        have HEN : Hid ((bkN (nzN M2) r = r ↔ ys.sum ≤ nd) ∧ refS M2 1 = 0 ∧ stockN M2 1 ≤ nd ∧ 0 ≤ stockN M2 1 ∧ (ys.sum ≤ nd → stockN M2 1 = ys.sum)) := Lib.hid (by
         have h1 := HSL.out
         rw [← HND.out] at h1 ⊢
         have h2 := hours_end HOK.out HML2.out h1 HM2.out
         rw [HYL.out] at h2
         exact h2)
        have HS1 := Lib.hid (Stock_any hto.out.net 1)
        rw [HMP2.out, HEN.out.2.1] at HS1
        have hz := HZC.out wr hto.out.ch
        have HPD : Hid (pb = true ↔ ys.sum ≤ nd) := Lib.hid (by rw [← HND.out]; exact HPB.out)
        have HGF := Lib.hid (HGX.out wr hto.out.ch)
        have hble := bkN_le (nzN M2) r
        have hs1 := HEN.out.2.2.1
        have hs0 := HEN.out.2.2.2.1
        have HE1 := Lib.hid HEN.out.1
        have HE2 := Lib.hid HEN.out.2.2.2.2
        have hsr := HSR.out
        have hmul : IntKind.i64.wrap ((nb : Int) * (d : Int)) = nd := by rw [HND.out]; exact IntWalk.i64_in _ (by omega)
        have hmul2 : wrap64 ((nb : Int) * (d : Int)) = nd := by rw [HND.out]; exact IntWalk.wrap64_in _ (by omega)
        generalize stockN M2 1 = s1 at HS1 hs1 hs0 HE2
        generalize ys.sum = sm at HE1 HE2 HPD hsr ⊢
        generalize bkN (nzN M2) r = bq at HE1 hble ⊢
        clear HEN HSL
        by_cases hF : sm ≤ nd
        ·obtain rfl : bq = r := HE1.out.2 hF
         obtain rfl : pb = true := HPD.out.2 hF
         obtain rfl : s1 = sm := HE2.out hF
         have hbb : ((bq : Int) == (bq : Int)) = true := by simp
         have hss : (s1 == s1) = true := by simp
         clear hsr
         go_wp2_with fail
         refine HS1.out.mono ?_
         rintro e w9 ⟨rfl, rfl⟩
         go_wp2_with fail
         refine (five_any _).mono ?_
         rintro e w10 ⟨rfl, hg10⟩
         have HFF := Lib.hid (HGF.out.trans hg10)
         clear hg10
         go_wp2_with fail
         go_ret
         exact ⟨rfl, HFF.out⟩
        ·have hbn : bq ≠ r := fun e => hF (HE1.out.1 e)
         have HNF : Hid ((!decide (sm ≤ nd)) = true) := Lib.hid (by rw [decide_eq_false hF]; rfl)
         obtain rfl : pb = false := by
          cases pb with
          | false => rfl
          | true => exact absurd (HPD.out.1 rfl) hF
         have hbr : (bq : Int) < (r : Int) := by omega
         have hbb : ((bq : Int) == (r : Int)) = false := by simp; omega
         clear hsr
         go_wp2_with fail
         refine HS1.out.mono ?_
         rintro e w9 ⟨rfl, rfl⟩
         go_wp2_with fail
         refine (five_any _).mono ?_
         rintro e w10 ⟨rfl, hg10⟩
         have HFF := Lib.hid (HGF.out.trans hg10)
         clear hg10
         go_wp2_with fail
         go_ret
         exact ⟨by first | exact ret_bool HNF.out | rfl, HFF.out⟩

end Go.Proofs.YtobcdkjomehdkaaGreat

namespace Go.Proofs.YtobcdkjomehdkaaGreat
open Go.RowKit Go.Deep Go.Joins Go.ChangeShapes Go.WideShapes Go.ChangeAt
set_option linter.unusedSimpArgs false
set_option maxRecDepth 100000
set_option maxHeartbeats 80000000

theorem two_cells : Tryz.prog.cellsOf 47 = 2 := by kernel_rfl
theorem int_cells : Tryz.prog.cellsOf 3 = 1 := by kernel_rfl
theorem open_two {H : Type} {enc : TypeId × Value → H} {w : World} {base : Nat} {hd : Bool} {r : Reach} {b0 : Nat} {v : Value} {d : DataW H} {p : List MemPlace}
 (hv : Value.okWide Tryz.prog w r b0 47 v) (h : DataW.Trod enc Tryz.prog w base (fun _ => true) hd 47 v d p) :
 ∃ x y : Int, v = .agg #[.int .i64 x, .int .i64 y] := by
 unfold Value.okWide at hv
 rw [Tryz.underlying47] at hv
 obtain ⟨cs, rfl, hsz, -⟩ := hv
 rw [two_cells] at hsz
 obtain ⟨c0, c1, rfl⟩ := array2 hsz
 obtain ⟨fuel, hf⟩ := h
 obtain ⟨xs, m, -, -, -, hl, hi⟩ := DataW.trod_array Tryz.underlying47 hf
 have h0 := hi 0 (by omega)
 have h1 := hi 1 (by omega)
 rw [int_cells, List.getElem?_eq_getElem (by omega)] at h0 h1
 obtain ⟨x, rfl⟩ := trod_int Tryz.underlying3 (v := c0) (by simpa [Value.cells] using h0)
 obtain ⟨y, rfl⟩ := trod_int Tryz.underlying3 (v := c1) (by simpa [Value.cells] using h1)
 exact ⟨x, y, rfl⟩

end Go.Proofs.YtobcdkjomehdkaaGreat
