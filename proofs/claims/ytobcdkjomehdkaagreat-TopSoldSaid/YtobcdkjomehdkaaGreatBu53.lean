/- TopLaid: the best plan, read as parts. -/
import Derived.Test.YtobcdkjomehdkaaGreatBu49
import Derived.Test.YtobcdkjomehdkaaGreatBu28
import Derived.Test.YtobcdkjomehdkaaGreatBu52
import Derived.Test.YtobcdkjomehdkaaGreatBu48
import Derived.Test.YtobcdkjomehdkaaGreatBu26
import Derived.Test.YtobcdkjomehdkaaGreatBu44
namespace Go.Proofs.YtobcdkjomehdkaaGreat
open Go.RowKit
set_option linter.unusedSimpArgs false
set_option maxRecDepth 100000
set_option maxHeartbeats 80000000

theorem Makes.readT {bs : List Bl} {W H : Nat} {P : List St} {m : List Bl} (h : Makes bs W H P m) (h1 : 1 ≤ W) (h2 : W ≤ 48) (h3 : 1 ≤ H) (h4 : H ≤ 48) : readL bs W H P = some m := by
 have hl := h.len h1 h3
 have hm : W * H ≤ 48 * 48 := Nat.mul_le_mul h2 h4
 have hr := h.rd []
 rw [List.append_nil] at hr
 unfold readL
 rw [if_pos (by omega), hr]
 rfl
theorem Makes.short {bs : List Bl} {W H : Nat} {P : List St} {m : List Bl} (h : Makes bs W H P m) (h1 : 1 ≤ W) (h2 : W ≤ 48) (h3 : 1 ≤ H) (h4 : H ≤ 48) : P.length ≤ 4608 := by
 have hl := h.len h1 h3
 have hm : W * H ≤ 48 * 48 := Nat.mul_le_mul h2 h4
 omega

def PlannedPost (bs : List Bl) (W H : Nat) (w : World) (e : Ending) (w' : World) : Prop :=
 ∃ P m l g c v, (Makes bs W H P m ∧ PlanOf bs W H P ∧ v = sumV m) ∧ Boxes bs 0 0 W H P l ∧ madeBx bs l = sumA m ∧ e = .returned (.tuple #[.slice (some ⟨g, 0, none⟩) l.length c, .int .i64 v, .bool true]) ∧ Rd 5 enc5 w' (some ⟨g, 0, none⟩) l ∧ Gr w w'

theorem planned_any (W H : Nat) (BA : Option Addr) (bn bc : Nat) (bs : List Bl) (w : World) (hbn : bs.length = bn) (hbl : bn ≤ 281474976710656) (hB : Tris w BA bs) (ht : taskB W H bs = true) :
 Calls Tryz.prog 6 #[.agg #[.int .i64 (W : Int), .int .i64 (H : Int), .slice BA bn bc]] w (PlannedPost bs W H w) := by
 obtain ⟨⟨hW1, hW2⟩, ⟨hH1, hH2⟩, -, -⟩ := (taskB_iff _ _ _).1 ht
 have HB := Lib.hid hB
 have HT := Lib.hid ht
 have HBN := Lib.hid hbn
 have hW1' : 1 ≤ W := by omega
 have hW2' : W ≤ 48 := by omega
 have hH1' : 1 ≤ H := by omega
 have hH2' : H ≤ 48 := by omega
 clear hB ht hbn hW1 hW2 hH1 hH2
 go_enter Tryz.func6, Tryz.ntmps6
 go_upto_region 1 with fail
 generalize hW1x : World.alloc w _ = W1
 have hg1 : Gr w W1 := by rw [← hW1x]; exact (Gr.refl w).alloc _
 have hB1 : Blk W1 w.heap.size 24 #[.int .i64 (W : Int), .int .i64 (H : Int), .slice BA bn bc] := by rw [← hW1x]; exact heap_alloc_new w _
 generalize w.heap.size = U at hB1 ⊢
 have HU := Lib.hid hB1
 clear hW1x hB1
 have u0 := HU.out.cell 0
 have u1 := HU.out.cell 1
 have u2 := HU.out.cell 2
 go_wp2_with fail
 refine (Best_one W H BA bn bc bs _ HBN.out hbl (HB.out.keep hg1) HT.out).mono ?_
 rintro e W2 ⟨P, m, g, c, g2, rfl, hM, ⟨-, hD⟩, hPc, -, -, hown, -, hg2⟩
 have HD := Lib.hid hD
 have HM := Lib.hid hM
 have HP := Lib.hid (Rd_of_owns enc2_len rfl hown)
 have hshort := hM.short hW1' hW2' hH1' hH2'
 obtain ⟨n, hn⟩ : ∃ n, P.length = n := ⟨_, rfl⟩
 rw [hn] at hPc hshort ⊢
 have HN := Lib.hid hn
 have HWL : Hid (worthL W H bs P = (sumV m, 0)) := Lib.hid (by unfold worthL; rw [if_pos HT.out, hM.readT hW1' hW2' hH1' hH2'])
 obtain ⟨l, hl1, hl2⟩ := hM.boxes 0 0
 have HBX := Lib.hid hl1
 have HMB := Lib.hid hl2
 have hg12 := hg1.trans hg2
 clear hM hD hown hn hl1 hl2 u0 u1 u2
 have u0 := (HU.out.keep hg2).cell 0
 have u1 := (HU.out.keep hg2).cell 1
 have u2 := (HU.out.keep hg2).cell 2
 go_wp2_with fail
 refine (Worth_any W H BA (some ⟨g, 0, none⟩) bn bc n c bs P _ HBN.out hbl HN.out (by omega) (HB.out.keep hg12) HP.out).mono ?_
 rintro e W3 ⟨rfl, hg3⟩
 rw [HWL.out]
 clear u0 u1 u2
 have HU3 := Lib.hid (HU.out.keep (hg2.trans hg3))
 have hg13 := hg12.trans hg3
 have HP3 := Lib.hid (HP.out.keep hg3)
 have hin := fun k0 => tboxes_any bs W3 BA (some ⟨g, 0, none⟩) bn bc n c P HBN.out HN.out (by omega) HP3.out HBX.out (by rw [HN.out]; omega) (by omega) (by omega) k0 0 [] W3 (Gr.refl _) (by simp)
 have HIN := Lib.hid hin
 clear hin hg1 hg2 hg3 hg12 HU HP
 have u0 := HU3.out.cell 0
 have u1 := HU3.out.cell 1
 have u2 := HU3.out.cell 2
 go_wp2_with fail
 refine (HIN.out 0).mono ?_
 rintro e W4 ⟨g4, c4, rfl, hc4, ho4, hg4⟩
 rw [Nat.zero_add, HN.out]
 have HO4 := Lib.hid ho4
 clear ho4 u0 u1 u2
 have hnn : ((n : Int) == (n : Int)) = true := by simp
 go_wp2_with fail
 go_ret3
 exact ⟨P, m, l, g4, c4, sumV m, ⟨HM.out, HD.out, rfl⟩, HBX.out, HMB.out, rfl, Rd_of_owns enc5_len rfl HO4.out, hg13.trans hg4⟩

set_option maxRecDepth 100000
set_option maxHeartbeats 80000000

theorem task8_ok (W H : Int) (bs : List Bl) : taskB (sdT 8 W) (sdT 8 H) ((bs.take 6).map (fixT 8)) = true := by
 have h1 := sdT_in (M := 8) W (by omega) (by omega)
 have h2 := sdT_in (M := 8) H (by omega) (by omega)
 refine (taskB_iff _ _ _).2 ⟨by omega, by omega, ?_, ?_⟩
 ·simp; omega
 ·intro b hb
  obtain ⟨c, -, rfl⟩ := List.mem_map.1 hb
  exact fixT_ok c (by omega) (by omega)
theorem NetR.turn3 {B : Nat} {w w' : World} {N : Nx} {S : List Nat} (h : NetR B w N) (hc : Ch S w w') (hn : ∀ g ∈ ownB N, g ∉ S) : NetR B w' N := by
 have h1 : ∀ g ∈ blks (netIt N), g ∉ S := fun g hg => hn g (List.mem_append_left _ hg)
 refine ⟨⟨fun it hm => ⟨(h.its.all it hm).1.ch hc (h1 _ (mem_blks hm)), (h.its.all it hm).2⟩, h.its.nod⟩, owns_ch h.sites hc (fun g hg => hn g ?_), owns_ch h.mail hc (fun g hg => hn g ?_), h.spot, h.away, Nat.le_trans h.le hc.size⟩
 ·unfold ownB; exact List.mem_append_right _ (List.mem_append_left _ (by rw [hg]; simp))
 ·unfold ownB; exact List.mem_append_right _ (List.mem_append_right _ (by rw [hg]; simp))
structure SdSt (w : World) (B Y p : Nat) (ss : List Int) (M : Nx) (W : World) : Prop where
 net : NetR B W M
 p5 : M.p = p
 blk : Blk W Y 37 #[.int .i64 0, .int .i64 (cS 1 ss), .int .i64 (cS 2 ss)]
 off : Y ∉ ownB M
 gr : Gr w W
 wB : w.heap.size ≤ B ∧ w.heap.size ≤ Y
section
variable {w W W' : World} {B Y p : Nat} {ss : List Int} {M M' : Nx}
theorem SdSt.up (h : SdSt w B Y p ss M W) (hc : Ch (ownB M) W W') : Gr w W' := hc.up h.gr (fun x hx => by have := (h.net.own x hx).1; have := h.wB.1; omega)
theorem SdSt.to (h : SdSt w B Y p ss M W) (ht : NetTo B W M M' W') : SdSt w B Y p ss M' W' :=
 ⟨ht.net, ht.p.trans h.p5, (ht.ch.block Y h.blk.lt h.off).trans h.blk, fun hm => by
   rcases ht.own Y hm with h1 | h1
   ·exact h.off h1
   ·have := h.blk.lt; omega, h.up ht.ch, h.wB⟩
theorem SdSt.inc (h : SdSt w B Y p ss M W) {sn : Nat} (hs : sn = 1 ∨ sn = 2) : ∃ av : Int, av = cS (sn : Int) ss ∧ W.cell? ⟨Y, sn, none⟩ = some (.int .i64 av) ∧ W.frozen? ⟨Y, sn, none⟩ = false ∧ SdSt w B Y p (ss ++ [(sn : Int)]) M (W.setCell ⟨Y, sn, none⟩ (.int .i64 (av + 1))) := by
 have hch : Ch [Y] W (W.setCell ⟨Y, sn, none⟩ (.int .i64 (cS (sn : Int) ss + 1))) := Ch.refl.set (p := ⟨Y, sn, none⟩) (by simp) _
 have hb := h.blk.put sn (.int .i64 (cS (sn : Int) ss + 1))
 have hnet := h.net.turn3 hch (fun g hg hm => h.off (by rw [← List.mem_singleton.1 hm]; exact hg))
 have hgr : Gr w (W.setCell ⟨Y, sn, none⟩ (.int .i64 (cS (sn : Int) ss + 1))) := h.gr.setCell (p := ⟨Y, sn, none⟩) h.wB.2 _
 have hcell := h.blk.cell sn
 obtain ⟨-, c1, c2⟩ := sale_chg (s := (sn : Int)) (by omega)
 refine ⟨_, rfl, ?_, h.blk.free sn, hnet, h.p5, ?_, h.off, hgr, h.wB⟩
 ·rcases hs with rfl | rfl
  ·exact hcell
  ·exact hcell
 ·rw [cS_app, cS_app, c1, c2]
  rcases hs with rfl | rfl
  ·simpa using hb
  ·simpa using hb
end

theorem lawSold_any (W H : Int) (A : Option Addr) (n c : Nat) (bs : List Bl) (TA : Option Addr) (tn tc : Nat) (ts : List Int) (OA : Option Addr) (on oc : Nat) (ol : List Int) (w : World) (hn : bs.length = n) (hl : n ≤ 9223372036854775807) (hp : Tris w A bs) (htn : ts.length = tn) (htp : Ints w TA ts) (hon : ol.length = on) (hop : Ints w OA ol) :
 Calls Tryz.prog 3 #[.agg #[.int .i64 W, .int .i64 H, .slice A n c], .slice TA tn tc, .slice OA on oc] w fun e w' => e = .returned (.bool true) ∧ Gr w w' := by
 have HT : Hid (∀ W', Gr w W' → Calls Tryz.prog 5 #[.agg #[.int .i64 W, .int .i64 H, .slice A n c], .int .i64 8, .int .i64 6] W' (TaskPost (sdT 8 W) (sdT 8 H) ((bs.take 6).map (fixT 8)) W')) :=
  Lib.hid (fun W' g => task_any W H A n c bs 8 6 W' (by omega) (by omega) (by omega) hn hl (hp.keep g))
 have HTN := Lib.hid htn
 have HTP := Lib.hid htp
 have HON := Lib.hid hon
 have HOP := Lib.hid hop
 have hok := task8_ok W H bs
 have h1 := sdT_in (M := 8) W (by omega) (by omega)
 have h2 := sdT_in (M := 8) H (by omega) (by omega)
 have h3 : ((bs.take 6).map (fixT 8)).length ≤ 6 := by simp; omega
 clear hn hp hl htn htp hon hop
 generalize (bs.take 6).map (fixT 8) = qs at HT hok h3
 generalize sdT 8 W = X at HT hok h1
 generalize sdT 8 H = Y at HT hok h2
 obtain ⟨x, rfl⟩ : ∃ x : Nat, X = x := ⟨X.toNat, by omega⟩
 obtain ⟨y, rfl⟩ : ∃ y : Nat, Y = y := ⟨Y.toNat, by omega⟩
 have HOK := Lib.hid hok
 clear hok
 go_enter Tryz.func3, Tryz.ntmps3
 go_wp2_with fail
 generalize hW0 : World.alloc w _ = W0
 have hg0 : Gr w W0 := by rw [← hW0]; exact (Gr.refl w).alloc _
 clear hW0
 refine (HT.out _ hg0).mono ?_
 rintro e W1 ⟨A1, c1, rfl, hq, hg1⟩
 have HQ := Lib.hid hq
 obtain ⟨q, hqn⟩ : ∃ q, qs.length = q := ⟨_, rfl⟩
 rw [hqn] at h3 ⊢
 have HQN := Lib.hid hqn
 have hg01 := hg0.trans hg1
 clear hq hqn hg0 hg1
 go_upto_region 2 with fail
 generalize hW2 : World.alloc W1 _ = W2
 have hg2 : Gr W1 W2 := by rw [← hW2]; exact (Gr.refl W1).alloc _
 have hB2 : Blk W2 W1.heap.size 24 #[.int .i64 (x : Int), .int .i64 (y : Int), .slice A1 q c1] := by rw [← hW2]; exact heap_alloc_new W1 _
 generalize W1.heap.size = T at hB2 ⊢
 have HG2 := Lib.hid (hg01.trans hg2)
 have HQ2 := Lib.hid (HQ.out.keep hg2)
 have t0 := hB2.cell 0
 have t1 := hB2.cell 1
 have t2 := hB2.cell 2
 clear hW2 hB2 hg2 hg01 HQ
 go_wp2_with fail
 refine (planned_any x y A1 q c1 qs _ HQN.out (by omega) HQ2.out HOK.out).mono ?_
 rintro e W3 ⟨P, m, l, g, c, v, ⟨hM, hP, -⟩, hBx, hmade, rfl, hrd, hg3⟩
 have HR3 := Lib.hid hrd
 have HG3 := Lib.hid (HG2.out.trans hg3)
 have hcnt : l.length ≤ 4608 := by
  have a1 := hBx.count
  have a2 := hM.short (by omega) (by omega) (by omega) (by omega)
  omega
 obtain ⟨nl, hnl⟩ : ∃ nl, l.length = nl := ⟨_, rfl⟩
 rw [hnl] at hcnt ⊢
 have HNL := Lib.hid hnl
 clear hM hP hBx hmade hrd hg3 hnl HG2 HQ2 t0 t1 t2 HT HOK HQN h1 h2 h3
 go_wp2_with fail
 go_loopw [11, 12] (fun u z wr => ∃ (k m : Nat), k ≤ nl ∧ m ≤ k ∧ z = .int .i64 (k : Int) ∧ u = .int .i64 (m : Int) ∧ wr = W3) (fun _ z _ => nl - (intOf z).toNat)
 case atStart => exact ⟨0, 0, Nat.zero_le _, Nat.le_refl _, rfl, rfl, rfl⟩
 case round =>
  obtain ⟨k, m, hk, hmk, rfl, rfl, rfl⟩ := hrel
  by_cases hlt : k < nl
  ·obtain ⟨b, hb⟩ : ∃ b, l[k]? = some b := ⟨_, List.getElem?_eq_getElem (by rw [HNL.out]; exact hlt)⟩
   obtain ⟨gb, ob, e0, -, -, -, -, c4⟩ := Bx_at HR3.out hb
   cases e0
   simp only [Nat.zero_add] at c4
   have hki : (k : Int) < (nl : Int) := by omega
   clear hb
   generalize b.k = bk at c4
   by_cases hbk : 0 ≤ bk
   ·go_wp2_with fail
    go_roundw
    case rel => exact ⟨k + 1, m + 1, by omega, by omega, by go_num, by go_num, by first | rfl | trivial⟩
    case measure => simp [intOf]; omega
   ·go_wp2_with fail
    go_roundw
    case rel => exact ⟨k + 1, m, by omega, by omega, by go_num, rfl, by first | rfl | trivial⟩
    case measure => simp [intOf]; omega
  ·obtain rfl : k = nl := by omega
   by_cases hm30 : 30 < m
   ·have hmi : (30 : Int) < (m : Int) := by omega
    go_wp2_with fail
    refine (five_any _).mono ?_
    rintro e w10 ⟨rfl, hg10⟩
    have HFF := Lib.hid (HG3.out.trans hg10)
    clear hg10
    go_wp2_with fail
    go_ret
    exact ⟨rfl, HFF.out⟩
   have hmi : ¬ (30 : Int) < (m : Int) := by omega
   have hm30' : m ≤ 30 := by omega
   clear hm30 hlt HR3 HNL
   go_wp2_with fail
   generalize hWB : World.alloc wr _ = wB
   have hgB : Gr wr wB := by rw [← hWB]; exact (Gr.refl _).alloc _
   have hBB : Ints wB (some ⟨wr.heap.size, 0, none⟩) [(m : Int), 0, 0] := by
    rw [← hWB]
    exact Rd_lit (enc := enc1) (fun _ => rfl) (Blk.new wr #[.int .i64 (m : Int), .int .i64 0, .int .i64 0] 3 rfl) rfl
   generalize wr.heap.size = DB at hBB ⊢
   have HBB := Lib.hid hBB
   have HGB := Lib.hid (HG3.out.trans hgB)
   clear hWB hBB hgB HG3
   have hst : okStocks [(m : Int), 0, 0] = true := (okStocks_iff [(m : Int), 0, 0]).2 ⟨by simp, by simp, fun x hx => by
    simp only [List.mem_cons, List.not_mem_nil, or_false] at hx
    rcases hx with rfl | rfl | rfl <;> omega⟩
   refine (New_any (some ⟨DB, 0, none⟩) 3 3 [(m : Int), 0, 0] wB rfl (by omega) HBB.out).mono ?_
   rintro e w4 (⟨hno, -⟩ | ⟨-, N, rfl, hnet, hnl, hml, hbg, hg4⟩)
   ·rw [hst] at hno; cases hno
   have hnz := newN_of hnl hml hbg
   obtain ⟨B, hB⟩ : ∃ B, wB.heap.size = B := ⟨_, rfl⟩
   obtain ⟨p, hpp⟩ : ∃ p, N.p = p := ⟨_, rfl⟩
   rw [hB] at hnet
   rw [hpp]
   have HSF0 : Hid (Sf (nzN N) [(m : Int), 0, 0] (slL [])) := Lib.hid (by rw [hnz]; exact sf_new hst)
   have HN4 := Lib.hid hnet
   have HPP := Lib.hid hpp
   have HG4 := Lib.hid (HGB.out.trans hg4)
   have HBS : Hid (w.heap.size ≤ B) := Lib.hid (by rw [← hB]; exact HGB.out.size)
   clear hnet hnl hml hbg hg4 hnz hB hpp hst HBB HGB
   go_upto_region 17 with fail
   generalize hW6 : World.alloc w4 _ = w6
   have hg6 : Gr w4 w6 := by rw [← hW6]; exact (Gr.refl _).alloc _
   have hY : Blk w6 w4.heap.size 37 #[.int .i64 0, .int .i64 (cS 1 []), .int .i64 (cS 2 [])] := by rw [← hW6]; exact heap_alloc_new w4 _
   have hYn : w4.heap.size ∉ ownB N := fun hm => by
    have h1 := (HN4.out.own _ hm).2
    omega
   have hYw : w.heap.size ≤ w4.heap.size := HG4.out.size
   generalize w4.heap.size = Y at hY hYn hYw ⊢
   have HS0 : Hid (SdSt w B Y p [] N w6) := Lib.hid ⟨HN4.out.keep hg6, HPP.out, hY, hYn, HG4.out.trans hg6, HBS.out, hYw⟩
   clear hW6 hY hYn hYw hg6 HN4 HG4 HPP
   go_wp2_with fail
   go_loopw [16] (fun z wr => ∃ (j : Nat) (M : Nx) (ss : List Int), j ≤ m ∧ z = .int .i64 (j : Int) ∧ Hid (ss.length = j ∧ ∀ s ∈ ss, s = 1 ∨ s = 2) ∧ Hid (SdSt w B Y p ss M wr) ∧ Hid (Sf (nzN M) [(m : Int), 0, 0] (slL ss))) (fun z _ => m - (intOf z).toNat)
   case atStart => exact ⟨0, N, [], Nat.zero_le _, rfl, Lib.hid ⟨rfl, fun s hs => by cases hs⟩, HS0, HSF0⟩
   case round =>
    obtain ⟨j, M, ss, hj, rfl, hss, hS, hsf⟩ := hrel
    clear HS0 HSF0
    have HML : Hid (M.sites.length = 3) := Lib.hid (by
     have h1 := hsf.out.cm.stk.1
     rw [nz_len] at h1
     simpa using h1.symm)
    by_cases hjm : j < m
    ·have hjI : (j : Int) < (m : Int) := by omega
     have hj00 : (0 : Int) ≤ (j : Int) := by omega
     have hsite : (j < tn ∧ ∃ x b off, TA = some ⟨b, off, none⟩ ∧ wr.cell? ⟨b, off + j, none⟩ = some (.int .i64 x)) ∨ ¬ j < tn := by
      by_cases h : j < tn
      ·obtain ⟨b, off, e, hc⟩ := Ints_at (HTP.out.keep hS.out.gr) (i := j) (by rw [HTN.out]; exact h)
       exact Or.inl ⟨h, _, b, off, e, hc⟩
      ·exact Or.inr h
     have hgo : ∃ sn : Nat, (sn = 1 ∨ sn = 2) ∧ ((j < tn ∧ ∃ x b off, TA = some ⟨b, off, none⟩ ∧ wr.cell? ⟨b, off + j, none⟩ = some (.int .i64 x) ∧ 1 + modT x 2 = (sn : Int)) ∨ (¬ j < tn ∧ sn = 1)) := by
      rcases hsite with ⟨h, x, b, off, e, hc⟩ | h
      ·have hx := modT_le (x := x) (n := 2) (by omega) (by omega)
       exact ⟨(1 + modT x 2).toNat, by omega, Or.inl ⟨h, x, b, off, e, hc, by omega⟩⟩
      ·exact ⟨1, Or.inl rfl, Or.inr ⟨h, rfl⟩⟩
     obtain ⟨sn, hsn, hway⟩ := hgo
     obtain ⟨av, hav, hcv, hfv, hSI⟩ := hS.out.inc hsn
     have hrg := cS_rng hss.out.2
     have havr : 0 ≤ av ∧ av ≤ 31 := by
      have hl := hss.out.1
      rw [hav]
      rcases hsn with rfl | rfl
      ·have := hrg.2.1; show 0 ≤ cS 1 ss ∧ cS 1 ss ≤ 31; omega
      ·have := hrg.2.2; show 0 ≤ cS 2 ss ∧ cS 2 ss ≤ 31; omega
     have hwav : IntKind.i64.wrap (av + 1) = av + 1 := IntWalk.i64_in _ (by omega)
     have hsn0 : (0 : Int) ≤ (sn : Int) := by omega
     have hsn3 : (sn : Int) < 3 := by omega
     have HSI := Lib.hid hSI
     have HSN := Lib.hid hsn
     have hmq := modT_le (x := (sn : Int) + (j : Int)) (n := 3) (by omega) (by omega)
     have HMQ := Lib.hid (fun W => tmod_any ((sn : Int) + (j : Int)) 3 W (by omega) (by omega))
     generalize modT ((sn : Int) + (j : Int)) 3 = mq at hmq HMQ
     obtain ⟨qn, rfl⟩ : ∃ qn : Nat, mq = (qn : Int) := ⟨mq.toNat, by omega⟩
     have hws : IntKind.i64.wrap ((sn : Int) + (j : Int)) = (sn : Int) + (j : Int) := IntWalk.i64_in _ (by omega)
     have HSS : Hid ((ss ++ [(sn : Int)]).length = j + 1 ∧ ∀ s ∈ ss ++ [(sn : Int)], s = 1 ∨ s = 2) := Lib.hid ⟨by rw [List.length_append, hss.out.1]; rfl, fun s hs => by
      rcases List.mem_append.1 hs with h1 | h1
      ·exact hss.out.2 s h1
      ·rw [List.mem_singleton.1 h1]; omega⟩
     have hjj : (((j : Int) + 1) != ((j : Int) + 1)) = false := by simp
     have HBG : Hid (∀ V W', SdSt w B Y p (ss ++ [(sn : Int)]) M V → Gr (V.alloc (.cells #[.int .i64 0, .int .i64 (-1), .int .i64 (sn : Int), .int .i64 1] 42)) W' → Calls Tryz.prog 10 #[.pointer (some ⟨p, 0, none⟩), .int .i64 (qn : Int), .slice (some ⟨V.heap.size, 0, none⟩) 2 2] W' fun e w' => e = .returned (.tuple #[.int .i64 ((j : Int) + 1), .int .i64 0]) ∧ ∃ N1, NetTo B V M N1 w' ∧ Sf (nzN N1) [(m : Int), 0, 0] (slL (ss ++ [(sn : Int)]))) := Lib.hid (fun V W' hV hW' => by
      have h1 := begin_two (q := qn) (s := (sn : Int)) (x := 1) hV.net hsf.out (by rw [slL_len, hss.out.1]; omega) (by rw [HML.out]; omega) (by omega) (by rw [HML.out]; omega) (by omega) (by omega) hW'
      rw [hV.p5, slL_len, hss.out.1] at h1
      rw [slL_app]
      exact h1)
     have HM2 := Lib.hid (fun x W => tmod_any x 2 W (by omega) (by omega))
     clear hsn hsite hrg hav havr hSI hmq
     rcases hway with ⟨hjt, x, b, off, rfl, hcell, hx⟩ | ⟨hjt, rfl⟩
     ·have hjti : (j : Int) < (tn : Int) := by omega
      have hwx : IntKind.i64.wrap (1 + modT x 2) = (sn : Int) := by rw [hx]; exact IntWalk.i64_in _ (by omega)
      have HMX := Lib.hid (HM2.out x)
      generalize modT x 2 = mx at hx hwx HMX
      clear hx hjt
      go_wp2_with fail
      refine (HMX.out _).mono ?_
      rintro e w7 ⟨rfl, rfl⟩
      go_upto_region 24 with fail
      generalize World.setCell _ _ _ = wS at HSI ⊢
      clear hcv hfv hwav hsn0 hsn3
      go_wp2_with fail
      refine (HMQ.out _).mono ?_
      rintro e w8 ⟨rfl, rfl⟩
      go_wp2_with fail
      refine (HBG.out _ _ HSI.out (Gr.refl _)).mono ?_
      rintro e w9 ⟨rfl, N1, hto1, hsf1⟩
      have HS1 := Lib.hid (HSI.out.to hto1)
      have HF1 := Lib.hid hsf1
      clear hto1 hsf1 hws
      go_wp2_with fail
      go_roundw
      case rel => exact ⟨j + 1, N1, _, by omega, by go_num, HSS, HS1, HF1⟩
      case measure => simp [intOf]; omega
     ·have hjti : ¬ (j : Int) < (tn : Int) := by omega
      clear hjt
      have e1 : (((1 : Nat)) : Int) = 1 := rfl
      simp only [e1] at HBG HMQ HSS hws HSI
      go_upto_region 24 with fail
      generalize World.setCell _ _ _ = wS at HSI ⊢
      clear hcv hfv hwav hsn0 hsn3
      go_wp2_with fail
      refine (HMQ.out _).mono ?_
      rintro e w8 ⟨rfl, rfl⟩
      go_wp2_with fail
      refine (HBG.out _ _ HSI.out (Gr.refl _)).mono ?_
      rintro e w9 ⟨rfl, N1, hto1, hsf1⟩
      have HS1 := Lib.hid (HSI.out.to hto1)
      have HF1 := Lib.hid hsf1
      clear hto1 hsf1 hws
      go_wp2_with fail
      go_roundw
      case rel => exact ⟨j + 1, N1, _, by omega, by go_num, HSS, HS1, HF1⟩
      case measure => simp [intOf]; omega
    ·obtain rfl : j = m := by omega
     have HFL : Hid (Fl M [(j : Int), 0, 0] (slL ss) True 0) := Lib.hid (hsf.out.fl (by rw [slL_len, hss.out.1]; omega) (fun _ => by
      have h1 := sold_fits hss.out.2 (by rw [hss.out.1]; omega)
      rw [hss.out.1] at h1
      exact h1))
     have HST := Lib.hid (still_any OA on oc ol [(j : Int), 0, 0] (slL ss) wr hS.out.net HFL.out HON.out (fun X hX => HOP.out.keep (hS.out.up hX)))
     rw [hS.out.p5] at HST
     clear HFL hsf
     go_wp2_with fail
     refine HST.out.mono ?_
     rintro e w7 ⟨rfl, M2, hto2, hm2, hsl⟩
     have HS2 := Lib.hid (hS.out.to hto2)
     have HML2 : Hid (M2.sites.length = 3) := Lib.hid (by
      have h1 := hsl.stk.1
      rw [nz_len] at h1
      simpa using h1.symm)
     have HSE : Hid (Calls Tryz.prog 12 #[.pointer (some ⟨p, 0, none⟩)] w7 fun e w' => e = .returned (.bool true) ∧ w' = w7) := Lib.hid (by
      have h1 := Settled_any HS2.out.net (by rw [HML2.out]; omega)
      rw [HS2.out.p5, ← settledN_nz, hsl.cm.isSettled hm2] at h1
      exact h1)
     have HEND : Hid (∀ k : Nat, k < 3 → refS M2 (k : Int) = 0 ∧ stockN M2 (k : Int) = wantS ss k) := Lib.hid (sold_end hss.out.2 HML2.out (by rw [hss.out.1]; exact hsl) hm2)
     have HSTK : Hid (∀ k : Nat, k < 3 → Calls Tryz.prog 13 #[.pointer (some ⟨p, 0, none⟩), .int .i64 (k : Int)] w7 fun e w' => e = .returned (.tuple #[.int .i64 (wantS ss k), .int .i64 0]) ∧ w' = w7) := Lib.hid (fun k hk => by
      have h1 := Stock_any HS2.out.net (k : Int)
      obtain ⟨e1, e2⟩ := HEND.out k hk
      rw [HS2.out.p5, e1, e2] at h1
      exact h1)
     have HCL : Hid (∀ k : Nat, k < 3 → w7.cell? ⟨Y, k, none⟩ = some (.int .i64 (wantS ss k))) := Lib.hid (fun k hk => by
      have h1 := HS2.out.blk.cell k
      match k, hk with
      | 0, _ => exact h1
      | 1, _ => exact h1
      | 2, _ => exact h1)
     have HGF := Lib.hid HS2.out.gr
     clear hm2 hsl hto2 HST hS HEND HS2
     go_wp2_with fail
     refine HSE.out.mono ?_
     rintro e w8 ⟨rfl, rfl⟩
     clear HSE
     go_wp2_with fail
     go_loopw [20] (fun z wr => ∃ r : Nat, r ≤ 3 ∧ z = .int .i64 (r : Int) ∧ wr = w8) (fun z _ => 3 - (intOf z).toNat)
     case atStart => exact ⟨0, Nat.zero_le _, rfl, rfl⟩
     case round =>
      obtain ⟨r, hr, rfl, rfl⟩ := hrel
      by_cases hr3 : r < 3
      ·have hrI : (r : Int) < 3 := by omega
       have hr00 : (0 : Int) ≤ (r : Int) := by omega
       have HSJ := Lib.hid (HSTK.out r hr3)
       have hcl := HCL.out r hr3
       generalize wantS ss r = o at HSJ hcl
       have hoo : (o != o) = false := by simp
       go_wp2_with fail
       refine HSJ.out.mono ?_
       rintro e w9 ⟨rfl, rfl⟩
       go_wp2_with fail
       go_roundw
       case rel => exact ⟨r + 1, by omega, by go_num, by first | rfl | trivial⟩
       case measure => simp [intOf]; omega
      ·obtain rfl : r = 3 := by omega
       go_wp2_with fail
       refine (five_any _).mono ?_
       rintro e w10 ⟨rfl, hg10⟩
       have HFF := Lib.hid (HGF.out.trans hg10)
       clear hg10
       go_wp2_with fail
       go_ret
       exact ⟨rfl, HFF.out⟩

end Go.Proofs.YtobcdkjomehdkaaGreat

namespace Go.Proofs.YtobcdkjomehdkaaGreat
open Go.RowKit Go.Deep Go.Joins Go.ChangeShapes Go.WideShapes Go.ChangeAt
set_option linter.unusedSimpArgs false
set_option maxRecDepth 100000
set_option maxHeartbeats 80000000

theorem blank_fields : ∃ fs : Array Field, Tryz.prog.underlying 59 = some (.struct fs) ∧ fs.size = 3 ∧ oneCellFields Tryz.prog fs = true ∧ Tryz.prog.cellsOf 59 = 3 ∧ ∀ (j : Nat) (f : Field), fs[j]? = some f → Tryz.prog.underlying f.type = some (.int .i64) :=
 ⟨_, Tryz.underlying59, rfl, by kernel_rfl, by kernel_rfl, fun j f h => by
   match j, h with
   | 0, h => obtain rfl := Option.some.inj h; exact Tryz.underlying3
   | 1, h => obtain rfl := Option.some.inj h; exact Tryz.underlying3
   | 2, h => obtain rfl := Option.some.inj h; exact Tryz.underlying3⟩
section
variable {H : Type} {enc : TypeId × Value → H} {w : World} {base : Nat} {hd : Bool}
theorem open_blanks {fuel : Nat} {v : Value} {y : DataW H × List MemPlace} (h : DataW.trod enc Tryz.prog w base (fun _ => true) hd fuel 22 [v] = some y) :
 ∃ A n c bs, v = .slice A n c ∧ n ≤ c ∧ c ≤ maxLen ∧ (A = none → c = 0) ∧ List.length bs = n ∧ Tris w A bs := by
 obtain ⟨fs, h1, h2, h3, h4, h5⟩ := blank_fields
 obtain ⟨A, n, c, rfl, hc, hm, h0, Z, hZ⟩ := open_records Tryz.underlying22 h1 h3 (by rw [h4, h2]) h5 (by omega) h
 refine ⟨A, n, c, (List.range n).map fun i => (Z i 0, Z i 1, Z i 2), rfl, hc, hm, h0, by simp, fun i x hx => ?_⟩
 have hi : i < n := by have := (List.getElem?_eq_some_iff.1 hx).1; simpa using this
 obtain rfl : (Z i 0, Z i 1, Z i 2) = x := by simpa [hi] using hx
 obtain ⟨b, off, e, c0⟩ := hZ i (by omega) 0 (by omega)
 obtain ⟨b1, off1, e1, c1⟩ := hZ i (by omega) 1 (by omega)
 obtain ⟨b2, off2, e2, c2⟩ := hZ i (by omega) 2 (by omega)
 subst e
 obtain ⟨rfl, rfl⟩ : b = b1 ∧ off = off1 := by simpa using e1
 obtain ⟨rfl, rfl⟩ : b = b2 ∧ off = off2 := by simpa using e2
 rw [h2] at c0 c1 c2
 refine ⟨b, off, rfl, fun j v hv => ?_⟩
 match j, hv with
 | 0, hv => obtain rfl := Option.some.inj hv; exact c0
 | 1, hv => obtain rfl := Option.some.inj hv; exact c1
 | 2, hv => obtain rfl := Option.some.inj hv; exact c2
 | j + 3, hv => simp [enc3] at hv
end
theorem task_fields : ∃ f0 f1 f2 : Field, Tryz.prog.underlying 24 = some (.struct #[f0, f1, f2]) ∧ oneCellFields Tryz.prog #[f0, f1, f2] = true ∧ Tryz.prog.cellsOf 24 = 3 ∧ Tryz.prog.underlying f0.type = some (.int .i64) ∧ Tryz.prog.underlying f1.type = some (.int .i64) ∧ f2.type = 22 :=
 ⟨_, _, _, Tryz.underlying24, by kernel_rfl, by kernel_rfl, Tryz.underlying3, Tryz.underlying3, rfl⟩
theorem open_task {H : Type} {enc : TypeId × Value → H} {w : World} {base : Nat} {hd : Bool} {r : Reach} {b0 : Nat} {v : Value} {d : DataW H} {p : List MemPlace}
 (hv : Value.okWide Tryz.prog w r b0 24 v) (h : DataW.Trod enc Tryz.prog w base (fun _ => true) hd 24 v d p) :
 ∃ W0 H0 A n c bs, v = .agg #[.int .i64 W0, .int .i64 H0, .slice A n c] ∧ n ≤ c ∧ c ≤ maxLen ∧ (A = none → c = 0) ∧ List.length bs = n ∧ Tris w A bs := by
 obtain ⟨f0, f1, f2, h1, h2, h3, h4, h5, h6⟩ := task_fields
 obtain ⟨v0, v1, v2, y0, y1, y2, n, rfl, -, -, t0, t1, t2⟩ := open_agg3 h1 h2 h3 hv h
 obtain ⟨x, rfl⟩ := trod_int h4 t0
 obtain ⟨y, rfl⟩ := trod_int h5 t1
 rw [h6] at t2
 obtain ⟨A, m, c, bs, rfl, r1, r2, r3, r4, r5⟩ := open_blanks t2
 exact ⟨x, y, A, m, c, bs, rfl, r1, r2, r3, r4, r5⟩

end Go.Proofs.YtobcdkjomehdkaaGreat
