/- Layer 2: a plan out of the table. -/
import Derived.Test.YtobcdkjomehdkaaGreatBu51
import Derived.Test.YtobcdkjomehdkaaGreatBu49
import Derived.Test.YtobcdkjomehdkaaGreatBu28
namespace Go.Proofs.YtobcdkjomehdkaaGreat
open Go.RowKit
set_option linter.unusedSimpArgs false
set_option maxRecDepth 100000
set_option maxHeartbeats 80000000

theorem Tryz.infoSt : (Tryz.prog.info? 97).map (fun i => (i.zero, i.size, i.bytes)) = some (some (.agg #[.int .i64 0, .int .i64 0]), 2, 16) := by kernel_rfl

def RdParts (w : World) (A : Option Addr) (ps : List (List St)) : Prop :=
 ∀ i part, ps[i]? = some part → ∃ b off b' off' c', A = some ⟨b, off, none⟩ ∧ w.cell? ⟨b, off + i, none⟩ = some (.slice (some ⟨b', off', none⟩) part.length c') ∧ Pts w (some ⟨b', off', none⟩) part
theorem RdParts.keep {w w' : World} {A : Option Addr} {ps : List (List St)} (h : RdParts w A ps) (hg : Gr w w') : RdParts w' A ps := fun i part hp => by
 obtain ⟨b, off, b', off', c', e, hc, hP⟩ := h i part hp
 exact ⟨b, off, b', off', c', e, hg.keep hc, hP.keep hg⟩
def PlanPost (P : List St) (w : World) (e : Ending) (w' : World) : Prop :=
 ∃ g c, e = .returned (.slice (some ⟨g, 0, none⟩) P.length c) ∧ P.length ≤ c ∧ w.heap.size ≤ g ∧ w'.ownsRow w.heap.size 97 2 (.slice (some ⟨g, 0, none⟩) P.length c) P.length (flatE enc2 P) ∧ Gr w w'
theorem owns_one (w : World) (x y : Value) {base : Nat} (hb : base ≤ w.heap.size) : (w.alloc (.cells #[x, y] 97)).ownsRow base 97 2 (.slice (some ⟨w.heap.size, 0, none⟩) 1 1) 1 [x, y] :=
 ⟨rfl, .inr ⟨w.heap.size, 1, _, rfl, hb, heap_alloc_new w _, Nat.le_refl _, by unfold maxLen; omega, rfl, rfl⟩⟩

theorem planOf_any (s : St) (A : Option Addr) (n c : Nat) (ps : List (List St)) (w : World) (hn : ps.length = n) (hl : n ≤ 1024) (hps : ∀ p ∈ ps, 1 ≤ p.length) (hlen : ∀ k, (ps.take k).flatten.length ≤ 65536) (hp : RdParts w A ps) :
 Calls Tryz.prog 64 #[.agg #[.int .i64 s.1, .int .i64 s.2], .slice A n c] w (PlanPost (s :: ps.flatten) w) := by
 obtain ⟨i0, hi, hz0, hz1, hz2⟩ := info_parts Tryz.infoSt
 have HI := Lib.hid (And.intro hi (And.intro hz0 (And.intro hz1 hz2)))
 have HN := Lib.hid hn
 have HP := Lib.hid hp
 have HPS := Lib.hid hps
 have HLEN := Lib.hid hlen
 clear hn hp hps hlen hi hz0 hz1 hz2
 obtain ⟨kd, arg⟩ := s
 dsimp only
 go_enter Tryz.func64, Tryz.ntmps64
 go_wp2_with fail
 generalize hW : World.alloc (World.alloc w _) _ = W
 have hgW : Gr w W := by rw [← hW]; exact ((Gr.refl w).alloc _).alloc _
 have how : W.ownsRow w.heap.size 97 2 (.slice (some ⟨w.heap.size + 1, 0, none⟩) 1 1) 1 [.int .i64 kd, .int .i64 arg] := by
  rw [← hW]
  have := owns_one (w.alloc (.cells #[.int .i64 kd, .int .i64 arg] 97)) (.int .i64 kd) (.int .i64 arg) (base := w.heap.size) (by simp)
  rwa [show (w.alloc (.cells #[.int .i64 kd, .int .i64 arg] 97)).heap.size = w.heap.size + 1 by simp] at this
 have HOW := Lib.hid how
 have HGW := Lib.hid hgW
 clear hW how hgW
 go_loopw [5, 12] (fun v i wr => ∃ k L : Nat, k ≤ n ∧ i = .int .i64 k ∧ 1 ≤ L ∧ Hid (((kd, arg) :: (ps.take k).flatten).length = L) ∧ Hid (wr.ownsRow w.heap.size 97 2 v L (flatE enc2 ((kd, arg) :: (ps.take k).flatten))) ∧ Hid (Gr w wr)) (fun _ i _ => n - (intOf i).toNat)
 case atStart => exact ⟨0, 1, Nat.zero_le _, rfl, Nat.le_refl _, Lib.hid (by simp), Lib.hid (by simpa [flatE, enc2] using HOW.out), HGW⟩
 case round =>
  obtain ⟨k, L, hk, rfl, hL1, hL, hown, hg⟩ := hrel
  obtain ⟨gv, cv, rfl, -⟩ := owns_shape hown.out (by omega)
  by_cases hlt : k < n
  ·have hkl : k < ps.length := by have := HN.out; omega
   obtain ⟨b, off, b', off', c', rfl, hc, hP⟩ := (HP.out.keep hg.out) k _ (getD_of [] hkl)
   have hm1 := HPS.out _ (List.mem_of_getElem? (getD_of [] hkl))
   have HTK : Hid ((ps.take (k + 1)).flatten = (ps.take k).flatten ++ ps.getD k []) := Lib.hid (by rw [List.take_add_one, getD_of [] hkl]; simp)
   have hlk := HLEN.out (k + 1)
   rw [HTK.out, List.length_append] at hlk
   have hLL : L = (ps.take k).flatten.length + 1 := by have := hL.out; simpa using this.symm
   generalize ps.getD k [] = part at hc hP hm1 HTK hlk
   obtain ⟨m, hm⟩ : ∃ m, part.length = m := ⟨_, rfl⟩
   rw [hm] at hc hm1 hlk
   have HM := Lib.hid hm
   have HC := Lib.hid (Rd_news enc2_len (by decide) hP)
   have hLm : L + m ≤ 65537 := by omega
   clear hP hm hLL hlk
   obtain ⟨hi, hz0, hz1, hz2⟩ := HI.out
   go_wp2_with (at_builtin; refine wpList_append_own _ rfl _ _ 60 rfl w.heap.size 97 i0 _ 2 16 Tryz.underlying60 hi hz0 hz1 hz2 rfl (by decide) _ _ _ rfl hown.out ⟨b', off', none⟩ m c' (flatE enc2 part) rfl ?a1 ?a2 ?a3 ?a4 ?a5 ?a6 ?_)
   case a1 => rw [flatE_len enc2_len, HM.out]
   case a2 => exact HC.out
   case a3 => exact oneCell_flat enc2_one part
   case a4 => unfold maxLen; omega
   case a5 => omega
   case a6 => exact hg.out.size
   intro v' w2 hown' hgrow _
   have hgb : Gr w w2 := Below.grown hg.out hgrow hg.out.size (fun t ht => (hown.out.lt t ht).1)
   have HGB := Lib.hid hgb
   have HO2 := Lib.hid hown'
   clear hown' hgrow hi hz0 hz1 hz2 hgb
   go_wp2_with fail
   go_roundw
   case rel => exact ⟨k + 1, L + m, by omega, by go_num, by omega, Lib.hid (by rw [HTK.out, ← List.cons_append, List.length_append, hL.out, HM.out]), Lib.hid (by rw [HTK.out, ← List.cons_append, flatE_app]; exact HO2.out), HGB⟩
   case measure => simp [intOf]; omega
  ·obtain rfl : k = n := by omega
   have HFL : Hid ((ps.take k).flatten = ps.flatten) := Lib.hid (by rw [List.take_of_length_le (by have := HN.out; omega)])
   clear hlt
   go_wp2_with fail
   go_ret
   have hx := hown.out
   rw [HFL.out] at hx
   have hl := hL.out
   rw [HFL.out] at hl
   have hlt := (hx.lt gv rfl).1
   refine ⟨gv, cv, by rw [hl]; rfl, ?_, hlt, by rw [hl]; exact hx, hg.out⟩
   rcases hx.2 with ⟨h, _⟩ | ⟨g2, c2, cur, h, _, _, hnc, _⟩
   ·cases h
   ·injection h with _ _ h3
    rw [hl, h3]; exact hnc

set_option maxRecDepth 100000
set_option maxHeartbeats 80000000

def PPost (bs : List Bl) (x y : Nat) (w : World) (e : Ending) (w' : World) : Prop :=
 ∃ P m, Makes bs x y P m ∧ (sumV m = mst bs x y ∧ PlanOf bs x y P) ∧ PlanPost P w e w'
theorem PlanPost.pts {P : List St} {w w' : World} {g c : Nat} (h : w'.ownsRow w.heap.size 97 2 (.slice (some ⟨g, 0, none⟩) P.length c) P.length (flatE enc2 P)) : Pts w' (some ⟨g, 0, none⟩) P := Rd_of_owns enc2_len rfl h

theorem plan_leaf (bs : List Bl) (W H g x y : Nat) (w : World) (hW : W ≤ 48) (hH : H ≤ 48) (hx1 : 1 ≤ x) (hx : x ≤ W) (hy1 : 1 ≤ y) (hy : y ≤ H) (wt : Nat → Nat → Int) (ft : Nat → Nat → St) (hT : Tab w g wt ft) (m : List Bl) (hM : Makes bs x y [ft x y] m) (hs : sumV m = mst bs x y ∧ PlanOf bs x y [ft x y]) (hk : (ft x y).1 = 0 ∨ (ft x y).1 = 1) :
 Calls Tryz.prog 37 #[.pointer (some ⟨g, 0, none⟩), .int .i64 (x : Int), .int .i64 (y : Int)] w (PPost bs x y w) := by
 obtain ⟨c1, c2⟩ := hT.first (x := x) (y := y) (by omega) (by omega)
 have HM := Lib.hid hM
 have HS := Lib.hid hs
 have HO := Lib.hid (fun W' => planOf_any (ft x y) none 0 0 [] W' rfl (by omega) (fun p hp => by cases hp) (fun k => by simp) (fun i part hp => by simp at hp))
 have i1 : (0 : Int) ≤ (x : Int) := by omega
 have i2 : (x : Int) < 49 := by omega
 have i3 : (0 : Int) ≤ (y : Int) := by omega
 have i4 : (y : Int) < 49 := by omega
 generalize ft x y = s at c1 c2 HM HS HO hk
 obtain ⟨kd, arg⟩ := s
 clear hM hs hT
 dsimp only at hk HO c1 c2
 rcases hk with rfl | rfl
 all_goals
  go_enter Tryz.func37, Tryz.ntmps37
  go_wp2_with fail
  refine (HO.out _).mono ?_
  rintro e w2 ⟨g2, c2, rfl, h1, h2, h3, h4⟩
  have H3 := Lib.hid h3
  clear h3
  go_wp2_with fail
  go_ret
  refine ⟨_, m, HM.out, HS.out, g2, c2, rfl, h1, ?_, ?_, ((Gr.refl w).alloc _).trans h4⟩
  ·simp at h2; omega
  ·exact ⟨H3.out.1, H3.out.2.imp (fun h => h) (fun ⟨g', cap, cur, e1, e2, r⟩ => ⟨g', cap, cur, e1, by simp at e2; omega, r⟩)⟩

set_option maxRecDepth 100000
set_option maxHeartbeats 80000000

theorem Makes.pos {bs : List Bl} {w h : Nat} {P : List St} {m : List Bl} (k : Makes bs w h P m) : 1 ≤ P.length := by cases k <;> simp
theorem two_len {bs : List Bl} {x1 y1 x2 y2 : Nat} {P Q : List St} {m n : List Bl} (h : Makes bs x1 y1 P m) (k : Makes bs x2 y2 Q n) : ∀ p ∈ [P, Q], 1 ≤ p.length := fun p hp => by
 simp at hp
 rcases hp with rfl | rfl
 ·exact h.pos
 ·exact k.pos
theorem Makes.small {bs : List Bl} {w h : Nat} {P : List St} {m : List Bl} (k : Makes bs w h P m) (h1 : 1 ≤ w) (h2 : 1 ≤ h) (h3 : w ≤ 48) (h4 : h ≤ 48) : P.length ≤ 4607 := by
 have e := k.len h1 h2
 have : w * h ≤ 48 * 48 := Nat.mul_le_mul h3 h4
 omega
theorem two_flat {bs : List Bl} {x1 y1 x2 y2 : Nat} {P Q : List St} {m n : List Bl} (h : Makes bs x1 y1 P m) (k : Makes bs x2 y2 Q n) (a1 : 1 ≤ x1) (a2 : 1 ≤ y1) (a3 : x1 ≤ 48) (a4 : y1 ≤ 48) (b1 : 1 ≤ x2) (b2 : 1 ≤ y2) (b3 : x2 ≤ 48) (b4 : y2 ≤ 48) :
 ∀ i, (([P, Q]).take i).flatten.length ≤ 65536 := fun i => by
 have e1 := h.small a1 a2 a3 a4
 have e2 := k.small b1 b2 b3 b4
 match i with
 | 0 => simp
 | 1 => simp; omega
 | i + 2 => simp; omega
theorem two_parts {w1 w2 : World} {t : TypeId} {g1 g2 c1 c2 : Nat} {P Q : List St} (h : Pts w1 (some ⟨g1, 0, none⟩) P) (k : Pts w2 (some ⟨g2, 0, none⟩) Q) (hg : Gr w1 w2) :
 RdParts (w2.alloc (.cells #[.slice (some ⟨g1, 0, none⟩) P.length c1, .slice (some ⟨g2, 0, none⟩) Q.length c2] t)) (some ⟨w2.heap.size, 0, none⟩) [P, Q] := fun i part hp => by
 have ha : Gr w2 (w2.alloc (.cells #[.slice (some ⟨g1, 0, none⟩) P.length c1, .slice (some ⟨g2, 0, none⟩) Q.length c2] t)) := (Gr.refl _).alloc _
 match i, hp with
 | 0, hp =>
   obtain rfl : P = part := by simpa using hp
   exact ⟨_, 0, g1, 0, c1, rfl, alloc_new rfl rfl, h.keep (hg.trans ha)⟩
 | 1, hp =>
   obtain rfl : Q = part := by simpa using hp
   exact ⟨_, 0, g2, 0, c2, rfl, alloc_new rfl rfl, k.keep ha⟩
 | i + 2, hp => simp at hp

theorem plan_across (bs : List Bl) (W H g x y a : Nat) (w : World) (hW : W ≤ 48) (hH : H ≤ 48) (hx1 : 1 ≤ x) (hx : x ≤ W) (hy1 : 1 ≤ y) (hy : y ≤ H) (wt : Nat → Nat → Int) (ft : Nat → Nat → St) (hT : Tab w g wt ft)
 (ha1 : 1 ≤ a) (ha : a < x) (hf : ft x y = (2, (a : Int))) (hv : mst bs x y = mst bs a y + mst bs (x - a) y) (hgd : goodS bs (mst bs) x y (mst bs x y) (2, (a : Int)))
 (h1 : ∀ W', Gr w W' → Calls Tryz.prog 37 #[.pointer (some ⟨g, 0, none⟩), .int .i64 (a : Int), .int .i64 (y : Int)] W' (PPost bs a y W'))
 (h2 : ∀ W', Gr w W' → Calls Tryz.prog 37 #[.pointer (some ⟨g, 0, none⟩), .int .i64 ((x : Int) - (a : Int)), .int .i64 (y : Int)] W' (PPost bs (x - a) y W')) :
 Calls Tryz.prog 37 #[.pointer (some ⟨g, 0, none⟩), .int .i64 (x : Int), .int .i64 (y : Int)] w (PPost bs x y w) := by
 obtain ⟨c1, c2⟩ := hT.first (x := x) (y := y) (by omega) (by omega)
 rw [hf] at c1 c2
 have HV := Lib.hid hv
 have HGD := Lib.hid hgd
 have HA := Lib.hid h1
 have HB := Lib.hid h2
 have i1 : (0 : Int) ≤ (x : Int) := by omega
 have i2 : (x : Int) < 49 := by omega
 have i3 : (0 : Int) ≤ (y : Int) := by omega
 have i4 : (y : Int) < 49 := by omega
 have i5 : IntKind.i64.wrap ((x : Int) - (a : Int)) = (x : Int) - (a : Int) := IntWalk.i64_in _ (by omega)
 clear hf hv h1 h2 hT hgd
 dsimp only at c1 c2
 go_enter Tryz.func37, Tryz.ntmps37
 go_wp2_with fail
 generalize hWa : World.alloc w _ = Wa
 have hga : Gr w Wa := by rw [← hWa]; exact (Gr.refl w).alloc _
 have d0 : Wa.cell? ⟨w.heap.size, 0, none⟩ = some (.int .i64 2) := by rw [← hWa]; exact alloc_new rfl rfl
 have d1 : Wa.cell? ⟨w.heap.size, 1, none⟩ = some (.int .i64 (a : Int)) := by rw [← hWa]; exact alloc_new rfl rfl
 clear hWa c1 c2
 have hdr := (Gr.refl Wa).drew
 refine wp_region_held_drew (S := (fun W' => Gr w W' ∧ W'.cell? ⟨w.heap.size, 0, none⟩ = some (.int .i64 2) ∧ W'.cell? ⟨w.heap.size, 1, none⟩ = some (.int .i64 (a : Int)))) ?_ ?_ (fun hHeld => ?_)
 ·kernel_rfl
 ·((try dsimp only); (first | exact ⟨hga.drew, hdr.keep d0, hdr.keep d1⟩ | exact ⟨hHeld.1.trans HG1.out, HG1.out.keep hHeld.2.1, HG1.out.keep hHeld.2.2⟩ | exact ⟨hHeld.1.trans HG2.out, HG2.out.keep hHeld.2.1, HG2.out.keep hHeld.2.2⟩ | exact ⟨hHeld.1.alloc _, ((Gr.refl _).alloc _).keep hHeld.2.1, ((Gr.refl _).alloc _).keep hHeld.2.2⟩ | exact ⟨hHeld.1.trans HG3.out, HG3.out.keep hHeld.2.1, HG3.out.keep hHeld.2.2⟩))
 refine ti 0 (some 20) rfl rfl ?_; try simp only [Act.put, lA, lB, lC]
 refine ti 1 (some 21) rfl rfl ?_; try simp only [Act.put, lA, lB, lC]
 refine ti 2 (some 22) rfl rfl ?_; try simp only [Act.put, lA, lB, lC]
 refine ti 3 (some 23) rfl rfl ?_; try simp only [Act.put, lA, lB, lC]
 refine ti 4 (some 24) rfl rfl ?_; try simp only [Act.put, lA, lB, lC]
 refine ti 6 (some 26) rfl rfl ?_; try simp only [Act.put, lA, lB, lC]
 refine ti 7 (some 27) rfl rfl ?_; try simp only [Act.put, lA, lB, lC]
 refine ti 8 (some 28) rfl rfl ?_; try simp only [Act.put, lA, lB, lC]
 refine ti 9 (some 29) rfl rfl ?_; try simp only [Act.put, lA, lB, lC]
 refine ti 10 (some 30) rfl rfl ?_; try simp only [Act.put, lA, lB, lC]
 refine ti 11 (some 31) rfl rfl ?_; try simp only [Act.put, lA, lB, lC]
 refine tr [5] (.cons rfl (fun K hK => ?_) .nil)
 go_simp
 first | (go_at_call 37; (with_reducible refine (HA.out _ hHeld.1).mono ?_); rintro e w3 ⟨P1, m1, hM1, hs1, g1, k1, rfl, hl1, hb1, hown1, hg1⟩; have HG1 := Lib.hid hg1; have HM1 := Lib.hid hM1; have HS1 := Lib.hid hs1; have HO1 := Lib.hid (PlanPost.pts hown1); clear hM1 hs1 hown1 hg1 hl1 hb1) | (go_at_call 37; (with_reducible refine (HB.out _ hHeld.1).mono ?_); rintro e w4 ⟨P2, m2, hM2, hs2, g2, k2, rfl, hl2, hb2, hown2, hg2⟩; have HG2 := Lib.hid hg2; have HM2 := Lib.hid hM2; have HS2 := Lib.hid hs2; have HO2 := Lib.hid (PlanPost.pts hown2); clear hM2 hs2 hown2 hg2 hl2 hb2)
 refine hK.out _ _ ?_ (fun hHeld => ?_)
 ·((try dsimp only); (first | exact ⟨hga.drew, hdr.keep d0, hdr.keep d1⟩ | exact ⟨hHeld.1.trans HG1.out, HG1.out.keep hHeld.2.1, HG1.out.keep hHeld.2.2⟩ | exact ⟨hHeld.1.trans HG2.out, HG2.out.keep hHeld.2.1, HG2.out.keep hHeld.2.2⟩ | exact ⟨hHeld.1.alloc _, ((Gr.refl _).alloc _).keep hHeld.2.1, ((Gr.refl _).alloc _).keep hHeld.2.2⟩ | exact ⟨hHeld.1.trans HG3.out, HG3.out.keep hHeld.2.1, HG3.out.keep hHeld.2.2⟩))
 clear hK K; try simp only [Act.put, lA, lB, lC]
 refine tr [12] (.cons rfl (fun K hK => ?_) .nil)
 go_simp
 first | (go_at_call 37; (with_reducible refine (HA.out _ hHeld.1).mono ?_); rintro e w3 ⟨P1, m1, hM1, hs1, g1, k1, rfl, hl1, hb1, hown1, hg1⟩; have HG1 := Lib.hid hg1; have HM1 := Lib.hid hM1; have HS1 := Lib.hid hs1; have HO1 := Lib.hid (PlanPost.pts hown1); clear hM1 hs1 hown1 hg1 hl1 hb1) | (go_at_call 37; (with_reducible refine (HB.out _ hHeld.1).mono ?_); rintro e w4 ⟨P2, m2, hM2, hs2, g2, k2, rfl, hl2, hb2, hown2, hg2⟩; have HG2 := Lib.hid hg2; have HM2 := Lib.hid hM2; have HS2 := Lib.hid hs2; have HO2 := Lib.hid (PlanPost.pts hown2); clear hM2 hs2 hown2 hg2 hl2 hb2)
 refine hK.out _ _ ?_ (fun hHeld => ?_)
 ·((try dsimp only); (first | exact ⟨hga.drew, hdr.keep d0, hdr.keep d1⟩ | exact ⟨hHeld.1.trans HG1.out, HG1.out.keep hHeld.2.1, HG1.out.keep hHeld.2.2⟩ | exact ⟨hHeld.1.trans HG2.out, HG2.out.keep hHeld.2.1, HG2.out.keep hHeld.2.2⟩ | exact ⟨hHeld.1.alloc _, ((Gr.refl _).alloc _).keep hHeld.2.1, ((Gr.refl _).alloc _).keep hHeld.2.2⟩ | exact ⟨hHeld.1.trans HG3.out, HG3.out.keep hHeld.2.1, HG3.out.keep hHeld.2.2⟩))
 clear hK K; try simp only [Act.put, lA, lB, lC]
 refine tr [13] (.cons rfl (fun K hK => ?_) .nil)
 go_simp
 refine hK.out _ _ ?_ (fun hHeld => ?_)
 ·((try dsimp only); (first | exact ⟨hga.drew, hdr.keep d0, hdr.keep d1⟩ | exact ⟨hHeld.1.trans HG1.out, HG1.out.keep hHeld.2.1, HG1.out.keep hHeld.2.2⟩ | exact ⟨hHeld.1.trans HG2.out, HG2.out.keep hHeld.2.1, HG2.out.keep hHeld.2.2⟩ | exact ⟨hHeld.1.alloc _, ((Gr.refl _).alloc _).keep hHeld.2.1, ((Gr.refl _).alloc _).keep hHeld.2.2⟩ | exact ⟨hHeld.1.trans HG3.out, HG3.out.keep hHeld.2.1, HG3.out.keep hHeld.2.2⟩))
 clear hK K; try simp only [Act.put, lA, lB, lC]
 refine tr [14] (.cons rfl (fun K hK => ?_) .nil)
 go_simp
 first | (go_at_call 64; refine (planOf_any (2, (a : Int)) _ 2 2 [P1, P2] _ rfl (by omega) (two_len HM1.out HM2.out) (two_flat HM1.out HM2.out (by omega) (by omega) (by omega) (by omega) (by omega) (by omega) (by omega) (by omega)) (two_parts HO1.out HO2.out HG2.out)).mono ?_; rintro e w5 ⟨g3, k3, rfl, hl3, hb3, hown3, hg3⟩; have HG3 := Lib.hid hg3; have HO3 := Lib.hid hown3; clear hown3 hg3)
 refine hK.out _ _ ?_ (fun hHeld => ?_)
 ·((try dsimp only); (first | exact ⟨hga.drew, hdr.keep d0, hdr.keep d1⟩ | exact ⟨hHeld.1.trans HG1.out, HG1.out.keep hHeld.2.1, HG1.out.keep hHeld.2.2⟩ | exact ⟨hHeld.1.trans HG2.out, HG2.out.keep hHeld.2.1, HG2.out.keep hHeld.2.2⟩ | exact ⟨hHeld.1.alloc _, ((Gr.refl _).alloc _).keep hHeld.2.1, ((Gr.refl _).alloc _).keep hHeld.2.2⟩ | exact ⟨hHeld.1.trans HG3.out, HG3.out.keep hHeld.2.1, HG3.out.keep hHeld.2.2⟩))
 clear hK K; try simp only [Act.put, lA, lB, lC]
 refine ti 15 (some 6) rfl rfl ?_; try simp only [Act.put, lA, lB, lC]
 refine wpAnyH_done ?_ ?_ _
 ·kernel_rfl
 rotate_left
 all_goals
  go_wp2_with fail
  go_ret
  refine ⟨_, _, Makes.across x y a P1 P2 m1 m2 ha1 ha HM1.out HM2.out, ⟨by rw [sumV_app, HS1.out.1, HS2.out.1, HV.out], PlanOf.across x y a P1 P2 HGD.out HS1.out.2 HS2.out.2⟩, g3, k3, ?_, ?_, ?_, ?_, hHeld.1⟩
  ·simp [List.flatten]
  ·simpa [List.flatten] using hl3
  ·have h4 := (hga.trans (hdr.trans (HG1.out.trans HG2.out))).size
   have h5 := hb3
   simp at h5
   omega
  ·have h5 := owns_base HO3.out (hga.trans (hdr.trans ((HG1.out.trans HG2.out).alloc (.cells #[.slice (some ⟨g1, 0, none⟩) P1.length k1, .slice (some ⟨g2, 0, none⟩) P2.length k2] 60)))).size
   simpa [List.flatten] using h5

theorem plan_along (bs : List Bl) (W H g x y a : Nat) (w : World) (hW : W ≤ 48) (hH : H ≤ 48) (hx1 : 1 ≤ x) (hx : x ≤ W) (hy1 : 1 ≤ y) (hy : y ≤ H) (wt : Nat → Nat → Int) (ft : Nat → Nat → St) (hT : Tab w g wt ft)
 (ha1 : 1 ≤ a) (ha : a < y) (hf : ft x y = (3, (a : Int))) (hv : mst bs x y = mst bs x a + mst bs x (y - a)) (hgd : goodS bs (mst bs) x y (mst bs x y) (3, (a : Int)))
 (h1 : ∀ W', Gr w W' → Calls Tryz.prog 37 #[.pointer (some ⟨g, 0, none⟩), .int .i64 (x : Int), .int .i64 (a : Int)] W' (PPost bs x a W'))
 (h2 : ∀ W', Gr w W' → Calls Tryz.prog 37 #[.pointer (some ⟨g, 0, none⟩), .int .i64 (x : Int), .int .i64 ((y : Int) - (a : Int))] W' (PPost bs x (y - a) W')) :
 Calls Tryz.prog 37 #[.pointer (some ⟨g, 0, none⟩), .int .i64 (x : Int), .int .i64 (y : Int)] w (PPost bs x y w) := by
 obtain ⟨c1, c2⟩ := hT.first (x := x) (y := y) (by omega) (by omega)
 rw [hf] at c1 c2
 have HV := Lib.hid hv
 have HGD := Lib.hid hgd
 have HA := Lib.hid h1
 have HB := Lib.hid h2
 have i1 : (0 : Int) ≤ (x : Int) := by omega
 have i2 : (x : Int) < 49 := by omega
 have i3 : (0 : Int) ≤ (y : Int) := by omega
 have i4 : (y : Int) < 49 := by omega
 have i5 : IntKind.i64.wrap ((y : Int) - (a : Int)) = (y : Int) - (a : Int) := IntWalk.i64_in _ (by omega)
 clear hf hv h1 h2 hT hgd
 dsimp only at c1 c2
 go_enter Tryz.func37, Tryz.ntmps37
 go_wp2_with fail
 generalize hWa : World.alloc w _ = Wa
 have hga : Gr w Wa := by rw [← hWa]; exact (Gr.refl w).alloc _
 have d0 : Wa.cell? ⟨w.heap.size, 0, none⟩ = some (.int .i64 3) := by rw [← hWa]; exact alloc_new rfl rfl
 have d1 : Wa.cell? ⟨w.heap.size, 1, none⟩ = some (.int .i64 (a : Int)) := by rw [← hWa]; exact alloc_new rfl rfl
 clear hWa c1 c2
 have hdr := (Gr.refl Wa).drew
 refine wp_region_held_drew (S := (fun W' => Gr w W' ∧ W'.cell? ⟨w.heap.size, 0, none⟩ = some (.int .i64 3) ∧ W'.cell? ⟨w.heap.size, 1, none⟩ = some (.int .i64 (a : Int)))) ?_ ?_ (fun hHeld => ?_)
 ·kernel_rfl
 ·((try dsimp only); (first | exact ⟨hga.drew, hdr.keep d0, hdr.keep d1⟩ | exact ⟨hHeld.1.trans HG1.out, HG1.out.keep hHeld.2.1, HG1.out.keep hHeld.2.2⟩ | exact ⟨hHeld.1.trans HG2.out, HG2.out.keep hHeld.2.1, HG2.out.keep hHeld.2.2⟩ | exact ⟨hHeld.1.alloc _, ((Gr.refl _).alloc _).keep hHeld.2.1, ((Gr.refl _).alloc _).keep hHeld.2.2⟩ | exact ⟨hHeld.1.trans HG3.out, HG3.out.keep hHeld.2.1, HG3.out.keep hHeld.2.2⟩))
 refine ti 0 (some 37) rfl rfl ?_; try simp only [Act.put, lA, lB, lC]
 refine ti 1 (some 38) rfl rfl ?_; try simp only [Act.put, lA, lB, lC]
 refine ti 2 (some 39) rfl rfl ?_; try simp only [Act.put, lA, lB, lC]
 refine ti 3 (some 40) rfl rfl ?_; try simp only [Act.put, lA, lB, lC]
 refine ti 4 (some 41) rfl rfl ?_; try simp only [Act.put, lA, lB, lC]
 refine ti 6 (some 43) rfl rfl ?_; try simp only [Act.put, lA, lB, lC]
 refine ti 7 (some 44) rfl rfl ?_; try simp only [Act.put, lA, lB, lC]
 refine ti 8 (some 45) rfl rfl ?_; try simp only [Act.put, lA, lB, lC]
 refine ti 9 (some 46) rfl rfl ?_; try simp only [Act.put, lA, lB, lC]
 refine ti 10 (some 47) rfl rfl ?_; try simp only [Act.put, lA, lB, lC]
 refine ti 11 (some 48) rfl rfl ?_; try simp only [Act.put, lA, lB, lC]
 refine tr [5] (.cons rfl (fun K hK => ?_) .nil)
 go_simp
 first | (go_at_call 37; (with_reducible refine (HA.out _ hHeld.1).mono ?_); rintro e w3 ⟨P1, m1, hM1, hs1, g1, k1, rfl, hl1, hb1, hown1, hg1⟩; have HG1 := Lib.hid hg1; have HM1 := Lib.hid hM1; have HS1 := Lib.hid hs1; have HO1 := Lib.hid (PlanPost.pts hown1); clear hM1 hs1 hown1 hg1 hl1 hb1) | (go_at_call 37; (with_reducible refine (HB.out _ hHeld.1).mono ?_); rintro e w4 ⟨P2, m2, hM2, hs2, g2, k2, rfl, hl2, hb2, hown2, hg2⟩; have HG2 := Lib.hid hg2; have HM2 := Lib.hid hM2; have HS2 := Lib.hid hs2; have HO2 := Lib.hid (PlanPost.pts hown2); clear hM2 hs2 hown2 hg2 hl2 hb2)
 refine hK.out _ _ ?_ (fun hHeld => ?_)
 ·((try dsimp only); (first | exact ⟨hga.drew, hdr.keep d0, hdr.keep d1⟩ | exact ⟨hHeld.1.trans HG1.out, HG1.out.keep hHeld.2.1, HG1.out.keep hHeld.2.2⟩ | exact ⟨hHeld.1.trans HG2.out, HG2.out.keep hHeld.2.1, HG2.out.keep hHeld.2.2⟩ | exact ⟨hHeld.1.alloc _, ((Gr.refl _).alloc _).keep hHeld.2.1, ((Gr.refl _).alloc _).keep hHeld.2.2⟩ | exact ⟨hHeld.1.trans HG3.out, HG3.out.keep hHeld.2.1, HG3.out.keep hHeld.2.2⟩))
 clear hK K; try simp only [Act.put, lA, lB, lC]
 refine tr [12] (.cons rfl (fun K hK => ?_) .nil)
 go_simp
 first | (go_at_call 37; (with_reducible refine (HA.out _ hHeld.1).mono ?_); rintro e w3 ⟨P1, m1, hM1, hs1, g1, k1, rfl, hl1, hb1, hown1, hg1⟩; have HG1 := Lib.hid hg1; have HM1 := Lib.hid hM1; have HS1 := Lib.hid hs1; have HO1 := Lib.hid (PlanPost.pts hown1); clear hM1 hs1 hown1 hg1 hl1 hb1) | (go_at_call 37; (with_reducible refine (HB.out _ hHeld.1).mono ?_); rintro e w4 ⟨P2, m2, hM2, hs2, g2, k2, rfl, hl2, hb2, hown2, hg2⟩; have HG2 := Lib.hid hg2; have HM2 := Lib.hid hM2; have HS2 := Lib.hid hs2; have HO2 := Lib.hid (PlanPost.pts hown2); clear hM2 hs2 hown2 hg2 hl2 hb2)
 refine hK.out _ _ ?_ (fun hHeld => ?_)
 ·((try dsimp only); (first | exact ⟨hga.drew, hdr.keep d0, hdr.keep d1⟩ | exact ⟨hHeld.1.trans HG1.out, HG1.out.keep hHeld.2.1, HG1.out.keep hHeld.2.2⟩ | exact ⟨hHeld.1.trans HG2.out, HG2.out.keep hHeld.2.1, HG2.out.keep hHeld.2.2⟩ | exact ⟨hHeld.1.alloc _, ((Gr.refl _).alloc _).keep hHeld.2.1, ((Gr.refl _).alloc _).keep hHeld.2.2⟩ | exact ⟨hHeld.1.trans HG3.out, HG3.out.keep hHeld.2.1, HG3.out.keep hHeld.2.2⟩))
 clear hK K; try simp only [Act.put, lA, lB, lC]
 refine tr [13] (.cons rfl (fun K hK => ?_) .nil)
 go_simp
 refine hK.out _ _ ?_ (fun hHeld => ?_)
 ·((try dsimp only); (first | exact ⟨hga.drew, hdr.keep d0, hdr.keep d1⟩ | exact ⟨hHeld.1.trans HG1.out, HG1.out.keep hHeld.2.1, HG1.out.keep hHeld.2.2⟩ | exact ⟨hHeld.1.trans HG2.out, HG2.out.keep hHeld.2.1, HG2.out.keep hHeld.2.2⟩ | exact ⟨hHeld.1.alloc _, ((Gr.refl _).alloc _).keep hHeld.2.1, ((Gr.refl _).alloc _).keep hHeld.2.2⟩ | exact ⟨hHeld.1.trans HG3.out, HG3.out.keep hHeld.2.1, HG3.out.keep hHeld.2.2⟩))
 clear hK K; try simp only [Act.put, lA, lB, lC]
 refine tr [14] (.cons rfl (fun K hK => ?_) .nil)
 go_simp
 first | (go_at_call 64; refine (planOf_any (3, (a : Int)) _ 2 2 [P1, P2] _ rfl (by omega) (two_len HM1.out HM2.out) (two_flat HM1.out HM2.out (by omega) (by omega) (by omega) (by omega) (by omega) (by omega) (by omega) (by omega)) (two_parts HO1.out HO2.out HG2.out)).mono ?_; rintro e w5 ⟨g3, k3, rfl, hl3, hb3, hown3, hg3⟩; have HG3 := Lib.hid hg3; have HO3 := Lib.hid hown3; clear hown3 hg3)
 refine hK.out _ _ ?_ (fun hHeld => ?_)
 ·((try dsimp only); (first | exact ⟨hga.drew, hdr.keep d0, hdr.keep d1⟩ | exact ⟨hHeld.1.trans HG1.out, HG1.out.keep hHeld.2.1, HG1.out.keep hHeld.2.2⟩ | exact ⟨hHeld.1.trans HG2.out, HG2.out.keep hHeld.2.1, HG2.out.keep hHeld.2.2⟩ | exact ⟨hHeld.1.alloc _, ((Gr.refl _).alloc _).keep hHeld.2.1, ((Gr.refl _).alloc _).keep hHeld.2.2⟩ | exact ⟨hHeld.1.trans HG3.out, HG3.out.keep hHeld.2.1, HG3.out.keep hHeld.2.2⟩))
 clear hK K; try simp only [Act.put, lA, lB, lC]
 refine ti 15 (some 6) rfl rfl ?_; try simp only [Act.put, lA, lB, lC]
 refine wpAnyH_done ?_ ?_ _
 ·kernel_rfl
 rotate_left
 all_goals
  go_wp2_with fail
  go_ret
  refine ⟨_, _, Makes.along x y a P1 P2 m1 m2 ha1 ha HM1.out HM2.out, ⟨by rw [sumV_app, HS1.out.1, HS2.out.1, HV.out], PlanOf.along x y a P1 P2 HGD.out HS1.out.2 HS2.out.2⟩, g3, k3, ?_, ?_, ?_, ?_, hHeld.1⟩
  ·simp [List.flatten]
  ·simpa [List.flatten] using hl3
  ·have h4 := (hga.trans (hdr.trans (HG1.out.trans HG2.out))).size
   have h5 := hb3
   simp at h5
   omega
  ·have h5 := owns_base HO3.out (hga.trans (hdr.trans ((HG1.out.trans HG2.out).alloc (.cells #[.slice (some ⟨g1, 0, none⟩) P1.length k1, .slice (some ⟨g2, 0, none⟩) P2.length k2] 60)))).size
   simpa [List.flatten] using h5

theorem plan_any (bs : List Bl) (W H g : Nat) (hW : W ≤ 48) (hH : H ≤ 48) : ∀ (d x y : Nat) (w : World), x + y ≤ d → 1 ≤ x → x ≤ W → 1 ≤ y → y ≤ H → TFull bs W H g w →
 Calls Tryz.prog 37 #[.pointer (some ⟨g, 0, none⟩), .int .i64 (x : Int), .int .i64 (y : Int)] w (PPost bs x y w) := by
 intro d
 induction d with
 | zero => intro x y w hd hx1; omega
 | succ d ih =>
   intro x y w hd hx1 hx hy1 hy hT
   obtain ⟨wt, ft, hTab, hgood⟩ := hT
   have hgd := (hgood x y hx hy).2 hx1 hy1
   rcases hgd with ⟨hs, hv⟩ | ⟨i, hi, hf, hs, hv, -⟩ | ⟨a, ha1, ha, hs, hv, -⟩ | ⟨a, ha1, ha, hs, hv, -⟩
   all_goals have hgd := (hgood x y hx hy).2 hx1 hy1
   ·refine plan_leaf bs W H g x y w hW hH hx1 hx hy1 hy wt ft hTab [] (by rw [hs]; exact Makes.waste x y) ⟨by rw [hv]; rfl, PlanOf.leaf x y _ hgd (Or.inl (by rw [hs]))⟩ (Or.inl (by rw [hs]))
   ·refine plan_leaf bs W H g x y w hW hH hx1 hx hy1 hy wt ft hTab [bl bs i] (by rw [hs]; exact Makes.make x y i hi hf) ⟨by rw [hv]; simp [sumV], PlanOf.leaf x y _ hgd (Or.inr (by rw [hs]))⟩ (Or.inr (by rw [hs]))
   ·refine plan_across bs W H g x y a w hW hH hx1 hx hy1 hy wt ft hTab ha1 ha hs hv (hs ▸ hgd) (fun W' hg => ih a y W' (by omega) ha1 (by omega) hy1 hy ⟨wt, ft, hTab.keep hg, hgood⟩) (fun W' hg => ?_)
    have := ih (x - a) y W' (by omega) (by omega) (by omega) hy1 hy ⟨wt, ft, hTab.keep hg, hgood⟩
    rwa [show ((x - a : Nat) : Int) = (x : Int) - (a : Int) by omega] at this
   ·refine plan_along bs W H g x y a w hW hH hx1 hx hy1 hy wt ft hTab ha1 ha hs hv (hs ▸ hgd) (fun W' hg => ih x a W' (by omega) hx1 hx ha1 (by omega) ⟨wt, ft, hTab.keep hg, hgood⟩) (fun W' hg => ?_)
    have := ih x (y - a) W' (by omega) hx1 hx (by omega) (by omega) ⟨wt, ft, hTab.keep hg, hgood⟩
    rwa [show ((y - a : Nat) : Int) = (y : Int) - (a : Int) by omega] at this

set_option maxRecDepth 100000
set_option maxHeartbeats 80000000

def rowB (H : Nat) (row : List Int) : Bool := decide (row.length = H + 1) && row.all numB
def formB (W H : Nat) (tb : List (List Int)) : Bool := decide (tb.length = W + 1) && tb.all (rowB H)
def boundB (bs : List Bl) (tb : List (List Int)) (W H : Nat) : Bool := (List.range (W + 1)).all fun w => (List.range (H + 1)).all fun h => decide (needT bs (at2 tb) w h ≤ at2 tb w h)
set_option maxRecDepth 100000
set_option maxHeartbeats 80000000

def checkC (W H : Int) (bs : List Bl) (tb : List (List Int)) : Int :=
 if taskB W H bs = true then (if (formB W.toNat H.toNat tb && boundB bs tb W.toNat H.toNat) = true then 0 else 21) else 2

set_option maxRecDepth 100000
set_option maxHeartbeats 80000000

def BestPost (bs : List Bl) (W H : Nat) (w : World) (e : Ending) (w' : World) : Prop :=
 ∃ P m g c g2, e = .returned (.tuple #[.slice (some ⟨g, 0, none⟩) P.length c, .slice (some ⟨g2, 0, none⟩) (W + 1) (W + 1), .int .i64 0]) ∧ Makes bs W H P m ∧ sumV m = mst bs W H ∧ P.length ≤ c ∧ w.heap.size ≤ g ∧ w.heap.size ≤ g2 ∧
  w'.ownsRow w.heap.size 97 2 (.slice (some ⟨g, 0, none⟩) P.length c) P.length (flatE enc2 P) ∧ RowsOwn w' w.heap.size g2 (mstTb bs W H) ∧ Gr w w'

def BestPost1 (bs : List Bl) (W H : Nat) (w : World) (e : Ending) (w' : World) : Prop :=
 ∃ P m g c g2, e = .returned (.tuple #[.slice (some ⟨g, 0, none⟩) P.length c, .slice (some ⟨g2, 0, none⟩) (W + 1) (W + 1), .int .i64 0]) ∧ Makes bs W H P m ∧ (sumV m = mst bs W H ∧ PlanOf bs W H P) ∧ P.length ≤ c ∧ w.heap.size ≤ g ∧ w.heap.size ≤ g2 ∧
  w'.ownsRow w.heap.size 97 2 (.slice (some ⟨g, 0, none⟩) P.length c) P.length (flatE enc2 P) ∧ RowsOwn w' w.heap.size g2 (mstTb bs W H) ∧ Gr w w'

theorem Best_one (W H : Nat) (BA : Option Addr) (bn bc : Nat) (bs : List Bl) (w : World) (hbn : bs.length = bn) (hbl : bn ≤ 281474976710656) (hB : Tris w BA bs) (ht : taskB W H bs = true) :
 Calls Tryz.prog 16 #[.int .i64 (W : Int), .int .i64 (H : Int), .slice BA bn bc] w (BestPost1 bs W H w) := by
 obtain ⟨⟨hW1, hW2⟩, ⟨hH1, hH2⟩, h16, hbs⟩ := (taskB_iff _ _ _).1 ht
 have HT := Lib.hid (isTask_any W H BA bn bc bs w hbn hbl hB _ ht)
 have HF := Lib.hid (fun W' (g : Gr w W') => fill_any W H BA bn bc bs W' (by omega) (by omega) hbn (by omega) hbs (hB.keep g))
 have HP := Lib.hid (fun g W' (h : TFull bs W H g W') => plan_any bs W H g (by omega) (by omega) (W + H) W H W' (Nat.le_refl _) (by omega) (Nat.le_refl _) (by omega) (Nat.le_refl _) h)
 have HB := Lib.hid (fun g W' (h : TFull bs W H g W') => bound_any bs W H g W' (by omega) (by omega) h)
 clear ht hbn hB hbs h16
 go_enter Tryz.func16, Tryz.ntmps16
 go_wp2_with fail
 refine HT.out.mono ?_
 rintro e w1 ⟨rfl, hb⟩
 go_wp2_with fail
 refine (HF.out _ hb).mono ?_
 rintro e w2 ⟨g, rfl, -, hT2, hb2⟩
 have HT2 := Lib.hid hT2
 clear hT2
 go_wp2_with fail
 refine (HP.out _ _ HT2.out).mono ?_
 rintro e w3 ⟨P, m, hM, hs, g1, c1, rfl, hl, hg1, hown, hb3⟩
 have HM := Lib.hid hM
 have HS := Lib.hid hs
 have HO := Lib.hid hown
 clear hM hs hown
 go_wp2_with fail
 refine (HB.out _ _ (HT2.out.keep hb3)).mono ?_
 rintro e w4 ⟨g2, rfl, hg2, hR, hb4⟩
 have HR := Lib.hid hR
 clear hR
 go_wp2_with fail
 go_ret3
 have e1 := hb.size
 have e2 := (hb.trans hb2).size
 have e3 := ((hb.trans hb2).trans hb3).size
 refine ⟨P, m, g1, c1, g2, rfl, HM.out, HS.out, hl, by omega, by omega, owns_gr (owns_base HO.out e2) hb4, ?_, ((hb.trans hb2).trans hb3).trans hb4⟩
 obtain ⟨cs, h1, h2⟩ := HR.out
 refine ⟨cs, h1, fun i row hr => ?_⟩
 obtain ⟨b, c, h3, h4⟩ := h2 i row hr
 exact ⟨b, c, h3, owns_base h4 e3⟩

end Go.Proofs.YtobcdkjomehdkaaGreat
