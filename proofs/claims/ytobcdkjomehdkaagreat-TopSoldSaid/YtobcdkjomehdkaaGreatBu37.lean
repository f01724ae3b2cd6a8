/- Layer 4: newPlan, the walk. -/
import Derived.Test.YtobcdkjomehdkaaGreatBu36
import Derived.Deep.CutRange
namespace Go.Proofs.YtobcdkjomehdkaaGreat
open Go.RowKit
set_option linter.unusedSimpArgs false
set_option maxRecDepth 100000
set_option maxHeartbeats 80000000

theorem NetD.set {b0 : Nat} {w : World} {g m h N : Nat} {D : Nat → Nat → Prop} {C : Nat → Nat → Int} {cnt : Nat} (k : NetD b0 w g m h N D C cnt) {p : Addr} (hp : p.block < b0) (u : Value) : NetD b0 (w.setCell p u) g m h N D C cnt := by
 obtain ⟨nx, vs, k1, k2, k3⟩ := k
 obtain ⟨cs, c1, c2⟩ := k1.lists
 have hl := k1.low
 exact ⟨nx, vs, ⟨Blk.other k1.net (by omega) u, ⟨cs, Blk.other c1 (by omega) u, c2⟩, fun a ha => ownsRow_setCell_other (k1.own a ha) (fun e => by have := ((k1.own a ha).lt _ e).1; omega) u, k1.apart, k1.low⟩, k2.set (by omega) u, k3⟩

def PlanPost4 (B n : Nat) (A : Option Addr) (c : Nat) (l : List Jb) (w : World) (e : Ending) (w' : World) : Prop :=
 ∃ p g m fb SA sc nx F r', e = .returned (.pointer (some ⟨p, 0, none⟩)) ∧ Blk w' p 117 #[.pointer (some ⟨g, 0, none⟩), .int .i64 (B : Int), .slice A n c, .slice SA ((tms l).length - 1) sc, .map (some fb)] ∧ w'.cell? ⟨g, 0, none⟩ = some (.map (some m)) ∧
  Pts w' SA (spanL (tms l)) ∧ FM w' fb F ∧ RM w' m r' ∧ Found r' nx (2 + n + ((tms l).length - 1)) F ∧ F 1 = none ∧ Flowed (2 + n + ((tms l).length - 1)) (rD (arcs3 l (tms l) n ((tms l).length - 1) ((tms l).length - 1)) (capA B l (tms l) n)) r' ∧
  NxD (2 + n + ((tms l).length - 1)) (arcs3 l (tms l) n ((tms l).length - 1) ((tms l).length - 1)) nx 4096 ∧ Gr w w'

theorem newPlan_any (B : Nat) (A : Option Addr) (n c : Nat) (l : List Jb) (w : World) (hB : 1 ≤ B ∧ B ≤ 8) (hn : l.length = n) (hl : n ≤ 32) (hJ : JobsP l) (hp : Tris w A l) :
 Calls Tryz.prog 32 #[.int .i64 (B : Int), .slice A n c] w (PlanPost4 B n A c l w) := by
 have HN := Lib.hid hn
 have HP := Lib.hid hp
 have HJ := Lib.hid hJ
 have HS := Lib.hid (spansOf_any A n c l w hn (by omega) hp)
 have hTl : (tms l).length ≤ 64 := by have := timesL_len (tmL l); rw [tmL_len, hn] at this; unfold tms; omega
 clear hn hp hJ
 go_enter Tryz.func32, Tryz.ntmps32
 go_wp2_with fail
 refine HS.out.mono ?_
 rintro e w1 ⟨SA, sc, rfl, hspan, hg1⟩
 obtain ⟨K, hK⟩ : ∃ K, (tms l).length - 1 = K := ⟨_, rfl⟩
 rw [hK]
 have HK := Lib.hid hK
 have hK64 : K ≤ 63 := by omega
 have HKN : Hid (K ≤ 2 * n) := Lib.hid (by have := timesL_len (tmL l); rw [tmL_len, HN.out] at this; change (tms l).length ≤ _ at this; omega)
 have HSP := Lib.hid hspan
 have HP1 := Lib.hid (HP.out.keep hg1)
 clear hspan hK hTl HS
 go_upto_region 2 with fail
 generalize hW2 : World.alloc w1 _ = w2
 have hg12 : Gr w1 w2 := by rw [← hW2]; exact (Gr.refl w1).alloc _
 have hB2 : Blk w2 w1.heap.size 117 #[.pointer none, .int .i64 (B : Int), .slice A n c, .slice SA K sc, .map none] := by rw [← hW2]; exact heap_alloc_new w1 _
 obtain ⟨pb, hpb⟩ : ∃ pb, w1.heap.size = pb := ⟨_, rfl⟩
 rw [hpb] at hB2 ⊢
 have HPB := Lib.hid hpb
 have HB2 := Lib.hid hB2
 have p3 := hB2.cell 3
 have hNW : ∀ W, Calls Tryz.prog 53 #[.int .i64 (2 + (n : Int) + (K : Int))] W fun e w' => ∃ g m h, e = .returned (.pointer (some ⟨g, 0, none⟩)) ∧ NetW W.heap.size w' g m h (2 + n + K) (fun _ => []) (fun _ => .slice none 0 0) ∧ RM w' m (fun _ _ => 0) ∧ Gr W w' := fun W => by
  have := newNetwork_any (2 + n + K) (by omega) W
  rwa [show ((2 + n + K : Nat) : Int) = 2 + (n : Int) + (K : Int) by omega] at this
 have HNW := Lib.hid hNW
 clear hW2 hB2 hNW hpb
 go_wp2_with fail
 refine (HNW.out _).mono ?_
 rintro e w3 ⟨g, m, h, rfl, hnw, hrm, hg23⟩
 have HND := Lib.hid (NetD.nil (capA B l (tms l) n) hnw hrm)
 have HB3 := Lib.hid (HB2.out.keep hg23)
 have hg13 := hg12.trans hg23
 have hb0 : pb < w2.heap.size := HB2.out.lt
 have p0 := HB3.out.cell 0
 have f0 := HB3.out.free 0
 clear hnw hrm HNW HB2 p3
 go_wp2_with fail
 generalize hW4 : w3.setCell _ _ = w4
 have HB4 : Hid (Blk w4 pb 117 #[.pointer (some ⟨g, 0, none⟩), .int .i64 (B : Int), .slice A n c, .slice SA K sc, .map none]) := Lib.hid (by rw [← hW4]; exact HB3.out.put 0 _)
 have HN4 : Hid (NetD w2.heap.size w4 g m h (2 + n + K) (arcs1 l (tms l) n K 0) (capA B l (tms l) n) (0 * (K + 1))) := Lib.hid (by rw [← hW4]; exact ((HND.out.set (by exact hb0) _).same (arcs_start l (tms l) n K)).more (Nat.zero_le _))
 have hg14 : Gr w1 w4 := by rw [← hW4]; exact Gr.setCell hg13 (by rw [HPB.out]; exact Nat.le_refl _) _
 obtain ⟨b0, hb0'⟩ : ∃ b0, w2.heap.size = b0 := ⟨_, rfl⟩
 rw [hb0'] at HN4 hb0
 have hb1 : w1.heap.size ≤ b0 := by rw [← hb0']; exact hg12.size
 clear hW4 HB3 HND p0 f0 hg13 hg23 hg12 hb0'
 go_loopw [6, 34] (fun q z wr => ∃ j : Nat, j ≤ n ∧ z = .int .i64 (j : Int) ∧ q = .int .i64 (workL (l.take j)) ∧ Hid (Blk wr pb 117 #[.pointer (some ⟨g, 0, none⟩), .int .i64 (B : Int), .slice A n c, .slice SA K sc, .map none]) ∧ Hid (NetD b0 wr g m h (2 + n + K) (arcs1 l (tms l) n K j) (capA B l (tms l) n) (j * (K + 1))) ∧ Gr w1 wr) (fun _ z _ => n - (intOf z).toNat)
 case atStart => exact ⟨0, Nat.zero_le _, rfl, rfl, HB4, HN4, hg14⟩
 case round =>
  clear HB4 HN4 hg14
  obtain ⟨j, hj, rfl, rfl, hB, hN, hgr⟩ := hrel
  have hwb := workL_bd (l := l.take j) (fun x hx => (HJ.out x (List.mem_of_mem_take hx)).2.2)
  have hlj : (l.take j).length = j := by have := HN.out; simp; omega
  rw [hlj] at hwb
  have hjK : j * (K + 1) ≤ 32 * 64 := Nat.mul_le_mul (by omega) (by omega)
  by_cases hlt : j < n
  ·obtain ⟨b, off, rfl, q0, q1, q2⟩ := Tris_at (HP1.out.keep hgr) (i := j) (by rw [HN.out]; exact hlt)
   have HJB := Lib.hid (HJ.out _ (List.mem_of_getElem? (getD_of (0, 0, 0) (by rw [HN.out]; exact hlt))))
   have HTK : Hid (workL (l.take (j + 1)) = workL (l.take j) + (jbA l j).2.2) := Lib.hid (by rw [List.take_add_one, getD_of (0, 0, 0) (by rw [HN.out]; exact hlt), workL_app]; simp [workL, jbA])
   change Hid ((0 ≤ (jbA l j).1 ∧ (jbA l j).1 ≤ 4194304) ∧ (0 ≤ (jbA l j).2.1 ∧ (jbA l j).2.1 ≤ 4194304) ∧ 1 ≤ (jbA l j).2.2 ∧ (jbA l j).2.2 ≤ 1048576) at HJB
   change wr.cell? ⟨b, off + j * 3, none⟩ = some (.int .i64 (jbA l j).1) at q0
   change wr.cell? ⟨b, off + j * 3 + 1, none⟩ = some (.int .i64 (jbA l j).2.1) at q1
   change wr.cell? ⟨b, off + j * 3 + 2, none⟩ = some (.int .i64 (jbA l j).2.2) at q2
   obtain ⟨jb, hjb⟩ : ∃ jb, jbA l j = jb := ⟨_, rfl⟩
   rw [hjb] at q0 q1 q2 HJB HTK
   have HJA := Lib.hid hjb
   clear hjb
   obtain ⟨a1, a2, a3⟩ := jb
   dsimp only at q0 q1 q2 HJB HTK
   have hjb3 := HJB.out
   generalize workL (l.take j) = wk at HTK hwb ⊢
   have hji : (j : Int) < (n : Int) := by omega
   go_upto_region 8 with fail
   generalize hW5 : World.alloc wr _ = w5
   have hg5 : Gr wr w5 := by rw [← hW5]; exact (Gr.refl wr).alloc _
   have hZ5 : Blk w5 wr.heap.size 50 #[.int .i64 a1, .int .i64 a2, .int .i64 a3] := by rw [← hW5]; exact heap_alloc_new wr _
   generalize wr.heap.size = Z at hZ5 ⊢
   have hdr : Gr w5 w5.drew := (Gr.refl w5).drew
   have HB5 := Lib.hid (hB.out.keep (hg5.trans hdr))
   have HZ5 := Lib.hid (hZ5.keep hdr)
   have HN5 := Lib.hid (hN.out.keep (hg5.trans hdr))
   have hgr5 := hgr.trans (hg5.trans hdr)
   have p0 := (hB.out.keep hg5).cell 0
   have z2 := hZ5.cell 2
   have HJN := Lib.hid (fun W => jobNode_any (.pointer (some ⟨pb, 0, none⟩)) j W (by omega))
   have hJI : ∀ W, NetD b0 W g m h (2 + n + K) (arcs1 l (tms l) n K j) (capA B l (tms l) n) (j * (K + 1)) → Calls Tryz.prog 54 #[.pointer (some ⟨g, 0, none⟩), .int .i64 0, .int .i64 (2 + (j : Int)), .int .i64 a3] W fun e w' => e = .returned (.tuple #[]) ∧ NetD b0 w' g m h (2 + n + K) (orD (arcs1 l (tms l) n K j) 0 (2 + j)) (capA B l (tms l) n) (j * (K + 1) + 1) ∧ Gn b0 W w' := fun W hW => by
    have := joinD_any hW 0 (2 + j) a3 (by unfold capA; rw [if_pos rfl, show 2 + j - 2 = j by omega, HJA.out]) (by omega) (by omega) (by omega) (by omega) (by omega)
    rwa [show ((2 + j : Nat) : Int) = 2 + (j : Int) by omega, show ((0 : Nat) : Int) = 0 from rfl] at this
   have HJI := Lib.hid hJI
   clear hW5 hg5 hZ5 hdr hB hN hgr hJI q0 q1 q2
   refine wp_region_held_drew (S := (fun W' => W'.cell? ⟨pb, 0, none⟩ = some (.pointer (some ⟨g, 0, none⟩)) ∧ W'.cell? ⟨Z, 2, none⟩ = some (.int .i64 a3))) ?_ ?_ (fun hHeld => ?_)
   ·kernel_rfl
   ·((try dsimp only); (first | exact hHeld | exact ⟨p0, z2⟩ | exact ⟨HB6.out.cell 0, HZ6.out.cell 2⟩))
   refine ti 0 (some 43) rfl rfl ?_; try simp only [Act.put, lA, lB, lC]
   refine ti 1 (some 44) rfl rfl ?_; try simp only [Act.put, lA, lB, lC]
   refine ti 2 (some 45) rfl rfl ?_; try simp only [Act.put, lA, lB, lC]
   refine ti 3 (some 46) rfl rfl ?_; try simp only [Act.put, lA, lB, lC]
   refine ti 4 (some 47) rfl rfl ?_; try simp only [Act.put, lA, lB, lC]
   refine ti 5 (some 48) rfl rfl ?_; try simp only [Act.put, lA, lB, lC]
   refine ti 7 (some 50) rfl rfl ?_; try simp only [Act.put, lA, lB, lC]
   refine ti 8 (some 51) rfl rfl ?_; try simp only [Act.put, lA, lB, lC]
   refine tr [6] (.cons rfl (fun K hK => ?_) .nil)
   go_simp
   first | (go_at_call 55; (with_reducible refine (HJN.out _).mono ?_); rintro e w' ⟨rfl, rfl⟩)
   refine hK.out _ _ ?_ (fun hHeld => ?_)
   ·((try dsimp only); (first | exact hHeld | exact ⟨p0, z2⟩ | exact ⟨HB6.out.cell 0, HZ6.out.cell 2⟩))
   clear hK K; try simp only [Act.put, lA, lB, lC]
   refine tr [9] (.cons rfl (fun K hK => ?_) .nil)
   go_simp
   first | (go_at_call 54; (with_reducible refine (HJI.out _ HN5.out).mono ?_); rintro e w6 ⟨rfl, hN6, hG6⟩; have HN6 := Lib.hid hN6; have HB6 := Lib.hid (hG6.blk _ _ _ HB5.out (by decide) (by decide)); have HZ6 := Lib.hid (hG6.blk _ _ _ HZ5.out (by decide) (by decide)); have hgr6 := hG6.gr hgr5 hb1; clear hN6 hG6)
   refine hK.out _ _ ?_ (fun hHeld => ?_)
   ·((try dsimp only); (first | exact hHeld | exact ⟨p0, z2⟩ | exact ⟨HB6.out.cell 0, HZ6.out.cell 2⟩))
   clear hK K; try simp only [Act.put, lA, lB, lC]
   refine wpAnyH_done ?_ ?_ _
   ·kernel_rfl
   rotate_left
   all_goals
    have HN7 := Lib.hid (HN6.out.same (arcs_job l (tms l) n K j))
    clear HN6 HN5 HB5 HZ5 hgr5 p0 z2 HJI hHeld
    have p3 := HB6.out.cell 3
    go_wp2_with fail
    go_loopw [58] (fun z wi => ∃ s : Nat, s ≤ K ∧ z = .int .i64 (s : Int) ∧ Hid (Blk wi pb 117 #[.pointer (some ⟨g, 0, none⟩), .int .i64 (B : Int), .slice (some ⟨b, off, none⟩) n c, .slice SA K sc, .map none]) ∧ Hid (Blk wi Z 50 #[.int .i64 a1, .int .i64 a2, .int .i64 a3]) ∧ Hid (NetD b0 wi g m h (2 + n + K) (arcs2 l (tms l) n K j s) (capA B l (tms l) n) (j * (K + 1) + 1 + s)) ∧ Gr w1 wi) (fun z _ => K - (intOf z).toNat)
    case atStart => exact ⟨0, Nat.zero_le _, rfl, HB6, HZ6, HN7, hgr6⟩
    case round =>
     clear HB6 HZ6 HN7 hgr6 p3
     obtain ⟨s, hs, rfl, hB, hZ, hN, hgr⟩ := hrel
     by_cases hsl : s < K
     ·obtain ⟨bs, os, rfl, e0, e1⟩ := Pts_at (HSP.out.keep hgr) (k := s) (by rw [spanL_len, HK.out]; exact hsl)
      change wr.cell? ⟨bs, os + s * 2, none⟩ = some (.int .i64 (spA (tms l) s).1) at e0
      change wr.cell? ⟨bs, os + s * 2 + 1, none⟩ = some (.int .i64 (spA (tms l) s).2) at e1
      have hlb := lnA_bd HJ.out s
      have HLN : Hid (lnA (tms l) s = (spA (tms l) s).2 - (spA (tms l) s).1) := Lib.hid rfl
      obtain ⟨lq, hlq⟩ : ∃ q, lnA (tms l) s = q := ⟨_, rfl⟩
      have HLQ := Lib.hid hlq
      rw [hlq] at hlb HLN
      clear hlq
      have HCV : Hid (covA l (tms l) j s ↔ a1 ≤ (spA (tms l) s).1 ∧ (spA (tms l) s).2 ≤ a2) := Lib.hid (by unfold covA; rw [HJA.out])
      generalize spA (tms l) s = sp at e0 e1 HLN HCV
      obtain ⟨x, y⟩ := sp
      dsimp only at e0 e1 HLN HCV
      have hsi : (s : Int) < (K : Int) := by omega
      go_upto_region 12 with fail
      generalize hW8 : World.alloc wr _ = w8
      have hg8 : Gr wr w8 := by rw [← hW8]; exact (Gr.refl wr).alloc _
      have hY8 : Blk w8 wr.heap.size 47 #[.int .i64 x, .int .i64 y] := by rw [← hW8]; exact heap_alloc_new wr _
      generalize wr.heap.size = Y at hY8 ⊢
      have HB8 := Lib.hid (hB.out.keep hg8)
      have HZ8 := Lib.hid (hZ.out.keep hg8)
      have HN8 := Lib.hid (hN.out.keep hg8)
      have HY8 := Lib.hid hY8
      have hgr8 := hgr.trans hg8
      have y0 := hY8.cell 0
      have y1 := hY8.cell 1
      have z0 := HZ8.out.cell 0
      have z1 := HZ8.out.cell 1
      clear hW8 hg8 hY8 hB hZ hN hgr e0 e1
      by_cases hx : a1 ≤ x ∧ y ≤ a2
      ·have d1 : decide (a1 ≤ x) = true := decide_eq_true hx.1
       have d2 : decide (y ≤ a2) = true := decide_eq_true hx.2
       have HCC := Lib.hid (HCV.out.2 hx)
       go_upto_region 13 with fail
       have hwl : IntKind.i64.wrap (y - x) = y - x := IntWalk.i64_in _ (by have := HLN.out; omega)
       have hdr : Gr w8 w8.drew := (Gr.refl w8).drew
       have HB9 := Lib.hid (HB8.out.keep hdr)
       have HZ9 := Lib.hid (HZ8.out.keep hdr)
       have HN9 := Lib.hid (HN8.out.keep hdr)
       have hgr9 := hgr8.trans hdr
       have p0 := HB8.out.cell 0
       have p2 := HB8.out.cell 2
       have HJN := Lib.hid (fun W => jobNode_any (.pointer (some ⟨pb, 0, none⟩)) j W (by omega))
       have HSN := Lib.hid (fun W (hW : W.cell? ⟨pb, 2, none⟩ = some (.slice (some ⟨b, off, none⟩) n c)) => spanNode_any pb _ n c s W (by omega) (by omega) hW)
       have HLE := Lib.hid (fun W => length_any x y W hwl)
       have hJI : ∀ W, NetD b0 W g m h (2 + n + K) (arcs2 l (tms l) n K j s) (capA B l (tms l) n) (j * (K + 1) + 1 + s) → Calls Tryz.prog 54 #[.pointer (some ⟨g, 0, none⟩), .int .i64 (2 + (j : Int)), .int .i64 (2 + (n : Int) + (s : Int)), .int .i64 (y - x)] W fun e w' => e = .returned (.tuple #[]) ∧ NetD b0 w' g m h (2 + n + K) (orD (arcs2 l (tms l) n K j s) (2 + j) (2 + n + s)) (capA B l (tms l) n) (j * (K + 1) + 1 + s + 1) ∧ Gn b0 W w' := fun W hW => by
        have := joinD_any hW (2 + j) (2 + n + s) (y - x) (by unfold capA; rw [if_neg (by omega), if_pos (by omega), show 2 + n + s - 2 - n = s by omega, HLQ.out, HLN.out]) (by omega) (by omega) (by omega) (by omega) (by omega)
        rwa [show ((2 + j : Nat) : Int) = 2 + (j : Int) by omega, show ((2 + n + s : Nat) : Int) = 2 + (n : Int) + (s : Int) by omega] at this
       have HJI := Lib.hid hJI
       clear hdr HB8 HZ8 HN8 hgr8 hJI z0 z1
       refine wp_region_held_drew (S := (fun W' => W'.cell? ⟨pb, 0, none⟩ = some (.pointer (some ⟨g, 0, none⟩)) ∧ W'.cell? ⟨pb, 2, none⟩ = some (.slice (some ⟨b, off, none⟩) n c) ∧ W'.cell? ⟨Y, 0, none⟩ = some (.int .i64 x) ∧ W'.cell? ⟨Y, 1, none⟩ = some (.int .i64 y))) ?_ ?_ (fun hHeld => ?_)
       ·kernel_rfl
       ·((try dsimp only); (first | exact hHeld | exact ⟨p0, p2, y0, y1⟩ | exact ⟨HL7.out.keep hHeld.1, HL7.out.keep hHeld.2.1, HL7.out.keep hHeld.2.2.1, HL7.out.keep hHeld.2.2.2⟩ | exact HSF.out))
       refine ti 0 (some 75) rfl rfl ?_; try simp only [Act.put, lA, lB, lC]
       refine ti 1 (some 76) rfl rfl ?_; try simp only [Act.put, lA, lB, lC]
       refine ti 2 (some 77) rfl rfl ?_; try simp only [Act.put, lA, lB, lC]
       refine ti 3 (some 78) rfl rfl ?_; try simp only [Act.put, lA, lB, lC]
       refine ti 4 (some 79) rfl rfl ?_; try simp only [Act.put, lA, lB, lC]
       refine ti 5 (some 80) rfl rfl ?_; try simp only [Act.put, lA, lB, lC]
       refine ti 7 (some 82) rfl rfl ?_; try simp only [Act.put, lA, lB, lC]
       refine ti 8 (some 83) rfl rfl ?_; try simp only [Act.put, lA, lB, lC]
       refine ti 10 (some 85) rfl rfl ?_; try simp only [Act.put, lA, lB, lC]
       refine tr [6] (.cons rfl (fun K hK => ?_) .nil)
       go_simp
       first | (go_at_call 55; (with_reducible refine (HJN.out _).mono ?_); rintro e w' ⟨rfl, rfl⟩)
       refine hK.out _ _ ?_ (fun hHeld => ?_)
       ·((try dsimp only); (first | exact hHeld | exact ⟨p0, p2, y0, y1⟩ | exact ⟨HL7.out.keep hHeld.1, HL7.out.keep hHeld.2.1, HL7.out.keep hHeld.2.2.1, HL7.out.keep hHeld.2.2.2⟩ | exact HSF.out))
       clear hK K; try simp only [Act.put, lA, lB, lC]
       refine tr [9] (.cons rfl (fun K hK => ?_) .nil)
       go_simp
       first | (go_at_call 56; (with_reducible refine (HSN.out _ hHeld.2.1).mono ?_); rintro e w' ⟨rfl, rfl⟩)
       refine hK.out _ _ ?_ (fun hHeld => ?_)
       ·((try dsimp only); (first | exact hHeld | exact ⟨p0, p2, y0, y1⟩ | exact ⟨HL7.out.keep hHeld.1, HL7.out.keep hHeld.2.1, HL7.out.keep hHeld.2.2.1, HL7.out.keep hHeld.2.2.2⟩ | exact HSF.out))
       clear hK K; try simp only [Act.put, lA, lB, lC]
       refine tr [11] (.cons rfl (fun K hK => ?_) .nil)
       go_simp
       first | (go_at_call 57; (with_reducible refine (HLE.out _).mono ?_); rintro e w10 ⟨rfl, hg10⟩; have HL7 := Lib.hid hg10; have HN10 := Lib.hid (HN9.out.keep hg10); have HB10 := Lib.hid (HB9.out.keep hg10); have HZ10 := Lib.hid (HZ9.out.keep hg10); have HY10 := Lib.hid (HY8.out.keep (((Gr.refl w8).drew).trans hg10)); have hgr10 := hgr9.trans hg10; clear hg10)
       refine hK.out _ _ ?_ (fun hHeld => ?_)
       ·((try dsimp only); (first | exact hHeld | exact ⟨p0, p2, y0, y1⟩ | exact ⟨HL7.out.keep hHeld.1, HL7.out.keep hHeld.2.1, HL7.out.keep hHeld.2.2.1, HL7.out.keep hHeld.2.2.2⟩ | exact HSF.out))
       clear hK K; try simp only [Act.put, lA, lB, lC]
       refine tr [12] (.cons rfl (fun K hK => ?_) .nil)
       go_simp
       first | (go_at_call 54; (with_reducible refine (HJI.out _ HN10.out).mono ?_); rintro e w11 ⟨rfl, hN11, hG11⟩; have HN11 := Lib.hid hN11; have HB11 := Lib.hid (hG11.blk _ _ _ HB10.out (by decide) (by decide)); have HZ11 := Lib.hid (hG11.blk _ _ _ HZ10.out (by decide) (by decide)); have hgr11 := hG11.gr hgr10 hb1; have HY11 := hG11.blk _ _ _ HY10.out (by decide) (by decide); have HSF := Lib.hid (And.intro (HB11.out.cell 0) (And.intro (HB11.out.cell 2) (And.intro (HY11.cell 0) (HY11.cell 1)))); clear hN11 hG11 HY11)
       refine hK.out _ _ ?_ (fun hHeld => ?_)
       ·((try dsimp only); (first | exact hHeld | exact ⟨p0, p2, y0, y1⟩ | exact ⟨HL7.out.keep hHeld.1, HL7.out.keep hHeld.2.1, HL7.out.keep hHeld.2.2.1, HL7.out.keep hHeld.2.2.2⟩ | exact HSF.out))
       clear hK K; try simp only [Act.put, lA, lB, lC]
       refine wpAnyH_done ?_ ?_ _
       ·kernel_rfl
       rotate_left
       all_goals
        have HN12 := Lib.hid (HN11.out.same (arcs_span l (tms l) n K j s HCC.out))
        clear HN11 HN10 HN9 HSF hHeld HJI HL7
        go_wp2_with fail
        go_roundw
        case rel => exact ⟨s + 1, by omega, by go_num, HB11, HZ11, HN12, hgr11⟩
        case measure => simp [intOf]; omega
      ·have HCC : Hid (¬ covA l (tms l) j s) := Lib.hid (fun hh => hx (HCV.out.1 hh))
       have HN9 := Lib.hid ((HN8.out.same (arcs_skip l (tms l) n K j s HCC.out)).more (show j * (K + 1) + 1 + s ≤ j * (K + 1) + 1 + (s + 1) by omega))
       have hd : decide (a1 ≤ x) = false ∨ (decide (a1 ≤ x) = true ∧ decide (y ≤ a2) = false) := by
        by_cases e : a1 ≤ x
        ·exact Or.inr ⟨decide_eq_true e, decide_eq_false (fun e' => hx ⟨e, e'⟩)⟩
        ·exact Or.inl (decide_eq_false e)
       clear hx
       rcases hd with d1 | ⟨d1, d2⟩
       all_goals
        go_wp2_with fail
        go_roundw
        case rel => exact ⟨s + 1, by omega, by go_num, HB8, HZ8, HN9, hgr8⟩
        case measure => simp [intOf]; omega
     ·obtain rfl : s = K := by omega
      have HN9 : Hid (NetD b0 wr g m h (2 + n + s) (arcs1 l (tms l) n s (j + 1)) (capA B l (tms l) n) ((j + 1) * (s + 1))) := Lib.hid ((hN.out.same (arcs_next l (tms l) n s j)).more (by rw [Nat.add_mul]; omega))
      clear hsl
      go_wp2_with fail
      go_roundw
      case rel => exact ⟨j + 1, by omega, by go_num, congrArg (Value.int .i64) (by rw [HTK.out]), hB, HN9, hgr⟩
      case measure => simp [intOf]; omega
  ·obtain rfl : j = n := by omega
   have hwt : workL (l.take j) = workL l := by rw [List.take_of_length_le (by rw [HN.out]; exact Nat.le_refl _)]
   rw [hwt] at hwb ⊢
   generalize workL l = wl at hwb ⊢
   have HN5 := Lib.hid (hN.out.same (arcs_last l (tms l) j K))
   have p3 := hB.out.cell 3
   clear hlt hwt hlj hN
   go_wp2_with fail
   go_loopw [95] (fun z wi => ∃ s : Nat, s ≤ K ∧ z = .int .i64 (s : Int) ∧ Hid (Blk wi pb 117 #[.pointer (some ⟨g, 0, none⟩), .int .i64 (B : Int), .slice A j c, .slice SA K sc, .map none]) ∧ Hid (NetD b0 wi g m h (2 + j + K) (arcs3 l (tms l) j K s) (capA B l (tms l) j) (j * (K + 1) + s)) ∧ Gr w1 wi) (fun z _ => K - (intOf z).toNat)
   case atStart => exact ⟨0, Nat.zero_le _, rfl, hB, HN5, hgr⟩
   case round =>
    clear hB HN5 hgr p3
    obtain ⟨s, hs, rfl, hB, hN, hgr⟩ := hrel
    by_cases hsl : s < K
    ·obtain ⟨bs, os, rfl, e0, e1⟩ := Pts_at (HSP.out.keep hgr) (k := s) (by rw [spanL_len, HK.out]; exact hsl)
     change wr.cell? ⟨bs, os + s * 2, none⟩ = some (.int .i64 (spA (tms l) s).1) at e0
     change wr.cell? ⟨bs, os + s * 2 + 1, none⟩ = some (.int .i64 (spA (tms l) s).2) at e1
     have hlb := lnA_bd HJ.out s
     have HLN : Hid (lnA (tms l) s = (spA (tms l) s).2 - (spA (tms l) s).1) := Lib.hid rfl
     obtain ⟨lq, hlq⟩ : ∃ q, lnA (tms l) s = q := ⟨_, rfl⟩
     have HLQ := Lib.hid hlq
     rw [hlq] at hlb HLN
     clear hlq
     generalize spA (tms l) s = sp at e0 e1 HLN
     obtain ⟨x, y⟩ := sp
     dsimp only at e0 e1 HLN
     have hwl : IntKind.i64.wrap (y - x) = y - x := IntWalk.i64_in _ (by have := HLN.out; omega)
     obtain ⟨pr, hpr⟩ : ∃ pr, (B : Int) * lq = pr := ⟨_, rfl⟩
     have hprb : 0 ≤ pr ∧ pr ≤ 33554432 := by
      have m1 : (B : Int) * lq ≤ 8 * 4194304 := Int.mul_le_mul (by omega) hlb.2 hlb.1 (by omega)
      have m2 : 0 ≤ (B : Int) * lq := Int.mul_nonneg (by omega) hlb.1
      omega
     have HPR := Lib.hid hpr
     have hwm : IntKind.i64.wrap ((B : Int) * (y - x)) = pr := by rw [← HLN.out, hpr]; exact IntWalk.i64_in _ (by omega)
     clear hpr
     have hsi : (s : Int) < (K : Int) := by omega
     go_upto_region 19 with fail
     generalize hW8 : World.alloc wr _ = w8
     have hg8 : Gr wr w8 := by rw [← hW8]; exact (Gr.refl wr).alloc _
     have hY8 : Blk w8 wr.heap.size 47 #[.int .i64 x, .int .i64 y] := by rw [← hW8]; exact heap_alloc_new wr _
     generalize wr.heap.size = Y at hY8 ⊢
     have hdr : Gr w8 w8.drew := (Gr.refl w8).drew
     have HB9 := Lib.hid (hB.out.keep (hg8.trans hdr))
     have HN9 := Lib.hid (hN.out.keep (hg8.trans hdr))
     have HY8 := Lib.hid hY8
     have hgr9 := hgr.trans (hg8.trans hdr)
     have y0 := hY8.cell 0
     have y1 := hY8.cell 1
     have p0 := (hB.out.keep hg8).cell 0
     have p2 := (hB.out.keep hg8).cell 2
     have HSN := Lib.hid (fun W (hW : W.cell? ⟨pb, 2, none⟩ = some (.slice A j c)) => spanNode_any pb _ j c s W (by omega) (by omega) hW)
     have HLE := Lib.hid (fun W => length_any x y W hwl)
     have hJI : ∀ W, NetD b0 W g m h (2 + j + K) (arcs3 l (tms l) j K s) (capA B l (tms l) j) (j * (K + 1) + s) → Calls Tryz.prog 54 #[.pointer (some ⟨g, 0, none⟩), .int .i64 (2 + (j : Int) + (s : Int)), .int .i64 1, .int .i64 pr] W fun e w' => e = .returned (.tuple #[]) ∧ NetD b0 w' g m h (2 + j + K) (orD (arcs3 l (tms l) j K s) (2 + j + s) 1) (capA B l (tms l) j) (j * (K + 1) + s + 1) ∧ Gn b0 W w' := fun W hW => by
      have := joinD_any hW (2 + j + s) 1 pr (by unfold capA; rw [if_neg (by omega), if_neg (by omega), show 2 + j + s - 2 - j = s by omega, HLQ.out, HPR.out]) (by omega) (by omega) (by omega) (by omega) (by omega)
      rwa [show ((2 + j + s : Nat) : Int) = 2 + (j : Int) + (s : Int) by omega, show ((1 : Nat) : Int) = 1 from rfl] at this
     have HJI := Lib.hid hJI
     clear hW8 hg8 hY8 hdr hB hN hgr hJI e0 e1
     refine wp_region_held_drew (S := (fun W' => W'.cell? ⟨pb, 0, none⟩ = some (.pointer (some ⟨g, 0, none⟩)) ∧ W'.cell? ⟨pb, 2, none⟩ = some (.slice A j c) ∧ W'.cell? ⟨Y, 0, none⟩ = some (.int .i64 x) ∧ W'.cell? ⟨Y, 1, none⟩ = some (.int .i64 y))) ?_ ?_ (fun hHeld => ?_)
     ·kernel_rfl
     ·((try dsimp only); (first | exact hHeld | exact ⟨p0, p2, y0, y1⟩ | exact ⟨HL7.out.keep hHeld.1, HL7.out.keep hHeld.2.1, HL7.out.keep hHeld.2.2.1, HL7.out.keep hHeld.2.2.2⟩ | exact HSF.out))
     refine ti 0 (some 100) rfl rfl ?_; try simp only [Act.put, lA, lB, lC]
     refine ti 1 (some 101) rfl rfl ?_; try simp only [Act.put, lA, lB, lC]
     refine ti 2 (some 102) rfl rfl ?_; try simp only [Act.put, lA, lB, lC]
     refine ti 3 (some 103) rfl rfl ?_; try simp only [Act.put, lA, lB, lC]
     refine ti 4 (some 104) rfl rfl ?_; try simp only [Act.put, lA, lB, lC]
     refine ti 5 (some 105) rfl rfl ?_; try simp only [Act.put, lA, lB, lC]
     refine ti 7 (some 107) rfl rfl ?_; try simp only [Act.put, lA, lB, lC]
     refine ti 8 (some 108) rfl rfl ?_; try simp only [Act.put, lA, lB, lC]
     refine tr [6] (.cons rfl (fun K hK => ?_) .nil)
     go_simp
     first | (go_at_call 56; (with_reducible refine (HSN.out _ hHeld.2.1).mono ?_); rintro e w' ⟨rfl, rfl⟩)
     refine hK.out _ _ ?_ (fun hHeld => ?_)
     ·((try dsimp only); (first | exact hHeld | exact ⟨p0, p2, y0, y1⟩ | exact ⟨HL7.out.keep hHeld.1, HL7.out.keep hHeld.2.1, HL7.out.keep hHeld.2.2.1, HL7.out.keep hHeld.2.2.2⟩ | exact HSF.out))
     clear hK K; try simp only [Act.put, lA, lB, lC]
     refine tr [9] (.cons rfl (fun K hK => ?_) .nil)
     go_simp
     first | (go_at_call 57; (with_reducible refine (HLE.out _).mono ?_); rintro e w10 ⟨rfl, hg10⟩; have HL7 := Lib.hid hg10; have HN10 := Lib.hid (HN9.out.keep hg10); have HB10 := Lib.hid (HB9.out.keep hg10); have HY10 := Lib.hid (HY8.out.keep (((Gr.refl w8).drew).trans hg10)); have hgr10 := hgr9.trans hg10; clear hg10)
     refine hK.out _ _ ?_ (fun hHeld => ?_)
     ·((try dsimp only); (first | exact hHeld | exact ⟨p0, p2, y0, y1⟩ | exact ⟨HL7.out.keep hHeld.1, HL7.out.keep hHeld.2.1, HL7.out.keep hHeld.2.2.1, HL7.out.keep hHeld.2.2.2⟩ | exact HSF.out))
     clear hK K; try simp only [Act.put, lA, lB, lC]
     refine ti 10 (some 110) rfl rfl ?_; try simp only [Act.put, lA, lB, lC]
     refine tr [11] (.cons rfl (fun K hK => ?_) .nil)
     go_simp
     first | (go_at_call 54; (with_reducible refine (HJI.out _ HN10.out).mono ?_); rintro e w11 ⟨rfl, hN11, hG11⟩; have HN11 := Lib.hid hN11; have HB11 := Lib.hid (hG11.blk _ _ _ HB10.out (by decide) (by decide)); have hgr11 := hG11.gr hgr10 hb1; have HY11 := hG11.blk _ _ _ HY10.out (by decide) (by decide); have HSF := Lib.hid (And.intro (HB11.out.cell 0) (And.intro (HB11.out.cell 2) (And.intro (HY11.cell 0) (HY11.cell 1)))); clear hN11 hG11 HY11)
     refine hK.out _ _ ?_ (fun hHeld => ?_)
     ·((try dsimp only); (first | exact hHeld | exact ⟨p0, p2, y0, y1⟩ | exact ⟨HL7.out.keep hHeld.1, HL7.out.keep hHeld.2.1, HL7.out.keep hHeld.2.2.1, HL7.out.keep hHeld.2.2.2⟩ | exact HSF.out))
     clear hK K; try simp only [Act.put, lA, lB, lC]
     refine wpAnyH_done ?_ ?_ _
     ·kernel_rfl
     rotate_left
     all_goals
      have HN12 := Lib.hid (HN11.out.same (arcs_sink l (tms l) j K s))
      clear HN11 HN10 HN9 HSF hHeld HJI HL7 hwm
      go_wp2_with fail
      go_roundw
      case rel => exact ⟨s + 1, by omega, by go_num, HB11, HN12, hgr11⟩
      case measure => simp [intOf]; omega
    ·obtain rfl : s = K := by omega
     obtain ⟨nx0, vs0, k1, k2, k3⟩ := hN.out
     have hpm : pb ≠ m := k2.ne_blk hB.out
     have hgp : g ≠ pb := by have := k1.low; omega
     have hgm : g ≠ m := k2.ne (k1.net.cell 0)
     have hmb : b0 ≤ m := k1.low.2.1
     have G0 := Lib.hid (k1.net.cell 0)
     have HFI := Lib.hid (fillD_any hN.out wl (by omega) (by omega) (by omega) (fun a b => (capA_bd HJ.out (by omega) j a b).1) (fun a b => (capA_bd HJ.out (by omega) j a b).2) (by have := HKN.out; rcases Nat.eq_zero_or_pos j with e | e; (· exact Or.inl (by rw [e, Nat.zero_mul]; omega)); (· exact Or.inr (by omega))) (by omega))
     have p0 := hB.out.cell 0
     clear hsl k1 k2 k3 hN
     go_wp2_with fail
     refine HFI.out.mono ?_
     rintro e w5 ⟨nx, fb, F, r', rfl, hfb, hF, hr', hFD, hF1, hFL, hNX, hgb⟩
     have HB5 : Hid (Blk w5 pb 117 #[.pointer (some ⟨g, 0, none⟩), .int .i64 (B : Int), .slice A j c, .slice SA s sc, .map none]) := Lib.hid (hB.out.grown hgb (fun e => hpm (Option.some.inj e)))
     have hfp : fb ≠ pb := Ne.symm (hF.ne (HB5.out.cell 0))
     have q4 := HB5.out.cell 4
     have f4 := HB5.out.free 4
     have HFIN : Hid (FM (w5.setCell ⟨pb, 4, none⟩ (.map (some fb))) fb F ∧ RM (w5.setCell ⟨pb, 4, none⟩ (.map (some fb))) m r' ∧ (w5.setCell ⟨pb, 4, none⟩ (.map (some fb))).cell? ⟨g, 0, none⟩ = some (.map (some m)) ∧ Blk (w5.setCell ⟨pb, 4, none⟩ (.map (some fb))) pb 117 #[.pointer (some ⟨g, 0, none⟩), .int .i64 (B : Int), .slice A j c, .slice SA s sc, .map (some fb)] ∧ Gr w1 (w5.setCell ⟨pb, 4, none⟩ (.map (some fb)))) := Lib.hid (by
      refine ⟨?_, hr'.set (Ne.symm hpm) _, ?_, HB5.out.put 4 _, Gr.setCell (hgb.gr hgr (by omega)) (by rw [HPB.out]; exact Nat.le_refl _) _⟩
      ·obtain ⟨lf, f1, f2⟩ := hF
       exact ⟨lf, f1.setCell hfp _, f2⟩
      ·rw [World.cell?_setCell_other _ _ _ _ (fun e => hgp (congrArg Addr.block e).symm)]
       exact gb_cell hgb G0.out hgm)
     have HRES := Lib.hid (And.intro hFD (And.intro hF1 (And.intro hFL hNX)))
     clear hF hr' hFD hF1 hFL hNX hgb HFI G0 p0
     go_wp2_with fail
     go_ret
     obtain ⟨a1, a2, a3, a4, a5⟩ := HFIN.out
     obtain ⟨b1, b2, b3, b4⟩ := HRES.out
     unfold PlanPost4
     rw [HK.out]
     exact ⟨pb, g, m, fb, SA, sc, nx, F, r', rfl, a4, a3, HSP.out.keep a5, a1, a2, b1, b2, b3, ⟨b4.both, b4.lt, fun u => Nat.le_trans (b4.len u) (by omega)⟩, hg1.trans a5⟩

end Go.Proofs.YtobcdkjomehdkaaGreat
