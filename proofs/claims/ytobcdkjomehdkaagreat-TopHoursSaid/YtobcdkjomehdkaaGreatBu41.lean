/- Layer 4: refusal. -/
import Derived.Test.YtobcdkjomehdkaaGreatBu38
import Derived.Test.YtobcdkjomehdkaaGreatBu39
import Derived.Deep.CutRange
import Derived.Test.YtobcdkjomehdkaaGreatBu40
namespace Go.Proofs.YtobcdkjomehdkaaGreat
open Go.RowKit
set_option linter.unusedSimpArgs false
set_option maxRecDepth 100000
set_option maxHeartbeats 80000000

theorem rows_apart {w : World} {b1 b2 s1 s2 n1 n2 : Nat} {e1 e2 : TypeId} {v1 v2 : Value} {x1 x2 : List Value} (h1 : w.ownsRow b1 e1 s1 v1 n1 x1) (h2 : w.ownsRow b2 e2 s2 v2 n2 x2) (hne : e1 ≠ e2) : v1.ownBlock = none ∨ v1.ownBlock ≠ v2.ownBlock := by
 rcases h1.2 with ⟨rfl, -⟩ | ⟨g, cap, cur, rfl, -, hg, -⟩
 ·exact Or.inl rfl
 ·right
  rcases h2.2 with ⟨rfl, -⟩ | ⟨g', cap', cur', rfl, -, hg', -⟩
  ·simp [Value.ownBlock]
  ·intro e
   have : g = g' := by simpa [Value.ownBlock] using e
   subst this
   rw [hg] at hg'
   injection hg' with hg'
   injection hg' with _ h3
   exact hne h3

structure RefS (w0 : World) (R O : Nat) (vJ vS : Value) (J : List Int) (S : List (Int × Int)) (w : World) : Prop where
 res : Blk w R 54 #[.bool false, .slice none 0 0, .slice none 0 0, .slice none 0 0]
 out : Blk w O 54 #[.bool false, .slice none 0 0, vJ, vS]
 rowJ : w.ownsRow w0.heap.size 3 1 vJ J.length (flatE enc1 J)
 rowS : w.ownsRow w0.heap.size 47 2 vS S.length (flatE enc2 S)
 gr : Gr w0 w
 ne : R < O
 le : w0.heap.size ≤ R
section
variable {w0 w w2 : World} {R O : Nat} {vJ vS v' : Value} {J : List Int} {S : List (Int × Int)}
theorem RefS.keep (h : RefS w0 R O vJ vS J S w) (hg : Gr w w2) : RefS w0 R O vJ vS J S w2 :=
 ⟨h.res.keep hg, h.out.keep hg, owns_gr h.rowJ hg, owns_gr h.rowS hg, h.gr.trans hg, h.ne, h.le⟩
theorem RefS.job (h : RefS w0 R O vJ vS J S w) {x : Int} (ho : w2.ownsRow w0.heap.size 3 1 v' (J.length + 1) (flatE enc1 J ++ [.int .i64 x])) (hg : w.grownBy w2 vJ.ownBlock) :
 RefS w0 R O v' vS (J ++ [x]) S (w2.setCell ⟨O, 2, none⟩ v') ∧ w2.cell? ⟨O, 2, none⟩ = some vJ ∧ w2.frozen? ⟨O, 2, none⟩ = false := by
 have hO := h.out.grown hg (h.out.apart h.rowJ (by decide))
 have hR := h.res.grown hg (h.res.apart h.rowJ (by decide))
 have hS := h.rowS.kept (row := vJ.ownBlock) hg (rows_apart h.rowS h.rowJ (by decide))
 have hlt : w0.heap.size ≤ O := by have := h.ne; have := h.le; omega
 refine ⟨⟨Blk.other hR (by have := h.ne; show R ≠ O; omega) v', hO.put 2 v', ?_, ownsRow_setCell_other hS (fun e => hO.apart hS (by decide) e.symm) v', Gr.setCell (Below.grown h.gr hg h.gr.size (fun t ht => (h.rowJ.lt t ht).1)) hlt v', h.ne, h.le⟩, hO.cell 2, hO.free 2⟩
 have : w2.ownsRow w0.heap.size 3 1 v' (J ++ [x]).length (flatE enc1 (J ++ [x])) := by rw [List.length_append, flatE_app]; exact ho
 exact ownsRow_setCell_other this (fun e => hO.apart this (by decide) e.symm) v'
theorem RefS.span (h : RefS w0 R O vJ vS J S w) {x : Int × Int} (ho : w2.ownsRow w0.heap.size 47 2 v' (S.length + 1) (flatE enc2 S ++ enc2 x)) (hg : w.grownBy w2 vS.ownBlock) :
 RefS w0 R O vJ v' J (S ++ [x]) (w2.setCell ⟨O, 3, none⟩ v') ∧ w2.cell? ⟨O, 3, none⟩ = some vS ∧ w2.frozen? ⟨O, 3, none⟩ = false := by
 have hO := h.out.grown hg (h.out.apart h.rowS (by decide))
 have hR := h.res.grown hg (h.res.apart h.rowS (by decide))
 have hJ := h.rowJ.kept (row := vS.ownBlock) hg (rows_apart h.rowJ h.rowS (by decide))
 have hlt : w0.heap.size ≤ O := by have := h.ne; have := h.le; omega
 refine ⟨⟨Blk.other hR (by have := h.ne; show R ≠ O; omega) v', hO.put 3 v', ownsRow_setCell_other hJ (fun e => hO.apart hJ (by decide) e.symm) v', ?_, Gr.setCell (Below.grown h.gr hg h.gr.size (fun t ht => (h.rowS.lt t ht).1)) hlt v', h.ne, h.le⟩, hO.cell 3, hO.free 3⟩
 have : w2.ownsRow w0.heap.size 47 2 v' (S ++ [x]).length (flatE enc2 (S ++ [x])) := by rw [List.length_append, flatE_app]; simpa [flatE] using ho
 exact ownsRow_setCell_other this (fun e => hO.apart this (by decide) e.symm) v'
theorem RefS.fin (h : RefS w0 R O vJ vS J S w) : ∃ A3 c3 A4 c4, vJ = .slice A3 J.length c3 ∧ vS = .slice A4 S.length c4 ∧
 ∀ w', ((((w.setCell ⟨R, 0, none⟩ (.bool false)).setCell ⟨R, 1, none⟩ (.slice none 0 0)).setCell ⟨R, 2, none⟩ vJ).setCell ⟨R, 3, none⟩ vS) = w' →
  Ints w' A3 J ∧ Pts w' A4 S ∧ Gr w0 w' ∧ w'.cell? ⟨R, 0, none⟩ = some (.bool false) ∧ w'.cell? ⟨R, 1, none⟩ = some (.slice none 0 0) ∧ w'.cell? ⟨R, 2, none⟩ = some vJ ∧ w'.cell? ⟨R, 3, none⟩ = some vS := by
 have a1 := h.res.apart h.rowJ (by decide)
 have a2 := h.res.apart h.rowS (by decide)
 have hJ := ownsRow_setCell_other (a := ⟨R, 3, none⟩) (ownsRow_setCell_other (a := ⟨R, 2, none⟩) (ownsRow_setCell_other (a := ⟨R, 1, none⟩) (ownsRow_setCell_other (a := ⟨R, 0, none⟩) h.rowJ (fun e => a1 e.symm) (.bool false)) (fun e => a1 e.symm) (.slice none 0 0)) (fun e => a1 e.symm) vJ) (fun e => a1 e.symm) vS
 have hS := ownsRow_setCell_other (a := ⟨R, 3, none⟩) (ownsRow_setCell_other (a := ⟨R, 2, none⟩) (ownsRow_setCell_other (a := ⟨R, 1, none⟩) (ownsRow_setCell_other (a := ⟨R, 0, none⟩) h.rowS (fun e => a2 e.symm) (.bool false)) (fun e => a2 e.symm) (.slice none 0 0)) (fun e => a2 e.symm) vJ) (fun e => a2 e.symm) vS
 have hp := (((h.res.put 0 (.bool false)).put 1 (.slice none 0 0)).put 2 vJ).put 3 vS
 have hg := (((((Gb.of (Gr.refl w) R).put 0 (.bool false)).put 1 (.slice none 0 0)).put 2 vJ).put 3 vS).gr h.gr h.le
 obtain ⟨A3, c3, e3, -, r3, -⟩ := own_row enc1_len rfl hJ
 obtain ⟨A4, c4, e4, -, r4, -⟩ := own_row enc2_len rfl hS
 refine ⟨A3, c3, A4, c4, e3, e4, ?_⟩
 rintro w' rfl
 have q0 := hp.cell 0
 have q1 := hp.cell 1
 have q2 := hp.cell 2
 have q3 := hp.cell 3
 simp at q0 q1 q2 q3
 exact ⟨r3, r4, hg, q0, q1, q2, q3⟩
end

def jobsR (F : Nat → Option Nat) (j : Nat) : List Int := (pickN (fun i => (F (2 + i)).isSome) j).map fun i : Nat => (i : Int)
def spansR (F : Nat → Option Nat) (n : Nat) (T : List Int) (s : Nat) : List (Int × Int) := (pickN (fun i => (F (2 + n + i)).isSome) s).map fun i => (T.getD i 0, T.getD (i + 1) 0)
theorem jobsR_succ (F : Nat → Option Nat) (j : Nat) : jobsR F (j + 1) = if (F (2 + j)).isSome = true then jobsR F j ++ [(j : Int)] else jobsR F j := by
 unfold jobsR
 rw [pickN_succ]
 split <;> simp
theorem spansR_succ (F : Nat → Option Nat) (n : Nat) (T : List Int) (s : Nat) : spansR F n T (s + 1) = if (F (2 + n + s)).isSome = true then spansR F n T s ++ [(T.getD s 0, T.getD (s + 1) 0)] else spansR F n T s := by
 unfold spansR
 rw [pickN_succ]
 split <;> simp
theorem jobsR_len (F : Nat → Option Nat) (j : Nat) : (jobsR F j).length ≤ j := by unfold jobsR; rw [List.length_map]; exact pickN_len _ _
theorem spansR_len (F : Nat → Option Nat) (n : Nat) (T : List Int) (s : Nat) : (spansR F n T s).length ≤ s := by unfold spansR; rw [List.length_map]; exact pickN_len _ _

def RefusalPost (F : Nat → Option Nat) (n K : Nat) (T : List Int) (w : World) (e : Ending) (w' : World) : Prop :=
 ∃ JA jc SA sc, e = .returned (.agg #[.bool false, .slice none 0 0, .slice JA (jobsR F n).length jc, .slice SA (spansR F n T K).length sc]) ∧ Ints w' JA (jobsR F n) ∧ Pts w' SA (spansR F n T K) ∧ (Fresh w.heap.size w' JA (jobsR F n).length jc ∧ Fresh w.heap.size w' SA (spansR F n T K).length sc) ∧ Gr w w'

theorem refusal_any {p g m fb B : Nat} {A : Option Addr} {n c : Nat} {SA : Option Addr} {K sc : Nat} {T : List Int} {F : Nat → Option Nat} {r' : Nat → Nat → Int} (w : World) (hK : T.length - 1 = K) (hK64 : K ≤ 63) (hn32 : n ≤ 32) (h : PlanR w p g m fb B A n c SA K sc T F r') :
 Calls Tryz.prog 61 #[.pointer (some ⟨p, 0, none⟩)] w (RefusalPost F n K T w) := by
 have HPR := Lib.hid h
 have HK := Lib.hid hK
 obtain ⟨i0, hi, hz0, hz1, hz2⟩ := info_parts Tryz.infoBnI
 have HI := Lib.hid (And.intro hi (And.intro hz0 (And.intro hz1 hz2)))
 obtain ⟨i1, hj, hy0, hy1, hy2⟩ := info_parts Tryz.infoBnS
 have HJ := Lib.hid (And.intro hj (And.intro hy0 (And.intro hy1 hy2)))
 clear h hK hi hz0 hz1 hz2 hj hy0 hy1 hy2
 go_enter Tryz.func61, Tryz.ntmps61
 go_upto_region 2 with fail
 have HS0 : Hid (RefS w w.heap.size (w.heap.size + 1) (.slice none 0 0) (.slice none 0 0) [] [] ((w.alloc (.cells #[.bool false, .slice none 0 0, .slice none 0 0, .slice none 0 0] 54)).alloc (.cells #[.bool false, .slice none 0 0, .slice none 0 0, .slice none 0 0] 54))) := by
  have hg : Gr w ((w.alloc (.cells #[.bool false, .slice none 0 0, .slice none 0 0, .slice none 0 0] 54)).alloc (.cells #[.bool false, .slice none 0 0, .slice none 0 0, .slice none 0 0] 54)) := ((Gr.refl w).alloc _).alloc _
  exact Lib.hid ⟨(Blk.new w _ _ rfl).alloc _, Blk.new _ _ _ (by simp), ⟨rfl, Or.inl ⟨rfl, rfl⟩⟩, ⟨rfl, Or.inl ⟨rfl, rfl⟩⟩, hg, by omega, Nat.le_refl _⟩
 generalize World.alloc (World.alloc w _) _ = w1 at HS0 ⊢
 obtain ⟨R, hR⟩ : ∃ R, w.heap.size = R := ⟨_, rfl⟩
 have p2 := (HPR.out.keep HS0.out.gr).blk.cell 2
 have HRW := Lib.hid hR
 rw [hR] at HS0 ⊢
 obtain ⟨O, hO⟩ : ∃ O, R + 1 = O := ⟨_, rfl⟩
 rw [hO] at HS0 ⊢
 clear hR hO
 go_wp2_with fail
 go_loopw [17] (fun z wr => ∃ (j : Nat) (vJ : Value), j ≤ n ∧ z = .int .i64 (j : Int) ∧ Hid (RefS w R O vJ (.slice none 0 0) (jobsR F j) [] wr)) (fun z _ => n - (intOf z).toNat)
 case atStart => exact ⟨0, _, Nat.zero_le _, rfl, HS0⟩
 case round =>
  clear HS0 p2
  obtain ⟨j, vJ, hj, rfl, hX⟩ := hrel
  by_cases hjl : j < n
  ·have hji : (j : Int) < (n : Int) := by omega
   have hgr := hX.out.gr
   have p4 := (HPR.out.keep hgr).blk.cell 4
   have hdr : Gr wr wr.drew := (Gr.refl wr).drew
   have HJN := Lib.hid (fun W => jobNode_any (.pointer (some ⟨p, 0, none⟩)) j W (by omega))
   have HLK : Hid (∀ W, Gr wr W → (Instr.lookup 115 (.map (some fb)) (.int .i64 (2 + (j : Int))) true).run Tryz.prog W = .ok (.tuple #[.int .i64 (((F (2 + j)).getD 0 : Nat) : Int), .bool (F (2 + j)).isSome]) W) := Lib.hid (fun W hW => by
    have := (HPR.out.keep (hgr.trans hW)).fm.look2 (u := 2 + j) (by unfold nodeB; omega)
    rwa [show ((2 + j : Nat) : Int) = 2 + (j : Int) by omega] at this)
   obtain ⟨fv, hfv⟩ : ∃ q, F (2 + j) = q := ⟨_, rfl⟩
   rw [hfv] at HLK
   have HFV := Lib.hid hfv
   clear hfv hgr
   go_upto_region 5 with fail
   refine wp_region_held_drew (S := (fun W' => Gr wr W' ∧ W'.cell? ⟨p, 4, none⟩ = some (.map (some fb)))) ?_ ?_ (fun hHeld => ?_)
   ·kernel_rfl
   ·((try dsimp only); (first | exact hHeld | exact ⟨hdr, hdr.keep p4⟩))
   refine ti 0 (some 21) rfl rfl ?_; try simp only [Act.put, lA, lB, lC]
   refine ti 1 (some 22) rfl rfl ?_; try simp only [Act.put, lA, lB, lC]
   refine ti 2 (some 23) rfl rfl ?_; try simp only [Act.put, lA, lB, lC]
   refine ti 3 (some 24) rfl rfl ?_; try simp only [Act.put, lA, lB, lC]
   refine ti 4 (some 25) rfl rfl ?_; try simp only [Act.put, lA, lB, lC]
   refine ti 5 (some 26) rfl rfl ?_; try simp only [Act.put, lA, lB, lC]
   refine tr [6] (.cons rfl (fun K hK => ?_) .nil)
   go_simp
   first | (go_at_call 55; (with_reducible refine (HJN.out _).mono ?_); rintro e w' ⟨rfl, rfl⟩)
   refine hK.out _ _ ?_ (fun hHeld => ?_)
   ·((try dsimp only); (first | exact hHeld | exact ⟨hdr, hdr.keep p4⟩))
   clear hK K; try simp only [Act.put, lA, lB, lC]
   refine tr [7] (.cons rfl (fun K hK => ?_) .nil)
   first | (refine held_look (by rfl) (.tmp 24) (.tmp 27) _ _ (by rfl) (.map (some fb)) (.int .i64 (2 + (j : Int))) (.tuple #[.int .i64 ((fv.getD 0 : Nat) : Int), .bool fv.isSome]) (by rfl) (by rfl) (HLK.out _ hHeld.1) ?_)
   refine hK.out _ _ ?_ (fun hHeld => ?_)
   ·((try dsimp only); (first | exact hHeld | exact ⟨hdr, hdr.keep p4⟩))
   clear hK K; try simp only [Act.put, lA, lB, lC]
   refine ti 8 (some 20) rfl rfl ?_; try simp only [Act.put, lA, lB, lC]
   refine ti 9 (some 29) rfl rfl ?_; try simp only [Act.put, lA, lB, lC]
   refine ti 10 (some 30) rfl rfl ?_; try simp only [Act.put, lA, lB, lC]
   refine ti 11 (some 5) rfl rfl ?_; try simp only [Act.put, lA, lB, lC]
   refine ti 12 (some 6) rfl rfl ?_; try simp only [Act.put, lA, lB, lC]
   refine wpAnyH_done ?_ ?_ _
   ·kernel_rfl
   rotate_left
   all_goals
    have HX2 := Lib.hid (hX.out.keep hHeld.1)
    have HG2 := Lib.hid hHeld.1
    clear hX hHeld hdr p4
    cases fv with
    | none =>
      have HJE : Hid (jobsR F (j + 1) = jobsR F j) := Lib.hid (by rw [jobsR_succ, HFV.out]; rfl)
      have hx : Option.isSome (none : Option Nat) = false := rfl
      go_wp2_with fail
      go_roundw
      case rel => exact ⟨j + 1, vJ, by omega, by go_num, Lib.hid (by rw [HJE.out]; exact HX2.out)⟩
      case measure => simp [intOf]; omega
    | some d =>
      have HJE : Hid (jobsR F (j + 1) = jobsR F j ++ [(j : Int)]) := Lib.hid (by rw [jobsR_succ, HFV.out]; rfl)
      have o2 := HX2.out.out.cell 2
      have hx : Option.isSome (some d) = true := rfl
      go_upto_region 7 with fail
      generalize wr.drew = w4 at HX2 HG2 o2 ⊢
      have hal : Gr w4 (w4.alloc (.cells #[.int .i64 (j : Int)] 3)) := (Gr.refl _).alloc _
      have HXA := Lib.hid (HX2.out.keep hal)
      obtain ⟨hi, hz0, hz1, hz2⟩ := HI.out
      have hl := jobsR_len F j
      have hsz : w.heap.size ≤ w4.heap.size := HX2.out.gr.size
      go_wp2_with (at_builtin; refine wpList_append_own _ rfl _ _ 25 rfl w.heap.size 3 i0 _ 1 8 Tryz.underlying25 hi hz0 hz1 hz2 rfl (by decide) _ _ _ rfl HXA.out.rowJ ⟨w4.heap.size, 0, none⟩ 1 1 [.int .i64 (j : Int)] rfl rfl ?a1 ?a2 ?a3 ?a4 ?a5 ?_)
      case a1 =>
       intro t x ht
       rw [Addr.add_lit]
       exact alloc_new rfl (by rw [Nat.zero_add]; simpa using ht)
      case a2 => intro x hx; simp at hx; rcases hx with rfl; rfl
      case a3 => unfold maxLen; omega
      case a4 => omega
      case a5 => simp; omega
      intro v' w5 hown5 hgrow _
      obtain ⟨g5, c5, rfl, -⟩ := owns_shape hown5 (by omega)
      obtain ⟨hX5, q2, qf⟩ := HXA.out.job hown5 hgrow
      rw [← HJE.out] at hX5
      have HX5 := Lib.hid hX5
      clear hX5 hown5 hgrow hal HX2 HXA hi hz0 hz1 hz2 hl hsz o2
      go_wp2_with fail
      go_roundw
      case rel => exact ⟨j + 1, _, by omega, by go_num, HX5⟩
      case measure => simp [intOf]; omega
  ·obtain rfl : n = j := by omega
   have p3 := (HPR.out.keep hX.out.gr).blk.cell 3
   have HX0 : Hid (RefS w R O vJ (.slice none 0 0) (jobsR F n) (spansR F n T 0) wr) := hX
   clear hX hjl hj
   go_wp2_with fail
   go_loopw [44] (fun z wi => ∃ (s : Nat) (vS : Value), s ≤ K ∧ z = .int .i64 (s : Int) ∧ Hid (RefS w R O vJ vS (jobsR F n) (spansR F n T s) wi)) (fun z _ => K - (intOf z).toNat)
   case atStart => exact ⟨0, _, Nat.zero_le _, rfl, HX0⟩
   case round =>
    clear HX0 p3
    obtain ⟨s, vS, hs, rfl, hX⟩ := hrel
    by_cases hsl : s < K
    ·have hsi : (s : Int) < (K : Int) := by omega
     have hgr := hX.out.gr
     obtain ⟨bs, os, hSA, e0, e1⟩ := Pts_at (HPR.out.keep hgr).sp (k := s) (by rw [spanL_len, HK.out]; exact hsl)
     change wr.cell? ⟨bs, os + s * 2, none⟩ = some (.int .i64 (spA T s).1) at e0
     change wr.cell? ⟨bs, os + s * 2 + 1, none⟩ = some (.int .i64 (spA T s).2) at e1
     rw [spA_at (by rw [HK.out]; exact hsl)] at e0 e1
     dsimp only at e0 e1
     obtain ⟨x, hx⟩ : ∃ x, T.getD s 0 = x := ⟨_, rfl⟩
     obtain ⟨y, hy⟩ : ∃ y, T.getD (s + 1) 0 = y := ⟨_, rfl⟩
     rw [hx] at e0
     rw [hy] at e1
     have HXY := Lib.hid (And.intro hx hy)
     subst hSA
     clear hx hy hgr
     go_upto_region 12 with fail
     generalize hW2 : World.alloc wr _ = w2
     have hg2 : Gr wr w2 := by rw [← hW2]; exact (Gr.refl wr).alloc _
     have hY2 : Blk w2 wr.heap.size 47 #[.int .i64 x, .int .i64 y] := by rw [← hW2]; exact heap_alloc_new wr _
     generalize wr.heap.size = Y at hY2 ⊢
     have HX2 := Lib.hid (hX.out.keep hg2)
     have HY2 := Lib.hid hY2
     have HP2 := HPR.out.keep (HX2.out.gr)
     have p2 := HP2.blk.cell 2
     have p4 := HP2.blk.cell 4
     have hdr : Gr w2 w2.drew := (Gr.refl w2).drew
     have HSN := Lib.hid (fun W (hW : W.cell? ⟨p, 2, none⟩ = some (.slice A n c)) => spanNode_any p A n c s W (by omega) (by omega) hW)
     have hgr := HX2.out.gr
     have HLK : Hid (∀ W, Gr w2 W → (Instr.lookup 115 (.map (some fb)) (.int .i64 (2 + (n : Int) + (s : Int))) true).run Tryz.prog W = .ok (.tuple #[.int .i64 (((F (2 + n + s)).getD 0 : Nat) : Int), .bool (F (2 + n + s)).isSome]) W) := Lib.hid (fun W hW => by
      have := (HPR.out.keep (hgr.trans hW)).fm.look2 (u := 2 + n + s) (by unfold nodeB; omega)
      rwa [show ((2 + n + s : Nat) : Int) = 2 + (n : Int) + (s : Int) by omega] at this)
     obtain ⟨fv, hfv⟩ : ∃ q, F (2 + n + s) = q := ⟨_, rfl⟩
     rw [hfv] at HLK
     have HFV := Lib.hid hfv
     clear hfv hgr hX hY2 hg2 hW2 e0 e1 HP2
     refine wp_region_held_drew (S := (fun W' => Gr w2 W' ∧ W'.cell? ⟨p, 4, none⟩ = some (.map (some fb)) ∧ W'.cell? ⟨p, 2, none⟩ = some (.slice A n c))) ?_ ?_ (fun hHeld => ?_)
     ·kernel_rfl
     ·((try dsimp only); (first | exact hHeld | exact ⟨hdr, hdr.keep p4, hdr.keep p2⟩))
     refine ti 0 (some 50) rfl rfl ?_; try simp only [Act.put, lA, lB, lC]
     refine ti 1 (some 51) rfl rfl ?_; try simp only [Act.put, lA, lB, lC]
     refine ti 2 (some 52) rfl rfl ?_; try simp only [Act.put, lA, lB, lC]
     refine ti 3 (some 53) rfl rfl ?_; try simp only [Act.put, lA, lB, lC]
     refine ti 4 (some 54) rfl rfl ?_; try simp only [Act.put, lA, lB, lC]
     refine ti 5 (some 55) rfl rfl ?_; try simp only [Act.put, lA, lB, lC]
     refine tr [6] (.cons rfl (fun K hK => ?_) .nil)
     go_simp
     first | (go_at_call 56; (with_reducible refine (HSN.out _ hHeld.2.2).mono ?_); rintro e w' ⟨rfl, rfl⟩)
     refine hK.out _ _ ?_ (fun hHeld => ?_)
     ·((try dsimp only); (first | exact hHeld | exact ⟨hdr, hdr.keep p4, hdr.keep p2⟩))
     clear hK K; try simp only [Act.put, lA, lB, lC]
     refine tr [7] (.cons rfl (fun K hK => ?_) .nil)
     first | (refine held_look (by rfl) (.tmp 53) (.tmp 56) _ _ (by rfl) (.map (some fb)) (.int .i64 (2 + (n : Int) + (s : Int))) (.tuple #[.int .i64 ((fv.getD 0 : Nat) : Int), .bool fv.isSome]) (by rfl) (by rfl) (HLK.out _ hHeld.1) ?_)
     refine hK.out _ _ ?_ (fun hHeld => ?_)
     ·((try dsimp only); (first | exact hHeld | exact ⟨hdr, hdr.keep p4, hdr.keep p2⟩))
     clear hK K; try simp only [Act.put, lA, lB, lC]
     refine ti 8 (some 49) rfl rfl ?_; try simp only [Act.put, lA, lB, lC]
     refine ti 9 (some 58) rfl rfl ?_; try simp only [Act.put, lA, lB, lC]
     refine ti 10 (some 59) rfl rfl ?_; try simp only [Act.put, lA, lB, lC]
     refine ti 11 (some 9) rfl rfl ?_; try simp only [Act.put, lA, lB, lC]
     refine ti 12 (some 10) rfl rfl ?_; try simp only [Act.put, lA, lB, lC]
     refine wpAnyH_done ?_ ?_ _
     ·kernel_rfl
     rotate_left
     all_goals
      have HX3 := Lib.hid (HX2.out.keep hHeld.1)
      have HY3 := Lib.hid (HY2.out.keep hHeld.1)
      clear HX2 HY2 hHeld hdr p4 p2
      cases fv with
      | none =>
        have HJE : Hid (spansR F n T (s + 1) = spansR F n T s) := Lib.hid (by rw [spansR_succ, HFV.out]; rfl)
        have hx : Option.isSome (none : Option Nat) = false := rfl
        go_wp2_with fail
        go_roundw
        case rel => exact ⟨s + 1, vS, by omega, by go_num, Lib.hid (by rw [HJE.out]; exact HX3.out)⟩
        case measure => simp [intOf]; omega
      | some d =>
        have HJE : Hid (spansR F n T (s + 1) = spansR F n T s ++ [(x, y)]) := Lib.hid (by rw [spansR_succ, HFV.out, HXY.out.1, HXY.out.2]; rfl)
        have o2 := HX3.out.out.cell 3
        have y0 := HY3.out.cell 0
        have y1 := HY3.out.cell 1
        have hx : Option.isSome (some d) = true := rfl
        go_upto_region 14 with fail
        generalize w2.drew = w4 at HX3 HY3 o2 y0 y1 ⊢
        have hal : Gr w4 (w4.alloc (.cells #[.int .i64 x, .int .i64 y] 47)) := (Gr.refl _).alloc _
        have HXA := Lib.hid (HX3.out.keep hal)
        obtain ⟨hi, hz0, hz1, hz2⟩ := HJ.out
        have hl := spansR_len F n T s
        have hsz : w.heap.size ≤ w4.heap.size := HX3.out.gr.size
        go_wp2_with (at_builtin; refine wpList_append_own _ rfl _ _ 52 rfl w.heap.size 47 i1 _ 2 16 Tryz.underlying52 hi hz0 hz1 hz2 rfl (by decide) _ _ _ rfl HXA.out.rowS ⟨w4.heap.size, 0, none⟩ 1 1 [.int .i64 x, .int .i64 y] rfl rfl ?a1 ?a2 ?a3 ?a4 ?a5 ?_)
        case a1 =>
         intro t x ht
         rw [Addr.add_lit]
         exact alloc_new rfl (by rw [Nat.zero_add]; simpa using ht)
        case a2 => intro x hx; simp at hx; rcases hx with rfl | rfl <;> rfl
        case a3 => unfold maxLen; omega
        case a4 => omega
        case a5 => simp; omega
        intro v' w5 hown5 hgrow _
        obtain ⟨g5, c5, rfl, -⟩ := owns_shape hown5 (by omega)
        obtain ⟨hX5, q2, qf⟩ := HXA.out.span (x := (x, y)) hown5 hgrow
        rw [← HJE.out] at hX5
        have HX5 := Lib.hid hX5
        clear hX5 hown5 hgrow hal HX3 HY3 HXA hi hz0 hz1 hz2 hl hsz o2 y0 y1
        go_wp2_with fail
        go_roundw
        case rel => exact ⟨s + 1, _, by omega, by go_num, HX5⟩
        case measure => simp [intOf]; omega
    ·obtain rfl : K = s := by omega
     obtain ⟨A3, c3, A4, c4, e3, e4, hfin⟩ := hX.out.fin
     subst e3
     subst e4
     have HFIN := Lib.hid hfin
     have HFR := Lib.hid (And.intro (Fresh.of rfl hX.out.rowJ) (Fresh.of rfl hX.out.rowS))
     clear hfin
     have o0 := hX.out.out.cell 0
     have o1 := hX.out.out.cell 1
     have o2 := hX.out.out.cell 2
     have o3 := hX.out.out.cell 3
     have z0 := hX.out.res.free 0
     have z1 := hX.out.res.free 1
     have z2 := hX.out.res.free 2
     have z3 := hX.out.res.free 3
     have y0 := hX.out.res.cell 0
     have y1 := hX.out.res.cell 1
     have y2 := hX.out.res.cell 2
     have y3 := hX.out.res.cell 3
     clear hsl hs
     go_wp2_with fail
     obtain ⟨h1, h2, h3, u0, u1, u2, u3⟩ := HFIN.out _ rfl
     refine bodyPost_ret (v := .agg #[.bool false, .slice none 0 0, .slice A3 (jobsR F n).length c3, .slice A4 (spansR F n T K).length c4]) ?_ ?_ ?_
     ·simp [results, Tryz.results61, go_sem, u0, u1, u2, u3]
     ·rfl
     ·exact ⟨_, _, _, _, rfl, h1, h2, ⟨(((HFR.out.1.put _ _).put _ _).put _ _).put _ _, (((HFR.out.2.put _ _).put _ _).put _ _).put _ _⟩, h3⟩

set_option maxRecDepth 100000
set_option maxHeartbeats 80000000

theorem Rd.ans {α : Type} {enc : α → List Value} {k : Nat} {w w' : World} {A : Option Addr} {xs : List α} {R : Nat} {t : TypeId} {cs : Array Value} (hi : ∀ x v, v ∈ enc x → ∃ n : Int, v = Value.int .i64 n) (h : Rd k enc w A xs) (hB : Blk w R t cs) (hc : ∀ (i : Nat) (n : Int), cs[i]? ≠ some (Value.int .i64 n)) (hg : Gb R w w') : Rd k enc w' A xs := fun i x hx => by
 obtain ⟨b, off, e, h⟩ := h i x hx
 refine ⟨b, off, e, fun j v hv => ?_⟩
 obtain ⟨n, rfl⟩ := hi x v (List.mem_of_getElem? hv)
 refine gb_cell hg (h j _ hv) (fun eb => ?_)
 subst eb
 exact hc _ n ((hB.cell _).symm.trans (h j _ hv))
theorem enc4_int (x : Sl) (v : Value) (h : v ∈ enc4B x) : ∃ n : Int, v = Value.int .i64 n := by
 simp [enc4B] at h; rcases h with rfl | rfl | rfl | rfl <;> exact ⟨_, rfl⟩
theorem enc2_int (x : Int × Int) (v : Value) (h : v ∈ enc2 x) : ∃ n : Int, v = Value.int .i64 n := by
 simp [enc2] at h; rcases h with rfl | rfl <;> exact ⟨_, rfl⟩
theorem enc1_int (x : Int) (v : Value) (h : v ∈ enc1 x) : ∃ n : Int, v = Value.int .i64 n := by
 simp [enc1] at h; exact ⟨_, h⟩
theorem ans_noint (i : Nat) (n : Int) : (#[Value.bool false, .slice none 0 0, .slice none 0 0, .slice none 0 0] : Array Value)[i]? ≠ some (.int .i64 n) := by
 match i with
 | 0 => simp
 | 1 => simp
 | 2 => simp
 | 3 => simp
 | _ + 4 => simp
theorem ans_put {w0 w : World} {R : Nat} (h : Blk w R 54 #[.bool false, .slice none 0 0, .slice none 0 0, .slice none 0 0]) (hg : Gr w0 w) (hR : w0.heap.size ≤ R) (v0 v1 v2 v3 : Value) :
 ∀ w', ((((w.setCell ⟨R, 0, none⟩ v0).setCell ⟨R, 1, none⟩ v1).setCell ⟨R, 2, none⟩ v2).setCell ⟨R, 3, none⟩ v3) = w' →
  (∀ {α : Type} {enc : α → List Value} {k : Nat} {A : Option Addr} {xs : List α}, (∀ x v, v ∈ enc x → ∃ n : Int, v = Value.int .i64 n) → Rd k enc w A xs → Rd k enc w' A xs) ∧ Gr w0 w' ∧ w'.cell? ⟨R, 0, none⟩ = some v0 ∧ w'.cell? ⟨R, 1, none⟩ = some v1 ∧ w'.cell? ⟨R, 2, none⟩ = some v2 ∧ w'.cell? ⟨R, 3, none⟩ = some v3 := by
 have hp := (((h.put 0 v0).put 1 v1).put 2 v2).put 3 v3
 have hb := ((((Gb.of (Gr.refl w) R).put 0 v0).put 1 v1).put 2 v2).put 3 v3
 rintro w' rfl
 have q0 := hp.cell 0
 have q1 := hp.cell 1
 have q2 := hp.cell 2
 have q3 := hp.cell 3
 simp at q0 q1 q2 q3
 exact ⟨fun hi hr => hr.ans hi h ans_noint hb, hb.gr hg hR, q0, q1, q2, q3⟩

def AnsP (B : Nat) (l : List Jb) (w : World) (e : Ending) (w' : World) : Prop :=
 (∃ A k c sl, e = .returned (.agg #[.bool true, .slice A k c, .slice none 0 0, .slice none 0 0]) ∧ sl.length = k ∧ Rd 4 enc4B w' A sl ∧ SchedP B l sl ∧ Fresh w.heap.size w' A k c ∧ Gr w w') ∨
 (∃ JA jc SA sc J S, e = .returned (.agg #[.bool false, .slice none 0 0, .slice JA (List.length J) jc, .slice SA (List.length S) sc]) ∧ Ints w' JA J ∧ Pts w' SA S ∧ RefuseP B l J S ∧ (Fresh w.heap.size w' JA (List.length J) jc ∧ Fresh w.heap.size w' SA (List.length S) sc) ∧ Gr w w')

theorem answer_any {p g m fb B : Nat} {A : Option Addr} {n c : Nat} {SA : Option Addr} {sc : Nat} {F : Nat → Option Nat} {r' : Nat → Nat → Int} {nx : Nat → List Nat} {l : List Jb} (w : World) (hn : l.length = n) (hn32 : n ≤ 32) (hB : B ≤ 8) (hV : JobsV l)
 (h : PlanR w p g m fb B A n c SA ((tms l).length - 1) sc (tms l) F r') (hL : Left B n ((tms l).length - 1) l (tms l) r' F nx 4096) (h0 : F 0 = some 0) :
 Calls Tryz.prog 33 #[.pointer (some ⟨p, 0, none⟩)] w (AnsP B l w) := by
 have HPR := Lib.hid h
 have HIP := Lib.hid (fun W (hW : Gr w W) => isPossible_any W (h.keep hW) h0)
 have HT : Hid ((∀ v, F v ≠ none → v = 0) → FullF (gridT (tms l) (tms_asc l)) B l (flF r' n)) := Lib.hid (by subst hn; exact fun hv => hL.full hv)
 have HR : Hid (¬ (∀ v, F v ≠ none → v = 0) → RefuseP B l (jobsR F n) (spansR F n (tms l) ((tms l).length - 1))) := Lib.hid (by
  subst hn
  intro hv
  obtain ⟨v, hv⟩ := Classical.not_forall.1 hv
  obtain ⟨hv, hv0⟩ := Classical.not_imp.1 hv
  exact hL.refuse hV hn32 hv hv0)
 have HFE := Lib.hid (fun j s => hL.fl_eq j s)
 have HV := Lib.hid hV
 have HN := Lib.hid hn
 have hK64 : (tms l).length - 1 ≤ 63 := by have := timesL_len (tmL l); rw [tmL_len, hn] at this; change (tms l).length ≤ _ at this; omega
 clear h hL h0 hV hn
 go_enter Tryz.func33, Tryz.ntmps33
 go_wp2_with fail
 generalize hW1 : World.alloc w _ = w1
 have hg1 : Gr w w1 := by rw [← hW1]; exact (Gr.refl w).alloc _
 have hR1 : Blk w1 w.heap.size 54 #[.bool false, .slice none 0 0, .slice none 0 0, .slice none 0 0] := by rw [← hW1]; exact heap_alloc_new w _
 obtain ⟨R, hRe⟩ : ∃ R, w.heap.size = R := ⟨_, rfl⟩
 rw [hRe] at hR1 ⊢
 have hRle : w.heap.size ≤ R := by omega
 have HR1 := Lib.hid hR1
 clear hW1 hR1 hRe
 refine (HIP.out _ hg1).mono ?_
 rintro e w2 ⟨b, rfl, hb, rfl⟩
 cases b with
 | true =>
   have HS := Lib.hid (slots_any w2 rfl HN.out hn32 hB HV.out.p (HPR.out.keep hg1) (HT.out (hb.1 rfl)) HFE.out)
   clear hb HIP
   go_wp2_with fail
   refine HS.out.mono ?_
   rintro e w3 ⟨A3, k3, c3, sl, rfl, e1, e2, e3, ef, e4⟩
   have HE := Lib.hid (And.intro e1 (And.intro e2 e3))
   have HEF := Lib.hid (ef.base hg1.size)
   have HR3 := Lib.hid (HR1.out.keep e4)
   have hg3 := hg1.trans e4
   clear e1 e2 e3 e4 ef HS
   have y0 := HR3.out.cell 0
   have y1 := HR3.out.cell 1
   have y2 := HR3.out.cell 2
   have y3 := HR3.out.cell 3
   have z0 := HR3.out.free 0
   have z1 := HR3.out.free 1
   have z2 := HR3.out.free 2
   have z3 := HR3.out.free 3
   go_wp2_with fail
   obtain ⟨hrd, hgf, u0, u1, u2, u3⟩ := ans_put HR3.out hg3 hRle (.bool true) (.slice A3 k3 c3) (.slice none 0 0) (.slice none 0 0) _ rfl
   refine bodyPost_ret (v := .agg #[.bool true, .slice A3 k3 c3, .slice none 0 0, .slice none 0 0]) ?_ ?_ ?_
   ·simp [results, Tryz.results33, go_sem, u0, u1, u2, u3]
   ·rfl
   ·exact Or.inl ⟨_, _, _, _, rfl, HE.out.1, hrd enc4_int HE.out.2.1, HE.out.2.2, (((HEF.out.put _ _).put _ _).put _ _).put _ _, hgf⟩
 | false =>
   have HS := Lib.hid (refusal_any w2 rfl hK64 hn32 (HPR.out.keep hg1))
   have HRR := Lib.hid (HR.out (fun hv => by have := hb.2 hv; cases this))
   clear hb HIP
   go_wp2_with fail
   refine HS.out.mono ?_
   rintro e w3 ⟨A3, c3, A4, c4, rfl, e1, e2, ef, e4⟩
   have HE := Lib.hid (And.intro e1 e2)
   have HEF := Lib.hid (And.intro (ef.1.base hg1.size) (ef.2.base hg1.size))
   have HR3 := Lib.hid (HR1.out.keep e4)
   have hg3 := hg1.trans e4
   clear e1 e2 e4 ef HS
   have y0 := HR3.out.cell 0
   have y1 := HR3.out.cell 1
   have y2 := HR3.out.cell 2
   have y3 := HR3.out.cell 3
   have z0 := HR3.out.free 0
   have z1 := HR3.out.free 1
   have z2 := HR3.out.free 2
   have z3 := HR3.out.free 3
   go_wp2_with fail
   obtain ⟨hrd, hgf, u0, u1, u2, u3⟩ := ans_put HR3.out hg3 hRle (.bool false) (.slice none 0 0) (.slice A3 (jobsR F n).length c3) (.slice A4 (spansR F n (tms l) ((tms l).length - 1)).length c4) _ rfl
   refine bodyPost_ret (v := .agg #[.bool false, .slice none 0 0, .slice A3 (jobsR F n).length c3, .slice A4 (spansR F n (tms l) ((tms l).length - 1)).length c4]) ?_ ?_ ?_
   ·simp [results, Tryz.results33, go_sem, u0, u1, u2, u3]
   ·rfl
   ·exact Or.inr ⟨_, _, _, _, _, _, rfl, hrd enc1_int HE.out.1, hrd enc2_int HE.out.2, HRR.out, ⟨(((HEF.out.1.put _ _).put _ _).put _ _).put _ _, (((HEF.out.2.put _ _).put _ _).put _ _).put _ _⟩, hgf⟩

end Go.Proofs.YtobcdkjomehdkaaGreat
