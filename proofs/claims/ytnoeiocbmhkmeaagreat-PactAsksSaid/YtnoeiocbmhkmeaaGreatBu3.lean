/- Layer 5: new deals, and letters to the sites of parts. -/
import Derived.Test.YtnoeiocbmhkmeaaGreatBu2
namespace Go.Proofs.YtnoeiocbmhkmeaaGreat
open Go.RowKit
set_option linter.unusedSimpArgs false
set_option maxRecDepth 100000
set_option maxHeartbeats 80000000

theorem Tryz.infoPtM : (Tryz.prog.info? 61).map (fun i => (i.zero, i.size, i.bytes)) = some (some (.agg #[.int .i64 0, .int .i64 0]), 2, 16) := by kernel_rfl
theorem Tryz.infoPtL : (Tryz.prog.info? 59).map (fun i => (i.zero, i.size, i.bytes)) = some (some (.agg #[.int .i64 0, .int .i64 0, .int .i64 0, .int .i64 0, .int .i64 0]), 5, 40) := by kernel_rfl
theorem enc2p_len (p : Int × Int) : (enc2 p).length = 2 := rfl
theorem enc2p_one (p : Int × Int) : ∀ u ∈ enc2 p, u.oneCell' = true := by intro u hu; simp [enc2] at hu; rcases hu with rfl | rfl <;> rfl
theorem flat2p_cells {w : World} {b off : Nat} {ps : List (Int × Int)} (h : Pts w (some ⟨b, off, none⟩) ps) : ∀ j u, (flatE enc2 ps)[j]? = some u → w.cell? ⟨b, off + j, none⟩ = some u := fun j u hj => by
 have hlt : j < ps.length * 2 := by rw [← flatE_len enc2p_len]; exact (List.getElem?_eq_some_iff.1 hj).1
 have hk : j / 2 < ps.length := by omega
 obtain ⟨b', o', e, hc⟩ := h (j / 2) _ (List.getElem?_eq_getElem hk)
 injection e with e
 injection e with e1 e2
 have h2 : (enc2 ps[j / 2])[j % 2]? = some u := by
  have h1 := flatE_get enc2p_len ps (j / 2) _ (List.getElem?_eq_getElem hk) (j % 2) (by omega)
  rw [show j / 2 * 2 + j % 2 = j by omega, hj] at h1
  exact h1.symm
 have h3 := hc (j % 2) u h2
 rw [← e1, ← e2] at h3
 rw [show off + j = off + j / 2 * 2 + j % 2 by omega]
 exact h3
def CloneM (ps : List Mv) (w : World) (e : Ending) (w' : World) : Prop :=
 ∃ g c, e = .returned (.slice (some ⟨g, 0, none⟩) ps.length c) ∧ w.heap.size ≤ g ∧ g < w'.heap.size ∧ Pts w' (some ⟨g, 0, none⟩) ps ∧ Gr w w'
theorem cloneM_any (A : Option Addr) (n c : Nat) (ps : List Mv) (w : World) (hn : ps.length = n) (hl : n ≤ 512) (h0 : 1 ≤ n) (hp : Pts w A ps) :
 Calls Tryz.prog 81 #[.slice A n c] w (CloneM ps w) := by
 obtain ⟨b, off, rfl, -⟩ := Pts_at hp (k := 0) (by omega)
 obtain ⟨i0, hi, hz0, hz1, hz2⟩ := info_parts Tryz.infoPtM
 have q : ∀ (w : World) (a : Option Addr) (n c n' c' : Nat), (binOp .eql 38 (.slice a n c) (.slice none n' c')).run Tryz.prog w = .ok (.bool a.isNone) w := fun w a n c n' c' => Lib.run_eql_slice_nil w _ _ a n c n' c' Tryz.underlying38
 have HN := Lib.hid hn
 have HP := Lib.hid hp
 clear hn hp
 go_enter Tryz.func81, Tryz.ntmps81
 go_wp2_with (at_builtin; refine wpList_append_own _ rfl _ _ 38 rfl w.heap.size 61 i0 _ 2 16 Tryz.underlying38 hi hz0 hz1 hz2 rfl (by decide) _ _ _ rfl (World.ownsRow_made w #[] 0 (Nat.le_refl _) (Nat.zero_le _) (by simp)) ⟨b, off, none⟩ n c (flatE enc2 ps) rfl ?qc1 ?qc2 ?qc3 ?qc4 ?qc5 ?qc6 ?_)
 case qc1 => rw [flatE_len enc2p_len, HN.out]
 case qc2 =>
  intro j u hj
  rw [Addr.add_lit]
  exact alloc_old (flat2p_cells HP.out j u hj)
 case qc3 => exact oneCell_flat enc2p_one ps
 case qc4 => unfold maxLen; omega
 case qc5 => omega
 case qc6 => simp
 intro v' w1 hown hgrow hnil
 have hown' : w1.ownsRow w.heap.size 61 2 v' n (flatE enc2 ps) := by simpa using hown
 have HO := Lib.hid hown'
 have HG := Lib.hid hgrow
 clear hown hgrow hnil hi hz0 hz1 hz2 q hown'
 go_wp2
 go_ret
 obtain ⟨g, cap, rfl, hcap⟩ := owns_shape HO.out (by omega)
 refine ⟨g, cap, by rw [HN.out]; rfl, (HO.out.lt g rfl).1, (HO.out.lt g rfl).2, Rd_of_owns enc2p_len HN.out HO.out, ?_⟩
 exact ((Below.refl _ w).alloc (Nat.le_refl _) _).grown HG.out (by simp) (by intro k hk; simp [Value.ownBlock] at hk; omega)

def missOf (ps : List Mv) : List (Int × Bool) := ps.foldl (fun m p => mput m p.1 true) []
theorem missOf_take {ps : List Mv} {k : Nat} {p : Mv} (h : ps[k]? = some p) : missOf (ps.take (k + 1)) = mput (missOf (ps.take k)) p.1 true := by
 unfold missOf
 rw [List.take_add_one, h, Option.toList_some, List.foldl_append]; rfl
def DealP (ps : List Mv) (w : World) (e : Ending) (w' : World) : Prop :=
 ∃ d : Dl, e = .returned (dlV d) ∧ d.parts = ps ∧ d.miss = missOf ps ∧ (w.heap.size ≤ d.b ∧ w.heap.size ≤ d.g ∧ d.b ≠ d.g) ∧ Holds5 w' d.b (.moves d.parts) ∧ Holds5 w' d.g (.bools d.miss) ∧ Gr w w'
theorem newDeal_any (A : Option Addr) (n c : Nat) (ps : List Mv) (w : World) (hn : ps.length = n) (hl : n ≤ 512) (h0 : 1 ≤ n) (hp : Pts w A ps) (hI : ∀ p ∈ ps, I64 p.1) :
 Calls Tryz.prog 67 #[.slice A n c] w (DealP ps w) := by
 have HN := Lib.hid hn
 have HP := Lib.hid hp
 have HI := Lib.hid hI
 have HC := Lib.hid (fun W (hW : Gr w W) => cloneM_any A n c ps W hn hl h0 (hp.keep hW))
 have hmm := @run_makeMap Tryz.prog
 clear hn hp hI
 go_enter Tryz.func67, Tryz.ntmps67
 go_upto_region 1 with fail
 generalize hW0 : World.alloc w _ = W0
 have hg0 : Gr w W0 := by rw [← hW0]; exact (Gr.refl w).alloc _
 have hR0 : Blk W0 w.heap.size 90 #[.slice none 0 0, .map none] := by rw [← hW0]; exact Blk.new w _ _ rfl
 obtain ⟨U, hU⟩ : ∃ U, w.heap.size = U := ⟨_, rfl⟩
 rw [hU] at hR0 ⊢
 have HU := Lib.hid hU
 have HR0 := Lib.hid hR0
 clear hW0 hR0 hU
 go_wp2_with fail
 refine (HC.out _ hg0).mono ?_
 rintro e w1 ⟨g, c1, rfl, hg1, hg2, hg3, hg4⟩
 rw [HN.out]
 have hgr1 := hg0.trans hg4
 have HPg := Lib.hid (And.intro hg1 (And.intro hg2 hg3))
 have HR1 := Lib.hid (HR0.out.keep hg4)
 clear HC hg1 hg2 hg3 hg0 hg4
 go_upto_region 2 with fail
 generalize hW2 : World.alloc w1 (.map #[] 0) = w2
 have hM2 : Mp Tryz.prog 3 intK boolV w2 w1.heap.size ([] : List (Int × Bool)) := by rw [← hW2]; exact Mp_made w1
 have hz2 : w2.heap.size = w1.heap.size + 1 := by rw [← hW2]; simp
 have hg2 : Gr w1 w2 := by rw [← hW2]; exact (Gr.refl w1).alloc _
 obtain ⟨M, hM⟩ : ∃ M, w1.heap.size = M := ⟨_, rfl⟩
 rw [hM] at hM2 hz2 ⊢
 rw [← hz2]
 generalize hW3 : World.alloc w2 _ = w3
 have hb3 : Blk w3 w2.heap.size 90 #[.slice (some ⟨g, 0, none⟩) n c1, .map (some M)] := by rw [← hW3]; exact Blk.new w2 _ _ rfl
 have hg3 : Gr w2 w3 := by rw [← hW3]; exact (Gr.refl w2).alloc _
 have HMS := Lib.hid hM
 have hne : M ≠ w2.heap.size := by omega
 generalize w2.heap.size = D at hb3 hne ⊢
 have HNE := Lib.hid hne
 have HM3 := Lib.hid (hM2.keep hg3)
 have HB3 := Lib.hid hb3
 have hg13 := hg2.trans hg3
 clear hW2 hW3 hM2 hz2 hg2 hg3 hb3 hM hne
 go_wp2_with fail
 go_loopw [12] (fun z wr => ∃ k : Nat, k ≤ n ∧ z = .int .i64 (k : Int) ∧ Hid (Mp Tryz.prog 3 intK boolV wr M (missOf (ps.take k))) ∧ Hid (Blk wr D 90 #[.slice (some ⟨g, 0, none⟩) n c1, .map (some M)]) ∧ Gr w1 wr) (fun z _ => n - (intOf z).toNat)
 case atStart => exact ⟨0, Nat.zero_le _, rfl, HM3, HB3, hg13⟩
 case round =>
  obtain ⟨k, hk, rfl, hM, hB, hgr⟩ := hrel
  clear HM3 HB3 hg13
  by_cases hlt : k < n
  ·obtain ⟨b, off, rfl, x0, x1⟩ := Pts_at (HP.out.keep (hgr1.trans hgr)) (k := k) (by rw [HN.out]; exact hlt)
   have hpk : ps[k]? = some (ps.getD k (0, 0)) := getD_of (0, 0) (by rw [HN.out]; exact hlt)
   have HT := Lib.hid (missOf_take hpk)
   obtain ⟨kl, hkl⟩ := intp_key (HI.out _ (List.mem_of_getElem? hpk))
   generalize ps.getD k (0, 0) = p at *
   obtain ⟨p1, p2⟩ := p
   dsimp only at x0 x1 HT hkl
   have hki : (k : Int) < (n : Int) := by omega
   clear hpk
   go_upto_region 5 with fail
   generalize hW : World.alloc wr _ = w5
   obtain ⟨hgW, k0, k1⟩ := box2q hW
   generalize wr.heap.size = Z at k0 k1 ⊢
   have HM5 := Lib.hid (hM.out.keep hgW)
   have HB5 := Lib.hid (hB.out.keep hgW)
   have hg5 := hgr.trans hgW
   have d1 := HB5.out.cell 1
   clear hW hgW hM hB hgr x0 x1
   go_wp2_with (first | (refine step_store rfl _ _ _ _ rfl HM5.out intK_inj intp_law _ Tryz.underlying81 p1 true kl hkl rfl rfl rfl ?_; intro w6 hm6 hg6) | fail)
   have HM6 : Hid (Mp Tryz.prog 3 intK boolV w6 M (missOf (ps.take (k + 1)))) := Lib.hid (by rw [HT.out]; exact hm6)
   have HB6 := Lib.hid (HB5.out.grown hg6 (fun e => by injection e with e; exact HNE.out e.symm))
   have hgr6 : Gr w1 w6 := Gb.gr hg5 hg6 (Nat.le_of_eq HMS.out)
   clear hm6 hg6 k0 k1 d1 hg5 HM5 HB5 hkl; try simp only [Act.put, lA, lB, lC]
   go_wp2_with fail
   go_roundw
   case rel => exact ⟨k + 1, by omega, by go_num, HM6, HB6, hgr6⟩
   case measure => simp [intOf]; omega
  ·obtain rfl : k = n := by omega
   have htk : ps.take k = ps := List.take_of_length_le (by rw [HN.out]; exact Nat.le_refl _)
   rw [htk] at hM
   have d0 := hB.out.cell 0
   have d1 := hB.out.cell 1
   have HRr := Lib.hid (HR1.out.keep hgr)
   have z0 := HRr.out.free 0
   have z1 := HRr.out.free 1
   have y0 := HRr.out.cell 0
   have y1 := HRr.out.cell 1
   have hU0 := HR0.out.lt
   have hMS := HMS.out
   have hPg := HPg.out
   have hgU : g ≠ U := by omega
   have hMU : M ≠ U := by
    have := HR1.out.lt
    omega
   have hput := (HRr.out.put 0 (.slice (some ⟨g, 0, none⟩) k c1)).put 1 (.map (some M))
   have HPUT := Lib.hid (And.intro (hput.cell 0) (hput.cell 1))
   have h1 : Holds5 wr g (.moves ps) := ⟨by have := hgr.size; omega, hPg.2.2.keep hgr⟩
   have h2 := h1.block (w' := (wr.setCell ⟨U, 0, none⟩ (.slice (some ⟨g, 0, none⟩) k c1)).setCell ⟨U, 1, none⟩ (.map (some M))) ((Below.heap_setCell _ ⟨U, 1, none⟩ _ g hgU).trans (Below.heap_setCell _ ⟨U, 0, none⟩ _ g hgU))
   have h3 := (hM.out.setCell (a := ⟨U, 0, none⟩) hMU (.slice (some ⟨g, 0, none⟩) k c1)).setCell (a := ⟨U, 1, none⟩) hMU (.map (some M))
   have hle := Nat.le_of_eq HU.out
   have h4 : Gr w ((wr.setCell ⟨U, 0, none⟩ (.slice (some ⟨g, 0, none⟩) k c1)).setCell ⟨U, 1, none⟩ (.map (some M))) := ((hgr1.trans hgr).setCell (p := ⟨U, 0, none⟩) hle _).setCell (p := ⟨U, 1, none⟩) hle _
   have HPOST : Hid (DealP ps w (.returned (.agg #[.slice (some ⟨g, 0, none⟩) k c1, .map (some M)])) ((wr.setCell ⟨U, 0, none⟩ (.slice (some ⟨g, 0, none⟩) k c1)).setCell ⟨U, 1, none⟩ (.map (some M)))) := Lib.hid
    ⟨⟨ps, missOf ps, g, c1, M⟩, by unfold dlV; rw [HN.out], rfl, rfl, ⟨by dsimp only; have := HU.out; omega, by dsimp only; have := hgr1.size; omega, by dsimp only; omega⟩, h2, h3, h4⟩
   clear hU0 hMS hPg hgU hMU hput h1 h2 h3 hle h4 htk hlt hM hB hgr hgr1
   go_wp2_with fail
   obtain ⟨u0, u1⟩ := HPUT.out
   simp at u0 u1
   refine bodyPost_ret (v := .agg #[.slice (some ⟨g, 0, none⟩) k c1, .map (some M)]) ?_ ?_ ?_
   ·simp [results, Tryz.results67, go_sem, u0, u1]
   ·rfl
   ·exact HPOST.out

set_option maxRecDepth 100000
set_option maxHeartbeats 80000000

def wrM (s : Sx) (k tx : Int) (p : Mv) : Ml := (s.num, p.1, k, tx, if k = 1 then p.2 else 0)
def wrL (s : Sx) (k tx : Int) (ps : List Mv) : List Ml := ps.map (wrM s k tx)
theorem wrL_take {s : Sx} {k tx : Int} {ps : List Mv} {i : Nat} {p : Mv} (h : ps[i]? = some p) : flatE enc5m (wrL s k tx (ps.take (i + 1))) = flatE enc5m (wrL s k tx (ps.take i)) ++ enc5m (wrM s k tx p) := by
 unfold wrL
 rw [List.take_add_one, h, Option.toList_some, List.map_append, flatE_app]
 simp [flatE]

theorem write5_any {B : Nat} {s : Sx} (k tx : Int) (A : Option Addr) (n c : Nat) (ps : List Mv) (w : World) (h : Its B w (siteIt s)) (hn : ps.length = n) (hl : n ≤ 512) (hp : Pts w A ps) :
 Calls Tryz.prog 68 #[.pointer (some ⟨s.p, 0, none⟩), .int .i64 k, .int .i64 tx, .slice A n c] w (LetP (wrL s k tx ps) w) := by
 have HN := Lib.hid hn
 have HP := Lib.hid hp
 have HC := Lib.hid h.sCells.1
 obtain ⟨i0, hi, hz0, hz1, hz2⟩ := info_parts Tryz.infoPtL
 have HI := Lib.hid (And.intro hi (And.intro hz0 (And.intro hz1 hz2)))
 have HWN := Lib.hid (fun p => show wrM s k tx p = (s.num, p.1, k, tx, if k = 1 then p.2 else 0) from rfl)
 have HWL := Lib.hid (fun i p (hp : ps[i]? = some p) => wrL_take (s := s) (k := k) (tx := tx) hp)
 have HWX : Hid (∀ i, (wrL s k tx (ps.take i)).length = min i n) := Lib.hid (fun i => by unfold wrL; rw [List.length_map, List.length_take, hn])
 clear hn hp h hi hz0 hz1 hz2
 go_enter Tryz.func68, Tryz.ntmps68
 go_wp2_with fail
 go_loopw [9, 15] (fun q z wr => ∃ (i : Nat) (A9 : Option Addr) (c9 : Nat), i ≤ n ∧ z = .int .i64 (i : Int) ∧ q = .slice A9 i c9 ∧ Hid (wr.ownsRow w.heap.size 59 5 (.slice A9 i c9) i (flatE enc5m (wrL s k tx (ps.take i)))) ∧ Gr w wr) (fun _ z _ => n - (intOf z).toNat)
 case atStart => exact ⟨0, none, 0, Nat.zero_le _, rfl, rfl, Lib.hid (World.ownsRow_nil _ _ _ _), Gr.refl _⟩
 case round =>
  obtain ⟨i, A9, c9, hin, rfl, rfl, hown, hgr⟩ := hrel
  by_cases hlt : i < n
  ·obtain ⟨b, off, rfl, x0, x1⟩ := Pts_at (HP.out.keep hgr) (k := i) (by rw [HN.out]; exact hlt)
   have hpk : ps[i]? = some (ps.getD i (0, 0)) := getD_of (0, 0) (by rw [HN.out]; exact hlt)
   have HQ := Lib.hid (HWL.out i _ hpk)
   generalize ps.getD i (0, 0) = p at *
   obtain ⟨p1, p2⟩ := p
   dsimp only at x0 x1 HQ
   have hki : (i : Int) < (n : Int) := by omega
   clear hpk
   go_upto_region 5 with fail
   generalize hW : World.alloc wr _ = w5
   obtain ⟨hgW, k0, k1⟩ := box2q hW
   generalize wr.heap.size = Z at k0 k1 ⊢
   have HO5 := Lib.hid (owns_gr hown.out hgW)
   have hg5 := hgr.trans hgW
   have s0 := hg5.keep HC.out
   clear hW hgW hown hgr x0 x1
   refine wp_region_held_drew (S := (fun W' => W'.cell? ⟨s.p, 0, none⟩ = some (.int .i64 s.num) ∧ W'.cell? ⟨Z, 0, none⟩ = some (.int .i64 p1))) ?_ ?_ (fun hHeld => ?_)
   ·kernel_rfl
   ·((try dsimp only); (try go_split_ands); (repeat' apply And.intro) <;> repeat first | assumption | exact Gr.refl _ | refine Gr.drew ?_ | refine Gr.alloc ?_ _ | refine alloc_old ?_ | refine Gr.keep (by assumption) ?_ | refine Gr.trans ?_ (by assumption))
   refine ti 0 (some 19) rfl rfl ?_; try simp only [Act.put, lA, lB, lC]
   refine ti 1 (some 20) rfl rfl ?_; try simp only [Act.put, lA, lB, lC]
   refine ti 2 (some 21) rfl rfl ?_; try simp only [Act.put, lA, lB, lC]
   refine ti 3 (some 22) rfl rfl ?_; try simp only [Act.put, lA, lB, lC]
   refine ti 4 (some 23) rfl rfl ?_; try simp only [Act.put, lA, lB, lC]
   refine ti 5 (some 24) rfl rfl ?_; try simp only [Act.put, lA, lB, lC]
   refine ti 6 (some 25) rfl rfl ?_; try simp only [Act.put, lA, lB, lC]
   refine ti 7 (some 26) rfl rfl ?_; try simp only [Act.put, lA, lB, lC]
   refine ti 8 (some 27) rfl rfl ?_; try simp only [Act.put, lA, lB, lC]
   refine tr [9] (.cons rfl (fun K hK => ?_) .nil)
   go_simp
   refine hK.out _ _ ?_ (fun hHeld => ?_)
   ·((try dsimp only); (try go_split_ands); (repeat' apply And.intro) <;> repeat first | assumption | exact Gr.refl _ | refine Gr.drew ?_ | refine Gr.alloc ?_ _ | refine alloc_old ?_ | refine Gr.keep (by assumption) ?_ | refine Gr.trans ?_ (by assumption))
   clear hK K; try simp only [Act.put, lA, lB, lC]
   refine tr [10] (.cons rfl (fun K hK => ?_) .nil)
   go_simp
   refine hK.out _ _ ?_ (fun hHeld => ?_)
   ·((try dsimp only); (try go_split_ands); (repeat' apply And.intro) <;> repeat first | assumption | exact Gr.refl _ | refine Gr.drew ?_ | refine Gr.alloc ?_ _ | refine alloc_old ?_ | refine Gr.keep (by assumption) ?_ | refine Gr.trans ?_ (by assumption))
   clear hK K; try simp only [Act.put, lA, lB, lC]
   refine wpAnyH_done ?_ ?_ _
   ·kernel_rfl
   rotate_left
   all_goals
    have hgA : Gr w5 (w5.alloc (.cells #[.int .i64 s.num, .int .i64 p1, .int .i64 k, .int .i64 tx, .int .i64 0] 59)).drew := ((Gr.refl w5).alloc _).drew
    have hbA : Blk (w5.alloc (.cells #[.int .i64 s.num, .int .i64 p1, .int .i64 k, .int .i64 tx, .int .i64 0] 59)).drew w5.heap.size 59 #[.int .i64 s.num, .int .i64 p1, .int .i64 k, .int .i64 tx, .int .i64 0] := Blk.keep (w := w5.alloc _) (heap_alloc_new w5 _) (Gr.refl _).drew
    have hle := hg5.size
    have hle5 := Nat.le_refl w5.heap.size
    generalize World.drew _ = w6 at hgA hbA ⊢
    have x1 := hgA.keep k1
    have HO6 : Hid (∀ W, Gr w5 W → W.ownsRow w.heap.size 59 5 (.slice A9 i c9) i (flatE enc5m (wrL s k tx (ps.take i)))) := Lib.hid (fun W hW => owns_gr HO5.out hW)
    obtain ⟨T, hT⟩ : ∃ T, w5.heap.size = T := ⟨_, rfl⟩
    rw [hT] at hbA hle hle5 ⊢
    have f4 := hbA.free 4
    have e4 : w6.cell? ⟨T, 4, none⟩ = some (.int .i64 0) := hbA.cell 4
    have HB6 := Lib.hid hbA
    have HT := Lib.hid hT
    have HW := Lib.hid (HWN.out (p1, p2))
    clear hHeld k0 k1 HO5 hbA hT
    have key : ∃ (x5 : Int) (W : World), (wrM s k tx (p1, p2)) = (s.num, p1, k, tx, x5) ∧ (if k = 1 then w6.setCell ⟨T, 4, none⟩ (.int .i64 p2) else w6) = W ∧ Gr w5 W ∧ Blk W T 59 #[.int .i64 s.num, .int .i64 p1, .int .i64 k, .int .i64 tx, .int .i64 x5] := by
     by_cases h1 : k = 1
     ·exact ⟨p2, _, by rw [HW.out, if_pos h1], if_pos h1, hgA.setCell (p := ⟨T, 4, none⟩) (by rw [HT.out]; exact Nat.le_refl _) _, HB6.out.put 4 _⟩
     ·exact ⟨0, _, by rw [HW.out, if_neg h1], if_neg h1, hgA, HB6.out⟩
    obtain ⟨x5, W, hm, hW, hgW, hbW⟩ := key
    have HK := Lib.hid hm
    have HGW := Lib.hid hgW
    have HBW := Lib.hid hbW
    clear hm hgW hbW
    have hks : k = 1 ∨ k ≠ 1 := by omega
    rcases hks with rfl | h1
    ·rw [if_pos rfl] at hW
     go_upto_region 8 with fail
     try rw [hW]
     clear hW f4 e4 x1
     have d0 : W.cell? ⟨T, 0, none⟩ = some (.int .i64 s.num) := HBW.out.cell 0
     have d1 : W.cell? ⟨T, 1, none⟩ = some (.int .i64 p1) := HBW.out.cell 1
     have d2 : W.cell? ⟨T, 2, none⟩ = some (.int .i64 1) := HBW.out.cell 2
     have d3 : W.cell? ⟨T, 3, none⟩ = some (.int .i64 tx) := HBW.out.cell 3
     have d4 : W.cell? ⟨T, 4, none⟩ = some (.int .i64 x5) := HBW.out.cell 4
     have HO7 := Lib.hid (HO6.out W HGW.out)
     have hgrW := hg5.trans HGW.out
     obtain ⟨hi, hz0, hz1, hz2⟩ := HI.out
     go_wp2_with go_loud (at_builtin; refine wpList_append_own _ rfl _ _ 31 rfl w.heap.size 59 i0 _ 5 40 Tryz.underlying31 hi hz0 hz1 hz2 rfl (by decide) _ _ _ rfl (HO7.out.alloc _) ⟨W.heap.size, 0, none⟩ 1 1 (enc5m (s.num, p1, 1, tx, x5)) rfl rfl ?a1 ?a2 ?a3 ?a4 ?a5 ?_)
     case a1 =>
      intro t u ht
      first
      | (rw [Addr.add_lit]; exact alloc_new rfl (by rw [Nat.zero_add]; simpa [enc5m] using ht))
      | simpa [enc5m] using ht
     case a2 => exact fun u hu => enc5m_one _ u hu
     case a3 => unfold maxLen; omega
     case a4 => omega
     case a5 => have := hgrW.size; simp; omega
     intro v' w10 hown' hgrow _
     have hal := hgrW.alloc (.cells #[.int .i64 s.num, .int .i64 p1, .int .i64 1, .int .i64 tx, .int .i64 x5] 59)
     have ho3 := HO7.out.alloc (.cells #[.int .i64 s.num, .int .i64 p1, .int .i64 1, .int .i64 tx, .int .i64 x5] 59)
     have hgf : Gr w w10 := Below.grown hal hgrow hal.size (fun t ht => (ho3.lt t ht).1)
     have hlen : (wrL s 1 tx (ps.take (i + 1))).length = i + 1 := (HWX.out (i + 1)).trans (Nat.min_eq_left (by omega))
     have hown5 : w10.ownsRow w.heap.size 59 5 v' (i + 1) (flatE enc5m (wrL s 1 tx (ps.take (i + 1)))) := by
      rw [HQ.out, HK.out]; exact hown'
     obtain ⟨A8, c8, rfl, -, -, -⟩ := own_row enc5m_len hlen hown5
     have HO8 := Lib.hid hown5
     clear hi hz0 hz1 hz2 hown' hgrow hal ho3 hown5 hlen hgrW HO7 d0 d1 d2 d3 d4
     go_wp2_with fail
     go_roundw
     case rel => exact ⟨i + 1, A8, c8, by omega, by go_num, rfl, HO8, hgf⟩
     case measure => simp [intOf]; omega
    ·rw [if_neg h1] at hW
     go_upto_region 8 with fail
     try rw [hW]
     clear hW f4 e4 x1
     have d0 : W.cell? ⟨T, 0, none⟩ = some (.int .i64 s.num) := HBW.out.cell 0
     have d1 : W.cell? ⟨T, 1, none⟩ = some (.int .i64 p1) := HBW.out.cell 1
     have d2 : W.cell? ⟨T, 2, none⟩ = some (.int .i64 k) := HBW.out.cell 2
     have d3 : W.cell? ⟨T, 3, none⟩ = some (.int .i64 tx) := HBW.out.cell 3
     have d4 : W.cell? ⟨T, 4, none⟩ = some (.int .i64 x5) := HBW.out.cell 4
     have HO7 := Lib.hid (HO6.out W HGW.out)
     have hgrW := hg5.trans HGW.out
     obtain ⟨hi, hz0, hz1, hz2⟩ := HI.out
     go_wp2_with (at_builtin; refine wpList_append_own _ rfl _ _ 31 rfl w.heap.size 59 i0 _ 5 40 Tryz.underlying31 hi hz0 hz1 hz2 rfl (by decide) _ _ _ rfl (HO7.out.alloc _) ⟨W.heap.size, 0, none⟩ 1 1 (enc5m (s.num, p1, k, tx, x5)) rfl rfl ?a1 ?a2 ?a3 ?a4 ?a5 ?_)
     case a1 =>
      intro t u ht
      first
      | (rw [Addr.add_lit]; exact alloc_new rfl (by rw [Nat.zero_add]; simpa [enc5m] using ht))
      | simpa [enc5m] using ht
     case a2 => exact fun u hu => enc5m_one _ u hu
     case a3 => unfold maxLen; omega
     case a4 => omega
     case a5 => have := hgrW.size; simp; omega
     intro v' w10 hown' hgrow _
     have hal := hgrW.alloc (.cells #[.int .i64 s.num, .int .i64 p1, .int .i64 k, .int .i64 tx, .int .i64 x5] 59)
     have ho3 := HO7.out.alloc (.cells #[.int .i64 s.num, .int .i64 p1, .int .i64 k, .int .i64 tx, .int .i64 x5] 59)
     have hgf : Gr w w10 := Below.grown hal hgrow hal.size (fun t ht => (ho3.lt t ht).1)
     have hlen : (wrL s k tx (ps.take (i + 1))).length = i + 1 := (HWX.out (i + 1)).trans (Nat.min_eq_left (by omega))
     have hown5 : w10.ownsRow w.heap.size 59 5 v' (i + 1) (flatE enc5m (wrL s k tx (ps.take (i + 1)))) := by
      rw [HQ.out, HK.out]; exact hown'
     obtain ⟨A8, c8, rfl, -, -, -⟩ := own_row enc5m_len hlen hown5
     have HO8 := Lib.hid hown5
     clear hi hz0 hz1 hz2 hown' hgrow hal ho3 hown5 hlen hgrW HO7 d0 d1 d2 d3 d4
     go_wp2_with fail
     go_roundw
     case rel => exact ⟨i + 1, A8, c8, by omega, by go_num, rfl, HO8, hgf⟩
     case measure => simp [intOf]; omega
  ·obtain rfl : i = n := by omega
   have htk : ps.take i = ps := List.take_of_length_le (by rw [HN.out]; exact Nat.le_refl _)
   have HLE : Hid ((wrL s k tx ps).length = i) := Lib.hid (by unfold wrL; rw [List.length_map, HN.out])
   rw [htk] at hown
   clear htk
   go_wp2_with fail
   go_ret
   obtain ⟨A7, c7, e, h1, h2, -⟩ := own_row enc5m_len HLE.out hown.out
   injection e with e1 _ e2
   exact ⟨A9, c9, by rw [HLE.out]; rfl, by rw [e1]; exact h2, hgr, by rw [HLE.out, e2]; exact h1⟩

end Go.Proofs.YtnoeiocbmhkmeaaGreat

namespace Go.Proofs.YtnoeiocbmhkmeaaGreat
open Go.RowKit
open Go.Maps (Keyed)
set_option linter.unusedSimpArgs false
set_option maxRecDepth 100000
set_option maxHeartbeats 80000000

section
variable {α β : Type} {P : Program} {k : TypeId} {K : α → Value} {V : β → Value} {w : World} {g : Nat} {l : List (α × β)}
variable {ops : Array Oper} {o : Oper} {a : Act} {Q : Exit → Act → World → Prop} {Kq : Act → World → Prop} {E : Prop}
theorem held_update [DecidableEq α] (hg : o.guard = none) (m x v : Operand) (t : TypeId) (hop : o.op = Op.mapUpdate t m x v) (h : Mp P k K V w g l) (hK : ∀ a b, K a = K b → a = b) (Kd : Keyed P k) (e : TypeId) (ht : P.underlying t = some (.map k e))
 (b : α) (y : β) (kl : Lit) (hb : keyOf P k (K b) = some kl) (hm : a.eval m = .map (some g)) (hx : a.eval x = K b) (hv : a.eval v = V y) (hd : o.dst = none)
 (hC : ∀ w', Mp P k K V w' g (mput l b y) → Gb g w w' → Kq a w') : if Region.wanted o (yielded ops a.tmps) = true then Oper.wp P o a w Kq Q else E := by
 have hw : Region.wanted o (yielded ops a.tmps) = true := by simp [Region.wanted, hg]
 rw [if_pos hw]
 obtain ⟨w', hrun, r1, r2⟩ := h.store hK Kd ht hb y
 unfold Oper.wp
 simp [execOp, hop, hm, hx, hv, hrun, Result.andThen]
 show Kq (a.put o.dst undef) w'
 rw [hd]
 exact hC w' r1 r2
end
theorem mput_new {α β : Type} [DecidableEq α] {l : List (α × β)} {a : α} (x : β) (h : mget l a = none) : mput l a x = l ++ [(a, x)] := by
 unfold mput; rw [h]; rfl
section
variable {B : Nat} {w w1 w2 w3 : World} {s : Sx}
theorem Its.perm {l m : List (Nat × Ds)} (h : Its B w l) (hp : l.Perm m) : Its B w m :=
 ⟨fun it hm => h.all it (hp.mem_iff.2 hm), ((hp.map Prod.fst).nodup_iff).1 h.nod⟩
theorem Its.base (h : Its B w (siteIt s)) : B ≤ w.heap.size := by
 have := h.lt (g := s.p) (by simp [siteIt, blks])
 omega
theorem Its.ne {l : List (Nat × Ds)} (h : Its B w l) {i j : Nat} (hij : i < j) {x y : Nat × Ds} (hx : l[i]? = some x) (hy : l[j]? = some y) : x.1 ≠ y.1 := by
 have h1 := List.pairwise_iff_getElem.1 h.nod
 obtain ⟨li, ei⟩ := List.getElem?_eq_some_iff.1 hx
 obtain ⟨lj, ej⟩ := List.getElem?_eq_some_iff.1 hy
 have h2 := h1 i j (by simpa [blks] using li) (by simpa [blks] using lj) hij
 unfold blks at h2
 simp only [List.getElem_map] at h2
 rw [ei, ej] at h2
 exact h2
theorem gb_cell5 {g : Nat} {a : Addr} {v : Value} (hb : Gb g w w1) (h : w.cell? a = some v) (hlt : a.block < w.heap.size) (hne : a.block ≠ g) : w1.cell? a = some v := by
 have h1 : w1.heap[a.block]? = w.heap[a.block]? := World.grownBy.block hb a.block hlt (fun e => hne (by injection e))
 exact (World.cell?_of_block h1).trans h
structure DlNew (w w1 : World) (ps : List Mv) (d : Dl) : Prop where
 parts : d.parts = ps
 miss : d.miss = missOf ps
 b : w.heap.size ≤ d.b
 g : w.heap.size ≤ d.g
 ne : d.b ≠ d.g
 mv : Holds5 w1 d.b (.moves d.parts)
 bl : Holds5 w1 d.g (.bools d.miss)
theorem DlNew.its {ps : List Mv} {d : Dl} (h : DlNew w w1 ps d) (tx : Int) (hB : B ≤ w.heap.size) : Its B w1 (dlIt (tx, d)) := by
 refine ⟨fun it hm => ?_, ?_⟩
 ·simp [dlIt] at hm
  have h1 := h.b
  have h2 := h.g
  rcases hm with rfl | rfl
  ·exact ⟨h.mv, by dsimp only; omega⟩
  ·exact ⟨h.bl, by dsimp only; omega⟩
 ·simp [dlIt, blks, h.ne]
theorem siteOpen {ps : List Mv} {tx : Int} {d : Dl} (h : Its B w (siteIt s)) (hg : Gr w w1) (hd : DlNew w w1 ps d) (hb : Gb s.mo w1 w2) (hm : Mp Tryz.prog 3 intK dlV w2 s.mo (s.opn ++ [(tx, d)])) : Its B w2 (siteIt { s with opn := s.opn ++ [(tx, d)] }) := by
 have h1 := h.more hg (hd.its tx h.base) (fun g hg' => by
  have e1 := hd.b
  have e2 := hd.g
  simp [dlIt, blks] at hg'
  omega)
 have h2 : Its B w1 (([(s.p, .cells 84 (siteCs s)), (s.mp, .proms s.prom), (s.mq, .bools s.kept), (s.mr, .bools s.drop)] ++ [(s.mo, .deals s.opn)]) ++ ((s.mg, .deals s.grt) :: (s.opn.flatMap dlIt ++ s.grt.flatMap dlIt) ++ dlIt (tx, d))) := by
  unfold siteIt at h1; simpa using h1
 have h3 := h2.turn (D' := .deals (s.opn ++ [(tx, d)])) hb hm
 refine h3.perm ?_
 unfold siteIt
 dsimp only
 rw [List.flatMap_append]
 simp only [List.flatMap_cons, List.flatMap_nil, List.append_nil, List.cons_append, List.nil_append, List.append_assoc]
 refine .cons _ (.cons _ (.cons _ (.cons _ (.cons _ (.cons _ ?_)))))
 exact (List.Perm.append_left _ List.perm_append_comm)
theorem siteGrant {ps : List Mv} {tx : Int} {d : Dl} (h : Its B w (siteIt s)) (hg : Gr w w1) (hd : DlNew w w1 ps d) (hb : Gb s.mg w1 w2) (hm : Mp Tryz.prog 3 intK dlV w2 s.mg (s.grt ++ [(tx, d)])) : Its B w2 (siteIt { s with grt := s.grt ++ [(tx, d)] }) := by
 have h1 := h.more hg (hd.its tx h.base) (fun g hg' => by
  have e1 := hd.b
  have e2 := hd.g
  simp [dlIt, blks] at hg'
  omega)
 have h2 : Its B w1 (([(s.p, .cells 84 (siteCs s)), (s.mp, .proms s.prom), (s.mq, .bools s.kept), (s.mr, .bools s.drop), (s.mo, .deals s.opn)] ++ [(s.mg, .deals s.grt)]) ++ ((s.opn.flatMap dlIt ++ s.grt.flatMap dlIt) ++ dlIt (tx, d))) := by
  unfold siteIt at h1; simpa using h1
 have h3 := h2.turn (D' := .deals (s.grt ++ [(tx, d)])) hb hm
 have e : siteIt { s with grt := s.grt ++ [(tx, d)] } = ([(s.p, .cells 84 (siteCs s)), (s.mp, .proms s.prom), (s.mq, .bools s.kept), (s.mr, .bools s.drop), (s.mo, .deals s.opn)] ++ [(s.mg, .deals (s.grt ++ [(tx, d)]))]) ++ ((s.opn.flatMap dlIt ++ s.grt.flatMap dlIt) ++ dlIt (tx, d)) := by
  unfold siteIt; simp; rfl
 rw [e]; exact h3
end

theorem siteOpen_blk {s : Sx} {w w1 : World} {ps : List Mv} {tx : Int} {d : Dl} (hd : DlNew w w1 ps d) : ∀ g ∈ blks (siteIt { s with opn := s.opn ++ [(tx, d)] }), g ∈ blks (siteIt s) ∨ w.heap.size ≤ g := fun g hg => by
 have e1 := hd.b
 have e2 := hd.g
 simp only [siteIt, blks, List.flatMap_append, List.flatMap_cons, List.flatMap_nil, List.append_nil, List.map_append, List.mem_append, dlIt, List.map_cons, List.map_nil, List.mem_cons, List.not_mem_nil, or_false] at hg ⊢
 rcases hg with hg | (hg | hg) | hg
 ·exact Or.inl (Or.inl hg)
 ·exact Or.inl (Or.inr (Or.inl hg))
 ·rcases hg with rfl | rfl
  ·exact Or.inr e1
  ·exact Or.inr e2
 ·exact Or.inl (Or.inr (Or.inr hg))
theorem siteGrant_blk {s : Sx} {w w1 : World} {ps : List Mv} {tx : Int} {d : Dl} (hd : DlNew w w1 ps d) : ∀ g ∈ blks (siteIt { s with grt := s.grt ++ [(tx, d)] }), g ∈ blks (siteIt s) ∨ w.heap.size ≤ g := fun g hg => by
 have e1 := hd.b
 have e2 := hd.g
 simp only [siteIt, blks, List.flatMap_append, List.flatMap_cons, List.flatMap_nil, List.append_nil, List.map_append, List.mem_append, dlIt, List.map_cons, List.map_nil, List.mem_cons, List.not_mem_nil, or_false] at hg ⊢
 rcases hg with hg | hg | (hg | hg)
 ·exact Or.inl (Or.inl hg)
 ·exact Or.inl (Or.inr (Or.inl hg))
 ·exact Or.inl (Or.inr (Or.inr hg))
 ·rcases hg with rfl | rfl
  ·exact Or.inr e1
  ·exact Or.inr e2
theorem blk_mo (s : Sx) : s.mo ∈ blks (siteIt s) := by simp [siteIt, blks]
theorem blk_mg (s : Sx) : s.mg ∈ blks (siteIt s) := by simp [siteIt, blks]
structure StepP (B : Nat) (w : World) (s s' : Sx) (l : List Ml) (e : Ending) (w' : World) : Prop where
 let5 : ∃ A c, e = .returned (.slice A l.length c) ∧ Rd 5 enc5m w' A l ∧ l.length ≤ c
 its : Its B w' (siteIt s')
 ch : Ch (blks (siteIt s)) w w'
 p : s'.p = s.p
 blk : ∀ g ∈ blks (siteIt s'), g ∈ blks (siteIt s) ∨ w.heap.size ≤ g

theorem begin5_any {B : Nat} {s : Sx} (tx : Int) (A : Option Addr) (n c : Nat) (ps : List Mv) (w : World) (h : Its B w (siteIt s)) (htx : I64 tx) (hnew : mget s.opn tx = none) (hn : ps.length = n) (hl : n ≤ 512) (h0 : 1 ≤ n) (hp : ∀ W, Ch (blks (siteIt s)) w W → Pts W A ps) (hI : ∀ p ∈ ps, I64 p.1) :
 Calls Tryz.prog 47 #[.pointer (some ⟨s.p, 0, none⟩), .int .i64 tx, .slice A n c] w (fun e w' => ∃ d : Dl, d.parts = ps ∧ d.miss = missOf ps ∧ StepP B w s { s with opn := s.opn ++ [(tx, d)] } (wrL s 1 tx ps) e w') := by
 have n6 := h.sCells.2.2.2.2.2.2.1
 obtain ⟨kl, hkl⟩ := intp_key htx
 have HN := Lib.hid hn
 have HP := Lib.hid hp
 have HH := Lib.hid h
 have HNEW := Lib.hid hnew
 have HD := Lib.hid (fun W (hW : Gr w W) => newDeal_any A n c ps W hn hl h0 (hp _ (Ch.of hW)) hI)
 have HWR := Lib.hid (fun (s' : Sx) W (hI : Its B W (siteIt s')) (hp : Pts W A ps) => write5_any 1 tx A n c ps W hI hn hl hp)
 have hdr := (Gr.refl w).drew
 have n6d := hdr.keep n6
 have hlt : s.p < w.heap.size := (h.lt (g := s.p) (by simp [siteIt, blks])).1
 have hne : s.p ≠ s.mo := h.ne (i := 0) (j := 4) (by omega) rfl rfl
 have HLT := Lib.hid (And.intro hlt hne)
 have HOPN := Lib.hid h.sOpn
 clear hn hp h hnew hI hlt hne
 go_enter Tryz.func47, Tryz.ntmps47
 go_upto_region 1 with fail
 refine wp_region_held_drew (S := (fun W' => W'.cell? ⟨s.p, 6, none⟩ = some (.map (some s.mo)))) ?_ ?_ (fun hHeld => ?_)
 ·kernel_rfl
 ·((try dsimp only); (first | exact hHeld | assumption))
 refine ti 0 (some 7) rfl rfl ?_; try simp only [Act.put, lA, lB, lC]
 refine ti 1 (some 8) rfl rfl ?_; try simp only [Act.put, lA, lB, lC]
 refine ti 2 (some 9) rfl rfl ?_; try simp only [Act.put, lA, lB, lC]
 refine ti 3 (some 10) rfl rfl ?_; try simp only [Act.put, lA, lB, lC]
 refine ti 4 (some 11) rfl rfl ?_; try simp only [Act.put, lA, lB, lC]
 refine ti 5 (some 12) rfl rfl ?_; try simp only [Act.put, lA, lB, lC]
 refine tr [6] (.cons rfl (fun K hK => ?_) .nil)
 go_simp
 first | (go_at_call 67; (with_reducible refine (HD.out _ hdr).mono ?_); rintro e w3 ⟨d, rfl, hd1, hd2, hd3, hd4, hd5, hg3⟩; have HDN := Lib.hid (DlNew.mk hd1 hd2 hd3.1 hd3.2.1 hd3.2.2 hd4 hd5); have HG3 := Lib.hid hg3; have m6 := hg3.keep n6d; have HM3 := Lib.hid (HOPN.out.keep (hdr.trans hg3)); clear hd1 hd2 hd3 hd4 hd5 hg3)
 refine hK.out _ _ ?_ (fun hHeld => ?_)
 ·((try dsimp only); (first | exact hHeld | assumption))
 clear hK K; try simp only [Act.put, lA, lB, lC]
 refine tr [7] (.cons rfl (fun K hK => ?_) .nil)
 first | (refine held_update (by rfl) (.tmp 10) (.tmp 11) (.tmp 13) _ (by rfl) HM3.out intK_inj intp_law _ Tryz.underlying82 tx d kl hkl (by rfl) (by rfl) (by rfl) (by rfl) ?_; intro w4 hm4 hb4; rw [mput_new d HNEW.out] at hm4; have m7 := gb_cell5 hb4 m6 (by have := HLT.out.1; have := (hdr.trans HG3.out).size; dsimp only; omega) HLT.out.2; have HM4 := Lib.hid hm4; have HB4 := Lib.hid hb4; clear hm4 hb4)
 refine hK.out _ _ ?_ (fun hHeld => ?_)
 ·((try dsimp only); (first | exact hHeld | assumption))
 clear hK K; try simp only [Act.put, lA, lB, lC]
 refine wpAnyH_done ?_ ?_ _
 ·kernel_rfl
 rotate_left
 all_goals
  have hgr := hdr.trans HG3.out
  have h4 := siteOpen HH.out hgr ⟨HDN.out.1, HDN.out.2, HDN.out.3, HDN.out.4, HDN.out.5, HDN.out.6, HDN.out.7⟩ HB4.out HM4.out
  have hch : Ch (blks (siteIt s)) w w4 := (Ch.of hgr).trans (Ch.gb HB4.out (blk_mo s)) (fun g hg => Or.inl hg)
  have HBK := Lib.hid (siteOpen_blk (s := s) (tx := tx) HDN.out)
  have HP4 := Lib.hid (HP.out _ hch)
  have HI4 := Lib.hid h4
  have HCH := Lib.hid hch
  have HPM := Lib.hid (And.intro HDN.out.parts HDN.out.miss)
  clear hHeld hgr h4 hch HDN HB4 HM4 HG3 HM3 m6 m7 hdr n6 n6d hkl
  go_wp2_with fail
  refine (HWR.out _ _ HI4.out HP4.out).mono ?_
  rintro e w5 ⟨A5, c5, rfl, hr5, hg5, hc5⟩
  go_wp2_with fail
  go_ret
  exact ⟨d, HPM.out.1, HPM.out.2, ⟨A5, c5, rfl, hr5, hc5⟩, HI4.out.keep hg5, HCH.out.gr hg5, rfl, HBK.out⟩

end Go.Proofs.YtnoeiocbmhkmeaaGreat
