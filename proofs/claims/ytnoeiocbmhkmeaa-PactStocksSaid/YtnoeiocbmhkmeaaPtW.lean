/- Layer 5: new deals, and letters to the sites of parts. -/
import Derived.Test.YtnoeiocbmhkmeaaPtQ
namespace Go.Proofs.Ytnoeiocbmhkmeaa
open Go.RowKit
set_option linter.unusedSimpArgs false

theorem Try.infoPtM : (Try.prog.info? 66).map (fun i => (i.zero, i.size, i.bytes)) = some (some (.agg #[.int .i64 0, .int .i64 0]), 2, 16) := by kernel_rfl
theorem Try.infoPtL : (Try.prog.info? 87).map (fun i => (i.zero, i.size, i.bytes)) = some (some (.agg #[.int .i64 0, .int .i64 0, .int .i64 0, .int .i64 0, .int .i64 0]), 5, 40) := by kernel_rfl
theorem enc2p_len (p : Int × Int) : (enc2 p).length = 2 := rfl
theorem enc2p_one (p : Int × Int) : ∀ u ∈ enc2 p, u.oneCell' = true := by intro u hu; simp [enc2] at hu; rcases hu with rfl | rfl <;> rfl
theorem flat2p_cells {w : World} {b off : Nat} {ps : List (Int × Int)} (h : Pts w (some ⟨b, off, none⟩) ps) : ∀ j u, (flatE enc2 ps)[j]? = some u → w.cell? ⟨b, off + j, none⟩ = some u := fun j u hj => by
  have hlt : j < ps.length * 2 := by rw [← flatE_len enc2p_len]; exact (List.getElem?_eq_some_iff.1 hj).1
  have hk : j / 2 < ps.length := by omega
  obtain ⟨b', o', e, hc⟩ := h (j / 2) _ (List.getElem?_eq_getElem hk)
  injection e with e
  injection e with e1 e2
  have h2 : (enc2 ps[j / 2])[j % 2]? = some u := by
    have h1 := flatE_get enc2p_len ps (j / 2) _ (List.getElem?_eq_getElem hk) (j % 2) (by omega)
    rw [show j / 2 * 2 + j % 2 = j by omega, hj] at h1
    exact h1.symm
  have h3 := hc (j % 2) u h2
  rw [← e1, ← e2] at h3
  rw [show off + j = off + j / 2 * 2 + j % 2 by omega]
  exact h3
def CloneM (ps : List Mv) (w : World) (e : Ending) (w' : World) : Prop :=
  ∃ g c, e = .returned (.slice (some ⟨g, 0, none⟩) ps.length c) ∧ w.heap.size ≤ g ∧ g < w'.heap.size ∧ Pts w' (some ⟨g, 0, none⟩) ps ∧ Gr w w'
set_option maxRecDepth 100000 in
set_option maxHeartbeats 1000000 in
theorem cloneM_any (A : Option Addr) (n c : Nat) (ps : List Mv) (w : World) (hn : ps.length = n) (hl : n ≤ 512) (h0 : 1 ≤ n) (hp : Pts w A ps) :
    Calls Try.prog 66 #[.slice A n c] w (CloneM ps w) := by
  obtain ⟨b, off, rfl, -⟩ := Pts_at hp (k := 0) (by omega)
  obtain ⟨i0, hi, hz0, hz1, hz2⟩ := info_parts Try.infoPtM
  have q : ∀ (w : World) (a : Option Addr) (n c n' c' : Nat), (binOp .eql 38 (.slice a n c) (.slice none n' c')).run Try.prog w = .ok (.bool a.isNone) w := fun w a n c n' c' => Lib.run_eql_slice_nil w _ _ a n c n' c' Try.underlying38
  have HN := Lib.hid hn
  have HP := Lib.hid hp
  clear hn hp
  go_enter Try.func66, Try.ntmps66
  go_wp2_with (at_builtin; refine wpList_append_own _ rfl _ _ 38 rfl w.heap.size 66 i0 _ 2 16 Try.underlying38 hi hz0 hz1 hz2 rfl (by decide) _ _ _ rfl (World.ownsRow_made w #[] 0 (Nat.le_refl _) (Nat.zero_le _) (by simp)) ⟨b, off, none⟩ n c (flatE enc2 ps) rfl ?qc1 ?qc2 ?qc3 ?qc4 ?qc5 ?qc6 ?_)
  case qc1 => rw [flatE_len enc2p_len, HN.out]
  case qc2 =>
    intro j u hj
    rw [Addr.add_lit]
    exact alloc_old (flat2p_cells HP.out j u hj)
  case qc3 => exact oneCell_flat enc2p_one ps
  case qc4 => unfold maxLen; omega
  case qc5 => omega
  case qc6 => simp
  intro v' w1 hown hgrow hnil
  have hown' : w1.ownsRow w.heap.size 66 2 v' n (flatE enc2 ps) := by simpa using hown
  have HO := Lib.hid hown'
  have HG := Lib.hid hgrow
  clear hown hgrow hnil hi hz0 hz1 hz2 q hown'
  go_wp2
  go_ret
  obtain ⟨g, cap, rfl, hcap⟩ := owns_shape HO.out (by omega)
  refine ⟨g, cap, by rw [HN.out]; rfl, (HO.out.lt g rfl).1, (HO.out.lt g rfl).2, Rd_of_owns enc2p_len HN.out HO.out, ?_⟩
  exact ((Below.refl _ w).alloc (Nat.le_refl _) _).grown HG.out (by simp) (by intro k hk; simp [Value.ownBlock] at hk; omega)

/-- The sites that are missing at first. -/
def missOf (ps : List Mv) : List (Int × Bool) := ps.foldl (fun m p => mput m p.1 true) []
theorem missOf_take {ps : List Mv} {k : Nat} {p : Mv} (h : ps[k]? = some p) : missOf (ps.take (k + 1)) = mput (missOf (ps.take k)) p.1 true := by
  unfold missOf
  rw [List.take_add_one, h, Option.toList_some, List.foldl_append]; rfl
/-- A new deal, in new memory. -/
def DealP (ps : List Mv) (w : World) (e : Ending) (w' : World) : Prop :=
  ∃ d : Dl, e = .returned (dlV d) ∧ d.parts = ps ∧ d.miss = missOf ps ∧ (w.heap.size ≤ d.b ∧ w.heap.size ≤ d.g ∧ d.b ≠ d.g) ∧ Holds5 w' d.b (.moves d.parts) ∧ Holds5 w' d.g (.bools d.miss) ∧ Gr w w'
set_option maxRecDepth 100000 in
set_option maxHeartbeats 4000000 in
theorem newDeal_any (A : Option Addr) (n c : Nat) (ps : List Mv) (w : World) (hn : ps.length = n) (hl : n ≤ 512) (h0 : 1 ≤ n) (hp : Pts w A ps) (hI : ∀ p ∈ ps, I64 p.1) :
    Calls Try.prog 56 #[.slice A n c] w (DealP ps w) := by
  have HN := Lib.hid hn
  have HP := Lib.hid hp
  have HI := Lib.hid hI
  have HC := Lib.hid (fun W (hW : Gr w W) => cloneM_any A n c ps W hn hl h0 (hp.keep hW))
  have hmm := @run_makeMap Try.prog
  clear hn hp hI
  go_enter Try.func56, Try.ntmps56
  go_upto_region 1 with fail
  generalize hW0 : World.alloc w _ = W0
  have hg0 : Gr w W0 := by rw [← hW0]; exact (Gr.refl w).alloc _
  have hR0 : Blk W0 w.heap.size 91 #[.slice none 0 0, .map none] := by rw [← hW0]; exact Blk.new w _ _ rfl
  obtain ⟨U, hU⟩ : ∃ U, w.heap.size = U := ⟨_, rfl⟩
  rw [hU] at hR0 ⊢
  have HU := Lib.hid hU
  have HR0 := Lib.hid hR0
  clear hW0 hR0 hU
  go_wp2_with fail
  refine (HC.out _ hg0).mono ?_
  rintro e w1 ⟨g, c1, rfl, hg1, hg2, hg3, hg4⟩
  rw [HN.out]
  have hgr1 := hg0.trans hg4
  have HPg := Lib.hid (And.intro hg1 (And.intro hg2 hg3))
  have HR1 := Lib.hid (HR0.out.keep hg4)
  clear HC hg1 hg2 hg3 hg0 hg4
  go_upto_region 2 with fail
  generalize hW2 : World.alloc w1 (.map #[] 0) = w2
  have hM2 : Mp Try.prog 3 intK boolV w2 w1.heap.size ([] : List (Int × Bool)) := by rw [← hW2]; exact Mp_made w1
  have hz2 : w2.heap.size = w1.heap.size + 1 := by rw [← hW2]; simp
  have hg2 : Gr w1 w2 := by rw [← hW2]; exact (Gr.refl w1).alloc _
  obtain ⟨M, hM⟩ : ∃ M, w1.heap.size = M := ⟨_, rfl⟩
  rw [hM] at hM2 hz2 ⊢
  rw [← hz2]
  generalize hW3 : World.alloc w2 _ = w3
  have hb3 : Blk w3 w2.heap.size 91 #[.slice (some ⟨g, 0, none⟩) n c1, .map (some M)] := by rw [← hW3]; exact Blk.new w2 _ _ rfl
  have hg3 : Gr w2 w3 := by rw [← hW3]; exact (Gr.refl w2).alloc _
  have HMS := Lib.hid hM
  have hne : M ≠ w2.heap.size := by omega
  generalize w2.heap.size = D at hb3 hne ⊢
  have HNE := Lib.hid hne
  have HM3 := Lib.hid (hM2.keep hg3)
  have HB3 := Lib.hid hb3
  have hg13 := hg2.trans hg3
  clear hW2 hW3 hM2 hz2 hg2 hg3 hb3 hM hne
  go_wp2_with fail
  go_loopw [12] (fun z wr => ∃ k : Nat, k ≤ n ∧ z = .int .i64 (k : Int) ∧ Hid (Mp Try.prog 3 intK boolV wr M (missOf (ps.take k))) ∧ Hid (Blk wr D 91 #[.slice (some ⟨g, 0, none⟩) n c1, .map (some M)]) ∧ Gr w1 wr) (fun z _ => n - (intOf z).toNat)
  case atStart => exact ⟨0, Nat.zero_le _, rfl, HM3, HB3, hg13⟩
  case round =>
    obtain ⟨k, hk, rfl, hM, hB, hgr⟩ := hrel
    clear HM3 HB3 hg13
    by_cases hlt : k < n
    · obtain ⟨b, off, rfl, x0, x1⟩ := Pts_at (HP.out.keep (hgr1.trans hgr)) (k := k) (by rw [HN.out]; exact hlt)
      have hpk : ps[k]? = some (ps.getD k (0, 0)) := getD_of (0, 0) (by rw [HN.out]; exact hlt)
      have HT := Lib.hid (missOf_take hpk)
      obtain ⟨kl, hkl⟩ := intp_key (HI.out _ (List.mem_of_getElem? hpk))
      generalize ps.getD k (0, 0) = p at *
      obtain ⟨p1, p2⟩ := p
      dsimp only at x0 x1 HT hkl
      have hki : (k : Int) < (n : Int) := by omega
      clear hpk
      go_upto_region 5 with fail
      generalize hW : World.alloc wr _ = w5
      obtain ⟨hgW, k0, k1⟩ := box2q hW
      generalize wr.heap.size = Z at k0 k1 ⊢
      have HM5 := Lib.hid (hM.out.keep hgW)
      have HB5 := Lib.hid (hB.out.keep hgW)
      have hg5 := hgr.trans hgW
      have d1 := HB5.out.cell 1
      clear hW hgW hM hB hgr x0 x1
      go_wp2_with (first | (refine step_store rfl _ _ _ _ rfl HM5.out intK_inj intp_law _ Try.underlying78 p1 true kl hkl rfl rfl rfl ?_; intro w6 hm6 hg6) | fail)
      have HM6 : Hid (Mp Try.prog 3 intK boolV w6 M (missOf (ps.take (k + 1)))) := Lib.hid (by rw [HT.out]; exact hm6)
      have HB6 := Lib.hid (HB5.out.grown hg6 (fun e => by injection e with e; exact HNE.out e.symm))
      have hgr6 : Gr w1 w6 := Gb.gr hg5 hg6 (Nat.le_of_eq HMS.out)
      clear hm6 hg6 k0 k1 d1 hg5 HM5 HB5 hkl
      try simp only [Act.put, List.setIfInBounds_toArray, List.set_cons_zero, List.set_cons_succ]
      go_wp2_with fail
      go_roundw
      case rel => exact ⟨k + 1, by omega, by go_num, HM6, HB6, hgr6⟩
      case measure => simp [intOf]; omega
    · obtain rfl : k = n := by omega
      have htk : ps.take k = ps := List.take_of_length_le (by rw [HN.out]; exact Nat.le_refl _)
      rw [htk] at hM
      have d0 := hB.out.cell 0
      have d1 := hB.out.cell 1
      have HRr := Lib.hid (HR1.out.keep hgr)
      have z0 := HRr.out.free 0
      have z1 := HRr.out.free 1
      have y0 := HRr.out.cell 0
      have y1 := HRr.out.cell 1
      have hU0 := HR0.out.lt
      have hMS := HMS.out
      have hPg := HPg.out
      have hgU : g ≠ U := by omega
      have hMU : M ≠ U := by
        have := HR1.out.lt
        omega
      have hput := (HRr.out.put 0 (.slice (some ⟨g, 0, none⟩) k c1)).put 1 (.map (some M))
      have HPUT := Lib.hid (And.intro (hput.cell 0) (hput.cell 1))
      have h1 : Holds5 wr g (.moves ps) := ⟨by have := hgr.size; omega, hPg.2.2.keep hgr⟩
      have h2 := h1.block (w' := (wr.setCell ⟨U, 0, none⟩ (.slice (some ⟨g, 0, none⟩) k c1)).setCell ⟨U, 1, none⟩ (.map (some M))) ((Below.heap_setCell _ ⟨U, 1, none⟩ _ g hgU).trans (Below.heap_setCell _ ⟨U, 0, none⟩ _ g hgU))
      have h3 := (hM.out.setCell (a := ⟨U, 0, none⟩) hMU (.slice (some ⟨g, 0, none⟩) k c1)).setCell (a := ⟨U, 1, none⟩) hMU (.map (some M))
      have hle := Nat.le_of_eq HU.out
      have h4 : Gr w ((wr.setCell ⟨U, 0, none⟩ (.slice (some ⟨g, 0, none⟩) k c1)).setCell ⟨U, 1, none⟩ (.map (some M))) := ((hgr1.trans hgr).setCell (p := ⟨U, 0, none⟩) hle _).setCell (p := ⟨U, 1, none⟩) hle _
      have HPOST : Hid (DealP ps w (.returned (.agg #[.slice (some ⟨g, 0, none⟩) k c1, .map (some M)])) ((wr.setCell ⟨U, 0, none⟩ (.slice (some ⟨g, 0, none⟩) k c1)).setCell ⟨U, 1, none⟩ (.map (some M)))) := Lib.hid
        ⟨⟨ps, missOf ps, g, c1, M⟩, by unfold dlV; rw [HN.out], rfl, rfl, ⟨by dsimp only; have := HU.out; omega, by dsimp only; have := hgr1.size; omega, by dsimp only; omega⟩, h2, h3, h4⟩
      clear hU0 hMS hPg hgU hMU hput h1 h2 h3 hle h4 htk hlt hM hB hgr hgr1
      go_wp2_with fail
      obtain ⟨u0, u1⟩ := HPUT.out
      simp at u0 u1
      refine bodyPost_ret (v := .agg #[.slice (some ⟨g, 0, none⟩) k c1, .map (some M)]) ?_ ?_ ?_
      · simp [results, Try.results56, go_sem, u0, u1]
      · rfl
      · exact HPOST.out

end Go.Proofs.Ytnoeiocbmhkmeaa
