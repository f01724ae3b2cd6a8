/- Layer 4: the reference's Possible: whether there is a schedule.
Layer 4: the reference's Later: all jobs are ready later. -/
import Derived.Test.YtfmojiaaoebodaaBnRPq
import Derived.Test.YtfmojiaaoebodaaBnTrans
import Derived.Test.YtfmojiaaoebodaaBnRPw
import Derived.Test.YtfmojiaaoebodaaBnLaw
import Derived.Test.YtfmojiaaoebodaaBnLater
namespace Go.Proofs.Ytfmojiaaoebodaa
open Go.RowKit
set_option linter.unusedSimpArgs false

theorem owns_differ {w : World} {base base' : Nat} {e e' : TypeId} {s s' n n' : Nat} {v v' : Value} {xs xs' : List Value} (h : w.ownsRow base e s v n xs) (h' : w.ownsRow base' e' s' v' n' xs') (hne : e ≠ e') : v.ownBlock = none ∨ v.ownBlock ≠ v'.ownBlock := by
  rcases h.2 with ⟨rfl, _⟩ | ⟨g, cap, cur, rfl, _, hh, _⟩
  · exact Or.inl rfl
  · refine Or.inr fun he => ?_
    rcases h'.2 with ⟨rfl, _⟩ | ⟨g', cap', cur', rfl, _, hh', _⟩
    · simp [Value.ownBlock] at he
    · simp [Value.ownBlock] at he
      subst he
      rw [hh] at hh'
      injection hh' with hh'
      injection hh' with _ ht
      exact hne ht

def rowV (rw : Nat → Nat) (M k : Nat) : List Value := (List.range k).map fun j => .slice (some ⟨rw j, 0, none⟩) M M
theorem rowV_succ (rw : Nat → Nat) (M k : Nat) : rowV rw M (k + 1) = rowV rw M k ++ [.slice (some ⟨rw k, 0, none⟩) M M] := by simp [rowV, List.range_succ]
theorem rowV_congr {rw rw' : Nat → Nat} {M k : Nat} (h : ∀ j, j < k → rw' j = rw j) : rowV rw' M k = rowV rw M k := by
  unfold rowV
  exact List.map_congr_left fun j hj => by rw [h j (List.mem_range.1 hj)]
def worV (f : Nat → Int) (k : Nat) : List Value := (List.range k).map fun j => .int .i64 (f j)
theorem worV_succ (f : Nat → Int) (k : Nat) : worV f (k + 1) = worV f k ++ [.int .i64 (f k)] := by simp [worV, List.range_succ]

/-- The plan in the making: what is left of kL jobs, and rows of kU jobs. -/
structure PlG (w : World) (base M kL kU Z : Nat) (vA vU vL : Value) (rw : Nat → Nat) (f : Nat → Int) : Prop where
  z : Blk w Z 54 #[vA, vU, vL]
  oL : w.ownsRow base 3 1 vL kL (worV f kL)
  oU : w.ownsRow base 25 1 vU kU (rowV rw M kU)
  row : ∀ j, j < kU → RB w (rw j) M (fun _ => 0)
  one : ∀ i j, i < kU → j < kU → rw i = rw j → i = j
  apL : ∀ j, j < kU → vL.ownBlock ≠ some (rw j)
  lo : base ≤ Z ∧ ∀ j, j < kU → base ≤ rw j
section
variable {w w' : World} {base M kL kU Z : Nat} {vA vU vL : Value} {rw : Nat → Nat} {f : Nat → Int}
theorem PlG.keep (h : PlG w base M kL kU Z vA vU vL rw f) (hg : Gr w w') : PlG w' base M kL kU Z vA vU vL rw f :=
  ⟨h.z.keep hg, owns_gr h.oL hg, owns_gr h.oU hg, fun j hj => (h.row j hj).keep hg, h.one, h.apL, h.lo⟩
theorem PlG.growL (h : PlG w base M kL kU Z vA vU vL rw f) {g c : Nat} (ho : w'.ownsRow base 3 1 (.slice (some ⟨g, 0, none⟩) (kL + 1) c) (kL + 1) (worV f kL ++ [.int .i64 (f kL)])) (hg : w.grownBy w' vL.ownBlock) (hf : vL.ownBlock = some g ∨ w.heap.size ≤ g) :
    PlG (w'.setCell ⟨Z, 2, none⟩ (.slice (some ⟨g, 0, none⟩) (kL + 1) c)) base M (kL + 1) kU Z vA vU (.slice (some ⟨g, 0, none⟩) (kL + 1) c) rw f := by
  have hz : Blk w' Z _ _ := h.z.grown hg (h.z.apart h.oL (by decide))
  have hU := h.oU.kept hg (owns_differ h.oU h.oL (by decide))
  refine ⟨by simpa using hz.put 2 _, ?_, ownsRow_setCell_other (a := ⟨Z, 2, none⟩) hU (fun e => hz.apart hU (by decide) e.symm) _, fun j hj => ?_, h.one, fun j hj e => ?_, h.lo⟩
  · rw [worV_succ]; exact ownsRow_setCell_other (a := ⟨Z, 2, none⟩) ho (fun e => hz.apart ho (by decide) e.symm) _
  · have h1 := (h.row j hj).grown hg (fun e => h.apL j hj e.symm)
    obtain ⟨cs, h2, _⟩ := h1
    exact ((h.row j hj).grown hg (fun e => h.apL j hj e.symm)).other (h2.differ hz (by decide)) _
  · have e2 : g = rw j := by simpa [Value.ownBlock] using e
    subst e2
    rcases hf with hf | hf
    · exact h.apL j hj hf
    · obtain ⟨cs, h2, _⟩ := h.row j hj
      have := h2.lt; omega
theorem PlG.growU (h : PlG w base M kL kU Z vA vU vL rw f) {r : Nat} (hr : RB w r M (fun _ => 0)) (hr1 : ∀ j, j < kU → r ≠ rw j) (hr2 : vL.ownBlock ≠ some r) (hr3 : base ≤ r) {g c : Nat}
    (ho : w'.ownsRow base 25 1 (.slice (some ⟨g, 0, none⟩) (kU + 1) c) (kU + 1) (rowV rw M kU ++ [.slice (some ⟨r, 0, none⟩) M M])) (hg : w.grownBy w' vU.ownBlock) :
    PlG (w'.setCell ⟨Z, 1, none⟩ (.slice (some ⟨g, 0, none⟩) (kU + 1) c)) base M kL (kU + 1) Z vA (.slice (some ⟨g, 0, none⟩) (kU + 1) c) vL (fun j => if j < kU then rw j else r) f := by
  have hz : Blk w' Z _ _ := h.z.grown hg (h.z.apart h.oU (by decide))
  have hL := h.oL.kept hg (owns_differ h.oL h.oU (by decide))
  have hrow : ∀ j, j < kU + 1 → RB w (if j < kU then rw j else r) M (fun _ => 0) := fun j hj => by
    split
    · rename_i c; exact h.row j c
    · exact hr
  have hrow2 : ∀ j, j < kU + 1 → RB w' (if j < kU then rw j else r) M (fun _ => 0) := fun j hj => by
    obtain ⟨cs, h2, h3⟩ := hrow j hj
    exact ⟨cs, h2.grown hg (h2.apart h.oU (by decide)), h3⟩
  refine ⟨by simpa using hz.put 1 _, ownsRow_setCell_other (a := ⟨Z, 1, none⟩) hL (fun e => hz.apart hL (by decide) e.symm) _, ?_, fun j hj => ?_, fun i j hi hj => ?_, fun j hj => ?_, h.lo.1, fun j hj => ?_⟩
  · rw [rowV_succ, rowV_congr (rw := rw) (rw' := fun j => if j < kU then rw j else r) (fun j hj => by simp [hj])]
    simp only [Nat.lt_irrefl, if_false]
    exact ownsRow_setCell_other (a := ⟨Z, 1, none⟩) ho (fun e => hz.apart ho (by decide) e.symm) _
  · obtain ⟨cs, h2, _⟩ := hrow2 j hj
    exact (hrow2 j hj).other (h2.differ hz (by decide)) _
  · by_cases a : i < kU
    · by_cases b : j < kU
      · simp only [a, b, if_true]; exact h.one i j a b
      · simp only [a, b, if_true, if_false]; exact fun e => absurd e.symm (hr1 i a)
    · by_cases b : j < kU
      · simp only [a, b, if_true, if_false]; exact fun e => absurd e (hr1 j b)
      · intro _; omega
  · show vL.ownBlock ≠ some (if j < kU then rw j else r)
    split
    · rename_i c; exact h.apL j c
    · exact hr2
  · show base ≤ if j < kU then rw j else r
    split
    · rename_i c; exact h.lo.2 j c
    · exact hr3
/-- Made, it is a plan without work in any span. -/
theorem PlG.plan {n : Nat} (h : PlG w base M n n Z vA vU vL rw f) (hn : 0 < n) : ∃ gU cU gL cL, vU = .slice (some ⟨gU, 0, none⟩) n cU ∧ vL = .slice (some ⟨gL, 0, none⟩) n cL ∧ PlM w base n M gU gL rw (fun _ _ => 0) f := by
  rcases h.oU.2 with ⟨_, hz⟩ | ⟨gU, cU, csU, eU, bU, hU, lU, mU, sU, tU⟩
  · omega
  rcases h.oL.2 with ⟨_, hz⟩ | ⟨gL, cL, csL, eL, bL, hL, lL, mL, sL, tL⟩
  · omega
  have get : ∀ (cs : Array Value) (xs : List Value) (m j : Nat), cs.toList.take (m * 1) = xs → j < m → xs[j]? = cs[j]? := fun cs xs m j h1 h2 => by
    rw [← h1, List.getElem?_take_of_lt (by omega), Array.getElem?_toList]
  refine ⟨gU, cU, gL, cL, eU, eL, ⟨csU, hU, fun j hj => ?_⟩, h.row, ⟨csL, hL, fun j hj => ?_⟩, h.one, fun j hj e => ?_, bL, h.lo.2⟩
  · rw [← get csU _ n j tU hj]; simp [rowV, hj]
  · rw [← get csL _ n j tL hj]; simp [worV, hj]
  · exact h.apL j hj (by rw [eL, e]; rfl)
end

theorem tms_le64 {l : List Jb} (h : l.length ≤ 32) : (tms l).length ≤ 64 := by have := timesL_len (tmL l); rw [tmL_len] at this; unfold tms; omega
theorem tms_ge1 {l : List Jb} (h : 1 ≤ l.length) : 1 ≤ (tms l).length := timesL_pos _ (by rw [tmL_len]; omega)
theorem poss_nil (B : Int) : Poss B [] := ⟨[], by simp, fun x hx => by simp at hx, List.Pairwise.nil, fun j hj => by simp at hj⟩
theorem CutF.no {B : Nat} {l : List Jb} (hV : JobsV l) (hn : l.length ≤ 32) (h : ∃ f r0 A D, CutF (gridT (tms l) (tms_asc l)) B l f r0 A D) : ¬ Poss (B : Int) l := by
  obtain ⟨f, r0, A, D, h⟩ := h
  have hTl := tms_le64 hn
  exact Refd.no hV.three ⟨_, _, h.refuse grid_times (by show (tms l).length - 1 ≤ 64; omega) hV.at (fun s _ => tms_bdV hV s)⟩

set_option maxRecDepth 100000 in
set_option maxHeartbeats 16000000 in
theorem rPossible_any (B n c : Nat) (A : Option Addr) (l : List Jb) (w : World) (hn : l.length = n) (hn32 : n ≤ 32) (hB : 1 ≤ B ∧ B ≤ 8) (hV : JobsV l) (hp : Tris w A l) :
    Calls Try.prog 12 #[.int .i64 (B : Int), .slice A n c] w (BoolP (Poss B l) w) := by
  have HN := Lib.hid hn
  have HP := Lib.hid hp
  have HV := Lib.hid hV
  have HC := Lib.hid (rCuts_any A n c l w hn (by omega) hp)
  clear hn hp hV
  go_enter Try.func12, Try.ntmps12
  go_wp2_with fail
  refine HC.out.mono ?_
  rintro e w1 ⟨CA, m, cc, rfl, hm, hI, hA, hmc, hg1⟩
  have HM := Lib.hid hm
  have HI := Lib.hid hI
  have HA := Lib.hid hA
  have hm9 : Hid (m ≤ 64) := Lib.hid (by rw [← hm]; exact tms_le64 (by rw [HN.out]; exact hn32))
  clear hm hI hA HC
  go_upto_region 2 with fail
  generalize hW2 : World.alloc w1 _ = w2
  have hgr : Gr w1 w2 := by rw [← hW2]; exact (Gr.refl w1).alloc _
  obtain ⟨Z, hZ⟩ : ∃ Z, w1.heap.size = Z := ⟨_, rfl⟩
  have HP0 : Hid (PlG w2 Z m 0 0 Z (.slice CA m cc) (.slice none 0 0) (.slice none 0 0) (fun _ => 0) (fun j => (jbA l j).2.2)) := Lib.hid (by
    rw [← hW2]
    exact ⟨Blk.new w1 _ _ hZ, World.ownsRow_nil _ _ _ _, World.ownsRow_nil _ _ _ _, fun j hj => by omega, fun i j hi => by omega, fun j hj => by omega, Nat.le_refl _, fun j hj => by omega⟩)
  rw [hZ]
  have HZ1 := Lib.hid hZ
  have HP1 := Lib.hid (HP.out.keep hg1)
  have HG1 := Lib.hid hg1
  clear hW2 hg1 hZ HP
  go_wp2_with fail
  go_loopw [6] (fun z wr => ∃ (k : Nat) (vU vL : Value) (rw : Nat → Nat), k ≤ n ∧ z = .int .i64 (k : Int) ∧ Hid (PlG wr Z m k k Z (.slice CA m cc) vU vL rw (fun j => (jbA l j).2.2)) ∧ Gr w1 wr) (fun z _ => n - (intOf z).toNat)
  case atStart => exact ⟨0, _, _, _, Nat.zero_le _, rfl, HP0, hgr⟩
  case round =>
    clear hgr HP0
    obtain ⟨k, vU, vL, rw, hk, rfl, hP, hgr⟩ := hrel
    by_cases hlt : k < n
    · obtain ⟨b, off, rfl, -, -, n1⟩ := Tris_at (HP1.out.keep hgr) (i := k) (by rw [HN.out]; exact hlt)
      obtain ⟨wk, hwk⟩ : ∃ wk, (l.getD k (0, 0, 0)).2.2 = wk := ⟨_, rfl⟩
      rw [hwk] at n1
      have HWK : Hid ((jbA l k).2.2 = wk) := Lib.hid hwk
      clear hwk
      have hki : (k : Int) < (n : Int) := by omega
      obtain ⟨i0, hi, hz0, hz1, hz2⟩ := info_parts Try.infoBnI
      go_upto_region 5 with fail
      have hda : Gr wr (wr.alloc (.cells #[.int .i64 wk] 3)).drew := ((Gr.refl wr).alloc _).drew
      have HPa := Lib.hid (hP.out.keep hda)
      have hga := hgr.trans hda
      have c8 : wr.cell? ⟨Z, 2, none⟩ = some vL := hP.out.z.cell 2
      have c9 : (wr.alloc (.cells #[.int .i64 wk] 3)).cell? ⟨Z, 2, none⟩ = some vL := alloc_old c8
      have q1 := hda.keep n1
      have hbs : Z ≤ wr.heap.size := by have := hgr.size; have := HZ1.out; omega
      have HGA : Hid (∀ w5 : World, World.grownBy (wr.alloc (.cells #[.int .i64 wk] 3)).drew w5 vL.ownBlock → Gr w1 w5) := Lib.hid (fun w5 hg => Below.grown hga hg hga.size (fun t ht => by have := (HPa.out.oL.lt t ht).1; have := HZ1.out; omega))
      have HKJ : Hid (∀ w5 : World, Gr w1 w5 → w5.cell? ⟨b, off + k * 3 + 2, none⟩ = some (.int .i64 wk)) := Lib.hid (fun w5 hg => by
        obtain ⟨b', off', e', -, -, n2⟩ := Tris_at (HP1.out.keep hg) (i := k) (by rw [HN.out]; exact hlt)
        cases e'
        rw [n2]; exact congrArg (fun x => some (Value.int .i64 x)) HWK.out)
      clear hP hda
      refine wp_region_held_drew (S := (fun W' => W'.cell? ⟨b, off + k * 3 + 2, none⟩ = some (.int .i64 wk))) ?_ ?_ (fun hHeld => ?_)
      · kernel_rfl
      · ((try dsimp only); (first | exact hHeld | exact n1 | exact q1 | exact KG.out | exact KF.out))
      refine take_in (i := 0) (v := ?_) (d := (some 17)) rfl rfl ?_ ?_ ?_ ?_ ?_ ?_ ?_ ?_
      rotate_left
      · kernel_rfl
      · kernel_rfl
      · kernel_rfl
      · (intro _ _ _ hq; exact hq)
      · rfl
      · (intro _w hSw; (try dsimp only at hSw); go_simp; try with_reducible rfl)
      · assumption
      try simp only [Act.put, List.setIfInBounds_toArray, List.set_cons_zero, List.set_cons_succ]
      refine take_in (i := 2) (v := ?_) (d := (some 19)) rfl rfl ?_ ?_ ?_ ?_ ?_ ?_ ?_ ?_
      rotate_left
      · kernel_rfl
      · kernel_rfl
      · kernel_rfl
      · (intro _ _ _ hq; exact hq)
      · rfl
      · (intro _w hSw; (try dsimp only at hSw); go_simp; try with_reducible rfl)
      · assumption
      try simp only [Act.put, List.setIfInBounds_toArray, List.set_cons_zero, List.set_cons_succ]
      refine take_in (i := 3) (v := ?_) (d := (some 20)) rfl rfl ?_ ?_ ?_ ?_ ?_ ?_ ?_ ?_
      rotate_left
      · kernel_rfl
      · kernel_rfl
      · kernel_rfl
      · (intro _ _ _ hq; exact hq)
      · rfl
      · (intro _w hSw; (try dsimp only at hSw); go_simp; try with_reducible rfl)
      · assumption
      try simp only [Act.put, List.setIfInBounds_toArray, List.set_cons_zero, List.set_cons_succ]
      refine take_in (i := 4) (v := ?_) (d := (some 21)) rfl rfl ?_ ?_ ?_ ?_ ?_ ?_ ?_ ?_
      rotate_left
      · kernel_rfl
      · kernel_rfl
      · kernel_rfl
      · (intro _ _ _ hq; exact hq)
      · rfl
      · (intro _w hSw; (try dsimp only at hSw); go_simp; try with_reducible rfl)
      · assumption
      try simp only [Act.put, List.setIfInBounds_toArray, List.set_cons_zero, List.set_cons_succ]
      refine take_in (i := 5) (v := ?_) (d := (some 22)) rfl rfl ?_ ?_ ?_ ?_ ?_ ?_ ?_ ?_
      rotate_left
      · kernel_rfl
      · kernel_rfl
      · kernel_rfl
      · (intro _ _ _ hq; exact hq)
      · rfl
      · (intro _w hSw; (try dsimp only at hSw); go_simp; try with_reducible rfl)
      · assumption
      try simp only [Act.put, List.setIfInBounds_toArray, List.set_cons_zero, List.set_cons_succ]
      refine take_in (i := 6) (v := ?_) (d := (some 23)) rfl rfl ?_ ?_ ?_ ?_ ?_ ?_ ?_ ?_
      rotate_left
      · kernel_rfl
      · kernel_rfl
      · kernel_rfl
      · (intro _ _ _ hq; exact hq)
      · rfl
      · (intro _w hSw; (try dsimp only at hSw); go_simp; try with_reducible rfl)
      · assumption
      try simp only [Act.put, List.setIfInBounds_toArray, List.set_cons_zero, List.set_cons_succ]
      refine wpAnyH_ready (rs := [1, 7]) ?_ ?_ ?_
      · kernel_rfl
      · simp
      refine (AllReadyH.cons rfl (fun K hK => ?_) (AllReadyH.cons rfl (fun K hK => ?_) AllReadyH.nil))
      go_simp
      refine hK.out _ _ ?_ (fun hHeld => ?_)
      · ((try dsimp only); (first | exact hHeld | exact n1 | exact q1 | exact KG.out | exact KF.out))
      clear hK K
      try simp only [Act.put, List.setIfInBounds_toArray, List.set_cons_zero, List.set_cons_succ]
      refine wpAnyH_ready (rs := [7]) ?_ ?_ ?_
      · kernel_rfl
      · simp
      refine (AllReadyH.cons rfl (fun K hK => ?_) AllReadyH.nil)
      go_simp
      refine hK.out _ _ ?_ (fun hHeld => ?_)
      · ((try dsimp only); (first | exact hHeld | exact n1 | exact q1 | exact KG.out | exact KF.out))
      clear hK K
      try simp only [Act.put, List.setIfInBounds_toArray, List.set_cons_zero, List.set_cons_succ]
      refine wpAnyH_ready (rs := [8]) ?_ ?_ ?_
      · kernel_rfl
      · simp
      refine (AllReadyH.cons rfl (fun K hK => ?_) AllReadyH.nil)
      first | (refine step_append_lies _ (by rfl) (.tmp 18) (.tmp 24) 25 (by rfl) Z 3 i0 _ 1 8 Try.underlying25 hi hz0 hz1 hz2 rfl (by decide) vL k (worV (fun j => (jbA l j).2.2) k) (by rfl) HPa.out.oL ⟨wr.heap.size, 0, none⟩ 1 1 [.int .i64 wk] (by rfl) rfl (World.news_of_block (heap_alloc_new _ _)) (enc1_one wk) (by decide) (by unfold maxLen; omega) (by omega) (by simp; omega) _ rfl ?_; intro g' cap' w5 hown' hgrow hfr _; have hz5 := HPa.out.z.grown hgrow (HPa.out.z.apart HPa.out.oL (by decide)); have d8 : w5.cell? ⟨Z, 2, none⟩ = some vL := hz5.cell 2; have d9 : w5.frozen? ⟨Z, 2, none⟩ = false := hz5.free 2; have HP5 := Lib.hid (HPa.out.growL (by rw [HWK.out]; exact hown') hgrow (hfr.imp (fun e => e) (fun e => by rw [e]; exact Nat.le_refl _))); have hg5 := HGA.out _ hgrow; have KG := Lib.hid (HKJ.out _ hg5); have hg6 := hg5.setCell (p := ⟨Z, 2, none⟩) (Nat.le_of_eq HZ1.out) (.slice (some ⟨g', 0, none⟩) (k + 1) cap'); have KF := Lib.hid (HKJ.out _ hg6); clear hown' hgrow hfr hz5)
      refine hK.out _ _ ?_ (fun hHeld => ?_)
      · ((try dsimp only); (first | exact hHeld | exact n1 | exact q1 | exact KG.out | exact KF.out))
      clear hK K
      try simp only [Act.put, List.setIfInBounds_toArray, List.set_cons_zero, List.set_cons_succ]
      refine take_in (i := 9) (v := ?_) (d := (some 26)) rfl rfl ?_ ?_ ?_ ?_ ?_ ?_ ?_ ?_
      rotate_left
      · kernel_rfl
      · kernel_rfl
      · kernel_rfl
      · (intro _ _ _ hq; exact hq)
      · rfl
      · (intro _w hSw; (try dsimp only at hSw); go_simp; try with_reducible rfl)
      · assumption
      try simp only [Act.put, List.setIfInBounds_toArray, List.set_cons_zero, List.set_cons_succ]
      refine wpAnyH_ready (rs := [10]) ?_ ?_ ?_
      · kernel_rfl
      · simp
      refine (AllReadyH.cons rfl (fun K hK => ?_) AllReadyH.nil)
      go_simp
      refine hK.out _ _ ?_ (fun hHeld => ?_)
      · ((try dsimp only); (first | exact hHeld | exact n1 | exact q1 | exact KG.out | exact KF.out))
      clear hK K
      try simp only [Act.put, List.setIfInBounds_toArray, List.set_cons_zero, List.set_cons_succ]
      refine wpAnyH_done ?_ ?_ _
      · kernel_rfl
      rotate_left
      go_simp
      refine hK.out _ _ ?_ (fun hHeld => ?_)
      · ((try dsimp only); (first | exact hHeld | exact n1 | exact q1 | exact KG.out | exact KF.out))
      clear hK K
      try simp only [Act.put, List.setIfInBounds_toArray, List.set_cons_zero, List.set_cons_succ]
      refine wpAnyH_ready (rs := [1]) ?_ ?_ ?_
      · kernel_rfl
      · simp
      refine (AllReadyH.cons rfl (fun K hK => ?_) AllReadyH.nil)
      go_simp
      refine hK.out _ _ ?_ (fun hHeld => ?_)
      · ((try dsimp only); (first | exact hHeld | exact n1 | exact q1 | exact KG.out | exact KF.out))
      clear hK K
      try simp only [Act.put, List.setIfInBounds_toArray, List.set_cons_zero, List.set_cons_succ]
      refine wpAnyH_ready (rs := [8]) ?_ ?_ ?_
      · kernel_rfl
      · simp
      refine (AllReadyH.cons rfl (fun K hK => ?_) AllReadyH.nil)
      first | (refine step_append_lies _ (by rfl) (.tmp 18) (.tmp 24) 25 (by rfl) Z 3 i0 _ 1 8 Try.underlying25 hi hz0 hz1 hz2 rfl (by decide) vL k (worV (fun j => (jbA l j).2.2) k) (by rfl) HPa.out.oL ⟨wr.heap.size, 0, none⟩ 1 1 [.int .i64 wk] (by rfl) rfl (World.news_of_block (heap_alloc_new _ _)) (enc1_one wk) (by decide) (by unfold maxLen; omega) (by omega) (by simp; omega) _ rfl ?_; intro g' cap' w5 hown' hgrow hfr _; have hz5 := HPa.out.z.grown hgrow (HPa.out.z.apart HPa.out.oL (by decide)); have d8 : w5.cell? ⟨Z, 2, none⟩ = some vL := hz5.cell 2; have d9 : w5.frozen? ⟨Z, 2, none⟩ = false := hz5.free 2; have HP5 := Lib.hid (HPa.out.growL (by rw [HWK.out]; exact hown') hgrow (hfr.imp (fun e => e) (fun e => by rw [e]; exact Nat.le_refl _))); have hg5 := HGA.out _ hgrow; have KG := Lib.hid (HKJ.out _ hg5); have hg6 := hg5.setCell (p := ⟨Z, 2, none⟩) (Nat.le_of_eq HZ1.out) (.slice (some ⟨g', 0, none⟩) (k + 1) cap'); have KF := Lib.hid (HKJ.out _ hg6); clear hown' hgrow hfr hz5)
      refine hK.out _ _ ?_ (fun hHeld => ?_)
      · ((try dsimp only); (first | exact hHeld | exact n1 | exact q1 | exact KG.out | exact KF.out))
      clear hK K
      try simp only [Act.put, List.setIfInBounds_toArray, List.set_cons_zero, List.set_cons_succ]
      refine take_in (i := 9) (v := ?_) (d := (some 26)) rfl rfl ?_ ?_ ?_ ?_ ?_ ?_ ?_ ?_
      rotate_left
      · kernel_rfl
      · kernel_rfl
      · kernel_rfl
      · (intro _ _ _ hq; exact hq)
      · rfl
      · (intro _w hSw; (try dsimp only at hSw); go_simp; try with_reducible rfl)
      · assumption
      try simp only [Act.put, List.setIfInBounds_toArray, List.set_cons_zero, List.set_cons_succ]
      refine wpAnyH_ready (rs := [10]) ?_ ?_ ?_
      · kernel_rfl
      · simp
      refine (AllReadyH.cons rfl (fun K hK => ?_) AllReadyH.nil)
      go_simp
      refine hK.out _ _ ?_ (fun hHeld => ?_)
      · ((try dsimp only); (first | exact hHeld | exact n1 | exact q1 | exact KG.out | exact KF.out))
      clear hK K
      try simp only [Act.put, List.setIfInBounds_toArray, List.set_cons_zero, List.set_cons_succ]
      refine wpAnyH_done ?_ ?_ _
      · kernel_rfl
      rotate_left
      all_goals
        generalize w5.setCell _ _ = w6 at HP5 hg6 KF ⊢
        clear KG KF d8 d9 HGA HKJ HPa c8 c9 n1 q1 hga hg5 hbs hHeld hi hz0 hz1 hz2 hgr
        obtain ⟨i1, ji, jz0, jz1, jz2⟩ := info_parts Try.infoBnL
        have hmk := fun W => mk_icB m (by have := hm9.out; omega) W
        go_upto_region 6 with fail
        have hdb : Gr w6 ((w6.alloc (.cells (icB m (fun _ => 0)) 3)).alloc (.cells #[.slice (some ⟨w6.heap.size, 0, none⟩) m m] 25)).drew := (((Gr.refl w6).alloc _).alloc _).drew
        have HPb := Lib.hid (HP5.out.keep hdb)
        have hgb := hg6.trans hdb
        have c8 : w6.cell? ⟨Z, 1, none⟩ = some vU := HP5.out.z.cell 1
        have c9 : (w6.alloc (.cells (icB m (fun _ => 0)) 3)).cell? ⟨Z, 1, none⟩ = some vU := alloc_old c8
        have c10 : ((w6.alloc (.cells (icB m (fun _ => 0)) 3)).alloc (.cells #[.slice (some ⟨w6.heap.size, 0, none⟩) m m] 25)).cell? ⟨Z, 1, none⟩ = some vU := alloc_old c9
        have n2 : w6.cell? ⟨Z, 0, none⟩ = some (.slice CA m cc) := HP5.out.z.cell 0
        have q2 := ((Gr.refl w6).alloc (.cells (icB m (fun _ => 0)) 3)).drew.keep n2
        have q3 := hdb.keep n2
        have hbs : Z ≤ w6.heap.size := by have := hg6.size; have := HZ1.out; omega
        have HNW : Hid (∀ j u, [Value.slice (some ⟨w6.heap.size, 0, none⟩) m m][j]? = some u → ((w6.alloc (.cells (icB m (fun _ => 0)) 3)).alloc (.cells #[.slice (some ⟨w6.heap.size, 0, none⟩) m m] 25)).drew.cell? ((⟨w6.heap.size + 1, 0, none⟩ : Addr).add j) = some u) := Lib.hid (fun j u hu => by
          rw [Addr.add_lit]
          exact alloc_new (w := w6.alloc (.cells (icB m (fun _ => 0)) 3)) (by simp) (by rw [Nat.zero_add]; simpa using hu))
        have HON : Hid (∀ u ∈ [Value.slice (some ⟨w6.heap.size, 0, none⟩) m m], u.oneCell' = true) := Lib.hid (fun u hu => by rw [List.mem_singleton.1 hu]; rfl)
        have HRB : Hid (RB ((w6.alloc (.cells (icB m (fun _ => 0)) 3)).alloc (.cells #[.slice (some ⟨w6.heap.size, 0, none⟩) m m] 25)).drew w6.heap.size m (fun _ => 0)) := Lib.hid ((RB.made w6 m rfl).keep (((Gr.refl _).alloc _).drew))
        have HR1 : Hid (∀ j, j < k → w6.heap.size ≠ rw j) := Lib.hid (fun j hj e => by
          obtain ⟨cs, h2, _⟩ := HP5.out.row j hj
          have := h2.lt; omega)
        have HR2 : Hid ((Value.slice (some ⟨g', 0, none⟩) (k + 1) cap').ownBlock ≠ some w6.heap.size) := Lib.hid (fun e => by have := (HP5.out.oL.lt _ e).2; omega)
        have HR3 := Lib.hid hbs
        have HGB : Hid (∀ w7 : World, World.grownBy ((w6.alloc (.cells (icB m (fun _ => 0)) 3)).alloc (.cells #[.slice (some ⟨w6.heap.size, 0, none⟩) m m] 25)).drew w7 vU.ownBlock → Gr w1 w7) := Lib.hid (fun w7 hg => Below.grown hgb hg hgb.size (fun t ht => by have := (HPb.out.oU.lt t ht).1; have := HZ1.out; omega))
        clear hdb
        refine wp_region_held_drew (S := (fun W' => W'.cell? ⟨Z, 0, none⟩ = some (.slice CA m cc))) ?_ ?_ (fun hHeld => ?_)
        · kernel_rfl
        · ((try dsimp only); (first | exact hHeld | exact n2 | exact q2 | exact q3 | exact KG6.out | exact KF6.out))
        refine take_in (i := 0) (v := ?_) (d := (some 27)) rfl rfl ?_ ?_ ?_ ?_ ?_ ?_ ?_ ?_
        rotate_left
        · kernel_rfl
        · kernel_rfl
        · kernel_rfl
        · (intro _ _ _ hq; exact hq)
        · rfl
        · (intro _w hSw; (try dsimp only at hSw); go_simp; try with_reducible rfl)
        · assumption
        try simp only [Act.put, List.setIfInBounds_toArray, List.set_cons_zero, List.set_cons_succ]
        refine take_in (i := 2) (v := ?_) (d := (some 29)) rfl rfl ?_ ?_ ?_ ?_ ?_ ?_ ?_ ?_
        rotate_left
        · kernel_rfl
        · kernel_rfl
        · kernel_rfl
        · (intro _ _ _ hq; exact hq)
        · rfl
        · (intro _w hSw; (try dsimp only at hSw); go_simp; try with_reducible rfl)
        · assumption
        try simp only [Act.put, List.setIfInBounds_toArray, List.set_cons_zero, List.set_cons_succ]
        refine take_in (i := 3) (v := ?_) (d := (some 30)) rfl rfl ?_ ?_ ?_ ?_ ?_ ?_ ?_ ?_
        rotate_left
        · kernel_rfl
        · kernel_rfl
        · kernel_rfl
        · (intro _ _ _ hq; exact hq)
        · rfl
        · (intro _w hSw; (try dsimp only at hSw); go_simp; try with_reducible rfl)
        · assumption
        try simp only [Act.put, List.setIfInBounds_toArray, List.set_cons_zero, List.set_cons_succ]
        refine take_in (i := 4) (v := ?_) (d := (some 31)) rfl rfl ?_ ?_ ?_ ?_ ?_ ?_ ?_ ?_
        rotate_left
        · kernel_rfl
        · kernel_rfl
        · kernel_rfl
        · (intro _ _ _ hq; exact hq)
        · rfl
        · (intro _w hSw; (try dsimp only at hSw); go_simp; try with_reducible rfl)
        · assumption
        try simp only [Act.put, List.setIfInBounds_toArray, List.set_cons_zero, List.set_cons_succ]
        refine wpAnyH_ready (rs := [1, 5]) ?_ ?_ ?_
        · kernel_rfl
        · simp
        refine (AllReadyH.cons rfl (fun K hK => ?_) (AllReadyH.cons rfl (fun K hK => ?_) AllReadyH.nil))
        go_simp
        refine hK.out _ _ ?_ (fun hHeld => ?_)
        · ((try dsimp only); (first | exact hHeld | exact n2 | exact q2 | exact q3 | exact KG6.out | exact KF6.out))
        clear hK K
        try simp only [Act.put, List.setIfInBounds_toArray, List.set_cons_zero, List.set_cons_succ]
        refine wpAnyH_ready (rs := [5]) ?_ ?_ ?_
        · kernel_rfl
        · simp
        refine (AllReadyH.cons rfl (fun K hK => ?_) AllReadyH.nil)
        go_simp
        refine hK.out _ _ ?_ (fun hHeld => ?_)
        · ((try dsimp only); (first | exact hHeld | exact n2 | exact q2 | exact q3 | exact KG6.out | exact KF6.out))
        clear hK K
        try simp only [Act.put, List.setIfInBounds_toArray, List.set_cons_zero, List.set_cons_succ]
        refine wpAnyH_ready (rs := [6]) ?_ ?_ ?_
        · kernel_rfl
        · simp
        refine (AllReadyH.cons rfl (fun K hK => ?_) AllReadyH.nil)
        go_simp
        refine hK.out _ _ ?_ (fun hHeld => ?_)
        · ((try dsimp only); (first | exact hHeld | exact n2 | exact q2 | exact q3 | exact KG6.out | exact KF6.out))
        clear hK K
        try simp only [Act.put, List.setIfInBounds_toArray, List.set_cons_zero, List.set_cons_succ]
        refine wpAnyH_ready (rs := [7]) ?_ ?_ ?_
        · kernel_rfl
        · simp
        refine (AllReadyH.cons rfl (fun K hK => ?_) AllReadyH.nil)
        first | (refine step_append_lies _ (by rfl) (.tmp 28) (.tmp 33) 52 (by rfl) Z 25 i1 _ 1 24 Try.underlying52 ji jz0 jz1 jz2 rfl (by decide) vU k (rowV rw m k) (by rfl) HPb.out.oU ⟨w6.heap.size + 1, 0, none⟩ 1 1 [.slice (some ⟨w6.heap.size, 0, none⟩) m m] (by rfl) rfl HNW.out HON.out (by decide) (by unfold maxLen; omega) (by omega) (by simp; omega) _ rfl ?_; intro g2 cap2 w7 hown2 hgrow2 hfr2 _; have hz7 := HPb.out.z.grown hgrow2 (HPb.out.z.apart HPb.out.oU (by decide)); have d8 : w7.cell? ⟨Z, 1, none⟩ = some vU := hz7.cell 1; have d9 : w7.frozen? ⟨Z, 1, none⟩ = false := hz7.free 1; have HP7 := Lib.hid (HPb.out.growU HRB.out HR1.out HR2.out HR3.out hown2 hgrow2); have hg7 := HGB.out _ hgrow2; have KG6 : Hid (w7.cell? ⟨Z, 0, none⟩ = some (.slice CA m cc)) := Lib.hid (hz7.cell 0); have hg8 := hg7.setCell (p := ⟨Z, 1, none⟩) (Nat.le_of_eq HZ1.out) (.slice (some ⟨g2, 0, none⟩) (k + 1) cap2); have KF6 : Hid ((w7.setCell ⟨Z, 1, none⟩ (.slice (some ⟨g2, 0, none⟩) (k + 1) cap2)).cell? ⟨Z, 0, none⟩ = some (.slice CA m cc)) := Lib.hid (HP7.out.z.cell 0); clear hown2 hgrow2 hfr2 hz7)
        refine hK.out _ _ ?_ (fun hHeld => ?_)
        · ((try dsimp only); (first | exact hHeld | exact n2 | exact q2 | exact q3 | exact KG6.out | exact KF6.out))
        clear hK K
        try simp only [Act.put, List.setIfInBounds_toArray, List.set_cons_zero, List.set_cons_succ]
        refine take_in (i := 8) (v := ?_) (d := (some 35)) rfl rfl ?_ ?_ ?_ ?_ ?_ ?_ ?_ ?_
        rotate_left
        · kernel_rfl
        · kernel_rfl
        · kernel_rfl
        · (intro _ _ _ hq; exact hq)
        · rfl
        · (intro _w hSw; (try dsimp only at hSw); go_simp; try with_reducible rfl)
        · assumption
        try simp only [Act.put, List.setIfInBounds_toArray, List.set_cons_zero, List.set_cons_succ]
        refine wpAnyH_ready (rs := [9]) ?_ ?_ ?_
        · kernel_rfl
        · simp
        refine (AllReadyH.cons rfl (fun K hK => ?_) AllReadyH.nil)
        go_simp
        refine hK.out _ _ ?_ (fun hHeld => ?_)
        · ((try dsimp only); (first | exact hHeld | exact n2 | exact q2 | exact q3 | exact KG6.out | exact KF6.out))
        clear hK K
        try simp only [Act.put, List.setIfInBounds_toArray, List.set_cons_zero, List.set_cons_succ]
        refine wpAnyH_done ?_ ?_ _
        · kernel_rfl
        rotate_left
        go_simp
        refine hK.out _ _ ?_ (fun hHeld => ?_)
        · ((try dsimp only); (first | exact hHeld | exact n2 | exact q2 | exact q3 | exact KG6.out | exact KF6.out))
        clear hK K
        try simp only [Act.put, List.setIfInBounds_toArray, List.set_cons_zero, List.set_cons_succ]
        refine wpAnyH_ready (rs := [1, 6]) ?_ ?_ ?_
        · kernel_rfl
        · simp
        refine (AllReadyH.cons rfl (fun K hK => ?_) (AllReadyH.cons rfl (fun K hK => ?_) AllReadyH.nil))
        go_simp
        refine hK.out _ _ ?_ (fun hHeld => ?_)
        · ((try dsimp only); (first | exact hHeld | exact n2 | exact q2 | exact q3 | exact KG6.out | exact KF6.out))
        clear hK K
        try simp only [Act.put, List.setIfInBounds_toArray, List.set_cons_zero, List.set_cons_succ]
        refine wpAnyH_ready (rs := [6]) ?_ ?_ ?_
        · kernel_rfl
        · simp
        refine (AllReadyH.cons rfl (fun K hK => ?_) AllReadyH.nil)
        go_simp
        refine hK.out _ _ ?_ (fun hHeld => ?_)
        · ((try dsimp only); (first | exact hHeld | exact n2 | exact q2 | exact q3 | exact KG6.out | exact KF6.out))
        clear hK K
        try simp only [Act.put, List.setIfInBounds_toArray, List.set_cons_zero, List.set_cons_succ]
        refine wpAnyH_ready (rs := [7]) ?_ ?_ ?_
        · kernel_rfl
        · simp
        refine (AllReadyH.cons rfl (fun K hK => ?_) AllReadyH.nil)
        first | (refine step_append_lies _ (by rfl) (.tmp 28) (.tmp 33) 52 (by rfl) Z 25 i1 _ 1 24 Try.underlying52 ji jz0 jz1 jz2 rfl (by decide) vU k (rowV rw m k) (by rfl) HPb.out.oU ⟨w6.heap.size + 1, 0, none⟩ 1 1 [.slice (some ⟨w6.heap.size, 0, none⟩) m m] (by rfl) rfl HNW.out HON.out (by decide) (by unfold maxLen; omega) (by omega) (by simp; omega) _ rfl ?_; intro g2 cap2 w7 hown2 hgrow2 hfr2 _; have hz7 := HPb.out.z.grown hgrow2 (HPb.out.z.apart HPb.out.oU (by decide)); have d8 : w7.cell? ⟨Z, 1, none⟩ = some vU := hz7.cell 1; have d9 : w7.frozen? ⟨Z, 1, none⟩ = false := hz7.free 1; have HP7 := Lib.hid (HPb.out.growU HRB.out HR1.out HR2.out HR3.out hown2 hgrow2); have hg7 := HGB.out _ hgrow2; have KG6 : Hid (w7.cell? ⟨Z, 0, none⟩ = some (.slice CA m cc)) := Lib.hid (hz7.cell 0); have hg8 := hg7.setCell (p := ⟨Z, 1, none⟩) (Nat.le_of_eq HZ1.out) (.slice (some ⟨g2, 0, none⟩) (k + 1) cap2); have KF6 : Hid ((w7.setCell ⟨Z, 1, none⟩ (.slice (some ⟨g2, 0, none⟩) (k + 1) cap2)).cell? ⟨Z, 0, none⟩ = some (.slice CA m cc)) := Lib.hid (HP7.out.z.cell 0); clear hown2 hgrow2 hfr2 hz7)
        refine hK.out _ _ ?_ (fun hHeld => ?_)
        · ((try dsimp only); (first | exact hHeld | exact n2 | exact q2 | exact q3 | exact KG6.out | exact KF6.out))
        clear hK K
        try simp only [Act.put, List.setIfInBounds_toArray, List.set_cons_zero, List.set_cons_succ]
        refine take_in (i := 8) (v := ?_) (d := (some 35)) rfl rfl ?_ ?_ ?_ ?_ ?_ ?_ ?_ ?_
        rotate_left
        · kernel_rfl
        · kernel_rfl
        · kernel_rfl
        · (intro _ _ _ hq; exact hq)
        · rfl
        · (intro _w hSw; (try dsimp only at hSw); go_simp; try with_reducible rfl)
        · assumption
        try simp only [Act.put, List.setIfInBounds_toArray, List.set_cons_zero, List.set_cons_succ]
        refine wpAnyH_ready (rs := [9]) ?_ ?_ ?_
        · kernel_rfl
        · simp
        refine (AllReadyH.cons rfl (fun K hK => ?_) AllReadyH.nil)
        go_simp
        refine hK.out _ _ ?_ (fun hHeld => ?_)
        · ((try dsimp only); (first | exact hHeld | exact n2 | exact q2 | exact q3 | exact KG6.out | exact KF6.out))
        clear hK K
        try simp only [Act.put, List.setIfInBounds_toArray, List.set_cons_zero, List.set_cons_succ]
        refine wpAnyH_done ?_ ?_ _
        · kernel_rfl
        rotate_left
        go_simp
        refine hK.out _ _ ?_ (fun hHeld => ?_)
        · ((try dsimp only); (first | exact hHeld | exact n2 | exact q2 | exact q3 | exact KG6.out | exact KF6.out))
        clear hK K
        try simp only [Act.put, List.setIfInBounds_toArray, List.set_cons_zero, List.set_cons_succ]
        refine wpAnyH_ready (rs := [1]) ?_ ?_ ?_
        · kernel_rfl
        · simp
        refine (AllReadyH.cons rfl (fun K hK => ?_) AllReadyH.nil)
        go_simp
        refine hK.out _ _ ?_ (fun hHeld => ?_)
        · ((try dsimp only); (first | exact hHeld | exact n2 | exact q2 | exact q3 | exact KG6.out | exact KF6.out))
        clear hK K
        try simp only [Act.put, List.setIfInBounds_toArray, List.set_cons_zero, List.set_cons_succ]
        refine wpAnyH_ready (rs := [7]) ?_ ?_ ?_
        · kernel_rfl
        · simp
        refine (AllReadyH.cons rfl (fun K hK => ?_) AllReadyH.nil)
        first | (refine step_append_lies _ (by rfl) (.tmp 28) (.tmp 33) 52 (by rfl) Z 25 i1 _ 1 24 Try.underlying52 ji jz0 jz1 jz2 rfl (by decide) vU k (rowV rw m k) (by rfl) HPb.out.oU ⟨w6.heap.size + 1, 0, none⟩ 1 1 [.slice (some ⟨w6.heap.size, 0, none⟩) m m] (by rfl) rfl HNW.out HON.out (by decide) (by unfold maxLen; omega) (by omega) (by simp; omega) _ rfl ?_; intro g2 cap2 w7 hown2 hgrow2 hfr2 _; have hz7 := HPb.out.z.grown hgrow2 (HPb.out.z.apart HPb.out.oU (by decide)); have d8 : w7.cell? ⟨Z, 1, none⟩ = some vU := hz7.cell 1; have d9 : w7.frozen? ⟨Z, 1, none⟩ = false := hz7.free 1; have HP7 := Lib.hid (HPb.out.growU HRB.out HR1.out HR2.out HR3.out hown2 hgrow2); have hg7 := HGB.out _ hgrow2; have KG6 : Hid (w7.cell? ⟨Z, 0, none⟩ = some (.slice CA m cc)) := Lib.hid (hz7.cell 0); have hg8 := hg7.setCell (p := ⟨Z, 1, none⟩) (Nat.le_of_eq HZ1.out) (.slice (some ⟨g2, 0, none⟩) (k + 1) cap2); have KF6 : Hid ((w7.setCell ⟨Z, 1, none⟩ (.slice (some ⟨g2, 0, none⟩) (k + 1) cap2)).cell? ⟨Z, 0, none⟩ = some (.slice CA m cc)) := Lib.hid (HP7.out.z.cell 0); clear hown2 hgrow2 hfr2 hz7)
        refine hK.out _ _ ?_ (fun hHeld => ?_)
        · ((try dsimp only); (first | exact hHeld | exact n2 | exact q2 | exact q3 | exact KG6.out | exact KF6.out))
        clear hK K
        try simp only [Act.put, List.setIfInBounds_toArray, List.set_cons_zero, List.set_cons_succ]
        refine take_in (i := 8) (v := ?_) (d := (some 35)) rfl rfl ?_ ?_ ?_ ?_ ?_ ?_ ?_ ?_
        rotate_left
        · kernel_rfl
        · kernel_rfl
        · kernel_rfl
        · (intro _ _ _ hq; exact hq)
        · rfl
        · (intro _w hSw; (try dsimp only at hSw); go_simp; try with_reducible rfl)
        · assumption
        try simp only [Act.put, List.setIfInBounds_toArray, List.set_cons_zero, List.set_cons_succ]
        refine wpAnyH_ready (rs := [9]) ?_ ?_ ?_
        · kernel_rfl
        · simp
        refine (AllReadyH.cons rfl (fun K hK => ?_) AllReadyH.nil)
        go_simp
        refine hK.out _ _ ?_ (fun hHeld => ?_)
        · ((try dsimp only); (first | exact hHeld | exact n2 | exact q2 | exact q3 | exact KG6.out | exact KF6.out))
        clear hK K
        try simp only [Act.put, List.setIfInBounds_toArray, List.set_cons_zero, List.set_cons_succ]
        refine wpAnyH_done ?_ ?_ _
        · kernel_rfl
        rotate_left
        all_goals
          generalize w7.setCell _ _ = w8 at HP7 hg8 KF6 ⊢
          clear KG6 KF6 d8 d9 HGB HPb c8 c9 c10 n2 q2 q3 hgb hg7 hbs hHeld HNW HON HRB HR1 HR2 HR3 ji jz0 jz1 jz2 HP5 hg6 hmk
          go_wp2_with fail
          go_roundw
          case rel => exact ⟨k + 1, _, _, _, by omega, by go_num, HP7, hg8⟩
          case measure => simp [intOf]; omega
    · obtain rfl : n = k := by omega
      by_cases hn0 : n = 0
      · have HPS : Hid (Poss (B : Int) l) := Lib.hid (by
          have : l = [] := List.eq_nil_of_length_eq_zero (by rw [HN.out]; exact hn0)
          rw [this]; exact poss_nil _)
        obtain rfl : n = 0 := hn0
        clear hP hlt hk
        go_wp2_with fail
        go_loopw [7] (fun z wr => z = .int .i64 (0 : Int) ∧ Gr w1 wr) (fun _ _ => 0)
        case atStart => exact ⟨rfl, hgr⟩
        case round =>
          clear hgr
          obtain ⟨rfl, hgr⟩ := hrel
          go_wp2_with fail
          try rw [Exit.noGoto_ret]
          go_ret
          exact ⟨true, rfl, ⟨fun _ => HPS.out, fun _ => rfl⟩, HG1.out.trans hgr⟩
      · obtain ⟨gU, cU, gL, cL, rfl, rfl, hM0⟩ := hP.out.plan (by omega)
        have HM0 := Lib.hid hM0
        have HZB := Lib.hid hP.out.z
        have hm1 : 1 ≤ m := by rw [← HM.out]; exact tms_ge1 (by rw [HN.out]; omega)
        obtain ⟨b, off, hCA⟩ : ∃ b off, CA = some ⟨b, off, none⟩ := by
          rcases HA.out with ⟨_, h2, _⟩ | h
          · omega
          · exact h
        subst hCA
        obtain ⟨K, hmK⟩ : ∃ K, m = K + 1 := ⟨m - 1, by omega⟩
        subst hmK
        have hKK : (gridT (tms l) (tms_asc l)).K = K := by show (tms l).length - 1 = K; rw [HM.out]; rfl
        have HGT := Lib.hid (grid_times (l := l))
        obtain ⟨G, hG⟩ : ∃ G, gridT (tms l) (tms_asc l) = G := ⟨_, rfl⟩
        have HNO : Hid ((∃ f r0 A D, CutF G B l f r0 A D) → ¬ Poss (B : Int) l) := Lib.hid (by rw [← hG]; exact CutF.no HV.out (by rw [HN.out]; exact hn32))
        rw [hG] at hKK HGT
        have HKK := Lib.hid hKK
        have HGB : Hid (∀ s, s < K → G.at_ s = (tms l).getD s 0 ∧ ((G.ln s : Nat) : Int) = (tms l).getD (s + 1) 0 - (tms l).getD s 0) := Lib.hid (fun s hs => by
          have h := HGT.out.beg s (by omega)
          exact ⟨h.1, by omega⟩)
        have HF0 : Hid (FlU G B l (fun _ _ => 0) (fun j => (jbA l j).2.2)) := Lib.hid (FlU.start (fun j hj => by have := (HV.out.bd hj).2; omega))
        clear hG hKK hM0 hP hlt hk hm1
        go_wp2_with fail
        go_loopw [7] (fun z wr => ∃ (k : Nat) (U : Nat → Nat → Int) (left : Nat → Int), k ≤ n ∧ z = .int .i64 (k : Int) ∧ Hid (PlM wr Z n (K + 1) gU gL rw U left) ∧ Hid (FlU G B l U left) ∧ Hid (∀ j, j < k → left j ≤ 0) ∧ Hid (Blk wr Z 54 #[.slice (some ⟨b, off, none⟩) (K + 1) cc, .slice (some ⟨gU, 0, none⟩) n cU, .slice (some ⟨gL, 0, none⟩) n cL]) ∧ Gr w1 wr) (fun z _ => n - (intOf z).toNat)
        case atStart => exact ⟨0, _, _, Nat.zero_le _, rfl, HM0, HF0, Lib.hid (fun j hj => by omega), HZB, hgr⟩
        case round =>
          clear hgr HM0 HF0 HZB
          obtain ⟨k, U0, left0, hk, rfl, hM, hF, hL, hZ, hgr⟩ := hrel
          by_cases hlt : k < n
          · have hki : (k : Int) < (n : Int) := by omega
            obtain ⟨wB, rfl⟩ : ∃ wB, wB = wr := ⟨_, rfl⟩
            go_wp2_with fail
            go_loopg [] ((left0 k).toNat) (fun kx wr => ∃ (U : Nat → Nat → Int) (left : Nat → Int), (left k).toNat ≤ kx ∧ Hid (PlM wr Z n (K + 1) gU gL rw U left) ∧ Hid (FlU G B l U left) ∧ Hid (∀ j, j < k → left j ≤ 0) ∧ Hid (Blk wr Z 54 #[.slice (some ⟨b, off, none⟩) (K + 1) cc, .slice (some ⟨gU, 0, none⟩) n cU, .slice (some ⟨gL, 0, none⟩) n cL]) ∧ Gr w1 wr)
            case atStart => exact ⟨U0, left0, Nat.le_refl _, hM, hF, hL, hZ, hgr⟩
            case round =>
              clear hgr hM hF hL hZ
              obtain ⟨U, left, hkx, hM, hF, hL, hZ, hgr⟩ := hrel
              have z0 := hZ.out.cell 0
              have z1 := hZ.out.cell 1
              have z2 := hZ.out.cell 2
              have x0 := hM.out.left.at hlt
              obtain ⟨lk, hlk⟩ : ∃ lk, left k = lk := ⟨_, rfl⟩
              have HLK := Lib.hid hlk
              rw [hlk] at x0 hkx
              have hl32 : lk ≤ 33554432 := by
                have h1 := hF.out.row k (by rw [HN.out]; exact hlt)
                have h2 : 0 ≤ rowU U G.K k := smN_nonneg _ (fun s _ => hF.out.pos k s)
                have h3 := (HV.out.bd (j := k) (by rw [HN.out]; exact hlt)).2.2
                omega
              clear hlk
              by_cases hpos : 0 < lk
              · have HMO := Lib.hid (rmore_any b off (K + 1) cc Z n K gU cU gL cL c B k A (tms l) rw U left G l wr HM.out (tms_bdV HV.out) (HI.out.keep hgr) rfl (by have := hm9.out; omega) HKK.out (fun s hs => (HGB.out s hs).2) (fun s hs => (HGB.out s hs).1) HN.out hn32 hB (HP1.out.keep hgr) hM.out hF.out hlt (by rw [HLK.out]; omega))
                go_wp2_with fail
                refine HMO.out.mono ?_
                rintro e w3 (⟨rfl, V, mm, h1, h2, hF2, hM2, hfx⟩ | ⟨rfl, hg3, hcut⟩)
                · have HF2 := Lib.hid hF2
                  have HM2 := Lib.hid hM2
                  rw [HLK.out] at h2
                  have hne : ∀ g, PlS n gL rw g → Z ≤ g := fun g h => by
                    rcases h with e | ⟨j, hj, e⟩
                    · rw [e]; exact hM.out.lo.1
                    · rw [e]; exact hM.out.lo.2 j hj
                  have hns : ¬ PlS n gL rw Z := fun h => by
                    rcases h with e | ⟨j, hj, e⟩
                    · obtain ⟨cs, h5, _⟩ := hM.out.left
                      exact hZ.out.differ h5 (by decide) e
                    · obtain ⟨cs, h5, _⟩ := hM.out.row j hj
                      exact hZ.out.differ h5 (by decide) e
                  have HZ3 := Lib.hid (hZ.out.fx hfx hns)
                  have hgr3 : Gr w1 w3 := hfx.gr w1 (fun g h => by rw [HZ1.out]; exact hne g h) hgr
                  have HL3 : Hid (∀ j, j < k → updV left k (left k - mm) j ≤ 0) := Lib.hid (fun j hj => by rw [updV_ne _ _ (by omega)]; exact hL.out j hj)
                  have HUK : Hid (updV left k (left k - mm) k = lk - mm) := Lib.hid (by rw [updV_at, HLK.out])
                  clear hF2 hM2 hfx hns hne hM hF hL hZ hgr z0 z1 z2 x0 HMO
                  go_wp2_with fail
                  go_roundg ((lk - mm).toNat)
                  case measure => omega
                  case rel => exact ⟨V, _, by rw [HUK.out]; exact Nat.le_refl _, HM2, HF2, HL3, HZ3, hgr3⟩
                · have HNP := Lib.hid (HNO.out hcut)
                  have hgr3 := HG1.out.trans (hgr.trans hg3)
                  clear hcut HMO
                  go_wp2_with fail
                  try rw [Exit.noGoto_ret]
                  go_ret
                  exact ⟨false, rfl, ⟨fun h => (by cases h), fun h => absurd h HNP.out⟩, hgr3⟩
              · have HL3 : Hid (∀ j, j < k + 1 → left j ≤ 0) := Lib.hid (fun j hj => by
                  rcases Nat.lt_or_ge j k with e | e
                  · exact hL.out j e
                  · obtain rfl : j = k := by omega
                    rw [HLK.out]; omega)
                go_wp2_with fail
                go_roundw
                case rel => exact ⟨k + 1, U, left, by omega, by go_num, hM, hF, HL3, hZ, hgr⟩
                case measure => simp [intOf]; omega
          · obtain rfl : n = k := by omega
            have HPS : Hid (Poss (B : Int) l) := Lib.hid (hF.out.full (fun j hj => hL.out j (by rw [← HN.out]; exact hj)) (by rw [HKK.out]; have := hm9.out; omega) (by rw [HN.out]; exact hn32) hB.2)
            go_wp2_with fail
            try rw [Exit.noGoto_ret]
            go_ret
            exact ⟨true, rfl, ⟨fun _ => HPS.out, fun _ => rfl⟩, HG1.out.trans hgr⟩

end Go.Proofs.Ytfmojiaaoebodaa

namespace Go.Proofs.Ytfmojiaaoebodaa
open Go.RowKit
set_option linter.unusedSimpArgs false

/-- All jobs are still valid when they are ready later. -/
def stillL (d : Int) (l : List Jb) : Bool := l.all fun j => decide (j.1 + d < j.2.1)
theorem stillL_snoc (d : Int) (l : List Jb) (j : Jb) : stillL d (l ++ [j]) = (stillL d l && decide (j.1 + d < j.2.1)) := by simp [stillL]

set_option maxRecDepth 100000 in
set_option maxHeartbeats 4000000 in
theorem rLater_any (A : Option Addr) (n c : Nat) (l : List Jb) (d : Int) (w : World) (hn : l.length = n) (hl : n ≤ 32) (hV : JobsV l) (hd : 0 ≤ d ∧ d ≤ 1048577) (hp : Tris w A l) :
    Calls Try.prog 16 #[.slice A n c, .int .i64 d] w fun e w' => ∃ A' c', e = .returned (.tuple #[.slice A' n c', .bool (stillL d l)]) ∧ Tris w' A' (l.map (lateJ d)) ∧ (A' = none → n = 0 ∧ c' = 0) ∧ n ≤ c' ∧ Gr w w' := by
  obtain ⟨i0, hi, hz0, hz1, hz2⟩ := info_parts Try.infoBnJ
  have HI := Lib.hid (And.intro hi (And.intro hz0 (And.intro hz1 hz2)))
  have HN := Lib.hid hn
  have HP := Lib.hid hp
  have HV := Lib.hid hV
  clear hi hz0 hz1 hz2 hn hp hV
  go_enter Try.func16, Try.ntmps16
  go_wp2_with fail
  go_loopw [6, 7, 8, 9] (fun q o z y wr => ∃ (k : Nat) (b : Bool) (B : Option Addr) (m : Nat), k ≤ n ∧ z = .int .i64 (k : Int) ∧ o = .bool b ∧ q = .slice B k m ∧ Hid (b = stillL d (l.take k)) ∧ Hid (wr.ownsRow w.heap.size 48 3 (.slice B k m) k (flatE enc3 ((l.take k).map (lateJ d)))) ∧ Gr w wr ∧ y = y) (fun _ _ z _ _ => n - (intOf z).toNat)
  case atStart => exact ⟨0, true, none, 0, Nat.zero_le _, rfl, rfl, rfl, Lib.hid rfl, Lib.hid (World.ownsRow_nil _ _ _ _), Gr.refl _, rfl⟩
  case round =>
    obtain ⟨k, tb, B, m, hk, rfl, rfl, rfl, hb, hown, hgr, -⟩ := hrel
    by_cases hlt : k < n
    · obtain ⟨b, off, rfl, q0, q1, q2⟩ := Tris_at (HP.out.keep hgr) (i := k) (by rw [HN.out]; exact hlt)
      have HTK : Hid (l.take (k + 1) = l.take k ++ [l.getD k (0, 0, 0)]) := Lib.hid (take_snoc l (0, 0, 0) k (by rw [HN.out]; exact hlt))
      have hvj := HV.out (l.getD k (0, 0, 0)) (List.mem_of_getElem? (getD_of (0, 0, 0) (by rw [HN.out]; exact hlt)))
      generalize l.getD k (0, 0, 0) = jb at q0 q1 q2 HTK hvj
      obtain ⟨a1, a2, a3⟩ := jb
      dsimp only at q0 q1 q2 HTK hvj
      have hki : (k : Int) < (n : Int) := by omega
      have hw : IntKind.i64.wrap (a1 + d) = a1 + d := IntWalk.i64_in _ (by omega)
      clear hvj
      go_upto_region 8 with fail
      generalize hW2 : World.alloc wr _ = w2
      obtain ⟨hg2, d0, d1, d2⟩ : Gr wr w2 ∧ w2.cell? ⟨wr.heap.size, 0, none⟩ = some (.int .i64 (a1 + d)) ∧ w2.cell? ⟨wr.heap.size, 1, none⟩ = some (.int .i64 a2) ∧ w2.cell? ⟨wr.heap.size, 2, none⟩ = some (.int .i64 a3) := by
        rw [← hW2]; exact ⟨(Gr.refl wr).alloc _, alloc_new rfl rfl, alloc_new rfl rfl, alloc_new rfl rfl⟩
      have hgr2 := hgr.trans hg2
      have HO2 := Lib.hid (owns_gr hown.out hg2)
      have HZ : Hid (∀ t, (Value.slice B k m).ownBlock = some t → t < wr.heap.size) := Lib.hid (fun t ht => (hown.out.lt t ht).2)
      have HBK : Hid (Blk w2 wr.heap.size 48 #[.int .i64 (a1 + d), .int .i64 a2, .int .i64 a3]) := Lib.hid (by rw [← hW2]; exact Blk.new wr _ _ rfl)
      have HTB : Hid (stillL d (l.take (k + 1)) = (tb && decide (a1 + d < a2))) := Lib.hid (by rw [HTK.out, stillL_snoc, ← hb.out])
      generalize wr.heap.size = Z at d0 d1 d2 HZ HBK ⊢
      obtain ⟨hi, hz0, hz1, hz2⟩ := HI.out
      clear hW2 q0 q1 q2 hown hgr hg2
      go_wp2_with (at_builtin; refine wpList_append_own _ rfl _ _ 22 rfl w.heap.size 48 i0 _ 3 24 Try.underlying22 hi hz0 hz1 hz2 rfl (by decide) _ _ _ rfl (HO2.out.alloc _) ⟨w2.heap.size, 0, none⟩ 1 1 [.int .i64 (a1 + d), .int .i64 a2, .int .i64 a3] rfl rfl ?a1 ?a2 ?a3 ?a4 ?a5 ?_)
      case a1 =>
        intro t x ht
        rw [Addr.add_lit]
        exact alloc_new rfl (by rw [Nat.zero_add]; simpa using ht)
      case a2 => intro x hx; simp at hx; rcases hx with rfl | rfl | rfl <;> rfl
      case a3 => unfold maxLen; omega
      case a4 => omega
      case a5 => have := hgr2.size; simp; omega
      intro v' w3 hown3 hgrow _
      have hal : Gr w2 (w2.alloc (.cells #[.int .i64 (a1 + d), .int .i64 a2, .int .i64 a3] 48)) := (Gr.refl _).alloc _
      have ho2 := HO2.out.alloc (.cells #[.int .i64 (a1 + d), .int .i64 a2, .int .i64 a3] 48)
      have hg3 : Gr w w3 := Below.grown (hgr2.trans hal) hgrow (hgr2.trans hal).size (fun t ht => (ho2.lt t ht).1)
      have HO3 : Hid (w3.ownsRow w.heap.size 48 3 v' (k + 1) (flatE enc3 ((l.take (k + 1)).map (lateJ d)))) := Lib.hid (by rw [HTK.out, List.map_append, List.map_take, flatE_app]; exact hown3)
      have hb3 : Blk w3 Z _ _ := (HBK.out.alloc _).grown hgrow (fun e => by have := HZ.out Z e.symm; omega)
      have e0 : w3.cell? ⟨Z, 0, none⟩ = some (.int .i64 (a1 + d)) := hb3.cell 0
      have e1 : w3.cell? ⟨Z, 1, none⟩ = some (.int .i64 a2) := hb3.cell 1
      obtain ⟨g3, c3, rfl, -⟩ := owns_shape HO3.out (by omega)
      clear hown3 hgrow hal ho2 hi hz0 hz1 hz2 d0 d1 d2 hb3 HBK HZ HO2 hb
      cases tb with
      | false =>
        have HF : Hid (false = stillL d (l.take (k + 1))) := Lib.hid (by rw [HTB.out]; rfl)
        clear HTB HTK
        go_wp2_with fail
        go_roundw
        case rel => exact ⟨k + 1, false, _, _, by omega, by go_num, rfl, rfl, HF, HO3, hg3, by first | rfl | trivial⟩
        case measure => simp [intOf]; omega
      | true =>
        obtain ⟨tc, htc⟩ : ∃ tc, decide (a1 + d < a2) = tc := ⟨_, rfl⟩
        have HF : Hid (tc = stillL d (l.take (k + 1))) := Lib.hid (by rw [HTB.out, htc]; cases tc <;> rfl)
        clear HTB HTK
        go_wp2_with fail
        all_goals go_roundw
        case rel => exact ⟨k + 1, tc, _, _, by omega, by go_num, by first | rfl | simp_all, rfl, HF, HO3, hg3, by first | rfl | trivial⟩
        case measure => simp [intOf]; omega
    · obtain rfl : k = n := by omega
      have hx : l.take k = l := List.take_of_length_le (by rw [HN.out]; exact Nat.le_refl _)
      have HB : Hid (tb = stillL d l) := Lib.hid (by rw [← hx]; exact hb.out)
      have HO : Hid (wr.ownsRow w.heap.size 48 3 (.slice B k m) k (flatE enc3 (l.map (lateJ d)))) := Lib.hid (by have := hown.out; rwa [hx] at this)
      clear hb hown hx
      go_wp2_with fail
      go_ret2
      have hlen : (l.map (lateJ d)).length = k := by rw [List.length_map, HN.out]
      have HGR := hgr
      rcases HO.out.2 with ⟨e0, hz⟩ | ⟨g, cap, cur, e0, _, _, hnc, _⟩
      · cases e0
        exact ⟨none, 0, by rw [← HB.out]; rfl, by rw [List.eq_nil_of_length_eq_zero (hlen.trans hz)]; exact Rd_nil _ _, fun _ => ⟨rfl, rfl⟩, Nat.le_refl _, HGR⟩
      · cases e0
        exact ⟨some ⟨g, 0, none⟩, m, by rw [← HB.out]; rfl, Rd_of_owns enc3_len hlen HO.out, fun h => by (cases h), hnc, HGR⟩

/-- Fewest counts up, once Possible answers rightly. -/
def FewQ (l : List Jb) (w : World) (e : Ending) (w' : World) : Prop :=
  ∃ r : Nat, e = .returned (.int .i64 (r : Int)) ∧ Gr w w' ∧ r ≤ 8 ∧ (r = 0 → ∀ B : Nat, 1 ≤ B → B ≤ 8 → ¬ Poss B l) ∧ (1 ≤ r → Poss r l ∧ ∀ B : Nat, 1 ≤ B → B < r → ¬ Poss B l)
set_option maxRecDepth 100000 in
set_option maxHeartbeats 4000000 in
theorem rFewest_of (A : Option Addr) (n c : Nat) (l : List Jb) (w : World) (hP : ∀ (B : Nat) (W : World), 1 ≤ B → B ≤ 8 → Gr w W → Calls Try.prog 12 #[.int .i64 (B : Int), .slice A n c] W (BoolP (Poss B l) W)) :
    Calls Try.prog 14 #[.slice A n c] w (FewQ l w) := by
  have HP := Lib.hid hP
  clear hP
  go_enter Try.func14, Try.ntmps14
  go_wp2_with fail
  go_loopw [3] (fun z wr => ∃ k : Nat, 1 ≤ k ∧ k ≤ 9 ∧ z = .int .i64 (k : Int) ∧ Hid (∀ B : Nat, 1 ≤ B → B < k → ¬ Poss B l) ∧ Gr w wr) (fun z _ => 9 - (intOf z).toNat)
  case atStart => exact ⟨1, Nat.le_refl _, by omega, rfl, Lib.hid (fun B h1 h2 => by omega), Gr.refl _⟩
  case round =>
    obtain ⟨k, hk1, hk, rfl, hno, hgr⟩ := hrel
    by_cases hlt : k ≤ 8
    · have hki : (k : Int) ≤ 8 := by omega
      have HPK := Lib.hid (HP.out k wr hk1 hlt hgr)
      go_wp2_with fail
      refine HPK.out.mono ?_
      rintro e w2 ⟨r, rfl, hr, hg2⟩
      have HR := Lib.hid hr
      have hgr2 := hgr.trans hg2
      clear hr HPK hg2
      cases r with
      | true =>
        have HY : Hid (Poss k l) := Lib.hid (HR.out.1 rfl)
        clear HR
        go_wp2_with fail
        try rw [Exit.noGoto_ret]
        go_ret
        exact ⟨k, rfl, hgr2, hlt, fun h => by omega, fun _ => ⟨HY.out, hno.out⟩⟩
      | false =>
        have HN : Hid (∀ B : Nat, 1 ≤ B → B < k + 1 → ¬ Poss B l) := Lib.hid (fun B h1 h2 h3 => by
          rcases Nat.lt_or_ge B k with e | e
          · exact hno.out B h1 e h3
          · obtain rfl : B = k := by omega
            have := HR.out.2 h3
            cases this)
        clear HR
        go_wp2_with fail
        go_roundw
        case rel => exact ⟨k + 1, by omega, by omega, by go_num, HN, hgr2⟩
        case measure => simp [intOf]; omega
    · have hki : ¬ (k : Int) ≤ 8 := by omega
      obtain rfl : k = 9 := by omega
      go_wp2_with fail
      try rw [Exit.noGoto_ret]
      go_ret
      exact ⟨0, rfl, hgr, by omega, fun _ B h1 h2 => hno.out B h1 (by omega), fun h => by omega⟩

end Go.Proofs.Ytfmojiaaoebodaa
