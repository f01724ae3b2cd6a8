/- Layer 4: slots sorted by jobs.
Layer 4: areApart, for jobs. -/
import Derived.Test.YtfmojiaaoebodaaBnSorted
import Derived.Test.YtfmojiaaoebodaaBnApart
namespace Go.Proofs.Ytfmojiaaoebodaa
open Go.RowKit Go.Shelf Go.Lib Go.Sort
set_option linter.unusedSimpArgs false

set_option maxRecDepth 100000 in
set_option maxHeartbeats 8000000 in
theorem cmp_jobOf (ob : Nat) (a b : Sl) (w : World) (h : w.cell? ⟨ob, 0, none⟩ = some (.func (.func 60) #[] #[])) :
    Calls Try.prog 70 #[.agg #[.int .i64 a.1, .int .i64 a.2.1, .int .i64 a.2.2.1, .int .i64 a.2.2.2], .agg #[.int .i64 b.1, .int .i64 b.2.1, .int .i64 b.2.2.1, .int .i64 b.2.2.2], .pointer (some ⟨ob, 0, none⟩)] w fun e w' => e = .returned (.int .i64 (cfS (fun x => x.1) a b)) ∧ Gw w w' := by
  have HA := Lib.hid (fun W => jobOf_any a W)
  have HB := Lib.hid (fun W => jobOf_any b W)
  obtain ⟨a1, a2, a3, a4⟩ := a
  obtain ⟨b1, b2, b3, b4⟩ := b
  dsimp only at HA HB
  obtain ⟨cf, hcf⟩ : ∃ v, cfS (fun x => x.1) (a1, a2, a3, a4) (b1, b2, b3, b4) = v := ⟨_, rfl⟩
  rw [hcf]
  have HCF : Hid ((if sgn (a1 - b1) = 0 then sgn (a3 - b3) else sgn (a1 - b1)) = cf) := Lib.hid hcf
  clear hcf
  go_enter Try.func70, Try.ntmps70
  go_upto_region 1 with fail
  generalize hW1 : World.alloc (World.alloc w _) _ = w1
  have hg1 : Gw w w1 := by rw [← hW1]; exact ((Gw.refl w).alloc _).alloc _
  have hX : Blk w1 w.heap.size 72 #[.int .i64 a1, .int .i64 a2, .int .i64 a3, .int .i64 a4] := by rw [← hW1]; exact (Blk.new w _ _ rfl).alloc _
  have hY : Blk w1 (w.heap.size + 1) 72 #[.int .i64 b1, .int .i64 b2, .int .i64 b3, .int .i64 b4] := by rw [← hW1]; exact Blk.new _ _ _ (by simp)
  generalize w.heap.size = X at hX hY ⊢
  have h' := hg1.gr.keep h
  have HX := Lib.hid hX
  have HY := Lib.hid hY
  have KS : Hid (∀ W', Gw w1 W' → Gw w1 W' ∧ W'.cell? ⟨ob, 0, none⟩ = some (.func (.func 60) #[] #[]) ∧ W'.cell? ⟨X, 0, none⟩ = some (.int .i64 a1) ∧ W'.cell? ⟨X, 1, none⟩ = some (.int .i64 a2) ∧ W'.cell? ⟨X, 2, none⟩ = some (.int .i64 a3) ∧ W'.cell? ⟨X, 3, none⟩ = some (.int .i64 a4) ∧ W'.cell? ⟨X + 1, 0, none⟩ = some (.int .i64 b1) ∧ W'.cell? ⟨X + 1, 1, none⟩ = some (.int .i64 b2) ∧ W'.cell? ⟨X + 1, 2, none⟩ = some (.int .i64 b3) ∧ W'.cell? ⟨X + 1, 3, none⟩ = some (.int .i64 b4)) := Lib.hid (fun W' hg => ⟨hg, hg.gr.keep h', (HX.out.keep hg.gr).cell 0, (HX.out.keep hg.gr).cell 1, (HX.out.keep hg.gr).cell 2, (HX.out.keep hg.gr).cell 3, (HY.out.keep hg.gr).cell 0, (HY.out.keep hg.gr).cell 1, (HY.out.keep hg.gr).cell 2, (HY.out.keep hg.gr).cell 3⟩)
  clear hW1 hX hY
  refine wp_region_held_drew (S := (fun W' => Gw w1 W' ∧ W'.cell? ⟨ob, 0, none⟩ = some (.func (.func 60) #[] #[]) ∧ W'.cell? ⟨X, 0, none⟩ = some (.int .i64 a1) ∧ W'.cell? ⟨X, 1, none⟩ = some (.int .i64 a2) ∧ W'.cell? ⟨X, 2, none⟩ = some (.int .i64 a3) ∧ W'.cell? ⟨X, 3, none⟩ = some (.int .i64 a4) ∧ W'.cell? ⟨X + 1, 0, none⟩ = some (.int .i64 b1) ∧ W'.cell? ⟨X + 1, 1, none⟩ = some (.int .i64 b2) ∧ W'.cell? ⟨X + 1, 2, none⟩ = some (.int .i64 b3) ∧ W'.cell? ⟨X + 1, 3, none⟩ = some (.int .i64 b4))) ?_ ?_ (fun hHeld => ?_)
  · kernel_rfl
  · ((try dsimp only); (first | exact hHeld | exact KS.out _ (Gw.refl w1).drew | exact KS.out _ HGA.out | exact KS.out _ HGB.out | exact KS.out _ (hHeld.1.alloc _)))
  refine take_in (i := 0) (v := ?_) (d := (some 6)) rfl rfl ?_ ?_ ?_ ?_ ?_ ?_ ?_ ?_
  rotate_left
  · kernel_rfl
  · kernel_rfl
  · kernel_rfl
  · (intro _ _ _ hq; exact hq)
  · rfl
  · (intro _w hSw; (try dsimp only at hSw); go_simp; try with_reducible rfl)
  · assumption
  try simp only [Act.put, List.setIfInBounds_toArray, List.set_cons_zero, List.set_cons_succ]
  refine take_in (i := 1) (v := ?_) (d := (some 7)) rfl rfl ?_ ?_ ?_ ?_ ?_ ?_ ?_ ?_
  rotate_left
  · kernel_rfl
  · kernel_rfl
  · kernel_rfl
  · (intro _ _ _ hq; exact hq)
  · rfl
  · (intro _w hSw; (try dsimp only at hSw); go_simp; try with_reducible rfl)
  · assumption
  try simp only [Act.put, List.setIfInBounds_toArray, List.set_cons_zero, List.set_cons_succ]
  refine take_in (i := 3) (v := ?_) (d := (some 9)) rfl rfl ?_ ?_ ?_ ?_ ?_ ?_ ?_ ?_
  rotate_left
  · kernel_rfl
  · kernel_rfl
  · kernel_rfl
  · (intro _ _ _ hq; exact hq)
  · rfl
  · (intro _w hSw; (try dsimp only at hSw); go_simp; try with_reducible rfl)
  · assumption
  try simp only [Act.put, List.setIfInBounds_toArray, List.set_cons_zero, List.set_cons_succ]
  refine take_in (i := 4) (v := ?_) (d := (some 10)) rfl rfl ?_ ?_ ?_ ?_ ?_ ?_ ?_ ?_
  rotate_left
  · kernel_rfl
  · kernel_rfl
  · kernel_rfl
  · (intro _ _ _ hq; exact hq)
  · rfl
  · (intro _w hSw; (try dsimp only at hSw); go_simp; try with_reducible rfl)
  · assumption
  try simp only [Act.put, List.setIfInBounds_toArray, List.set_cons_zero, List.set_cons_succ]
  refine take_in (i := 7) (v := ?_) (d := (some 13)) rfl rfl ?_ ?_ ?_ ?_ ?_ ?_ ?_ ?_
  rotate_left
  · kernel_rfl
  · kernel_rfl
  · kernel_rfl
  · (intro _ _ _ hq; exact hq)
  · rfl
  · (intro _w hSw; (try dsimp only at hSw); go_simp; try with_reducible rfl)
  · assumption
  try simp only [Act.put, List.setIfInBounds_toArray, List.set_cons_zero, List.set_cons_succ]
  refine take_in (i := 8) (v := ?_) (d := (some 14)) rfl rfl ?_ ?_ ?_ ?_ ?_ ?_ ?_ ?_
  rotate_left
  · kernel_rfl
  · kernel_rfl
  · kernel_rfl
  · (intro _ _ _ hq; exact hq)
  · rfl
  · (intro _w hSw; (try dsimp only at hSw); go_simp; try with_reducible rfl)
  · assumption
  try simp only [Act.put, List.setIfInBounds_toArray, List.set_cons_zero, List.set_cons_succ]
  refine take_in (i := 9) (v := ?_) (d := (some 15)) rfl rfl ?_ ?_ ?_ ?_ ?_ ?_ ?_ ?_
  rotate_left
  · kernel_rfl
  · kernel_rfl
  · kernel_rfl
  · (intro _ _ _ hq; exact hq)
  · rfl
  · (intro _w hSw; (try dsimp only at hSw); go_simp; try with_reducible rfl)
  · assumption
  try simp only [Act.put, List.setIfInBounds_toArray, List.set_cons_zero, List.set_cons_succ]
  refine take_in (i := 10) (v := ?_) (d := (some 16)) rfl rfl ?_ ?_ ?_ ?_ ?_ ?_ ?_ ?_
  rotate_left
  · kernel_rfl
  · kernel_rfl
  · kernel_rfl
  · (intro _ _ _ hq; exact hq)
  · rfl
  · (intro _w hSw; (try dsimp only at hSw); go_simp; try with_reducible rfl)
  · assumption
  try simp only [Act.put, List.setIfInBounds_toArray, List.set_cons_zero, List.set_cons_succ]
  refine wpAnyH_ready (rs := [2]) ?_ ?_ ?_
  · kernel_rfl
  · simp
  refine (AllReadyH.cons rfl (fun K hK => ?_) AllReadyH.nil)
  go_simp
  first | (go_at_call 60; (with_reducible refine (HA.out _).mono ?_); rintro e w3 ⟨rfl, n3, os3, hw3⟩; have HGA := Lib.hid (hHeld.1.trans ⟨n3, os3, hw3⟩); clear hw3) | (go_at_call 60; (with_reducible refine (HB.out _).mono ?_); rintro e w4 ⟨rfl, n4, os4, hw4⟩; have HGB := Lib.hid (hHeld.1.trans ⟨n4, os4, hw4⟩); clear hw4) | (go_at_call 51; refine (cmp_any _ _ _).mono ?_; rintro e w5 ⟨rfl, rfl⟩) | (go_at_call 71; refine (orI_any _ _ _ _ (alloc_new rfl rfl) (alloc_new rfl rfl)).mono ?_; rintro e w6 ⟨rfl, rfl⟩; rw [HCF.out])
  refine hK.out _ _ ?_ (fun hHeld => ?_)
  · ((try dsimp only); (first | exact hHeld | exact KS.out _ (Gw.refl w1).drew | exact KS.out _ HGA.out | exact KS.out _ HGB.out | exact KS.out _ (hHeld.1.alloc _)))
  clear hK K
  try simp only [Act.put, List.setIfInBounds_toArray, List.set_cons_zero, List.set_cons_succ]
  refine wpAnyH_ready (rs := [5]) ?_ ?_ ?_
  · kernel_rfl
  · simp
  refine (AllReadyH.cons rfl (fun K hK => ?_) AllReadyH.nil)
  go_simp
  first | (go_at_call 60; (with_reducible refine (HA.out _).mono ?_); rintro e w3 ⟨rfl, n3, os3, hw3⟩; have HGA := Lib.hid (hHeld.1.trans ⟨n3, os3, hw3⟩); clear hw3) | (go_at_call 60; (with_reducible refine (HB.out _).mono ?_); rintro e w4 ⟨rfl, n4, os4, hw4⟩; have HGB := Lib.hid (hHeld.1.trans ⟨n4, os4, hw4⟩); clear hw4) | (go_at_call 51; refine (cmp_any _ _ _).mono ?_; rintro e w5 ⟨rfl, rfl⟩) | (go_at_call 71; refine (orI_any _ _ _ _ (alloc_new rfl rfl) (alloc_new rfl rfl)).mono ?_; rintro e w6 ⟨rfl, rfl⟩; rw [HCF.out])
  refine hK.out _ _ ?_ (fun hHeld => ?_)
  · ((try dsimp only); (first | exact hHeld | exact KS.out _ (Gw.refl w1).drew | exact KS.out _ HGA.out | exact KS.out _ HGB.out | exact KS.out _ (hHeld.1.alloc _)))
  clear hK K
  try simp only [Act.put, List.setIfInBounds_toArray, List.set_cons_zero, List.set_cons_succ]
  refine wpAnyH_ready (rs := [6]) ?_ ?_ ?_
  · kernel_rfl
  · simp
  refine (AllReadyH.cons rfl (fun K hK => ?_) AllReadyH.nil)
  go_simp
  first | (go_at_call 60; (with_reducible refine (HA.out _).mono ?_); rintro e w3 ⟨rfl, n3, os3, hw3⟩; have HGA := Lib.hid (hHeld.1.trans ⟨n3, os3, hw3⟩); clear hw3) | (go_at_call 60; (with_reducible refine (HB.out _).mono ?_); rintro e w4 ⟨rfl, n4, os4, hw4⟩; have HGB := Lib.hid (hHeld.1.trans ⟨n4, os4, hw4⟩); clear hw4) | (go_at_call 51; refine (cmp_any _ _ _).mono ?_; rintro e w5 ⟨rfl, rfl⟩) | (go_at_call 71; refine (orI_any _ _ _ _ (alloc_new rfl rfl) (alloc_new rfl rfl)).mono ?_; rintro e w6 ⟨rfl, rfl⟩; rw [HCF.out])
  refine hK.out _ _ ?_ (fun hHeld => ?_)
  · ((try dsimp only); (first | exact hHeld | exact KS.out _ (Gw.refl w1).drew | exact KS.out _ HGA.out | exact KS.out _ HGB.out | exact KS.out _ (hHeld.1.alloc _)))
  clear hK K
  try simp only [Act.put, List.setIfInBounds_toArray, List.set_cons_zero, List.set_cons_succ]
  refine wpAnyH_ready (rs := [11]) ?_ ?_ ?_
  · kernel_rfl
  · simp
  refine (AllReadyH.cons rfl (fun K hK => ?_) AllReadyH.nil)
  go_simp
  first | (go_at_call 60; (with_reducible refine (HA.out _).mono ?_); rintro e w3 ⟨rfl, n3, os3, hw3⟩; have HGA := Lib.hid (hHeld.1.trans ⟨n3, os3, hw3⟩); clear hw3) | (go_at_call 60; (with_reducible refine (HB.out _).mono ?_); rintro e w4 ⟨rfl, n4, os4, hw4⟩; have HGB := Lib.hid (hHeld.1.trans ⟨n4, os4, hw4⟩); clear hw4) | (go_at_call 51; refine (cmp_any _ _ _).mono ?_; rintro e w5 ⟨rfl, rfl⟩) | (go_at_call 71; refine (orI_any _ _ _ _ (alloc_new rfl rfl) (alloc_new rfl rfl)).mono ?_; rintro e w6 ⟨rfl, rfl⟩; rw [HCF.out])
  refine hK.out _ _ ?_ (fun hHeld => ?_)
  · ((try dsimp only); (first | exact hHeld | exact KS.out _ (Gw.refl w1).drew | exact KS.out _ HGA.out | exact KS.out _ HGB.out | exact KS.out _ (hHeld.1.alloc _)))
  clear hK K
  try simp only [Act.put, List.setIfInBounds_toArray, List.set_cons_zero, List.set_cons_succ]
  refine wpAnyH_ready (rs := [12]) ?_ ?_ ?_
  · kernel_rfl
  · simp
  refine (AllReadyH.cons rfl (fun K hK => ?_) AllReadyH.nil)
  go_simp
  refine hK.out _ _ ?_ (fun hHeld => ?_)
  · ((try dsimp only); (first | exact hHeld | exact KS.out _ (Gw.refl w1).drew | exact KS.out _ HGA.out | exact KS.out _ HGB.out | exact KS.out _ (hHeld.1.alloc _)))
  clear hK K
  try simp only [Act.put, List.setIfInBounds_toArray, List.set_cons_zero, List.set_cons_succ]
  refine wpAnyH_ready (rs := [13]) ?_ ?_ ?_
  · kernel_rfl
  · simp
  refine (AllReadyH.cons rfl (fun K hK => ?_) AllReadyH.nil)
  go_simp
  first | (go_at_call 60; (with_reducible refine (HA.out _).mono ?_); rintro e w3 ⟨rfl, n3, os3, hw3⟩; have HGA := Lib.hid (hHeld.1.trans ⟨n3, os3, hw3⟩); clear hw3) | (go_at_call 60; (with_reducible refine (HB.out _).mono ?_); rintro e w4 ⟨rfl, n4, os4, hw4⟩; have HGB := Lib.hid (hHeld.1.trans ⟨n4, os4, hw4⟩); clear hw4) | (go_at_call 51; refine (cmp_any _ _ _).mono ?_; rintro e w5 ⟨rfl, rfl⟩) | (go_at_call 71; refine (orI_any _ _ _ _ (alloc_new rfl rfl) (alloc_new rfl rfl)).mono ?_; rintro e w6 ⟨rfl, rfl⟩; rw [HCF.out])
  refine hK.out _ _ ?_ (fun hHeld => ?_)
  · ((try dsimp only); (first | exact hHeld | exact KS.out _ (Gw.refl w1).drew | exact KS.out _ HGA.out | exact KS.out _ HGB.out | exact KS.out _ (hHeld.1.alloc _)))
  clear hK K
  try simp only [Act.put, List.setIfInBounds_toArray, List.set_cons_zero, List.set_cons_succ]
  refine take_in (i := 14) (v := ?_) (d := (some 5)) rfl rfl ?_ ?_ ?_ ?_ ?_ ?_ ?_ ?_
  rotate_left
  · kernel_rfl
  · kernel_rfl
  · kernel_rfl
  · (intro _ _ _ hq; exact hq)
  · rfl
  · (intro _w hSw; (try dsimp only at hSw); go_simp; try with_reducible rfl)
  · assumption
  try simp only [Act.put, List.setIfInBounds_toArray, List.set_cons_zero, List.set_cons_succ]
  refine wpAnyH_done ?_ ?_ _
  · kernel_rfl
  rotate_left
  all_goals
    go_wp2_with fail
    go_ret
    exact ⟨rfl, hg1.trans hHeld.1⟩

set_option maxHeartbeats 1000000 in
/-- Sorting by jobs. -/
theorem sortS_job (g c base n ob : Nat) (sl : List Sl) (w : World) (hn : sl.length = n) (hl : n ≤ 4096) (hob : ob ≠ g) (hc : w.cell? ⟨ob, 0, none⟩ = some (.func (.func 60) #[] #[])) (ho : w.ownsRow base 72 4 (.slice (some ⟨g, 0, none⟩) n c) n (flatE enc4 sl)) {w0 : World} (h0 : Gr w0 w) (hg : w0.heap.size ≤ g) (hgl : g < w.heap.size) :
    Calls Try.prog 69 #[.slice (some ⟨g, 0, none⟩) n c, .func (.func 70) #[] #[.pointer (some ⟨ob, 0, none⟩)]] w fun e w' => e = .returned (.tuple #[]) ∧ ∃ sl' : List Sl, sl'.length = n ∧ sl'.Perm sl ∧ Rd 4 enc4 w' (some ⟨g, 0, none⟩) sl' ∧ sl'.Pairwise (fun x y => ltOf (cfS fun x => x.1) y x = false) ∧ Gr w0 w' ∧ Un w' g := by
  have hun : ∃ cur t, w.heap[g]? = some (.cells cur t (0, 0)) := by
    rcases ho.2 with ⟨hv, _⟩ | ⟨g', cap, cur, hv, _, hg', _⟩
    · cases hv
    · injection hv with h1 _ _
      injection h1 with h1
      injection h1 with h1
      subst h1
      exact ⟨_, _, hg'⟩
  obtain ⟨cur0, t0, hun⟩ := hun
  have eg : ∀ args w, (callFunc 70 args).run Try.prog w = .ok (.enter 70 args) w := enters_of Try.func70 (by kernel_rfl) rfl
  have aE : ∀ w, (isAgg (Try.sortSlots_ren.t 24)).run Try.prog w = .ok true w := fun w => by kernel_rfl
  have zE : ∀ w, (Go.sizeOf (Try.sortSlots_ren.t 24)).run Try.prog w = .ok 4 w := fun w => by kernel_rfl
  have hH := holdsK4 hn ho
  have hcmp : CmpLays Try.prog 70 #[.pointer (some ⟨ob, 0, none⟩)] enc4 4 (cfS fun x => x.1) g 0 sl.toArray.size w := fun m os dk hdk x y => by
    refine (cmp_jobOf ob x y _ ?_).mono fun e w' ⟨he, q, os', hw⟩ => ⟨he, q, os', hw⟩
    have hlt := World.block_lt_of_cell? w _ hc
    have hb : (sortWorldK enc4 4 w g 0 m dk os).heap[ob]? = w.heap[ob]? := by
      show ((w.heap.modify g _) ++ os)[ob]? = w.heap[ob]?
      rw [Array.getElem?_append_left (by simpa using hlt), Array.getElem?_modify, if_neg (fun e => hob e.symm)]
    rw [← hc]
    unfold World.cell?
    simp only [hb]
  have h := AnyQ.slices_SortFunc Try.sortSlots 4 aE zE enc4 enc4_len enc4_one (cfS fun x => x.1) (swoS _) 70 #[.pointer (some ⟨ob, 0, none⟩)] g 0 c sl.toArray w eg hcmp hH hgl (by simp; omega)
  change Calls Try.prog 69 _ _ _ at h
  have e : sl.toArray.size = n := by simp [hn]
  rw [e] at h
  refine h.mono ?_
  rintro e w' ⟨rfl, d', k, os, hp, hs, rfl⟩
  have hsz : d'.size = n := by have := hp.1; rw [this]; simp [hn]
  refine ⟨rfl, d'.toList, by simp [hsz], ?_, ?_, ?_, gr_sortK h0 hg, Un.sortK _ _ hun⟩
  · have := hp.2.2
    have ex1 : d'.extract 0 n = d' := by rw [← hsz]; simp
    have ex2 : sl.toArray.extract 0 n = sl.toArray := by rw [← hn]; simp
    rw [ex1, ex2] at this
    simpa using this
  · have h1 : HoldsK enc4 4 (Sort.ahead w k) g 0 sl.toArray := hH
    have h2 := holds_putRow id (Sort.ahead w k) g 0 _ (flatK enc4 4 d') h1 (by simp [hsz, hn])
    have h3 := holds_grow id _ os g 0 _ (by show g < (Array.modify _ _ _).size; simpa using hgl) h2
    refine rd_holdsK4 (sl := d'.toList) ?_
    have e : d'.toList.toArray = d' := by simp
    rw [e]
    exact h3
  · refine List.pairwise_iff_getElem.2 fun i j hi hj hij => ?_
    have hi' : i < d'.size := by simpa using hi
    have hj' : j < d'.size := by simpa using hj
    have := hs i j (Nat.zero_le _) hij (by omega)
    rw [getElem!_pos d' i hi', getElem!_pos d' j hj'] at this
    simpa using this

set_option maxRecDepth 100000 in
set_option maxHeartbeats 1000000 in
theorem sortedS_job (b off n c ob : Nat) (ns : List Sl) (w : World) (hn : ns.length = n) (hl : n ≤ 4096) (hc : w.cell? ⟨ob, 0, none⟩ = some (.func (.func 60) #[] #[])) (hp : Rd 4 enc4 w (some ⟨b, off, none⟩) ns) :
    Calls Try.prog 55 #[.slice (some ⟨b, off, none⟩) n c, .func (.func 70) #[] #[.pointer (some ⟨ob, 0, none⟩)]] w fun e w' => ∃ g c' sl, e = .returned (.slice (some ⟨g, 0, none⟩) n c') ∧ sl.length = n ∧ List.Perm sl ns ∧ Rd 4 enc4 w' (some ⟨g, 0, none⟩) sl ∧ sl.Pairwise (fun x y => ltOf (cfS fun x => x.1) y x = false) ∧ w.heap.size ≤ g ∧ Gr w w' ∧ (n ≤ c' ∧ Un w' g) := by
  have HC := Lib.hid (cloneS_any b off n c ns w hn hl hp)
  have HN := Lib.hid hn
  have HO := Lib.hid hc
  have hob := World.block_lt_of_cell? w _ hc
  clear hn hp hc
  go_enter Try.func55, Try.ntmps55
  go_wp2_with fail
  refine HC.out.mono ?_
  rintro e w1 ⟨g, c1, rfl, hcc, hg, hgl, hown, hgr⟩
  rw [HN.out] at hown hcc ⊢
  have HS := Lib.hid (sortS_job g c1 w.heap.size n ob ns w1 HN.out hl (by omega) (hgr.keep HO.out) hown (w0 := w) hgr hg hgl)
  clear hown HC
  go_wp2_with fail
  refine HS.out.mono ?_
  rintro e w2 ⟨rfl, sl, h1, h2, h3, h4, h5, h6⟩
  have HR := Lib.hid (And.intro h1 (And.intro h2 (And.intro h3 (And.intro h4 (And.intro h5 h6)))))
  have HCC := Lib.hid hcc
  clear h1 h2 h3 h4 h5 h6 HS hcc
  go_wp2_with fail
  go_ret
  obtain ⟨h1, h2, h3, h4, h5, h6⟩ := HR.out
  exact ⟨g, c1, sl, rfl, h1, h2, h3, h4, hg, h5, HCC.out, h6⟩

end Go.Proofs.Ytfmojiaaoebodaa

namespace Go.Proofs.Ytfmojiaaoebodaa
open Go.RowKit Go.Shelf Go.Lib Go.Sort
set_option linter.unusedSimpArgs false

/-- Sorting by jobs, of nothing, too. -/
theorem sorted_job (A : Option Addr) (n c ob : Nat) (s : List Sl) (w : World) (hn : s.length = n) (hl : n ≤ 4096) (hA : A = none → n = 0 ∧ c = 0) (hsp : ∀ a, A = some a → a.spot = none) (hc : w.cell? ⟨ob, 0, none⟩ = some (.func (.func 60) #[] #[])) (hp : Rd 4 enc4 w A s) :
    Calls Try.prog 55 #[.slice A n c, .func (.func 70) #[] #[.pointer (some ⟨ob, 0, none⟩)]] w (SortP (fun x => x.1) s n w) := by
  rcases A with _ | ⟨b, off, sp⟩
  · obtain ⟨rfl, rfl⟩ := hA rfl
    have hs := List.eq_nil_of_length_eq_zero hn
    subst hs
    refine (sortedS_nil _ w).mono ?_
    rintro e w' ⟨rfl, rfl⟩
    exact ⟨_, _, [], rfl, rfl, List.Perm.refl _, Rd_nil _ _, List.Pairwise.nil, Gr.refl _⟩
  · obtain rfl : sp = none := hsp _ rfl
    refine (sortedS_job b off n c ob s w hn hl hc hp).mono ?_
    rintro e w' ⟨g, c', sl, rfl, h1, h2, h3, h4, -, h5, -⟩
    exact ⟨_, _, sl, rfl, h1, h2, h3, ord_of _ h4, h5⟩

set_option maxRecDepth 100000 in
set_option maxHeartbeats 16000000 in
theorem apart_job (A : Option Addr) (n c : Nat) (s : List Sl) (w : World) (hn : s.length = n) (hl : n ≤ 4096) (hA : A = none → n = 0 ∧ c = 0) (hsp : ∀ a, A = some a → a.spot = none) (hp : Rd 4 enc4 w A s) (hlen : ∀ x ∈ s, x.2.2.1 < x.2.2.2) :
    Calls Try.prog 59 #[.slice A n c, .func (.func 60) #[] #[]] w (BoolP (ApartOk (fun x => x.1) s) w) := by
  have HIO := Lib.hid (inOrder_any 60 w)
  have HSO := Lib.hid (fun (ob : Nat) W (hW : Gr w W) hc => sorted_job A n c ob s W hn hl hA hsp hc (hp.keep hW))
  have HLN := Lib.hid hlen
  clear hn hA hsp hp hlen
  go_enter Try.func59, Try.ntmps59
  go_wp2_with fail
  refine HIO.out.mono ?_
  rintro e w1 ⟨ob, rfl, hob, -, hg1⟩
  have HS1 := Lib.hid (HSO.out ob w1 hg1 hob)
  clear hob HIO HSO
  go_wp2_with fail
  refine HS1.out.mono ?_
  rintro e w2 ⟨A2, c2, sl, rfl, hsl, hpm, hrd, hord, hg2⟩
  have HL := Lib.hid hsl
  have HR := Lib.hid hrd
  have HIF := Lib.hid (apart_iff hpm hord HLN.out)
  have hg := hg1.trans hg2
  clear HS1 hsl hpm hrd hord hg1 hg2 HLN
  go_wp2_with fail
  go_loopw [6] (fun z wr => ∃ j : Nat, (j + 1 ≤ n ∨ j = 0) ∧ z = .int .i64 ((j : Int) + 1) ∧ Hid (∀ i, i < j → nbO (fun x => x.1) (slA sl i) (slA sl (i + 1))) ∧ Gr w2 wr) (fun z _ => n + 1 - (intOf z).toNat)
  case atStart => exact ⟨0, Or.inr rfl, rfl, Lib.hid (fun i h => by omega), Gr.refl _⟩
  case round =>
    obtain ⟨j, hj, rfl, hA, hgr⟩ := hrel
    by_cases hlt : j + 1 < n
    · have hlti : (j : Int) + 1 < (n : Int) := by omega
      obtain ⟨b, off, rfl, x0, x1, x2, x3⟩ := Quads_at (HR.out.keep hgr) (k := j) (by rw [HL.out]; omega)
      obtain ⟨b', off', e, y0, y1, y2, y3⟩ := Quads_at (HR.out.keep hgr) (k := j + 1) (by rw [HL.out]; exact hlt)
      cases e
      obtain ⟨X, hX⟩ : ∃ X, slA sl j = X := ⟨_, rfl⟩
      obtain ⟨Y, hY⟩ : ∃ Y, slA sl (j + 1) = Y := ⟨_, rfl⟩
      have HNB : Hid (nbO (fun x => x.1) (slA sl j) (slA sl (j + 1)) ↔ (X.1 = Y.1 → X.2.2.2 ≤ Y.2.2.1)) := Lib.hid (by rw [hX, hY]; exact Iff.rfl)
      rw [hX] at x0 x1 x2 x3
      rw [hY] at y0 y1 y2 y3
      clear hX hY
      have HBX := Lib.hid (fun W => (jobOf_any X W).mono fun e w' h => And.intro h.1 (Gw.gr h.2))
      have HBY := Lib.hid (fun W => (jobOf_any Y W).mono fun e w' h => And.intro h.1 (Gw.gr h.2))
      obtain ⟨xa, xb, xf, xt⟩ := X
      obtain ⟨ya, yb, yf, yt⟩ := Y
      dsimp only at x0 x1 x2 x3 y0 y1 y2 y3 HNB HBX HBY
      have i1 : IntKind.i64.wrap ((j : Int) + 1 - 1) = (j : Int) := by rw [show (j : Int) + 1 - 1 = (j : Int) by omega]; exact IntWalk.i64_in _ (by omega)
      have i1s : IntKind.i64.wrap (j : Int) = (j : Int) := IntWalk.i64_in _ (by omega)
      have i2 : (0 : Int) ≤ (j : Int) := by omega
      have i3 : (j : Int) < (n : Int) := by omega
      have i4 : (0 : Int) ≤ (j : Int) + 1 := by omega
      have i5 : ((j : Int) + 1).toNat = j + 1 := by omega
      have i6 : IntKind.i64.wrap ((j : Int) + 1 + 1) = (j : Int) + 1 + 1 := IntWalk.i64_in _ (by omega)
      have KS : Hid (∀ W', Gr wr W' → Gr wr W' ∧ W'.cell? ⟨b, off + j * 4, none⟩ = some (.int .i64 xa) ∧ W'.cell? ⟨b, off + j * 4 + 1, none⟩ = some (.int .i64 xb) ∧ W'.cell? ⟨b, off + j * 4 + 2, none⟩ = some (.int .i64 xf) ∧ W'.cell? ⟨b, off + j * 4 + 3, none⟩ = some (.int .i64 xt) ∧ W'.cell? ⟨b, off + (j + 1) * 4, none⟩ = some (.int .i64 ya) ∧ W'.cell? ⟨b, off + (j + 1) * 4 + 1, none⟩ = some (.int .i64 yb) ∧ W'.cell? ⟨b, off + (j + 1) * 4 + 2, none⟩ = some (.int .i64 yf) ∧ W'.cell? ⟨b, off + (j + 1) * 4 + 3, none⟩ = some (.int .i64 yt)) := Lib.hid (fun W' hg => ⟨hg, hg.keep x0, hg.keep x1, hg.keep x2, hg.keep x3, hg.keep y0, hg.keep y1, hg.keep y2, hg.keep y3⟩)
      by_cases he : xa = ya
      · have hd : (xa == ya) = true := by simpa using he
        have HE := Lib.hid he
        clear he
        go_upto_region 5 with fail
        refine wp_region_held_drew (S := (fun W' => Gr wr W' ∧ W'.cell? ⟨b, off + j * 4, none⟩ = some (.int .i64 xa) ∧ W'.cell? ⟨b, off + j * 4 + 1, none⟩ = some (.int .i64 xb) ∧ W'.cell? ⟨b, off + j * 4 + 2, none⟩ = some (.int .i64 xf) ∧ W'.cell? ⟨b, off + j * 4 + 3, none⟩ = some (.int .i64 xt) ∧ W'.cell? ⟨b, off + (j + 1) * 4, none⟩ = some (.int .i64 ya) ∧ W'.cell? ⟨b, off + (j + 1) * 4 + 1, none⟩ = some (.int .i64 yb) ∧ W'.cell? ⟨b, off + (j + 1) * 4 + 2, none⟩ = some (.int .i64 yf) ∧ W'.cell? ⟨b, off + (j + 1) * 4 + 3, none⟩ = some (.int .i64 yt))) ?_ ?_ (fun hHeld => ?_)
        · kernel_rfl
        · ((try dsimp only); (first | exact hHeld | exact KS.out _ (Gr.refl wr).drew | exact KS.out _ HGA.out | exact KS.out _ HGB.out))
        refine take_in (i := 0) (v := ?_) (d := (some 17)) rfl rfl ?_ ?_ ?_ ?_ ?_ ?_ ?_ ?_
        rotate_left
        · kernel_rfl
        · kernel_rfl
        · kernel_rfl
        · (intro _ _ _ hq; exact hq)
        · rfl
        · (intro _w hSw; (try dsimp only at hSw); go_simp; try with_reducible rfl)
        · assumption
        try simp only [Act.put, List.setIfInBounds_toArray, List.set_cons_zero, List.set_cons_succ]
        refine take_in (i := 1) (v := ?_) (d := (some 18)) rfl rfl ?_ ?_ ?_ ?_ ?_ ?_ ?_ ?_
        rotate_left
        · kernel_rfl
        · kernel_rfl
        · kernel_rfl
        · (intro _ _ _ hq; exact hq)
        · rfl
        · (intro _w hSw; (try dsimp only at hSw); go_simp; try with_reducible rfl)
        · assumption
        try simp only [Act.put, List.setIfInBounds_toArray, List.set_cons_zero, List.set_cons_succ]
        refine take_in (i := 2) (v := ?_) (d := (some 19)) rfl rfl ?_ ?_ ?_ ?_ ?_ ?_ ?_ ?_
        rotate_left
        · kernel_rfl
        · kernel_rfl
        · kernel_rfl
        · (intro _ _ _ hq; exact hq)
        · rfl
        · (intro _w hSw; (try dsimp only at hSw); go_simp; try with_reducible rfl)
        · assumption
        try simp only [Act.put, List.setIfInBounds_toArray, List.set_cons_zero, List.set_cons_succ]
        refine take_in (i := 3) (v := ?_) (d := (some 20)) rfl rfl ?_ ?_ ?_ ?_ ?_ ?_ ?_ ?_
        rotate_left
        · kernel_rfl
        · kernel_rfl
        · kernel_rfl
        · (intro _ _ _ hq; exact hq)
        · rfl
        · (intro _w hSw; (try dsimp only at hSw); go_simp; try with_reducible rfl)
        · assumption
        try simp only [Act.put, List.setIfInBounds_toArray, List.set_cons_zero, List.set_cons_succ]
        refine take_in (i := 4) (v := ?_) (d := (some 21)) rfl rfl ?_ ?_ ?_ ?_ ?_ ?_ ?_ ?_
        rotate_left
        · kernel_rfl
        · kernel_rfl
        · kernel_rfl
        · (intro _ _ _ hq; exact hq)
        · rfl
        · (intro _w hSw; (try dsimp only at hSw); go_simp; try with_reducible rfl)
        · assumption
        try simp only [Act.put, List.setIfInBounds_toArray, List.set_cons_zero, List.set_cons_succ]
        refine take_in (i := 5) (v := ?_) (d := (some 22)) rfl rfl ?_ ?_ ?_ ?_ ?_ ?_ ?_ ?_
        rotate_left
        · kernel_rfl
        · kernel_rfl
        · kernel_rfl
        · (intro _ _ _ hq; exact hq)
        · rfl
        · (intro _w hSw; (try dsimp only at hSw); go_simp; try with_reducible rfl)
        · assumption
        try simp only [Act.put, List.setIfInBounds_toArray, List.set_cons_zero, List.set_cons_succ]
        refine take_in (i := 7) (v := ?_) (d := (some 24)) rfl rfl ?_ ?_ ?_ ?_ ?_ ?_ ?_ ?_
        rotate_left
        · kernel_rfl
        · kernel_rfl
        · kernel_rfl
        · (intro _ _ _ hq; exact hq)
        · rfl
        · (intro _w hSw; (try dsimp only at hSw); go_simp; try with_reducible rfl)
        · assumption
        try simp only [Act.put, List.setIfInBounds_toArray, List.set_cons_zero, List.set_cons_succ]
        refine take_in (i := 8) (v := ?_) (d := (some 25)) rfl rfl ?_ ?_ ?_ ?_ ?_ ?_ ?_ ?_
        rotate_left
        · kernel_rfl
        · kernel_rfl
        · kernel_rfl
        · (intro _ _ _ hq; exact hq)
        · rfl
        · (intro _w hSw; (try dsimp only at hSw); go_simp; try with_reducible rfl)
        · assumption
        try simp only [Act.put, List.setIfInBounds_toArray, List.set_cons_zero, List.set_cons_succ]
        refine take_in (i := 9) (v := ?_) (d := (some 26)) rfl rfl ?_ ?_ ?_ ?_ ?_ ?_ ?_ ?_
        rotate_left
        · kernel_rfl
        · kernel_rfl
        · kernel_rfl
        · (intro _ _ _ hq; exact hq)
        · rfl
        · (intro _w hSw; (try dsimp only at hSw); go_simp; try with_reducible rfl)
        · assumption
        try simp only [Act.put, List.setIfInBounds_toArray, List.set_cons_zero, List.set_cons_succ]
        refine take_in (i := 10) (v := ?_) (d := (some 27)) rfl rfl ?_ ?_ ?_ ?_ ?_ ?_ ?_ ?_
        rotate_left
        · kernel_rfl
        · kernel_rfl
        · kernel_rfl
        · (intro _ _ _ hq; exact hq)
        · rfl
        · (intro _w hSw; (try dsimp only at hSw); go_simp; try with_reducible rfl)
        · assumption
        try simp only [Act.put, List.setIfInBounds_toArray, List.set_cons_zero, List.set_cons_succ]
        refine take_in (i := 11) (v := ?_) (d := (some 28)) rfl rfl ?_ ?_ ?_ ?_ ?_ ?_ ?_ ?_
        rotate_left
        · kernel_rfl
        · kernel_rfl
        · kernel_rfl
        · (intro _ _ _ hq; exact hq)
        · rfl
        · (intro _w hSw; (try dsimp only at hSw); go_simp; try with_reducible rfl)
        · assumption
        try simp only [Act.put, List.setIfInBounds_toArray, List.set_cons_zero, List.set_cons_succ]
        refine wpAnyH_ready (rs := [6]) ?_ ?_ ?_
        · kernel_rfl
        · simp
        refine (AllReadyH.cons rfl (fun K hK => ?_) AllReadyH.nil)
        go_simp
        first | (go_at_call 60; (with_reducible refine (HBX.out _).mono ?_); rintro e w3 ⟨rfl, hw3⟩; have HGA := Lib.hid (hHeld.1.trans hw3); clear hw3) | (go_at_call 60; (with_reducible refine (HBY.out _).mono ?_); rintro e w4 ⟨rfl, hw4⟩; have HGB := Lib.hid (hHeld.1.trans hw4); clear hw4)
        refine hK.out _ _ ?_ (fun hHeld => ?_)
        · ((try dsimp only); (first | exact hHeld | exact KS.out _ (Gr.refl wr).drew | exact KS.out _ HGA.out | exact KS.out _ HGB.out))
        clear hK K
        try simp only [Act.put, List.setIfInBounds_toArray, List.set_cons_zero, List.set_cons_succ]
        refine wpAnyH_ready (rs := [12]) ?_ ?_ ?_
        · kernel_rfl
        · simp
        refine (AllReadyH.cons rfl (fun K hK => ?_) AllReadyH.nil)
        go_simp
        first | (go_at_call 60; (with_reducible refine (HBX.out _).mono ?_); rintro e w3 ⟨rfl, hw3⟩; have HGA := Lib.hid (hHeld.1.trans hw3); clear hw3) | (go_at_call 60; (with_reducible refine (HBY.out _).mono ?_); rintro e w4 ⟨rfl, hw4⟩; have HGB := Lib.hid (hHeld.1.trans hw4); clear hw4)
        refine hK.out _ _ ?_ (fun hHeld => ?_)
        · ((try dsimp only); (first | exact hHeld | exact KS.out _ (Gr.refl wr).drew | exact KS.out _ HGA.out | exact KS.out _ HGB.out))
        clear hK K
        try simp only [Act.put, List.setIfInBounds_toArray, List.set_cons_zero, List.set_cons_succ]
        refine take_in (i := 13) (v := ?_) (d := (some 30)) rfl rfl ?_ ?_ ?_ ?_ ?_ ?_ ?_ ?_
        rotate_left
        · kernel_rfl
        · kernel_rfl
        · kernel_rfl
        · (intro _ _ _ hq; exact hq)
        · rfl
        · (intro _w hSw; (try dsimp only at hSw); go_simp; try with_reducible rfl)
        · assumption
        try simp only [Act.put, List.setIfInBounds_toArray, List.set_cons_zero, List.set_cons_succ]
        refine take_in (i := 14) (v := ?_) (d := (some 31)) rfl rfl ?_ ?_ ?_ ?_ ?_ ?_ ?_ ?_
        rotate_left
        · kernel_rfl
        · kernel_rfl
        · kernel_rfl
        · (intro _ _ _ hq; exact hq)
        · rfl
        · (intro _w hSw; (try dsimp only at hSw); go_simp; try with_reducible rfl)
        · assumption
        try simp only [Act.put, List.setIfInBounds_toArray, List.set_cons_zero, List.set_cons_succ]
        refine take_in (i := 15) (v := ?_) (d := (some 32)) rfl rfl ?_ ?_ ?_ ?_ ?_ ?_ ?_ ?_
        rotate_left
        · kernel_rfl
        · kernel_rfl
        · kernel_rfl
        · (intro _ _ _ hq; exact hq)
        · rfl
        · (intro _w hSw; (try dsimp only at hSw); go_simp; try with_reducible rfl)
        · assumption
        try simp only [Act.put, List.setIfInBounds_toArray, List.set_cons_zero, List.set_cons_succ]
        refine take_in (i := 16) (v := ?_) (d := (some 33)) rfl rfl ?_ ?_ ?_ ?_ ?_ ?_ ?_ ?_
        rotate_left
        · kernel_rfl
        · kernel_rfl
        · kernel_rfl
        · (intro _ _ _ hq; exact hq)
        · rfl
        · (intro _w hSw; (try dsimp only at hSw); go_simp; try with_reducible rfl)
        · assumption
        try simp only [Act.put, List.setIfInBounds_toArray, List.set_cons_zero, List.set_cons_succ]
        refine take_in (i := 17) (v := ?_) (d := (some 34)) rfl rfl ?_ ?_ ?_ ?_ ?_ ?_ ?_ ?_
        rotate_left
        · kernel_rfl
        · kernel_rfl
        · kernel_rfl
        · (intro _ _ _ hq; exact hq)
        · rfl
        · (intro _w hSw; (try dsimp only at hSw); go_simp; try with_reducible rfl)
        · assumption
        try simp only [Act.put, List.setIfInBounds_toArray, List.set_cons_zero, List.set_cons_succ]
        refine take_in (i := 18) (v := ?_) (d := (some 35)) rfl rfl ?_ ?_ ?_ ?_ ?_ ?_ ?_ ?_
        rotate_left
        · kernel_rfl
        · kernel_rfl
        · kernel_rfl
        · (intro _ _ _ hq; exact hq)
        · rfl
        · (intro _w hSw; (try dsimp only at hSw); go_simp; try with_reducible rfl)
        · assumption
        try simp only [Act.put, List.setIfInBounds_toArray, List.set_cons_zero, List.set_cons_succ]
        refine take_in (i := 19) (v := ?_) (d := (some 36)) rfl rfl ?_ ?_ ?_ ?_ ?_ ?_ ?_ ?_
        rotate_left
        · kernel_rfl
        · kernel_rfl
        · kernel_rfl
        · (intro _ _ _ hq; exact hq)
        · rfl
        · (intro _w hSw; (try dsimp only at hSw); go_simp; try with_reducible rfl)
        · assumption
        try simp only [Act.put, List.setIfInBounds_toArray, List.set_cons_zero, List.set_cons_succ]
        refine take_in (i := 20) (v := ?_) (d := (some 37)) rfl rfl ?_ ?_ ?_ ?_ ?_ ?_ ?_ ?_
        rotate_left
        · kernel_rfl
        · kernel_rfl
        · kernel_rfl
        · (intro _ _ _ hq; exact hq)
        · rfl
        · (intro _w hSw; (try dsimp only at hSw); go_simp; try with_reducible rfl)
        · assumption
        try simp only [Act.put, List.setIfInBounds_toArray, List.set_cons_zero, List.set_cons_succ]
        refine take_in (i := 21) (v := ?_) (d := (some 38)) rfl rfl ?_ ?_ ?_ ?_ ?_ ?_ ?_ ?_
        rotate_left
        · kernel_rfl
        · kernel_rfl
        · kernel_rfl
        · (intro _ _ _ hq; exact hq)
        · rfl
        · (intro _w hSw; (try dsimp only at hSw); go_simp; try with_reducible rfl)
        · assumption
        try simp only [Act.put, List.setIfInBounds_toArray, List.set_cons_zero, List.set_cons_succ]
        refine take_in (i := 22) (v := ?_) (d := (some 39)) rfl rfl ?_ ?_ ?_ ?_ ?_ ?_ ?_ ?_
        rotate_left
        · kernel_rfl
        · kernel_rfl
        · kernel_rfl
        · (intro _ _ _ hq; exact hq)
        · rfl
        · (intro _w hSw; (try dsimp only at hSw); go_simp; try with_reducible rfl)
        · assumption
        try simp only [Act.put, List.setIfInBounds_toArray, List.set_cons_zero, List.set_cons_succ]
        refine take_in (i := 23) (v := ?_) (d := (some 40)) rfl rfl ?_ ?_ ?_ ?_ ?_ ?_ ?_ ?_
        rotate_left
        · kernel_rfl
        · kernel_rfl
        · kernel_rfl
        · (intro _ _ _ hq; exact hq)
        · rfl
        · (intro _w hSw; (try dsimp only at hSw); go_simp; try with_reducible rfl)
        · assumption
        try simp only [Act.put, List.setIfInBounds_toArray, List.set_cons_zero, List.set_cons_succ]
        refine take_in (i := 24) (v := ?_) (d := (some 41)) rfl rfl ?_ ?_ ?_ ?_ ?_ ?_ ?_ ?_
        rotate_left
        · kernel_rfl
        · kernel_rfl
        · kernel_rfl
        · (intro _ _ _ hq; exact hq)
        · rfl
        · (intro _w hSw; (try dsimp only at hSw); go_simp; try with_reducible rfl)
        · assumption
        try simp only [Act.put, List.setIfInBounds_toArray, List.set_cons_zero, List.set_cons_succ]
        refine take_in (i := 25) (v := ?_) (d := (some 42)) rfl rfl ?_ ?_ ?_ ?_ ?_ ?_ ?_ ?_
        rotate_left
        · kernel_rfl
        · kernel_rfl
        · kernel_rfl
        · (intro _ _ _ hq; exact hq)
        · rfl
        · (intro _w hSw; (try dsimp only at hSw); go_simp; try with_reducible rfl)
        · assumption
        try simp only [Act.put, List.setIfInBounds_toArray, List.set_cons_zero, List.set_cons_succ]
        refine take_in (i := 26) (v := ?_) (d := (some 43)) rfl rfl ?_ ?_ ?_ ?_ ?_ ?_ ?_ ?_
        rotate_left
        · kernel_rfl
        · kernel_rfl
        · kernel_rfl
        · (intro _ _ _ hq; exact hq)
        · rfl
        · (intro _w hSw; (try dsimp only at hSw); go_simp; try with_reducible rfl)
        · assumption
        try simp only [Act.put, List.setIfInBounds_toArray, List.set_cons_zero, List.set_cons_succ]
        refine take_in (i := 27) (v := ?_) (d := (some 44)) rfl rfl ?_ ?_ ?_ ?_ ?_ ?_ ?_ ?_
        rotate_left
        · kernel_rfl
        · kernel_rfl
        · kernel_rfl
        · (intro _ _ _ hq; exact hq)
        · rfl
        · (intro _w hSw; (try dsimp only at hSw); go_simp; try with_reducible rfl)
        · assumption
        try simp only [Act.put, List.setIfInBounds_toArray, List.set_cons_zero, List.set_cons_succ]
        refine wpAnyH_done ?_ ?_ _
        · kernel_rfl
        rotate_left
        all_goals
          have hgf := hHeld.1
          clear hHeld
          by_cases ht : yf < xt
          · go_wp2_with fail
            try rw [Exit.noGoto_ret]
            go_ret
            exact ⟨false, rfl, no_of (fun h => by have := HNB.out.1 (HIF.out.2 h j (by rw [HL.out]; exact hlt)) HE.out; omega), hg.trans (hgr.trans hgf)⟩
          · have HA2 : Hid (∀ i, i < j + 1 → nbO (fun x => x.1) (slA sl i) (slA sl (i + 1))) := Lib.hid (fun i hi => by
              by_cases e : i = j
              · rw [e]; exact HNB.out.2 (fun _ => by omega)
              · exact hA.out i (by omega))
            go_wp2_with fail
            go_roundw
            case rel => exact ⟨j + 1, Or.inl (by omega), by go_num, HA2, hgr.trans hgf⟩
            case measure => simp [intOf]; omega
      · have hd : (xa == ya) = false := by simpa using he
        have HA2 : Hid (∀ i, i < j + 1 → nbO (fun x => x.1) (slA sl i) (slA sl (i + 1))) := Lib.hid (fun i hi => by
          by_cases e : i = j
          · rw [e]; exact HNB.out.2 (fun h => absurd h he)
          · exact hA.out i (by omega))
        go_upto_region 5 with fail
        refine wp_region_held_drew (S := (fun W' => Gr wr W' ∧ W'.cell? ⟨b, off + j * 4, none⟩ = some (.int .i64 xa) ∧ W'.cell? ⟨b, off + j * 4 + 1, none⟩ = some (.int .i64 xb) ∧ W'.cell? ⟨b, off + j * 4 + 2, none⟩ = some (.int .i64 xf) ∧ W'.cell? ⟨b, off + j * 4 + 3, none⟩ = some (.int .i64 xt) ∧ W'.cell? ⟨b, off + (j + 1) * 4, none⟩ = some (.int .i64 ya) ∧ W'.cell? ⟨b, off + (j + 1) * 4 + 1, none⟩ = some (.int .i64 yb) ∧ W'.cell? ⟨b, off + (j + 1) * 4 + 2, none⟩ = some (.int .i64 yf) ∧ W'.cell? ⟨b, off + (j + 1) * 4 + 3, none⟩ = some (.int .i64 yt))) ?_ ?_ (fun hHeld => ?_)
        · kernel_rfl
        · ((try dsimp only); (first | exact hHeld | exact KS.out _ (Gr.refl wr).drew | exact KS.out _ HGA.out | exact KS.out _ HGB.out))
        refine take_in (i := 0) (v := ?_) (d := (some 17)) rfl rfl ?_ ?_ ?_ ?_ ?_ ?_ ?_ ?_
        rotate_left
        · kernel_rfl
        · kernel_rfl
        · kernel_rfl
        · (intro _ _ _ hq; exact hq)
        · rfl
        · (intro _w hSw; (try dsimp only at hSw); go_simp; try with_reducible rfl)
        · assumption
        try simp only [Act.put, List.setIfInBounds_toArray, List.set_cons_zero, List.set_cons_succ]
        refine take_in (i := 1) (v := ?_) (d := (some 18)) rfl rfl ?_ ?_ ?_ ?_ ?_ ?_ ?_ ?_
        rotate_left
        · kernel_rfl
        · kernel_rfl
        · kernel_rfl
        · (intro _ _ _ hq; exact hq)
        · rfl
        · (intro _w hSw; (try dsimp only at hSw); go_simp; try with_reducible rfl)
        · assumption
        try simp only [Act.put, List.setIfInBounds_toArray, List.set_cons_zero, List.set_cons_succ]
        refine take_in (i := 2) (v := ?_) (d := (some 19)) rfl rfl ?_ ?_ ?_ ?_ ?_ ?_ ?_ ?_
        rotate_left
        · kernel_rfl
        · kernel_rfl
        · kernel_rfl
        · (intro _ _ _ hq; exact hq)
        · rfl
        · (intro _w hSw; (try dsimp only at hSw); go_simp; try with_reducible rfl)
        · assumption
        try simp only [Act.put, List.setIfInBounds_toArray, List.set_cons_zero, List.set_cons_succ]
        refine take_in (i := 3) (v := ?_) (d := (some 20)) rfl rfl ?_ ?_ ?_ ?_ ?_ ?_ ?_ ?_
        rotate_left
        · kernel_rfl
        · kernel_rfl
        · kernel_rfl
        · (intro _ _ _ hq; exact hq)
        · rfl
        · (intro _w hSw; (try dsimp only at hSw); go_simp; try with_reducible rfl)
        · assumption
        try simp only [Act.put, List.setIfInBounds_toArray, List.set_cons_zero, List.set_cons_succ]
        refine take_in (i := 4) (v := ?_) (d := (some 21)) rfl rfl ?_ ?_ ?_ ?_ ?_ ?_ ?_ ?_
        rotate_left
        · kernel_rfl
        · kernel_rfl
        · kernel_rfl
        · (intro _ _ _ hq; exact hq)
        · rfl
        · (intro _w hSw; (try dsimp only at hSw); go_simp; try with_reducible rfl)
        · assumption
        try simp only [Act.put, List.setIfInBounds_toArray, List.set_cons_zero, List.set_cons_succ]
        refine take_in (i := 5) (v := ?_) (d := (some 22)) rfl rfl ?_ ?_ ?_ ?_ ?_ ?_ ?_ ?_
        rotate_left
        · kernel_rfl
        · kernel_rfl
        · kernel_rfl
        · (intro _ _ _ hq; exact hq)
        · rfl
        · (intro _w hSw; (try dsimp only at hSw); go_simp; try with_reducible rfl)
        · assumption
        try simp only [Act.put, List.setIfInBounds_toArray, List.set_cons_zero, List.set_cons_succ]
        refine take_in (i := 7) (v := ?_) (d := (some 24)) rfl rfl ?_ ?_ ?_ ?_ ?_ ?_ ?_ ?_
        rotate_left
        · kernel_rfl
        · kernel_rfl
        · kernel_rfl
        · (intro _ _ _ hq; exact hq)
        · rfl
        · (intro _w hSw; (try dsimp only at hSw); go_simp; try with_reducible rfl)
        · assumption
        try simp only [Act.put, List.setIfInBounds_toArray, List.set_cons_zero, List.set_cons_succ]
        refine take_in (i := 8) (v := ?_) (d := (some 25)) rfl rfl ?_ ?_ ?_ ?_ ?_ ?_ ?_ ?_
        rotate_left
        · kernel_rfl
        · kernel_rfl
        · kernel_rfl
        · (intro _ _ _ hq; exact hq)
        · rfl
        · (intro _w hSw; (try dsimp only at hSw); go_simp; try with_reducible rfl)
        · assumption
        try simp only [Act.put, List.setIfInBounds_toArray, List.set_cons_zero, List.set_cons_succ]
        refine take_in (i := 9) (v := ?_) (d := (some 26)) rfl rfl ?_ ?_ ?_ ?_ ?_ ?_ ?_ ?_
        rotate_left
        · kernel_rfl
        · kernel_rfl
        · kernel_rfl
        · (intro _ _ _ hq; exact hq)
        · rfl
        · (intro _w hSw; (try dsimp only at hSw); go_simp; try with_reducible rfl)
        · assumption
        try simp only [Act.put, List.setIfInBounds_toArray, List.set_cons_zero, List.set_cons_succ]
        refine take_in (i := 10) (v := ?_) (d := (some 27)) rfl rfl ?_ ?_ ?_ ?_ ?_ ?_ ?_ ?_
        rotate_left
        · kernel_rfl
        · kernel_rfl
        · kernel_rfl
        · (intro _ _ _ hq; exact hq)
        · rfl
        · (intro _w hSw; (try dsimp only at hSw); go_simp; try with_reducible rfl)
        · assumption
        try simp only [Act.put, List.setIfInBounds_toArray, List.set_cons_zero, List.set_cons_succ]
        refine take_in (i := 11) (v := ?_) (d := (some 28)) rfl rfl ?_ ?_ ?_ ?_ ?_ ?_ ?_ ?_
        rotate_left
        · kernel_rfl
        · kernel_rfl
        · kernel_rfl
        · (intro _ _ _ hq; exact hq)
        · rfl
        · (intro _w hSw; (try dsimp only at hSw); go_simp; try with_reducible rfl)
        · assumption
        try simp only [Act.put, List.setIfInBounds_toArray, List.set_cons_zero, List.set_cons_succ]
        refine wpAnyH_ready (rs := [6]) ?_ ?_ ?_
        · kernel_rfl
        · simp
        refine (AllReadyH.cons rfl (fun K hK => ?_) AllReadyH.nil)
        go_simp
        first | (go_at_call 60; (with_reducible refine (HBX.out _).mono ?_); rintro e w3 ⟨rfl, hw3⟩; have HGA := Lib.hid (hHeld.1.trans hw3); clear hw3) | (go_at_call 60; (with_reducible refine (HBY.out _).mono ?_); rintro e w4 ⟨rfl, hw4⟩; have HGB := Lib.hid (hHeld.1.trans hw4); clear hw4)
        refine hK.out _ _ ?_ (fun hHeld => ?_)
        · ((try dsimp only); (first | exact hHeld | exact KS.out _ (Gr.refl wr).drew | exact KS.out _ HGA.out | exact KS.out _ HGB.out))
        clear hK K
        try simp only [Act.put, List.setIfInBounds_toArray, List.set_cons_zero, List.set_cons_succ]
        refine wpAnyH_ready (rs := [12]) ?_ ?_ ?_
        · kernel_rfl
        · simp
        refine (AllReadyH.cons rfl (fun K hK => ?_) AllReadyH.nil)
        go_simp
        first | (go_at_call 60; (with_reducible refine (HBX.out _).mono ?_); rintro e w3 ⟨rfl, hw3⟩; have HGA := Lib.hid (hHeld.1.trans hw3); clear hw3) | (go_at_call 60; (with_reducible refine (HBY.out _).mono ?_); rintro e w4 ⟨rfl, hw4⟩; have HGB := Lib.hid (hHeld.1.trans hw4); clear hw4)
        refine hK.out _ _ ?_ (fun hHeld => ?_)
        · ((try dsimp only); (first | exact hHeld | exact KS.out _ (Gr.refl wr).drew | exact KS.out _ HGA.out | exact KS.out _ HGB.out))
        clear hK K
        try simp only [Act.put, List.setIfInBounds_toArray, List.set_cons_zero, List.set_cons_succ]
        refine take_in (i := 13) (v := ?_) (d := (some 30)) rfl rfl ?_ ?_ ?_ ?_ ?_ ?_ ?_ ?_
        rotate_left
        · kernel_rfl
        · kernel_rfl
        · kernel_rfl
        · (intro _ _ _ hq; exact hq)
        · rfl
        · (intro _w hSw; (try dsimp only at hSw); go_simp; try with_reducible rfl)
        · assumption
        try simp only [Act.put, List.setIfInBounds_toArray, List.set_cons_zero, List.set_cons_succ]
        refine take_in (i := 14) (v := ?_) (d := (some 31)) rfl rfl ?_ ?_ ?_ ?_ ?_ ?_ ?_ ?_
        rotate_left
        · kernel_rfl
        · kernel_rfl
        · kernel_rfl
        · (intro _ _ _ hq; exact hq)
        · rfl
        · (intro _w hSw; (try dsimp only at hSw); go_simp; try with_reducible rfl)
        · assumption
        try simp only [Act.put, List.setIfInBounds_toArray, List.set_cons_zero, List.set_cons_succ]
        refine take_un (i := 15) (d := (some 32)) rfl rfl ?_ ?_ ?_ ?_ ?_ ?_ ?_
        · kernel_rfl
        · kernel_rfl
        · kernel_rfl
        · (intro _ _ _ hq; exact hq)
        · rfl
        · assumption
        try simp only [Act.put, List.setIfInBounds_toArray, List.set_cons_zero, List.set_cons_succ]
        refine take_un (i := 16) (d := (some 33)) rfl rfl ?_ ?_ ?_ ?_ ?_ ?_ ?_
        · kernel_rfl
        · kernel_rfl
        · kernel_rfl
        · (intro _ _ _ hq; exact hq)
        · rfl
        · assumption
        try simp only [Act.put, List.setIfInBounds_toArray, List.set_cons_zero, List.set_cons_succ]
        refine take_un (i := 17) (d := (some 34)) rfl rfl ?_ ?_ ?_ ?_ ?_ ?_ ?_
        · kernel_rfl
        · kernel_rfl
        · kernel_rfl
        · (intro _ _ _ hq; exact hq)
        · rfl
        · assumption
        try simp only [Act.put, List.setIfInBounds_toArray, List.set_cons_zero, List.set_cons_succ]
        refine take_un (i := 18) (d := (some 35)) rfl rfl ?_ ?_ ?_ ?_ ?_ ?_ ?_
        · kernel_rfl
        · kernel_rfl
        · kernel_rfl
        · (intro _ _ _ hq; exact hq)
        · rfl
        · assumption
        try simp only [Act.put, List.setIfInBounds_toArray, List.set_cons_zero, List.set_cons_succ]
        refine take_un (i := 19) (d := (some 36)) rfl rfl ?_ ?_ ?_ ?_ ?_ ?_ ?_
        · kernel_rfl
        · kernel_rfl
        · kernel_rfl
        · (intro _ _ _ hq; exact hq)
        · rfl
        · assumption
        try simp only [Act.put, List.setIfInBounds_toArray, List.set_cons_zero, List.set_cons_succ]
        refine take_un (i := 20) (d := (some 37)) rfl rfl ?_ ?_ ?_ ?_ ?_ ?_ ?_
        · kernel_rfl
        · kernel_rfl
        · kernel_rfl
        · (intro _ _ _ hq; exact hq)
        · rfl
        · assumption
        try simp only [Act.put, List.setIfInBounds_toArray, List.set_cons_zero, List.set_cons_succ]
        refine take_un (i := 21) (d := (some 38)) rfl rfl ?_ ?_ ?_ ?_ ?_ ?_ ?_
        · kernel_rfl
        · kernel_rfl
        · kernel_rfl
        · (intro _ _ _ hq; exact hq)
        · rfl
        · assumption
        try simp only [Act.put, List.setIfInBounds_toArray, List.set_cons_zero, List.set_cons_succ]
        refine take_un (i := 22) (d := (some 39)) rfl rfl ?_ ?_ ?_ ?_ ?_ ?_ ?_
        · kernel_rfl
        · kernel_rfl
        · kernel_rfl
        · (intro _ _ _ hq; exact hq)
        · rfl
        · assumption
        try simp only [Act.put, List.setIfInBounds_toArray, List.set_cons_zero, List.set_cons_succ]
        refine take_un (i := 23) (d := (some 40)) rfl rfl ?_ ?_ ?_ ?_ ?_ ?_ ?_
        · kernel_rfl
        · kernel_rfl
        · kernel_rfl
        · (intro _ _ _ hq; exact hq)
        · rfl
        · assumption
        try simp only [Act.put, List.setIfInBounds_toArray, List.set_cons_zero, List.set_cons_succ]
        refine take_un (i := 24) (d := (some 41)) rfl rfl ?_ ?_ ?_ ?_ ?_ ?_ ?_
        · kernel_rfl
        · kernel_rfl
        · kernel_rfl
        · (intro _ _ _ hq; exact hq)
        · rfl
        · assumption
        try simp only [Act.put, List.setIfInBounds_toArray, List.set_cons_zero, List.set_cons_succ]
        refine take_un (i := 25) (d := (some 42)) rfl rfl ?_ ?_ ?_ ?_ ?_ ?_ ?_
        · kernel_rfl
        · kernel_rfl
        · kernel_rfl
        · (intro _ _ _ hq; exact hq)
        · rfl
        · assumption
        try simp only [Act.put, List.setIfInBounds_toArray, List.set_cons_zero, List.set_cons_succ]
        refine take_un (i := 26) (d := (some 43)) rfl rfl ?_ ?_ ?_ ?_ ?_ ?_ ?_
        · kernel_rfl
        · kernel_rfl
        · kernel_rfl
        · (intro _ _ _ hq; exact hq)
        · rfl
        · assumption
        try simp only [Act.put, List.setIfInBounds_toArray, List.set_cons_zero, List.set_cons_succ]
        refine take_in (i := 27) (v := ?_) (d := (some 44)) rfl rfl ?_ ?_ ?_ ?_ ?_ ?_ ?_ ?_
        rotate_left
        · kernel_rfl
        · kernel_rfl
        · kernel_rfl
        · (intro _ _ _ hq; exact hq)
        · rfl
        · (intro _w hSw; (try dsimp only at hSw); go_simp; try with_reducible rfl)
        · assumption
        try simp only [Act.put, List.setIfInBounds_toArray, List.set_cons_zero, List.set_cons_succ]
        refine wpAnyH_done ?_ ?_ _
        · kernel_rfl
        rotate_left
        all_goals
          have hgf := hHeld.1
          clear hHeld
          go_wp2_with fail
          go_roundw
          case rel => exact ⟨j + 1, Or.inl (by omega), by go_num, HA2, hgr.trans hgf⟩
          case measure => simp [intOf]; omega
    · have hlti : ¬ (j : Int) + 1 < (n : Int) := by omega
      go_wp2_with fail
      try rw [Exit.noGoto_ret]
      go_ret
      exact ⟨true, rfl, yes_of (HIF.out.1 (fun k hk => hA.out k (by rw [HL.out] at hk; omega))), hg.trans hgr⟩

end Go.Proofs.Ytfmojiaaoebodaa
