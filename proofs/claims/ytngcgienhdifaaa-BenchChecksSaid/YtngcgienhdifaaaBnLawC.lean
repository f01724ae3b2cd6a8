/- Layer 4: the law BenchChecks as a walk. -/
import Derived.Test.YtngcgienhdifaaaBnAwake
namespace Go.Proofs.Ytngcgienhdifaaa
open Go.RowKit
set_option linter.unusedSimpArgs false

theorem alloc_box {w0 W wz : World} {cs : Array Value} {t : TypeId} (h : Gr w0 W) (e : W.alloc (.cells cs t) = wz) : Hid (Gr w0 wz) ∧ Hid (Blk wz W.heap.size t cs) ∧ Hid (w0.heap.size ≤ W.heap.size) ∧ Hid (Gr W wz) := by
  subst e
  exact ⟨Lib.hid (h.alloc _), Lib.hid (heap_alloc_new W _), Lib.hid h.size, Lib.hid ((Gr.refl W).alloc _)⟩
theorem store_ans {w0 cur : World} {Z : Nat} (hZ : Blk cur Z 28 #[.bool false, .slice none 0 0, .slice none 0 0, .slice none 0 0]) (hL : w0.heap.size ≤ Z) (hg : Gr w0 cur) {A' : Option Addr} {L : List Jb} (hT : Tris cur A' L)
    {C : Option Addr} {m cc : Nat} {s : List Sl} {JA : Option Addr} {m1 c1 : Nat} {J : List Int} {SA : Option Addr} {m2 c2 : Nat} {S : List (Int × Int)} (hR : AnsR cur C m cc s JA m1 J SA m2 S) (p : Bool) :
    ∀ w', ((((cur.setCell ⟨Z, 0, none⟩ (.bool p)).setCell ⟨Z, 1, none⟩ (.slice C m cc)).setCell ⟨Z, 2, none⟩ (.slice JA m1 c1)).setCell ⟨Z, 3, none⟩ (.slice SA m2 c2)) = w' →
      Hid (Tris w' A' L) ∧ Hid (Blk w' Z 28 #[.bool p, .slice C m cc, .slice JA m1 c1, .slice SA m2 c2]) ∧ Hid (AnsR w' C m cc s JA m1 J SA m2 S) ∧ Gr w0 w' := by
  have hG := ((((Gb.of (Gr.refl cur) Z).put 0 (.bool p)).put 1 (.slice C m cc)).put 2 (.slice JA m1 c1)).put 3 (.slice SA m2 c2)
  have hP := (((hZ.put 0 (.bool p)).put 1 (.slice C m cc)).put 2 (.slice JA m1 c1)).put 3 (.slice SA m2 c2)
  rintro w' rfl
  exact ⟨Lib.hid (hT.ans (fun x v h => by simp [enc3] at h; rcases h with rfl | rfl | rfl <;> exact ⟨_, rfl⟩) hZ ans_noint hG), Lib.hid (by simpa using hP),
    Lib.hid ⟨hR.hm, hR.hmb, hR.hC, hR.hsp, hR.hs.ans enc4_int hZ ans_noint hG, hR.hm1, hR.hb1, hR.hJ.ans enc1_int hZ ans_noint hG, hR.hm2, hR.hb2, hR.hS.ans enc2_int hZ ans_noint hG⟩, hG.gr hg hL⟩

set_option maxRecDepth 100000 in
set_option maxHeartbeats 16000000 in
theorem lawChecks_any (B : Int) (A : Option Addr) (n c : Nat) (l : List Jb) (p : Bool) (C : Option Addr) (m cc : Nat) (s : List Sl) (JA : Option Addr) (m1 c1 : Nat) (J : List Int) (SA : Option Addr) (m2 c2 : Nat) (S : List (Int × Int)) (w : World)
    (hn : l.length = n) (hl : n ≤ 9223372036854775807) (hc : n ≤ c) (h0 : A = none → c = 0) (hp : Tris w A l)
    (hm : s.length = m) (hml : m ≤ 9223372036854775807) (hmc : m ≤ cc) (hC : C = none → cc = 0) (hs : Rd 4 enc4 w C s)
    (hm1 : J.length = m1) (hl1 : m1 ≤ 9223372036854775807) (hc1 : m1 ≤ c1) (hC1 : JA = none → c1 = 0) (hJ : Ints w JA J)
    (hm2 : S.length = m2) (hl2 : m2 ≤ 9223372036854775807) (hc2 : m2 ≤ c2) (hC2 : SA = none → c2 = 0) (hS : Pts w SA S) :
    Calls Try.prog 4 #[.int .i64 B, .slice A n c, .agg #[.bool p, .slice C m cc, .slice JA m1 c1, .slice SA m2 c2]] w fun e w' => e = .returned (.bool true) ∧ Gr w w' := by
  obtain ⟨k, hk⟩ : ∃ k, (cutJ 32 l).length = k := ⟨_, rfl⟩
  have hk33 : k ≤ 33 := by rw [← hk]; unfold cutJ; split <;> rw [List.length_take] <;> omega
  have HJB := Lib.hid (fun W (hW : Gr w W) => jobs_any 32 (by omega) A n c l W k hk hn hl hc h0 (hp.keep hW))
  obtain ⟨k0, hk0⟩ : ∃ k, (s.take 4097).length = k := ⟨_, rfl⟩
  obtain ⟨k1, hk1⟩ : ∃ k, (J.take 33).length = k := ⟨_, rfl⟩
  obtain ⟨k2, hk2⟩ : ∃ k, (S.take 4097).length = k := ⟨_, rfl⟩
  have HAN := Lib.hid (fun W (hW : Gr w W) => answer4_any p C m cc s JA m1 c1 J SA m2 c2 S W hm hml hmc hC (hs.keep hW) hm1 hl1 hc1 hC1 (hJ.keep hW) hm2 hl2 hc2 hC2 (hS.keep hW) k0 hk0 k1 hk1 k2 hk2)
  generalize cutJ 32 l = L at hk HJB
  generalize s.take 4097 = s' at HAN hk0
  generalize J.take 33 = J' at HAN hk1
  generalize S.take 4097 = S' at HAN hk2
  have HCH := Lib.hid (fun (A' : Option Addr) (c' : Nat) q C m cc s JA m1 c1 J SA m2 c2 S W (h : Tris W A' L) (hR : AnsR W C m cc s JA m1 J SA m2 S) => check_any B A' k c' L q C m cc s JA m1 c1 J SA m2 c2 S W hk (by omega) h hR)
  have HTK := Lib.hid (fun (A' : Option Addr) (c' : Nat) W (h : Tris W A' L) r hr => rTask_any4 B A' k c' L W hk (by omega) h r hr)
  have HRT := Lib.hid (fun (hT : okT B L = true) (A' : Option Addr) (c' : Nat) q C m cc s JA m1 c1 J SA m2 c2 S W (h : Tris W A' L) (hR : AnsR W C m cc s JA m1 J SA m2 S) => by
    obtain ⟨hB, hn32, hV⟩ := okT_v hT
    exact rRight_any B hB A' k c' L q C m cc s JA m1 c1 J SA m2 c2 S W hk (by omega) hV h hR)
  clear hn hl hc h0 hp hk hm hml hmc hC hs hm1 hl1 hc1 hC1 hJ hm2 hl2 hc2 hC2 hS hk0 hk1 hk2
  go_enter Try.func4, Try.ntmps4
  go_upto_region 1 with fail
  generalize hW0 : World.alloc w _ = w0
  have hg0 : Gr w w0 := by rw [← hW0]; exact (Gr.refl w).alloc _
  have hX : Blk w0 w.heap.size 28 #[.bool p, .slice C m cc, .slice JA m1 c1, .slice SA m2 c2] := by rw [← hW0]; exact heap_alloc_new w _
  generalize w.heap.size = X at hX ⊢
  have HX := Lib.hid hX
  clear hW0 hX
  go_cut [7, 8] from 10 to 13 (fun v7 v8 wx => ∃ A' c' Z C' cc' JA' c1' SA' c2', v7 = .slice A' k c' ∧ v8 = .pointer (some ⟨Z, 0, none⟩) ∧ Hid (Tris wx A' L) ∧ Hid (Blk wx Z 28 #[.bool p, .slice C' k0 cc', .slice JA' k1 c1', .slice SA' k2 c2']) ∧ Hid (AnsR wx C' k0 cc' s' JA' k1 J' SA' k2 S') ∧ Gr w wx)
  case first =>
    have KS : Hid (∀ W', Gr w0 W' → Gr w0 W' ∧ W'.cell? ⟨X, 0, none⟩ = some (.bool p) ∧ W'.cell? ⟨X, 1, none⟩ = some (.slice C m cc) ∧ W'.cell? ⟨X, 2, none⟩ = some (.slice JA m1 c1) ∧ W'.cell? ⟨X, 3, none⟩ = some (.slice SA m2 c2)) := Lib.hid (fun W' hg => ⟨hg, (HX.out.keep hg).cell 0, (HX.out.keep hg).cell 1, (HX.out.keep hg).cell 2, (HX.out.keep hg).cell 3⟩)
    refine wp_region_held_drew (S := (fun W' => Gr w0 W' ∧ W'.cell? ⟨X, 0, none⟩ = some (.bool p) ∧ W'.cell? ⟨X, 1, none⟩ = some (.slice C m cc) ∧ W'.cell? ⟨X, 2, none⟩ = some (.slice JA m1 c1) ∧ W'.cell? ⟨X, 3, none⟩ = some (.slice SA m2 c2))) ?_ ?_ (fun hHeld => ?_)
    · kernel_rfl
    · ((try dsimp only); (first | exact hHeld | exact KS.out _ (Gr.refl w0).drew | exact KS.out _ HGC.out | exact KS.out _ ((((HGC.out.setCell HZL.out _).setCell HZL.out _).setCell HZL.out _).setCell HZL.out _)))
    refine take_in (i := 0) (v := ?_) (d := (some 10)) rfl rfl ?_ ?_ ?_ ?_ ?_ ?_ ?_ ?_
    rotate_left
    · kernel_rfl
    · kernel_rfl
    · kernel_rfl
    · (intro _ _ _ hq; exact hq)
    · rfl
    · (intro _w hSw; (try dsimp only at hSw); go_simp; try with_reducible rfl)
    · assumption
    try simp only [Act.put, List.setIfInBounds_toArray, List.set_cons_zero, List.set_cons_succ]
    refine take_in (i := 2) (v := ?_) (d := (some 12)) rfl rfl ?_ ?_ ?_ ?_ ?_ ?_ ?_ ?_
    rotate_left
    · kernel_rfl
    · kernel_rfl
    · kernel_rfl
    · (intro _ _ _ hq; exact hq)
    · rfl
    · (intro _w hSw; (try dsimp only at hSw); go_simp; try with_reducible rfl)
    · assumption
    try simp only [Act.put, List.setIfInBounds_toArray, List.set_cons_zero, List.set_cons_succ]
    refine wpAnyH_ready (rs := [1, 4]) ?_ ?_ ?_
    · kernel_rfl
    · simp
    refine (AllReadyH.cons rfl (fun K hK => ?_) (AllReadyH.cons rfl (fun K hK => ?_) AllReadyH.nil))
    go_simp
    first | (go_at_call 13; (refine (HJB.out _ (hg0.trans hHeld.1)).mono ?_); rintro e w3 ⟨Aj, cj, rfl, hcj⟩; have HGC := Lib.hid (hHeld.1.trans hcj.gr); have HJT := Lib.hid hcj.rd; (try (have HRY := Lib.hid (HRY.out.keep hcj.gr))); (try (have HZB := Lib.hid (HZB.out.keep hcj.gr); have z0 : _ = some (Value.bool false) := HZB.out.cell 0; have z1 : _ = some (Value.slice none 0 0) := HZB.out.cell 1; have z2 : _ = some (Value.slice none 0 0) := HZB.out.cell 2; have z3 : _ = some (Value.slice none 0 0) := HZB.out.cell 3; have f0 := HZB.out.free 0; have f1 := HZB.out.free 1; have f2 := HZB.out.free 2; have f3 := HZB.out.free 3)); clear hcj) | (go_at_call 20; (refine (HAN.out _ (hg0.trans hHeld.1)).mono ?_); rintro e w4 ⟨Cy, ccy, JAy, c1y, SAy, c2y, rfl, hry, -, hgy⟩; have HGC := Lib.hid (hHeld.1.trans hgy); have HRY := Lib.hid hry; (try (have HJT := Lib.hid (HJT.out.keep hgy))); (try (have HZB := Lib.hid (HZB.out.keep hgy); have z0 : _ = some (Value.bool false) := HZB.out.cell 0; have z1 : _ = some (Value.slice none 0 0) := HZB.out.cell 1; have z2 : _ = some (Value.slice none 0 0) := HZB.out.cell 2; have z3 : _ = some (Value.slice none 0 0) := HZB.out.cell 3; have f0 := HZB.out.free 0; have f1 := HZB.out.free 1; have f2 := HZB.out.free 2; have f3 := HZB.out.free 3)); clear hry hgy)
    refine hK.out _ _ ?_ (fun hHeld => ?_)
    · ((try dsimp only); (first | exact hHeld | exact KS.out _ (Gr.refl w0).drew | exact KS.out _ HGC.out | exact KS.out _ ((((HGC.out.setCell HZL.out _).setCell HZL.out _).setCell HZL.out _).setCell HZL.out _)))
    clear hK K
    try simp only [Act.put, List.setIfInBounds_toArray, List.set_cons_zero, List.set_cons_succ]
    refine wpAnyH_ready (rs := [3, 4]) ?_ ?_ ?_
    · kernel_rfl
    · simp
    refine (AllReadyH.cons rfl (fun K hK => ?_) (AllReadyH.cons rfl (fun K hK => ?_) AllReadyH.nil))
    go_simp
    first | (go_at_call 13; (refine (HJB.out _ (hg0.trans hHeld.1)).mono ?_); rintro e w3 ⟨Aj, cj, rfl, hcj⟩; have HGC := Lib.hid (hHeld.1.trans hcj.gr); have HJT := Lib.hid hcj.rd; (try (have HRY := Lib.hid (HRY.out.keep hcj.gr))); (try (have HZB := Lib.hid (HZB.out.keep hcj.gr); have z0 : _ = some (Value.bool false) := HZB.out.cell 0; have z1 : _ = some (Value.slice none 0 0) := HZB.out.cell 1; have z2 : _ = some (Value.slice none 0 0) := HZB.out.cell 2; have z3 : _ = some (Value.slice none 0 0) := HZB.out.cell 3; have f0 := HZB.out.free 0; have f1 := HZB.out.free 1; have f2 := HZB.out.free 2; have f3 := HZB.out.free 3)); clear hcj) | (go_at_call 20; (refine (HAN.out _ (hg0.trans hHeld.1)).mono ?_); rintro e w4 ⟨Cy, ccy, JAy, c1y, SAy, c2y, rfl, hry, -, hgy⟩; have HGC := Lib.hid (hHeld.1.trans hgy); have HRY := Lib.hid hry; (try (have HJT := Lib.hid (HJT.out.keep hgy))); (try (have HZB := Lib.hid (HZB.out.keep hgy); have z0 : _ = some (Value.bool false) := HZB.out.cell 0; have z1 : _ = some (Value.slice none 0 0) := HZB.out.cell 1; have z2 : _ = some (Value.slice none 0 0) := HZB.out.cell 2; have z3 : _ = some (Value.slice none 0 0) := HZB.out.cell 3; have f0 := HZB.out.free 0; have f1 := HZB.out.free 1; have f2 := HZB.out.free 2; have f3 := HZB.out.free 3)); clear hry hgy)
    refine hK.out _ _ ?_ (fun hHeld => ?_)
    · ((try dsimp only); (first | exact hHeld | exact KS.out _ (Gr.refl w0).drew | exact KS.out _ HGC.out | exact KS.out _ ((((HGC.out.setCell HZL.out _).setCell HZL.out _).setCell HZL.out _).setCell HZL.out _)))
    clear hK K
    try simp only [Act.put, List.setIfInBounds_toArray, List.set_cons_zero, List.set_cons_succ]
    refine wpAnyH_ready (rs := [4]) ?_ ?_ ?_
    · kernel_rfl
    · simp
    refine (AllReadyH.cons rfl (fun K hK => ?_) AllReadyH.nil)
    first | (go_simp; generalize hWZ : World.alloc _ _ = wz; (first | (have HBX := alloc_box (Gr.refl w0) hWZ; have HZL := HBX.2.2.1; have HGZ := HBX.2.2.2; have HGC := Lib.hid HBX.1.out.drew; have HZB := Lib.hid (HBX.2.1.out.keep (Gr.refl wz).drew)) | (have HBX := alloc_box hHeld.1 hWZ; have HZL := HBX.2.2.1; have HGZ := HBX.2.2.2; have HGC := HBX.1; have HZB := HBX.2.1)); (try (have HRY := Lib.hid (HRY.out.keep HGZ.out))); (try (have HJT := Lib.hid (HJT.out.keep HGZ.out))); have z0 : _ = some (Value.bool false) := HZB.out.cell 0; have z1 : _ = some (Value.slice none 0 0) := HZB.out.cell 1; have z2 : _ = some (Value.slice none 0 0) := HZB.out.cell 2; have z3 : _ = some (Value.slice none 0 0) := HZB.out.cell 3; have f0 := HZB.out.free 0; have f1 := HZB.out.free 1; have f2 := HZB.out.free 2; have f3 := HZB.out.free 3; clear hWZ HGZ)
    refine hK.out _ _ ?_ (fun hHeld => ?_)
    · ((try dsimp only); (first | exact hHeld | exact KS.out _ (Gr.refl w0).drew | exact KS.out _ HGC.out | exact KS.out _ ((((HGC.out.setCell HZL.out _).setCell HZL.out _).setCell HZL.out _).setCell HZL.out _)))
    clear hK K
    try simp only [Act.put, List.setIfInBounds_toArray, List.set_cons_zero, List.set_cons_succ]
    refine take_in (i := 5) (v := ?_) (d := (some 7)) rfl rfl ?_ ?_ ?_ ?_ ?_ ?_ ?_ ?_
    rotate_left
    · kernel_rfl
    · kernel_rfl
    · kernel_rfl
    · (intro _ _ _ hq; exact hq)
    · rfl
    · (intro _w hSw; (try dsimp only at hSw); go_simp; try with_reducible rfl)
    · assumption
    try simp only [Act.put, List.setIfInBounds_toArray, List.set_cons_zero, List.set_cons_succ]
    refine wpAnyH_ready (rs := [6]) ?_ ?_ ?_
    · kernel_rfl
    · simp
    refine (AllReadyH.cons rfl (fun K hK => ?_) AllReadyH.nil)
    go_simp
    refine hK.out _ _ ?_ (fun hHeld => ?_)
    · ((try dsimp only); (first | exact hHeld | exact KS.out _ (Gr.refl w0).drew | exact KS.out _ HGC.out | exact KS.out _ ((((HGC.out.setCell HZL.out _).setCell HZL.out _).setCell HZL.out _).setCell HZL.out _)))
    clear hK K
    try simp only [Act.put, List.setIfInBounds_toArray, List.set_cons_zero, List.set_cons_succ]
    refine wpAnyH_done ?_ ?_ _
    · kernel_rfl
    rotate_left
    first | (go_simp; generalize hWZ : World.alloc _ _ = wz; (first | (have HBX := alloc_box (Gr.refl w0) hWZ; have HZL := HBX.2.2.1; have HGZ := HBX.2.2.2; have HGC := Lib.hid HBX.1.out.drew; have HZB := Lib.hid (HBX.2.1.out.keep (Gr.refl wz).drew)) | (have HBX := alloc_box hHeld.1 hWZ; have HZL := HBX.2.2.1; have HGZ := HBX.2.2.2; have HGC := HBX.1; have HZB := HBX.2.1)); (try (have HRY := Lib.hid (HRY.out.keep HGZ.out))); (try (have HJT := Lib.hid (HJT.out.keep HGZ.out))); have z0 : _ = some (Value.bool false) := HZB.out.cell 0; have z1 : _ = some (Value.slice none 0 0) := HZB.out.cell 1; have z2 : _ = some (Value.slice none 0 0) := HZB.out.cell 2; have z3 : _ = some (Value.slice none 0 0) := HZB.out.cell 3; have f0 := HZB.out.free 0; have f1 := HZB.out.free 1; have f2 := HZB.out.free 2; have f3 := HZB.out.free 3; clear hWZ HGZ)
    refine hK.out _ _ ?_ (fun hHeld => ?_)
    · ((try dsimp only); (first | exact hHeld | exact KS.out _ (Gr.refl w0).drew | exact KS.out _ HGC.out | exact KS.out _ ((((HGC.out.setCell HZL.out _).setCell HZL.out _).setCell HZL.out _).setCell HZL.out _)))
    clear hK K
    try simp only [Act.put, List.setIfInBounds_toArray, List.set_cons_zero, List.set_cons_succ]
    refine wpAnyH_ready (rs := [3]) ?_ ?_ ?_
    · kernel_rfl
    · simp
    refine (AllReadyH.cons rfl (fun K hK => ?_) AllReadyH.nil)
    go_simp
    first | (go_at_call 13; (refine (HJB.out _ (hg0.trans hHeld.1)).mono ?_); rintro e w3 ⟨Aj, cj, rfl, hcj⟩; have HGC := Lib.hid (hHeld.1.trans hcj.gr); have HJT := Lib.hid hcj.rd; (try (have HRY := Lib.hid (HRY.out.keep hcj.gr))); (try (have HZB := Lib.hid (HZB.out.keep hcj.gr); have z0 : _ = some (Value.bool false) := HZB.out.cell 0; have z1 : _ = some (Value.slice none 0 0) := HZB.out.cell 1; have z2 : _ = some (Value.slice none 0 0) := HZB.out.cell 2; have z3 : _ = some (Value.slice none 0 0) := HZB.out.cell 3; have f0 := HZB.out.free 0; have f1 := HZB.out.free 1; have f2 := HZB.out.free 2; have f3 := HZB.out.free 3)); clear hcj) | (go_at_call 20; (refine (HAN.out _ (hg0.trans hHeld.1)).mono ?_); rintro e w4 ⟨Cy, ccy, JAy, c1y, SAy, c2y, rfl, hry, -, hgy⟩; have HGC := Lib.hid (hHeld.1.trans hgy); have HRY := Lib.hid hry; (try (have HJT := Lib.hid (HJT.out.keep hgy))); (try (have HZB := Lib.hid (HZB.out.keep hgy); have z0 : _ = some (Value.bool false) := HZB.out.cell 0; have z1 : _ = some (Value.slice none 0 0) := HZB.out.cell 1; have z2 : _ = some (Value.slice none 0 0) := HZB.out.cell 2; have z3 : _ = some (Value.slice none 0 0) := HZB.out.cell 3; have f0 := HZB.out.free 0; have f1 := HZB.out.free 1; have f2 := HZB.out.free 2; have f3 := HZB.out.free 3)); clear hry hgy)
    refine hK.out _ _ ?_ (fun hHeld => ?_)
    · ((try dsimp only); (first | exact hHeld | exact KS.out _ (Gr.refl w0).drew | exact KS.out _ HGC.out | exact KS.out _ ((((HGC.out.setCell HZL.out _).setCell HZL.out _).setCell HZL.out _).setCell HZL.out _)))
    clear hK K
    try simp only [Act.put, List.setIfInBounds_toArray, List.set_cons_zero, List.set_cons_succ]
    refine take_in (i := 5) (v := ?_) (d := (some 7)) rfl rfl ?_ ?_ ?_ ?_ ?_ ?_ ?_ ?_
    rotate_left
    · kernel_rfl
    · kernel_rfl
    · kernel_rfl
    · (intro _ _ _ hq; exact hq)
    · rfl
    · (intro _w hSw; (try dsimp only at hSw); go_simp; try with_reducible rfl)
    · assumption
    try simp only [Act.put, List.setIfInBounds_toArray, List.set_cons_zero, List.set_cons_succ]
    refine wpAnyH_ready (rs := [6]) ?_ ?_ ?_
    · kernel_rfl
    · simp
    refine (AllReadyH.cons rfl (fun K hK => ?_) AllReadyH.nil)
    go_simp
    refine hK.out _ _ ?_ (fun hHeld => ?_)
    · ((try dsimp only); (first | exact hHeld | exact KS.out _ (Gr.refl w0).drew | exact KS.out _ HGC.out | exact KS.out _ ((((HGC.out.setCell HZL.out _).setCell HZL.out _).setCell HZL.out _).setCell HZL.out _)))
    clear hK K
    try simp only [Act.put, List.setIfInBounds_toArray, List.set_cons_zero, List.set_cons_succ]
    refine wpAnyH_done ?_ ?_ _
    · kernel_rfl
    rotate_left
    first | (go_simp; generalize hWZ : World.alloc _ _ = wz; (first | (have HBX := alloc_box (Gr.refl w0) hWZ; have HZL := HBX.2.2.1; have HGZ := HBX.2.2.2; have HGC := Lib.hid HBX.1.out.drew; have HZB := Lib.hid (HBX.2.1.out.keep (Gr.refl wz).drew)) | (have HBX := alloc_box hHeld.1 hWZ; have HZL := HBX.2.2.1; have HGZ := HBX.2.2.2; have HGC := HBX.1; have HZB := HBX.2.1)); (try (have HRY := Lib.hid (HRY.out.keep HGZ.out))); (try (have HJT := Lib.hid (HJT.out.keep HGZ.out))); have z0 : _ = some (Value.bool false) := HZB.out.cell 0; have z1 : _ = some (Value.slice none 0 0) := HZB.out.cell 1; have z2 : _ = some (Value.slice none 0 0) := HZB.out.cell 2; have z3 : _ = some (Value.slice none 0 0) := HZB.out.cell 3; have f0 := HZB.out.free 0; have f1 := HZB.out.free 1; have f2 := HZB.out.free 2; have f3 := HZB.out.free 3; clear hWZ HGZ)
    refine hK.out _ _ ?_ (fun hHeld => ?_)
    · ((try dsimp only); (first | exact hHeld | exact KS.out _ (Gr.refl w0).drew | exact KS.out _ HGC.out | exact KS.out _ ((((HGC.out.setCell HZL.out _).setCell HZL.out _).setCell HZL.out _).setCell HZL.out _)))
    clear hK K
    try simp only [Act.put, List.setIfInBounds_toArray, List.set_cons_zero, List.set_cons_succ]
    refine wpAnyH_ready (rs := [1]) ?_ ?_ ?_
    · kernel_rfl
    · simp
    refine (AllReadyH.cons rfl (fun K hK => ?_) AllReadyH.nil)
    go_simp
    first | (go_at_call 13; (refine (HJB.out _ (hg0.trans hHeld.1)).mono ?_); rintro e w3 ⟨Aj, cj, rfl, hcj⟩; have HGC := Lib.hid (hHeld.1.trans hcj.gr); have HJT := Lib.hid hcj.rd; (try (have HRY := Lib.hid (HRY.out.keep hcj.gr))); (try (have HZB := Lib.hid (HZB.out.keep hcj.gr); have z0 : _ = some (Value.bool false) := HZB.out.cell 0; have z1 : _ = some (Value.slice none 0 0) := HZB.out.cell 1; have z2 : _ = some (Value.slice none 0 0) := HZB.out.cell 2; have z3 : _ = some (Value.slice none 0 0) := HZB.out.cell 3; have f0 := HZB.out.free 0; have f1 := HZB.out.free 1; have f2 := HZB.out.free 2; have f3 := HZB.out.free 3)); clear hcj) | (go_at_call 20; (refine (HAN.out _ (hg0.trans hHeld.1)).mono ?_); rintro e w4 ⟨Cy, ccy, JAy, c1y, SAy, c2y, rfl, hry, -, hgy⟩; have HGC := Lib.hid (hHeld.1.trans hgy); have HRY := Lib.hid hry; (try (have HJT := Lib.hid (HJT.out.keep hgy))); (try (have HZB := Lib.hid (HZB.out.keep hgy); have z0 : _ = some (Value.bool false) := HZB.out.cell 0; have z1 : _ = some (Value.slice none 0 0) := HZB.out.cell 1; have z2 : _ = some (Value.slice none 0 0) := HZB.out.cell 2; have z3 : _ = some (Value.slice none 0 0) := HZB.out.cell 3; have f0 := HZB.out.free 0; have f1 := HZB.out.free 1; have f2 := HZB.out.free 2; have f3 := HZB.out.free 3)); clear hry hgy)
    refine hK.out _ _ ?_ (fun hHeld => ?_)
    · ((try dsimp only); (first | exact hHeld | exact KS.out _ (Gr.refl w0).drew | exact KS.out _ HGC.out | exact KS.out _ ((((HGC.out.setCell HZL.out _).setCell HZL.out _).setCell HZL.out _).setCell HZL.out _)))
    clear hK K
    try simp only [Act.put, List.setIfInBounds_toArray, List.set_cons_zero, List.set_cons_succ]
    refine wpAnyH_ready (rs := [3]) ?_ ?_ ?_
    · kernel_rfl
    · simp
    refine (AllReadyH.cons rfl (fun K hK => ?_) AllReadyH.nil)
    go_simp
    first | (go_at_call 13; (refine (HJB.out _ (hg0.trans hHeld.1)).mono ?_); rintro e w3 ⟨Aj, cj, rfl, hcj⟩; have HGC := Lib.hid (hHeld.1.trans hcj.gr); have HJT := Lib.hid hcj.rd; (try (have HRY := Lib.hid (HRY.out.keep hcj.gr))); (try (have HZB := Lib.hid (HZB.out.keep hcj.gr); have z0 : _ = some (Value.bool false) := HZB.out.cell 0; have z1 : _ = some (Value.slice none 0 0) := HZB.out.cell 1; have z2 : _ = some (Value.slice none 0 0) := HZB.out.cell 2; have z3 : _ = some (Value.slice none 0 0) := HZB.out.cell 3; have f0 := HZB.out.free 0; have f1 := HZB.out.free 1; have f2 := HZB.out.free 2; have f3 := HZB.out.free 3)); clear hcj) | (go_at_call 20; (refine (HAN.out _ (hg0.trans hHeld.1)).mono ?_); rintro e w4 ⟨Cy, ccy, JAy, c1y, SAy, c2y, rfl, hry, -, hgy⟩; have HGC := Lib.hid (hHeld.1.trans hgy); have HRY := Lib.hid hry; (try (have HJT := Lib.hid (HJT.out.keep hgy))); (try (have HZB := Lib.hid (HZB.out.keep hgy); have z0 : _ = some (Value.bool false) := HZB.out.cell 0; have z1 : _ = some (Value.slice none 0 0) := HZB.out.cell 1; have z2 : _ = some (Value.slice none 0 0) := HZB.out.cell 2; have z3 : _ = some (Value.slice none 0 0) := HZB.out.cell 3; have f0 := HZB.out.free 0; have f1 := HZB.out.free 1; have f2 := HZB.out.free 2; have f3 := HZB.out.free 3)); clear hry hgy)
    refine hK.out _ _ ?_ (fun hHeld => ?_)
    · ((try dsimp only); (first | exact hHeld | exact KS.out _ (Gr.refl w0).drew | exact KS.out _ HGC.out | exact KS.out _ ((((HGC.out.setCell HZL.out _).setCell HZL.out _).setCell HZL.out _).setCell HZL.out _)))
    clear hK K
    try simp only [Act.put, List.setIfInBounds_toArray, List.set_cons_zero, List.set_cons_succ]
    refine take_in (i := 5) (v := ?_) (d := (some 7)) rfl rfl ?_ ?_ ?_ ?_ ?_ ?_ ?_ ?_
    rotate_left
    · kernel_rfl
    · kernel_rfl
    · kernel_rfl
    · (intro _ _ _ hq; exact hq)
    · rfl
    · (intro _w hSw; (try dsimp only at hSw); go_simp; try with_reducible rfl)
    · assumption
    try simp only [Act.put, List.setIfInBounds_toArray, List.set_cons_zero, List.set_cons_succ]
    refine wpAnyH_ready (rs := [6]) ?_ ?_ ?_
    · kernel_rfl
    · simp
    refine (AllReadyH.cons rfl (fun K hK => ?_) AllReadyH.nil)
    go_simp
    refine hK.out _ _ ?_ (fun hHeld => ?_)
    · ((try dsimp only); (first | exact hHeld | exact KS.out _ (Gr.refl w0).drew | exact KS.out _ HGC.out | exact KS.out _ ((((HGC.out.setCell HZL.out _).setCell HZL.out _).setCell HZL.out _).setCell HZL.out _)))
    clear hK K
    try simp only [Act.put, List.setIfInBounds_toArray, List.set_cons_zero, List.set_cons_succ]
    refine wpAnyH_done ?_ ?_ _
    · kernel_rfl
    rotate_left
    all_goals
      clear z0 z1 z2 z3 f0 f1 f2 f3 hHeld
      have HST := store_ans (cc := ccy) (c1 := c1y) (c2 := c2y) HZB.out HZL.out HGC.out HJT.out HRY.out p
      go_wp2_with fail
      obtain ⟨e1, e2, e3, e4⟩ := HST _ rfl
      go_meet
      exact ⟨_, _, _, _, _, _, _, _, _, rfl, rfl, e1, e2, e3, hg0.trans e4⟩
  case rest =>
    obtain ⟨A', c', Z, C', cc', JA', c1', SA', c2', rfl, rfl, HT1, HZ1, HR1, hgr1⟩ := hcut
    have HC1 := Lib.hid (HCH.out A' c' p C' k0 cc' s' JA' k1 c1' J' SA' k2 c2' S' wc HT1.out HR1.out)
    have z0 := HZ1.out.cell 0
    have z1 := HZ1.out.cell 1
    have z2 := HZ1.out.cell 2
    have z3 := HZ1.out.cell 3
    clear HJB HAN HX hg0 HCH
    go_wp2_with fail
    refine HC1.out.mono ?_
    rintro e w2 ⟨r, rfl, hg2, hr0, hr1, hr2⟩
    have HR0 := Lib.hid hr0
    have HRA := Lib.hid hr1
    have HRB := Lib.hid hr2
    have HT2 := Lib.hid (HT1.out.keep hg2)
    have HZ2 := Lib.hid (HZ1.out.keep hg2)
    have HR2 := Lib.hid (HR1.out.keep hg2)
    have hgr2 := hgr1.trans hg2
    clear hr0 hr1 hr2 hg2 hgr1 HC1 z0 z1 z2 z3 HT1 HZ1 HR1
    cases hok : okT B L with
    | false =>
      have HTK2 := Lib.hid (HTK.out A' c' w2 HT2.out false hok)
      obtain rfl : r = 2 := HR0.out hok
      clear hok HTK HRT
      go_wp2_with fail
      refine HTK2.out.mono ?_
      rintro e w3 ⟨rfl, hg3⟩
      go_wp2_with fail
      refine (bawake_any _).mono ?_
      rintro e w4 ⟨rfl, hg4⟩
      go_wp2_with fail
      go_ret
      exact ⟨rfl, (hgr2.trans hg3).trans hg4⟩
    | true =>
      have HTK2 := Lib.hid (HTK.out A' c' w2 HT2.out true hok)
      have HOK := Lib.hid hok
      have HRT2 := Lib.hid (fun W (hW : Gr w2 W) => HRT.out hok A' c' p C' k0 cc' s' JA' k1 c1' J' SA' k2 c2' S' W (HT2.out.keep hW) (HR2.out.keep hW))
      clear hok HTK HRT
      go_wp2_with fail
      refine HTK2.out.mono ?_
      rintro e w3 ⟨rfl, hg3⟩
      have HRT3 := Lib.hid (HRT2.out w3 hg3)
      have HZ3 := Lib.hid (HZ2.out.keep hg3)
      have z0 := HZ3.out.cell 0
      have z1 := HZ3.out.cell 1
      have z2 := HZ3.out.cell 2
      have z3 := HZ3.out.cell 3
      have hgr3 := hgr2.trans hg3
      clear HTK2 HRT2 hg3 HZ2
      go_wp2_with fail
      refine HRT3.out.mono ?_
      rintro e w4 ⟨q, rfl, hq, hg4⟩
      have HQ := Lib.hid hq
      clear hq HRT3 z0 z1 z2 z3
      cases q with
      | false =>
        obtain rfl : r = 10 := HRB.out HOK.out (fun h => by have := HQ.out.2 h; cases this)
        go_wp2_with fail
        refine (bawake_any _).mono ?_
        rintro e w5 ⟨rfl, hg5⟩
        go_wp2_with fail
        go_ret
        exact ⟨rfl, (hgr3.trans hg4).trans hg5⟩
      | true =>
        obtain rfl : r = 0 := HRA.out HOK.out (HQ.out.1 (by trivial))
        go_wp2_with fail
        refine (bawake_any _).mono ?_
        rintro e w5 ⟨rfl, hg5⟩
        go_wp2_with fail
        go_ret
        exact ⟨rfl, (hgr3.trans hg4).trans hg5⟩

end Go.Proofs.Ytngcgienhdifaaa
