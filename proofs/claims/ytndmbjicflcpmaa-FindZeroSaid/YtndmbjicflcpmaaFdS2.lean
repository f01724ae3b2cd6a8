/- Layer 7: Shortest. -/
import Derived.Test.YtndmbjicflcpmaaFdM2
import Derived.Test.YtndmbjicflcpmaaFdZ
namespace Go.Proofs.Ytndmbjicflcpmaa
open Go.RowKit Go.Shelf
set_option linter.unusedSimpArgs false

set_option maxRecDepth 1000000 in
set_option maxHeartbeats 4000000 in
theorem longest_any (s : ByteArray) (n c d p : Nat) (o : List Nat) (A B : Option Addr) (w : World) (hX : Idx s n o A c B d w) (hp : p < n) :
    Calls Try.prog 50 #[.agg #[.string s, .slice A n c, .slice B n d], .int .i64 (p : Int)] w fun e w' => e = .returned (.int .i64 (lovN (bts s) o n p : Int)) ∧ Gr w w' := by
  have hnb : n ≤ 4096 := hX.le
  obtain ⟨b, off, rfl, x0⟩ := hX.atV hp
  by_cases hl : p + 1 = n
  · have HE : Hid (lovN (bts s) o n p = ovL (bts s) o p) := Lib.hid (by unfold lovN; rw [if_pos hl])
    have e1 : (((p : Int) + 1) == (n : Int)) = true := beq_iff_eq.2 (by omega)
    have hpi : (p : Int) < (n : Int) := by omega
    generalize ovL (bts s) o p = v at x0 HE
    clear hX
    go_enter Try.func50, Try.ntmps50
    go_upto_region 1 with fail
    generalize hW1 : World.alloc w _ = w1
    obtain ⟨X, hXX⟩ : ∃ X, w.heap.size = X := ⟨_, rfl⟩
    rw [hXX]
    have hg1 : Gr w w1 := by rw [← hW1]; exact (Gr.refl w).alloc _
    have HBX : Blk w1 X 25 #[.string s, .slice A n c, .slice (some ⟨b, off, none⟩) n d] := by rw [← hW1]; exact Blk.new w _ _ hXX
    have z1 := HBX.cell 1
    have z2 := HBX.cell 2
    have x1 := hg1.keep x0
    clear hW1 hXX HBX x0
    go_wp2_with fail
    go_ret
    exact ⟨by rw [HE.out]; rfl, by first | exact hg1 | exact hg1.drewN _⟩
  · obtain ⟨b', off', e', y0⟩ := hX.atV (i := p + 1) (by omega)
    cases e'
    obtain ⟨mx, hmx⟩ : ∃ mx, max (ovL (bts s) o p) (ovL (bts s) o (p + 1)) = mx := ⟨_, rfl⟩
    have HE : Hid (lovN (bts s) o n p = mx) := Lib.hid (by unfold lovN; rw [if_neg hl, hmx])
    have e1 : (((p : Int) + 1) == (n : Int)) = false := beq_eq_false_iff_ne.2 (by omega)
    have hpi : (p : Int) < (n : Int) := by omega
    have hpi2 : (p : Int) + 1 < (n : Int) := by omega
    have hn3 : ((p : Int) + 1).toNat = p + 1 := by omega
    have g1 : IntKind.i64.wrap ((p : Int) + 1) = (p : Int) + 1 := IntWalk.i64_in _ (by omega)
    generalize ovL (bts s) o p = v at x0 hmx
    generalize ovL (bts s) o (p + 1) = u at y0 hmx
    have hmf : max (v : Int) (u : Int) = (mx : Int) := by omega
    clear hX hmx
    go_enter Try.func50, Try.ntmps50
    go_upto_region 1 with fail
    generalize hW1 : World.alloc w _ = w1
    obtain ⟨X, hXX⟩ : ∃ X, w.heap.size = X := ⟨_, rfl⟩
    rw [hXX]
    have hg1 : Gr w w1 := by rw [← hW1]; exact (Gr.refl w).alloc _
    have HBX : Blk w1 X 25 #[.string s, .slice A n c, .slice (some ⟨b, off, none⟩) n d] := by rw [← hW1]; exact Blk.new w _ _ hXX
    have z1 := HBX.cell 1
    have z2 := HBX.cell 2
    have x1 := hg1.keep x0
    have y1 := hg1.keep y0
    clear hW1 hXX HBX x0 y0
    go_upto_region 3 with fail
    have hdr : Gr w1 w1.drew := (Gr.refl w1).drew
    go_region
    go_wp2_with fail
    go_ret
    exact ⟨by rw [HE.out]; rfl, by first | exact hg1.drew | exact hg1.drewN _⟩

theorem index_any (A : Option Addr) (n c a : Nat) (T : List UInt8) (o : List Nat) (w : World) (hO : IsOrd T o) (hn : T.length = n) (hnb : n ≤ 4096) (ha : a < n) (hp : Ints w A (nI o)) :
    Calls Try.prog 51 #[.slice A n c, .int .i64 (a : Int)] w fun e w' => e = .returned (.int .i64 (o.idxOf a : Int)) ∧ w' = w := by
  have hol : o.length = n := by rw [hO.len, hn]
  obtain ⟨b, off, rfl, -⟩ := Nats_at hp (i := 0) (by omega)
  obtain ⟨p1, p2⟩ := hO.place (i := a) (by omega)
  refine (Any.slices_Index_int Try.fIndex b off n c (nI o) (a : Int) w (by rw [nI_len]; omega) (by omega) (fun j hj => ?_)).mono ?_
  · rw [nI_len] at hj
    obtain ⟨b', off', e, hc⟩ := Nats_at hp hj
    obtain ⟨rfl, rfl⟩ : b = b' ∧ off = off' := by simpa using e
    rw [hc, nI_at]
  · rintro e w' ⟨rfl, rfl⟩
    refine ⟨?_, rfl⟩
    rw [Lib.idxOf_hit (nI o) n (o.idxOf a) (a : Int) (by omega) (by rw [nI_len]; omega) (by rw [nI_at, p2]) (fun j hj e => by
      rw [nI_at] at e
      have h1 : o.getD j 0 = a := by omega
      have h2 := hO.idx_getD (p := j) (by omega)
      rw [h1] at h2; omega)]
/-- What Shortest answers. -/
def shoV (T : List UInt8) (n : Nat) (x : Int) : Value :=
  if x < 0 ∨ (n : Int) ≤ x then .tuple #[.int .i64 0, .int .i64 2]
  else if (n : Int) < x + (mxF T x.toNat n : Int) + 1 then .tuple #[.int .i64 0, .int .i64 6]
  else .tuple #[.int .i64 ((mxF T x.toNat n : Int) + 1), .int .i64 0]

set_option maxRecDepth 1000000 in
set_option maxHeartbeats 8000000 in
theorem shortest_any (s : ByteArray) (n c d : Nat) (x : Int) (o : List Nat) (A B : Option Addr) (w : World) (hX : Idx s n o A c B d w) :
    Calls Try.prog 32 #[.agg #[.string s, .slice A n c, .slice B n d], .int .i64 x] w fun e w' => e = .returned (shoV (bts s) n x) ∧ Gr w w' := by
  have hnb : n ≤ 4096 := hX.le
  have hsz : s.size = n := hX.size
  have hsi : (s.size : Int) = (n : Int) := by omega
  by_cases hx : x < 0 ∨ (n : Int) ≤ x
  · have HV : Hid (shoV (bts s) n x = .tuple #[.int .i64 0, .int .i64 2]) := Lib.hid (by unfold shoV; rw [if_pos hx])
    clear hX
    go_enter Try.func32, Try.ntmps32
    go_upto_region 1 with fail
    generalize hW1 : World.alloc w _ = w1
    obtain ⟨X, hXX⟩ : ∃ X, w.heap.size = X := ⟨_, rfl⟩
    rw [hXX]
    have hg1 : Gr w w1 := by rw [← hW1]; exact (Gr.refl w).alloc _
    have HBX : Blk w1 X 25 #[.string s, .slice A n c, .slice B n d] := by rw [← hW1]; exact Blk.new w _ _ hXX
    have z0 := HBX.cell 0
    clear hW1 hXX HBX
    rcases hx with hx | hx
    · go_wp2_with fail
      refine bodyPost_ret (v := .tuple #[.int .i64 0, .int .i64 2]) ?_ ?_ ?_
      · simp [results, Try.results32, go_sem]
      · rfl
      · exact ⟨by rw [HV.out], by first | exact hg1 | exact hg1.drewN _⟩
    · have h0 : ¬ x < 0 := by omega
      go_wp2_with fail
      refine bodyPost_ret (v := .tuple #[.int .i64 0, .int .i64 2]) ?_ ?_ ?_
      · simp [results, Try.results32, go_sem]
      · rfl
      · exact ⟨by rw [HV.out], by first | exact hg1 | exact hg1.drewN _⟩
  · obtain ⟨a, rfl⟩ : ∃ a : Nat, x = (a : Int) := ⟨x.toNat, by omega⟩
    have ha : a < n := by omega
    have hpl := hX.ord.place (i := a) (by rw [hX.tlen]; exact ha)
    rw [hX.tlen] at hpl
    have hlr := lov_ref hX.ord (a := a) (by rw [hX.tlen]; exact ha)
    rw [hX.tlen] at hlr
    have hml := (mxF_max (bts s) a (bts s).length).le
    rw [hX.tlen] at hml
    have HIC := Lib.hid (fun W (hW : Gr w W) => index_any A n c a (bts s) o W hX.ord hX.tlen hnb ha (hX.ro.keep hW))
    have HLC := Lib.hid (fun W (hW : Gr w W) => longest_any s n c d (o.idxOf a) o A B W (hX.keep hW) hpl.1)
    rw [hlr] at HLC
    have HV : Hid (shoV (bts s) n (a : Int) = if (n : Int) < (a : Int) + (mxF (bts s) a n : Int) + 1 then .tuple #[.int .i64 0, .int .i64 6] else .tuple #[.int .i64 ((mxF (bts s) a n : Int) + 1), .int .i64 0]) := Lib.hid (by unfold shoV; rw [if_neg hx, Int.toNat_natCast])
    generalize mxF (bts s) a n = m at *
    generalize o.idxOf a = p at *
    clear hX hpl hlr hx
    go_enter Try.func32, Try.ntmps32
    go_upto_region 1 with fail
    generalize hW1 : World.alloc w _ = w1
    obtain ⟨X, hXX⟩ : ∃ X, w.heap.size = X := ⟨_, rfl⟩
    rw [hXX]
    have hg1 : Gr w w1 := by rw [← hW1]; exact (Gr.refl w).alloc _
    have HBX : Hid (Blk w1 X 25 #[.string s, .slice A n c, .slice B n d]) := Lib.hid (by rw [← hW1]; exact Blk.new w _ _ hXX)
    have z0 : w1.cell? ⟨X, 0, none⟩ = some (.string s) := HBX.out.cell 0
    have z1 : w1.cell? ⟨X, 1, none⟩ = some (.slice A n c) := HBX.out.cell 1
    have z2 : w1.cell? ⟨X, 2, none⟩ = some (.slice B n d) := HBX.out.cell 2
    have hai : (a : Int) < (n : Int) := by omega
    have hdr : Gr w1 w1.drew := (Gr.refl w1).drew
    have KS : Hid (∀ W', Gr w1 W' → Gr w1 W' ∧ W'.cell? ⟨X, 0, none⟩ = some (.string s) ∧ W'.cell? ⟨X, 1, none⟩ = some (.slice A n c) ∧ W'.cell? ⟨X, 2, none⟩ = some (.slice B n d)) := Lib.hid (fun W' h => ⟨h, h.keep z0, h.keep z1, h.keep z2⟩)
    clear hW1 hXX
    go_upto_region 3 with fail
    refine wp_region_held_drew (S := (fun W' => Gr w1 W' ∧ W'.cell? ⟨X, 0, none⟩ = some (.string s) ∧ W'.cell? ⟨X, 1, none⟩ = some (.slice A n c) ∧ W'.cell? ⟨X, 2, none⟩ = some (.slice B n d))) ?_ ?_ (fun hHeld => ?_)
    · kernel_rfl
    · ((try dsimp only); (first | exact hHeld | exact KS.out _ hdr | exact KS.out _ HGA.out))
    refine take_in (i := 0) (v := ?_) (d := (some 16)) rfl rfl ?_ ?_ ?_ ?_ ?_ ?_ ?_ ?_
    rotate_left
    · kernel_rfl
    · kernel_rfl
    · kernel_rfl
    · (intro _ _ _ hq; exact hq)
    · rfl
    · (intro _w hSw; (try dsimp only at hSw); go_simp; try with_reducible rfl)
    · assumption
    try simp only [Act.put, List.setIfInBounds_toArray, List.set_cons_zero, List.set_cons_succ]
    refine take_in (i := 1) (v := ?_) (d := (some 17)) rfl rfl ?_ ?_ ?_ ?_ ?_ ?_ ?_ ?_
    rotate_left
    · kernel_rfl
    · kernel_rfl
    · kernel_rfl
    · (intro _ _ _ hq; exact hq)
    · rfl
    · (intro _w hSw; (try dsimp only at hSw); go_simp; try with_reducible rfl)
    · assumption
    try simp only [Act.put, List.setIfInBounds_toArray, List.set_cons_zero, List.set_cons_succ]
    refine take_in (i := 2) (v := ?_) (d := (some 18)) rfl rfl ?_ ?_ ?_ ?_ ?_ ?_ ?_ ?_
    rotate_left
    · kernel_rfl
    · kernel_rfl
    · kernel_rfl
    · (intro _ _ _ hq; exact hq)
    · rfl
    · (intro _w hSw; (try dsimp only at hSw); go_simp; try with_reducible rfl)
    · assumption
    try simp only [Act.put, List.setIfInBounds_toArray, List.set_cons_zero, List.set_cons_succ]
    refine take_in (i := 3) (v := ?_) (d := (some 19)) rfl rfl ?_ ?_ ?_ ?_ ?_ ?_ ?_ ?_
    rotate_left
    · kernel_rfl
    · kernel_rfl
    · kernel_rfl
    · (intro _ _ _ hq; exact hq)
    · rfl
    · (intro _w hSw; (try dsimp only at hSw); go_simp; try with_reducible rfl)
    · assumption
    try simp only [Act.put, List.setIfInBounds_toArray, List.set_cons_zero, List.set_cons_succ]
    refine wpAnyH_ready (rs := [4]) ?_ ?_ ?_
    · kernel_rfl
    · simp
    refine (AllReadyH.cons rfl (fun K hK => ?_) AllReadyH.nil)
    go_simp
    first | (go_at_call 51; ((with_reducible refine (HIC.out _ (hg1.trans hHeld.1)).mono ?_)); rintro e w5 ⟨rfl, rfl⟩) | (go_at_call 50; ((with_reducible refine (HLC.out _ (hg1.trans hHeld.1)).mono ?_)); rintro e w5 ⟨rfl, hg5⟩; have HGA := Lib.hid (hHeld.1.trans hg5); clear hg5)
    refine hK.out _ _ ?_ (fun hHeld => ?_)
    · ((try dsimp only); (first | exact hHeld | exact KS.out _ hdr | exact KS.out _ HGA.out))
    clear hK K
    try simp only [Act.put, List.setIfInBounds_toArray, List.set_cons_zero, List.set_cons_succ]
    refine wpAnyH_ready (rs := [5]) ?_ ?_ ?_
    · kernel_rfl
    · simp
    refine (AllReadyH.cons rfl (fun K hK => ?_) AllReadyH.nil)
    go_simp
    first | (go_at_call 51; ((with_reducible refine (HIC.out _ (hg1.trans hHeld.1)).mono ?_)); rintro e w5 ⟨rfl, rfl⟩) | (go_at_call 50; ((with_reducible refine (HLC.out _ (hg1.trans hHeld.1)).mono ?_)); rintro e w5 ⟨rfl, hg5⟩; have HGA := Lib.hid (hHeld.1.trans hg5); clear hg5)
    refine hK.out _ _ ?_ (fun hHeld => ?_)
    · ((try dsimp only); (first | exact hHeld | exact KS.out _ hdr | exact KS.out _ HGA.out))
    clear hK K
    try simp only [Act.put, List.setIfInBounds_toArray, List.set_cons_zero, List.set_cons_succ]
    refine take_in (i := 6) (v := ?_) (d := (some 22)) rfl rfl ?_ ?_ ?_ ?_ ?_ ?_ ?_ ?_
    rotate_left
    · kernel_rfl
    · kernel_rfl
    · kernel_rfl
    · (intro _ _ _ hq; exact hq)
    · rfl
    · (intro _w hSw; (try dsimp only at hSw); go_simp; try with_reducible rfl)
    · assumption
    try simp only [Act.put, List.setIfInBounds_toArray, List.set_cons_zero, List.set_cons_succ]
    refine take_in (i := 7) (v := ?_) (d := (some 6)) rfl rfl ?_ ?_ ?_ ?_ ?_ ?_ ?_ ?_
    rotate_left
    · kernel_rfl
    · kernel_rfl
    · kernel_rfl
    · (intro _ _ _ hq; exact hq)
    · rfl
    · (intro _w hSw; (try dsimp only at hSw); go_simp; try with_reducible rfl)
    · assumption
    try simp only [Act.put, List.setIfInBounds_toArray, List.set_cons_zero, List.set_cons_succ]
    refine wpAnyH_done ?_ ?_ _
    · kernel_rfl
    rotate_left
    all_goals
      have zz := KS.out _ HGA.out
      have y0 := zz.2.1
      have hgr5 := hg1.trans HGA.out
      clear HGA KS hdr hHeld z0 z1 z2 zz HIC HLC
      by_cases hc : (n : Int) < (a : Int) + (m : Int) + 1
      · have hV2 := HV.out
        rw [if_pos hc] at hV2
        have HV2 := Lib.hid hV2
        have hc2 : (n : Int) - (a : Int) < (m : Int) + 1 := by omega
        clear hV2 HV
        go_wp2_with fail
        refine bodyPost_ret (v := .tuple #[.int .i64 0, .int .i64 6]) ?_ ?_ ?_
        · simp [results, Try.results32, go_sem]
        · rfl
        · exact ⟨by rw [HV2.out], by first | exact hgr5 | exact hgr5.drewN _⟩
      · have hV2 := HV.out
        rw [if_neg hc] at hV2
        have HV2 := Lib.hid hV2
        have hc2 : ¬ (n : Int) - (a : Int) < (m : Int) + 1 := by omega
        clear hV2 HV
        go_wp2_with fail
        refine bodyPost_ret (v := .tuple #[.int .i64 ((m : Int) + 1), .int .i64 0]) ?_ ?_ ?_
        · simp [results, Try.results32, go_sem] <;> exact IntWalk.i64_in _ (by omega)
        · rfl
        · exact ⟨by rw [HV2.out], by first | exact hgr5 | exact hgr5.drewN _⟩

end Go.Proofs.Ytndmbjicflcpmaa
