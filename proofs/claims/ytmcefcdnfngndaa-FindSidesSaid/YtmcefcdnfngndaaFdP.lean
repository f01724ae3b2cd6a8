/- Layer 7: suffix, places, Count. -/
import Derived.Test.YtmcefcdnfngndaaFdN
import Derived.Test.YtmcefcdnfngndaaFdQ
import Derived.Test.YtmcefcdnfngndaaShelfF
namespace Go.Proofs.Ytmcefcdnfngndaa
open Go.RowKit Go.Shelf
set_option linter.unusedSimpArgs false

/-- Nothing but new blocks and draws. -/
def Gx (w w' : World) : Prop := ∃ n os, w' = Sort.grow (w.drewN n) os
theorem Gx.refl (w : World) : Gx w w := ⟨0, #[], by simp [Sort.grow, World.drewN]⟩
theorem growx_drewN (w : World) (n m : Nat) (os : Array Obj) : (Sort.grow (w.drewN n) os).drewN m = Sort.grow (w.drewN (n + m)) os := by simp [Sort.grow, World.drewN, Nat.add_assoc]
theorem Gx.trans {a b c : World} (h : Gx a b) (k : Gx b c) : Gx a c := by
  obtain ⟨n, os, rfl⟩ := h
  obtain ⟨m, os', rfl⟩ := k
  exact ⟨n + m, os ++ os', by rw [growx_drewN, Sort.grow_grow]⟩
theorem Gx.alloc {a w : World} (h : Gx a w) (o : Obj) : Gx a (w.alloc o) := h.trans ⟨0, #[o], by rw [Sort.alloc_eq_grow]; rfl⟩
theorem Gx.drewN {a w : World} (h : Gx a w) (n : Nat) : Gx a (w.drewN n) := h.trans ⟨n, #[], by unfold Sort.grow World.drewN; simp⟩
theorem Gx.drew {a w : World} (h : Gx a w) : Gx a w.drew := h.drewN 1
theorem grx_grow (w : World) (os : Array Obj) : Gr w (Sort.grow w os) := ⟨rfl, rfl, rfl, by simp [Sort.grow], fun i hi => by
  show (w.heap ++ os)[i]? = _
  rw [Array.getElem?_append_left hi]⟩
theorem Gx.gr {w w' : World} (h : Gx w w') : Gr w w' := by
  obtain ⟨n, os, rfl⟩ := h
  exact ((Gr.refl w).drewN n).trans (grx_grow _ os)

set_option maxRecDepth 1000000 in
set_option maxHeartbeats 4000000 in
theorem suffix_any (s : ByteArray) (n c d i : Nat) (o : List Nat) (A B : Option Addr) (w : World) (hX : Idx s n o A c B d w) (hi : i < n) :
    Calls Try.prog 51 #[.agg #[.string s, .slice A n c, .slice B n d], .int .i64 (i : Int)] w fun e w' => e = .returned (.string (s.extract (o.getD i 0) s.size)) ∧ Gx w w' := by
  have hol := hX.olt hi
  obtain ⟨b, off, rfl, hc⟩ := hX.atO hi
  have hsz := hX.size
  generalize o.getD i 0 = x at hol hc ⊢
  have HC := Lib.hid hc
  have hsi : (s.size : Int) = (n : Int) := by omega
  clear hX hsz hc
  go_enter Try.func51, Try.ntmps51
  go_upto_region 1 with fail
  generalize hW1 : World.alloc w _ = w1
  have hg1 : Gx w w1 := by rw [← hW1]; exact (Gx.refl w).alloc _
  have hB : Blk w1 w.heap.size 25 #[.string s, .slice (some ⟨b, off, none⟩) n c, .slice B n d] := by rw [← hW1]; exact Blk.new w _ _ rfl
  generalize w.heap.size = Z at hB ⊢
  have z0 := hB.cell 0
  have z1 := hB.cell 1
  have c0 := hg1.gr.keep HC.out
  have hii : (i : Int) < (n : Int) := by omega
  have hxi : (x : Int) ≤ (n : Int) := by omega
  clear hW1 hB HC
  go_quiet (fail)
  go_wp2_with fail
  go_ret
  exact ⟨rfl, hg1.drewN _⟩

set_option maxRecDepth 1000000 in
set_option maxHeartbeats 4000000 in
theorem placesA_any (s p : ByteArray) (n c d i X Pb : Nat) (o : List Nat) (A B : Option Addr) (w : World) (hX : Idx s n o A c B d w) (hi : i < n)
    (h0 : w.cell? ⟨X, 0, none⟩ = some (.string s)) (h1 : w.cell? ⟨X, 1, none⟩ = some (.slice A n c)) (h2 : w.cell? ⟨X, 2, none⟩ = some (.slice B n d)) (h3 : w.cell? ⟨Pb, 0, none⟩ = some (.string p)) :
    Calls Try.prog 50 #[.int .i64 (i : Int), .pointer (some ⟨X, 0, none⟩), .pointer (some ⟨Pb, 0, none⟩)] w fun e w' => e = .returned (.bool (!ltS ((bts s).drop (o.getD i 0)) (bts p))) ∧ Gx w w' := by
  have HSF := Lib.hid (fun W (hW : Gx w W) => suffix_any s n c d i o A B W (hX.keep hW.gr) hi)
  have HEQ : Hid (Op.bytesLess (s.extract (o.getD i 0) s.size).toList p.toList = ltS ((bts s).drop (o.getD i 0)) (bts p)) := Lib.hid (by
    rw [less_lt, ByteArray.toList_eq, ByteArray.toList_eq]
    show ltS (bts (s.extract (o.getD i 0) s.size)) (bts p) = _
    rw [bts_drop])
  generalize o.getD i 0 = x at HSF HEQ ⊢
  have hdr : Gx w w.drew := (Gx.refl w).drew
  have KS : Hid (∀ W', Gx w W' → Gx w W' ∧ W'.cell? ⟨X, 0, none⟩ = some (.string s) ∧ W'.cell? ⟨X, 1, none⟩ = some (.slice A n c) ∧ W'.cell? ⟨X, 2, none⟩ = some (.slice B n d) ∧ W'.cell? ⟨Pb, 0, none⟩ = some (.string p)) := Lib.hid (fun W' h => ⟨h, h.gr.keep h0, h.gr.keep h1, h.gr.keep h2, h.gr.keep h3⟩)
  clear hX
  go_enter Try.func50, Try.ntmps50
  go_upto_region 1 with fail
  refine wp_region_held_drew (S := (fun W' => Gx w W' ∧ W'.cell? ⟨X, 0, none⟩ = some (.string s) ∧ W'.cell? ⟨X, 1, none⟩ = some (.slice A n c) ∧ W'.cell? ⟨X, 2, none⟩ = some (.slice B n d) ∧ W'.cell? ⟨Pb, 0, none⟩ = some (.string p))) ?_ ?_ (fun hHeld => ?_)
  · kernel_rfl
  · ((try dsimp only); (first | exact hHeld | exact KS.out _ hdr | exact KS.out _ HGA.out))
  refine take_in (i := 0) (v := ?_) (d := (some 5)) rfl rfl ?_ ?_ ?_ ?_ ?_ ?_ ?_ ?_
  rotate_left
  · kernel_rfl
  · kernel_rfl
  · kernel_rfl
  · (intro _ _ _ hq; exact hq)
  · rfl
  · (intro _w hSw; (try dsimp only at hSw); go_simp; try with_reducible rfl)
  · assumption
  try simp only [Act.put, List.setIfInBounds_toArray, List.set_cons_zero, List.set_cons_succ]
  refine take_in (i := 1) (v := ?_) (d := (some 6)) rfl rfl ?_ ?_ ?_ ?_ ?_ ?_ ?_ ?_
  rotate_left
  · kernel_rfl
  · kernel_rfl
  · kernel_rfl
  · (intro _ _ _ hq; exact hq)
  · rfl
  · (intro _w hSw; (try dsimp only at hSw); go_simp; try with_reducible rfl)
  · assumption
  try simp only [Act.put, List.setIfInBounds_toArray, List.set_cons_zero, List.set_cons_succ]
  refine take_in (i := 3) (v := ?_) (d := (some 8)) rfl rfl ?_ ?_ ?_ ?_ ?_ ?_ ?_ ?_
  rotate_left
  · kernel_rfl
  · kernel_rfl
  · kernel_rfl
  · (intro _ _ _ hq; exact hq)
  · rfl
  · (intro _w hSw; (try dsimp only at hSw); go_simp; try with_reducible rfl)
  · assumption
  try simp only [Act.put, List.setIfInBounds_toArray, List.set_cons_zero, List.set_cons_succ]
  refine wpAnyH_ready (rs := [2]) ?_ ?_ ?_
  · kernel_rfl
  · simp
  refine (AllReadyH.cons rfl (fun K hK => ?_) AllReadyH.nil)
  go_simp
  first | (go_at_call 51; ((with_reducible refine (HSF.out _ hHeld.1).mono ?_)); rintro e w5 ⟨rfl, hg5⟩; have HGA := Lib.hid (hHeld.1.trans hg5); clear hg5)
  refine hK.out _ _ ?_ (fun hHeld => ?_)
  · ((try dsimp only); (first | exact hHeld | exact KS.out _ hdr | exact KS.out _ HGA.out))
  clear hK K
  try simp only [Act.put, List.setIfInBounds_toArray, List.set_cons_zero, List.set_cons_succ]
  refine take_in (i := 4) (v := ?_) (d := (some 9)) rfl rfl ?_ ?_ ?_ ?_ ?_ ?_ ?_ ?_
  rotate_left
  · kernel_rfl
  · kernel_rfl
  · kernel_rfl
  · (intro _ _ _ hq; exact hq)
  · rfl
  · (intro _w hSw; (try dsimp only at hSw); go_simp; try with_reducible rfl)
  · assumption
  try simp only [Act.put, List.setIfInBounds_toArray, List.set_cons_zero, List.set_cons_succ]
  refine take_in (i := 5) (v := ?_) (d := (some 4)) rfl rfl ?_ ?_ ?_ ?_ ?_ ?_ ?_ ?_
  rotate_left
  · kernel_rfl
  · kernel_rfl
  · kernel_rfl
  · (intro _ _ _ hq; exact hq)
  · rfl
  · (intro _w hSw; (try dsimp only at hSw); go_simp; try with_reducible rfl)
  · assumption
  try simp only [Act.put, List.setIfInBounds_toArray, List.set_cons_zero, List.set_cons_succ]
  refine wpAnyH_done ?_ ?_ _
  · kernel_rfl
  rotate_left
  all_goals
    go_wp2_with fail
    go_ret
    exact ⟨ret_bool (by rw [HEQ.out]), HGA.out⟩

end Go.Proofs.Ytmcefcdnfngndaa
