/- Layer 7: places, Count. -/
import Derived.Test.YtmcefcdnfngndaaFdP
namespace Go.Proofs.Ytmcefcdnfngndaa
open Go.RowKit Go.Shelf
set_option linter.unusedSimpArgs false

set_option maxRecDepth 1000000 in
set_option maxHeartbeats 4000000 in
theorem placesB_any (s p : ByteArray) (n c d i fr X Fb Pb : Nat) (o : List Nat) (A B : Option Addr) (w : World) (hX : Idx s n o A c B d w) (hi : fr + i < n)
    (h0 : w.cell? ⟨X, 0, none⟩ = some (.string s)) (h1 : w.cell? ⟨X, 1, none⟩ = some (.slice A n c)) (h2 : w.cell? ⟨X, 2, none⟩ = some (.slice B n d)) (h3 : w.cell? ⟨Pb, 0, none⟩ = some (.string p)) (h4 : w.cell? ⟨Fb, 0, none⟩ = some (.int .i64 (fr : Int))) :
    Calls Try.prog 52 #[.int .i64 (i : Int), .pointer (some ⟨X, 0, none⟩), .pointer (some ⟨Fb, 0, none⟩), .pointer (some ⟨Pb, 0, none⟩)] w fun e w' => e = .returned (.bool (!(bts p).isPrefixOf ((bts s).drop (o.getD (fr + i) 0)))) ∧ Gx w w' := by
  have HSF := Lib.hid (fun W (hW : Gx w W) => suffix_any s n c d (fr + i) o A B W (hX.keep hW.gr) hi)
  have HEQ : Hid (Lib.hasPrefix (s.extract (o.getD (fr + i) 0) s.size).data.toList p.data.toList = (bts p).isPrefixOf ((bts s).drop (o.getD (fr + i) 0))) := Lib.hid (by rw [← bts_drop]; rfl)
  have hsz : n ≤ 4096 := hX.le
  have hnum : ((fr : Int) + (i : Int)) = ((fr + i : Nat) : Int) := by omega
  rw [← hnum] at HSF
  clear hnum
  have hwr : IntKind.i64.wrap ((fr : Int) + (i : Int)) = (fr : Int) + (i : Int) := IntWalk.i64_in _ (by omega)
  generalize o.getD (fr + i) 0 = x at HSF HEQ ⊢
  have HPR : Hid (∀ W, Calls Try.prog 53 #[.string (s.extract x s.size), .string p] W fun e w' => e = .returned (.bool (Lib.hasPrefix (s.extract x s.size).data.toList p.data.toList)) ∧ w' = W) := Lib.hid (fun W => Any.strings_HasPrefix Try.fPre (s.extract x s.size) p W)
  generalize Lib.hasPrefix (s.extract x s.size).data.toList p.data.toList = q at HPR HEQ
  obtain rfl := HEQ.out
  have hdr : Gx w w.drew := (Gx.refl w).drew
  have KS : Hid (∀ W', Gx w W' → Gx w W' ∧ W'.cell? ⟨X, 0, none⟩ = some (.string s) ∧ W'.cell? ⟨X, 1, none⟩ = some (.slice A n c) ∧ W'.cell? ⟨X, 2, none⟩ = some (.slice B n d) ∧ W'.cell? ⟨Pb, 0, none⟩ = some (.string p) ∧ W'.cell? ⟨Fb, 0, none⟩ = some (.int .i64 (fr : Int))) := Lib.hid (fun W' h => ⟨h, h.gr.keep h0, h.gr.keep h1, h.gr.keep h2, h.gr.keep h3, h.gr.keep h4⟩)
  clear hX
  go_enter Try.func52, Try.ntmps52
  go_upto_region 1 with fail
  refine wp_region_held_drew (S := (fun W' => Gx w W' ∧ W'.cell? ⟨X, 0, none⟩ = some (.string s) ∧ W'.cell? ⟨X, 1, none⟩ = some (.slice A n c) ∧ W'.cell? ⟨X, 2, none⟩ = some (.slice B n d) ∧ W'.cell? ⟨Pb, 0, none⟩ = some (.string p) ∧ W'.cell? ⟨Fb, 0, none⟩ = some (.int .i64 (fr : Int)))) ?_ ?_ (fun hHeld => ?_)
  · kernel_rfl
  · ((try dsimp only); (first | exact hHeld | exact KS.out _ hdr | exact KS.out _ HGA.out))
  refine take_in (i := 0) (v := ?_) (d := (some 6)) rfl rfl ?_ ?_ ?_ ?_ ?_ ?_ ?_ ?_
  rotate_left
  · kernel_rfl
  · kernel_rfl
  · kernel_rfl
  · (intro _ _ _ hq; exact hq)
  · rfl
  · (intro _w hSw; (try dsimp only at hSw); go_simp; try with_reducible rfl)
  · assumption
  try simp only [Act.put, List.setIfInBounds_toArray, List.set_cons_zero, List.set_cons_succ]
  refine take_in (i := 1) (v := ?_) (d := (some 7)) rfl rfl ?_ ?_ ?_ ?_ ?_ ?_ ?_ ?_
  rotate_left
  · kernel_rfl
  · kernel_rfl
  · kernel_rfl
  · (intro _ _ _ hq; exact hq)
  · rfl
  · (intro _w hSw; (try dsimp only at hSw); go_simp; try with_reducible rfl)
  · assumption
  try simp only [Act.put, List.setIfInBounds_toArray, List.set_cons_zero, List.set_cons_succ]
  refine take_in (i := 2) (v := ?_) (d := (some 8)) rfl rfl ?_ ?_ ?_ ?_ ?_ ?_ ?_ ?_
  rotate_left
  · kernel_rfl
  · kernel_rfl
  · kernel_rfl
  · (intro _ _ _ hq; exact hq)
  · rfl
  · (intro _w hSw; (try dsimp only at hSw); go_simp; try with_reducible rfl)
  · assumption
  try simp only [Act.put, List.setIfInBounds_toArray, List.set_cons_zero, List.set_cons_succ]
  refine take_in (i := 3) (v := ?_) (d := (some 9)) rfl rfl ?_ ?_ ?_ ?_ ?_ ?_ ?_ ?_
  rotate_left
  · kernel_rfl
  · kernel_rfl
  · kernel_rfl
  · (intro _ _ _ hq; exact hq)
  · rfl
  · (intro _w hSw; (try dsimp only at hSw); go_simp; try with_reducible rfl)
  · assumption
  try simp only [Act.put, List.setIfInBounds_toArray, List.set_cons_zero, List.set_cons_succ]
  refine take_in (i := 5) (v := ?_) (d := (some 11)) rfl rfl ?_ ?_ ?_ ?_ ?_ ?_ ?_ ?_
  rotate_left
  · kernel_rfl
  · kernel_rfl
  · kernel_rfl
  · (intro _ _ _ hq; exact hq)
  · rfl
  · (intro _w hSw; (try dsimp only at hSw); go_simp; try with_reducible rfl)
  · assumption
  try simp only [Act.put, List.setIfInBounds_toArray, List.set_cons_zero, List.set_cons_succ]
  refine wpAnyH_ready (rs := [4]) ?_ ?_ ?_
  · kernel_rfl
  · simp
  refine (AllReadyH.cons rfl (fun K hK => ?_) AllReadyH.nil)
  go_simp
  first | (go_at_call 51; (try rw [hwr]); ((with_reducible refine (HSF.out _ hHeld.1).mono ?_)); rintro e w5 ⟨rfl, hg5⟩; have HGA := Lib.hid (hHeld.1.trans hg5); clear hg5) | (go_at_call 53; ((with_reducible refine (HPR.out _).mono ?_)); rintro e w5 ⟨rfl, rfl⟩)
  refine hK.out _ _ ?_ (fun hHeld => ?_)
  · ((try dsimp only); (first | exact hHeld | exact KS.out _ hdr | exact KS.out _ HGA.out))
  clear hK K
  try simp only [Act.put, List.setIfInBounds_toArray, List.set_cons_zero, List.set_cons_succ]
  refine wpAnyH_ready (rs := [6]) ?_ ?_ ?_
  · kernel_rfl
  · simp
  refine (AllReadyH.cons rfl (fun K hK => ?_) AllReadyH.nil)
  go_simp
  first | (go_at_call 51; (try rw [hwr]); ((with_reducible refine (HSF.out _ hHeld.1).mono ?_)); rintro e w5 ⟨rfl, hg5⟩; have HGA := Lib.hid (hHeld.1.trans hg5); clear hg5) | (go_at_call 53; ((with_reducible refine (HPR.out _).mono ?_)); rintro e w5 ⟨rfl, rfl⟩)
  refine hK.out _ _ ?_ (fun hHeld => ?_)
  · ((try dsimp only); (first | exact hHeld | exact KS.out _ hdr | exact KS.out _ HGA.out))
  clear hK K
  try simp only [Act.put, List.setIfInBounds_toArray, List.set_cons_zero, List.set_cons_succ]
  refine take_in (i := 7) (v := ?_) (d := (some 13)) rfl rfl ?_ ?_ ?_ ?_ ?_ ?_ ?_ ?_
  rotate_left
  · kernel_rfl
  · kernel_rfl
  · kernel_rfl
  · (intro _ _ _ hq; exact hq)
  · rfl
  · (intro _w hSw; (try dsimp only at hSw); go_simp; try with_reducible rfl)
  · assumption
  try simp only [Act.put, List.setIfInBounds_toArray, List.set_cons_zero, List.set_cons_succ]
  refine take_in (i := 8) (v := ?_) (d := (some 5)) rfl rfl ?_ ?_ ?_ ?_ ?_ ?_ ?_ ?_
  rotate_left
  · kernel_rfl
  · kernel_rfl
  · kernel_rfl
  · (intro _ _ _ hq; exact hq)
  · rfl
  · (intro _w hSw; (try dsimp only at hSw); go_simp; try with_reducible rfl)
  · assumption
  try simp only [Act.put, List.setIfInBounds_toArray, List.set_cons_zero, List.set_cons_succ]
  refine wpAnyH_done ?_ ?_ _
  · kernel_rfl
  rotate_left
  all_goals
    go_wp2_with fail
    go_ret
    exact ⟨rfl, by assumption⟩

set_option maxRecDepth 1000000 in
set_option maxHeartbeats 4000000 in
theorem places_any (s p : ByteArray) (n c d : Nat) (o : List Nat) (A B : Option Addr) (w : World) (hX : Idx s n o A c B d w) :
    Calls Try.prog 36 #[.agg #[.string s, .slice A n c, .slice B n d], .string p] w fun e w' => ∃ fr t : Nat, e = .returned (.tuple #[.int .i64 (fr : Int), .int .i64 (t : Int)]) ∧ PlaceP (bts s) o (bts p) fr t ∧ Gr w w' := by
  have hol : o.length = n := hX.olen
  have hnb : n ≤ 4096 := hX.le
  have HX := Lib.hid hX
  obtain ⟨fr, hfr⟩ : ∃ fr, fr = (List.range n).countP (fun i => !(!ltS ((bts s).drop (o.getD i 0)) (bts p))) := ⟨_, rfl⟩
  obtain ⟨ct, hct⟩ : ∃ ct, ct = (List.range (n - fr)).countP (fun k => !(!(bts p).isPrefixOf ((bts s).drop (o.getD (fr + k) 0)))) := ⟨_, rfl⟩
  obtain ⟨hP, m1, m2⟩ := places_of (T := bts s) (o := o) (bts p) hX.ord.asc (fr := fr) (ct := ct) (by rw [hol]; exact hfr) (by rw [hol]; exact hct)
  rw [hol] at m1 m2
  have HM1 := Lib.hid m1
  have HM2 := Lib.hid m2
  have hlt : fr + ct ≤ n := by rw [← hol]; exact hP.top
  have HP := Lib.hid hP
  have HFR := Lib.hid hfr
  have HCT := Lib.hid hct
  clear hX m1 m2 hP hfr hct
  have eg1 : ∀ args w, (callFunc 50 args).run Try.prog w = .ok (.enter 50 args) w := enters_of Try.func50 (by kernel_rfl) rfl
  have eg2 : ∀ args w, (callFunc 52 args).run Try.prog w = .ok (.enter 52 args) w := enters_of Try.func52 (by kernel_rfl) rfl
  have EG1 := Lib.hid eg1
  have EG2 := Lib.hid eg2
  clear eg1 eg2
  go_enter Try.func36, Try.ntmps36
  go_upto_region 1 with fail
  generalize hW1 : World.alloc _ _ = w1
  obtain ⟨X, hXX⟩ : ∃ X, w.heap.size = X := ⟨_, rfl⟩
  rw [hXX]
  have hg1 : Gr w w1 := by rw [← hW1]; exact (((Gr.refl w).alloc _).alloc _).alloc _
  have HBX : Hid (Blk w1 X 25 #[.string s, .slice A n c, .slice B n d]) := Lib.hid (by rw [← hW1]; exact ((Blk.new w _ _ hXX).alloc _).alloc _)
  have HBP : Hid (Blk w1 (X + 1) 9 #[.string p]) := Lib.hid (by rw [← hW1]; exact (Blk.new (w.alloc _) _ _ (by show (Array.push _ _).size = _; rw [Array.size_push, hXX])).alloc _)
  have HBF : Hid (Blk w1 (X + 1 + 1) 3 #[.int .i64 0]) := Lib.hid (by rw [← hW1]; exact (Blk.new ((w.alloc _).alloc _) _ _ (by show (Array.push (Array.push _ _) _).size = _; rw [Array.size_push, Array.size_push, hXX])))
  have hle : w.heap.size ≤ X + 1 + 1 := by omega
  have HS1 : Hid (Calls Try.prog 49 #[.int .i64 (n : Int), .func (.func 50) #[] #[.pointer (some ⟨X, 0, none⟩), .pointer (some ⟨X + 1, 0, none⟩)]] w1 fun e w' => e = .returned (.int .i64 (fr : Int)) ∧ Gx w1 w') := Lib.hid (by
    refine (Any.sort_Search Try.fSearch 50 #[.pointer (some ⟨X, 0, none⟩), .pointer (some ⟨X + 1, 0, none⟩)] n (fun i => !ltS ((bts s).drop (o.getD i 0)) (bts p)) w1 EG1.out (by omega) ?_ HM1.out).mono ?_
    · intro m os i hi
      have hgx : Gx w1 (Sort.grow (w1.drewN m) os) := ⟨m, os, rfl⟩
      refine (placesA_any s p n c d i X (X + 1) o A B _ (HX.out.keep (hg1.trans hgx.gr)) hi (hgx.gr.keep (HBX.out.cell 0)) (hgx.gr.keep (HBX.out.cell 1)) (hgx.gr.keep (HBX.out.cell 2)) (hgx.gr.keep (HBP.out.cell 0))).mono ?_
      rintro e w' ⟨rfl, q, os', rfl⟩
      exact ⟨rfl, q, os', rfl⟩
    · rintro e w' ⟨rfl, hg⟩
      exact ⟨by rw [HFR.out], hg⟩)
  have hl1 := HBX.out.cell 1
  have HG1 := Lib.hid hg1
  clear hW1 hXX hg1
  go_wp2_with fail
  refine HS1.out.mono ?_
  rintro e w2 ⟨rfl, hg2⟩
  have f0 := (HBF.out.keep hg2.gr).free 0
  have b0 : w2.cell? ⟨X + 1 + 1, 0, none⟩ = some (.int .i64 0) := (HBF.out.keep hg2.gr).cell 0
  have hBF := (HBF.out.keep hg2.gr).put 0 (.int .i64 (fr : Int))
  have hBX := (HBX.out.keep hg2.gr).other (p := ⟨X + 1 + 1, 0, none⟩) (by show X ≠ X + 1 + 1; omega) (.int .i64 (fr : Int))
  have hBP := (HBP.out.keep hg2.gr).other (p := ⟨X + 1 + 1, 0, none⟩) (by show X + 1 ≠ X + 1 + 1; omega) (.int .i64 (fr : Int))
  have HG2 := Lib.hid ((HG1.out.trans hg2.gr).setCell (p := ⟨X + 1 + 1, 0, none⟩) hle (.int .i64 (fr : Int)))
  obtain ⟨w3, hw3⟩ : ∃ w3, w2.setCell ⟨X + 1 + 1, 0, none⟩ (.int .i64 (fr : Int)) = w3 := ⟨_, rfl⟩
  rw [hw3] at hBF hBX hBP HG2
  have HW3 := Lib.hid hw3
  have HS2 : Hid (Calls Try.prog 49 #[.int .i64 ((n - fr : Nat) : Int), .func (.func 52) #[] #[.pointer (some ⟨X, 0, none⟩), .pointer (some ⟨X + 1 + 1, 0, none⟩), .pointer (some ⟨X + 1, 0, none⟩)]] w3 fun e w' => e = .returned (.int .i64 (ct : Int)) ∧ Gx w3 w') := Lib.hid (by
    refine (Any.sort_Search Try.fSearch 52 #[.pointer (some ⟨X, 0, none⟩), .pointer (some ⟨X + 1 + 1, 0, none⟩), .pointer (some ⟨X + 1, 0, none⟩)] (n - fr) (fun k => !(bts p).isPrefixOf ((bts s).drop (o.getD (fr + k) 0))) w3 EG2.out (by omega) ?_ HM2.out).mono ?_
    · intro m os i hi
      have hgx : Gx w3 (Sort.grow (w3.drewN m) os) := ⟨m, os, rfl⟩
      refine (placesB_any s p n c d i fr X (X + 1 + 1) (X + 1) o A B _ (HX.out.keep (HG2.out.trans hgx.gr)) (by omega) (hgx.gr.keep (hBX.cell 0)) (hgx.gr.keep (hBX.cell 1)) (hgx.gr.keep (hBX.cell 2)) (hgx.gr.keep (hBP.cell 0)) (hgx.gr.keep (hBF.cell 0))).mono ?_
      rintro e w' ⟨rfl, q, os', rfl⟩
      exact ⟨rfl, q, os', rfl⟩
    · rintro e w' ⟨rfl, hg⟩
      exact ⟨by rw [HCT.out], hg⟩)
  have hsub : ((n - fr : Nat) : Int) = (n : Int) - (fr : Int) := by omega
  rw [hsub] at HS2
  have l1 := hBX.cell 1
  have l2 : w3.cell? ⟨X + 1 + 1, 0, none⟩ = some (.int .i64 (fr : Int)) := hBF.cell 0
  have HBF3 := Lib.hid hBF
  have hb1 : (fr : Int) ≤ 4096 := by omega
  have hb2 : (n : Int) - (fr : Int) ≤ 4096 := by omega
  have hb3 : 0 ≤ (n : Int) - (fr : Int) := by omega
  have hb4 : (fr : Int) + (ct : Int) ≤ 4096 := by omega
  clear hsub hBF hBX hBP hw3
  rw [← HW3.out] at l1 l2
  go_wp2_with fail
  rw [HW3.out]
  refine HS2.out.mono ?_
  rintro e w4 ⟨rfl, hg4⟩
  have HBF4 := Lib.hid (HBF3.out.keep hg4.gr)
  have l4 : w4.cell? ⟨X + 1 + 1, 0, none⟩ = some (.int .i64 (fr : Int)) := HBF4.out.cell 0
  have l5 := HBF4.out.free 0
  have HG4 := Lib.hid ((HG2.out.trans hg4.gr).setCell (p := ⟨X + 1 + 1, 0, none⟩) hle (.int .i64 (fr : Int)))
  have HL4 := Lib.hid ((HBF4.out.put 0 (.int .i64 (fr : Int))).cell 0)
  clear l1 l2 HBF3 f0 b0 HBX HBP HBF
  go_wp2_with fail
  have HL4' := HL4.out
  simp at HL4'
  refine bodyPost_ret (v := .tuple #[.int .i64 (fr : Int), .int .i64 ((fr + ct : Nat) : Int)]) ?_ ?_ ?_
  · simp [results, Try.results36, go_sem, HL4']
  · rfl
  · exact ⟨fr, fr + ct, rfl, HP.out, HG4.out⟩

end Go.Proofs.Ytmcefcdnfngndaa
