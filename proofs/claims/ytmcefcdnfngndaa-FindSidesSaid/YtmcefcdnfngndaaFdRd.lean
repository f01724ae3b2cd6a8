/- Layer 7: the reference's Overlaps, the law of the order. -/
import Derived.Test.YtmcefcdnfngndaaFdRc
import Derived.Test.YtmcefcdnfngndaaFdZ
namespace Go.Proofs.Ytmcefcdnfngndaa
open Go.RowKit Go.Shelf
set_option linter.unusedSimpArgs false

theorem ovsL_take (T : List UInt8) (o : List Nat) {k : Nat} (hk : k < o.length) : (ovsL T o).take (k + 1) = (ovsL T o).take k ++ [ovL T o k] := by
  rw [List.take_succ_eq_append_getElem (by rw [ovsL_len]; exact hk)]
  congr 2
  simp [ovsL]

set_option maxRecDepth 1000000 in
set_option maxHeartbeats 16000000 in
theorem rOverlaps_any (s : ByteArray) (A : Option Addr) (n c : Nat) (o : List Nat) (w : World) (hn : s.size = n) (hnb : n ≤ 4097) (hO : IsOrd (bts s) o) (hp : Ints w A (nI o)) :
    Calls Try.prog 17 #[.string s, .slice A n c] w fun e w' => ∃ A' c', e = .returned (.slice A' n c') ∧ w'.ownsRow w.heap.size 3 1 (.slice A' n c') n (flatE enc1 (nI (ovsL (bts s) o))) ∧ Gr w w' := by
  obtain ⟨i0, hi, hz0, hz1, hz2⟩ := info_parts Try.infoFdI
  have HI := Lib.hid (And.intro hi (And.intro hz0 (And.intro hz1 hz2)))
  have HT : Hid ((bts s).length = n) := Lib.hid (by rw [bts_len]; exact hn)
  have HSZ := Lib.hid hn
  have HO := Lib.hid hO
  have HP := Lib.hid hp
  have HL : Hid (o.length = n) := Lib.hid (by rw [hO.len, HT.out])
  clear hi hz0 hz1 hz2 hn hO hp
  go_enter Try.func17, Try.ntmps17
  go_wp2_with fail
  go_loopw [5, 6] (fun v z wr => ∃ (k : Nat) (B : Option Addr) (d : Nat), k ≤ n ∧ z = .int .i64 (k : Int) ∧ v = .slice B k d ∧ Hid (wr.ownsRow w.heap.size 3 1 (.slice B k d) k (flatE enc1 (nI ((ovsL (bts s) o).take k)))) ∧ Gr w wr) (fun _ z _ => n - (intOf z).toNat)
  case atStart => exact ⟨0, none, 0, Nat.zero_le _, rfl, rfl, Lib.hid (World.ownsRow_nil _ _ _ _), Gr.refl _⟩
  case round =>
    obtain ⟨k, B, d, hk, rfl, rfl, hown, hgr⟩ := hrel
    by_cases hlt : k < n
    · have hki : (k : Int) < (n : Int) := by omega
      have HTK : Hid ((ovsL (bts s) o).take (k + 1) = (ovsL (bts s) o).take k ++ [ovL (bts s) o k]) := Lib.hid (ovsL_take _ _ (by rw [HL.out]; exact hlt))
      have HV : Hid (k = 0 → ovL (bts s) o k = 0) := Lib.hid (fun h => by unfold ovL; rw [if_pos h])
      rcases Nat.eq_zero_or_pos k with h0 | h0
      · have HV0 := HV.out h0
        rw [HV0] at HTK
        have k0 : ¬ (0 : Int) < (k : Int) := by omega
        obtain ⟨hi, hz0, hz1, hz2⟩ := HI.out
        clear HV HV0 h0
        go_wp2_with (at_builtin; refine wpList_append_own _ rfl _ _ 23 rfl w.heap.size 3 i0 _ 1 8 Try.underlying23 hi hz0 hz1 hz2 rfl (by decide) _ _ _ rfl (hown.out.alloc _) ⟨wr.heap.size, 0, none⟩ 1 1 [.int .i64 0] rfl rfl ?a1 ?a2 ?a3 ?a4 ?a5 ?_)
        try case a1 =>
          intro t x ht
          rw [Addr.add_lit]
          exact alloc_new rfl (by rw [Nat.zero_add]; simpa using ht)
        case a2 => first | rfl | (intro x hx; rw [List.mem_singleton] at hx; subst hx; rfl)
        case a3 => unfold maxLen; omega
        case a4 => omega
        case a5 => have := hgr.size; simp; omega
        intro v' w3 hown3 hgrow _
        have hal : Gr wr (wr.alloc (.cells #[.int .i64 0] 3)) := (Gr.refl _).alloc _
        have ho2 := hown.out.alloc (.cells #[.int .i64 0] 3)
        have hg3 : Gr w w3 := Below.grown (hgr.trans hal) hgrow (hgr.trans hal).size (fun t ht => (ho2.lt t ht).1)
        obtain ⟨g3, c3, rfl, -⟩ := owns_shape hown3 (by omega)
        have HO3 : Hid (w3.ownsRow w.heap.size 3 1 (.slice (some ⟨g3, 0, none⟩) (k + 1) c3) (k + 1) (flatE enc1 (nI ((ovsL (bts s) o).take (k + 1))))) := Lib.hid (by
          have e : ∀ (a : List Nat) (b : Nat), nI (a ++ [b]) = nI a ++ [(b : Int)] := fun a b => by simp [nI]
          rw [HTK.out, e, flatE_app]; exact hown3)
        clear hown3 hgrow hal ho2 hi hz0 hz1 hz2 hown
        go_wp2_with fail
        go_roundw
        case rel => exact ⟨k + 1, _, _, by omega, by go_num, rfl, HO3, hg3⟩
        case measure => simp [intOf]; omega
      · have k0 : (0 : Int) < (k : Int) := by omega
        have HVP : Hid (ovL (bts s) o k = lcp ((bts s).drop (o.getD (k - 1) 0)) ((bts s).drop (o.getD k 0))) := Lib.hid (by unfold ovL; rw [if_neg (by omega)])
        have HPr := HP.out.keep hgr
        obtain ⟨b, off, rfl, x0⟩ := Nats_at HPr (i := k) (by rw [HL.out]; exact hlt)
        obtain ⟨b', off', e', y0⟩ := Nats_at HPr (i := k - 1) (by rw [HL.out]; omega)
        cases e'
        have hx1 : o.getD k 0 < s.size := by
          have := HO.out.getD_lt (p := k) (by rw [HT.out]; exact hlt)
          rwa [bts_len] at this
        have hy1 : o.getD (k - 1) 0 < s.size := by
          have := HO.out.getD_lt (p := k - 1) (by rw [HT.out]; omega)
          rwa [bts_len] at this
        have HCM := Lib.hid (fun W => rCommon_any s s (o.getD (k - 1) 0) (o.getD k 0) W (by have := HSZ.out; omega) (by have := HSZ.out; omega) (by omega) (by omega))
        rw [← HVP.out] at HCM
        have hvb : ovL (bts s) o k ≤ 4097 := by
          rw [HVP.out]
          have := (lcp_le ((bts s).drop (o.getD (k - 1) 0)) ((bts s).drop (o.getD k 0))).1
          rw [List.length_drop, bts_len] at this
          have := HSZ.out; omega
        have g1 : IntKind.i64.wrap ((k : Int) - 1) = ((k - 1 : Nat) : Int) := by rw [show (k : Int) - 1 = ((k - 1 : Nat) : Int) by omega]; exact IntWalk.i64_in _ (by omega)
        have p1 : k - 1 < n := by omega
        clear HV HVP HPr hx1 hy1 h0
        generalize ovL (bts s) o k = v at HTK HCM hvb
        generalize k - 1 = j at y0 HCM g1 p1
        generalize o.getD k 0 = x at x0 HCM
        generalize o.getD j 0 = y at y0 HCM
        have p2 : (j : Int) < (n : Int) := by omega
        go_upto_region 7 with fail
        have hdr : Gr wr wr.drew := (Gr.refl wr).drew
        have KS : Hid (∀ W', Gr wr W' → Gr wr W' ∧ W'.cell? ⟨b, off + k, none⟩ = some (.int .i64 (x : Int)) ∧ W'.cell? ⟨b, off + j, none⟩ = some (.int .i64 (y : Int))) := Lib.hid (fun W' h => ⟨h, h.keep x0, h.keep y0⟩)
        refine wp_region_held_drew (S := (fun W' => Gr wr W' ∧ W'.cell? ⟨b, off + k, none⟩ = some (.int .i64 (x : Int)) ∧ W'.cell? ⟨b, off + j, none⟩ = some (.int .i64 (y : Int)))) ?_ ?_ (fun hHeld => ?_)
        · kernel_rfl
        · ((try dsimp only); (first | exact hHeld | exact KS.out _ hdr | exact KS.out _ HGA.out))
        refine take_in (i := 0) (v := ?_) (d := (some 16)) rfl rfl ?_ ?_ ?_ ?_ ?_ ?_ ?_ ?_
        rotate_left
        · kernel_rfl
        · kernel_rfl
        · kernel_rfl
        · (intro _ _ _ hq; exact hq)
        · rfl
        · (intro _w hSw; (try dsimp only at hSw); go_simp; try with_reducible rfl)
        · assumption
        try simp only [Act.put, List.setIfInBounds_toArray, List.set_cons_zero, List.set_cons_succ]
        refine take_in (i := 1) (v := ?_) (d := (some 17)) rfl rfl ?_ ?_ ?_ ?_ ?_ ?_ ?_ ?_
        rotate_left
        · kernel_rfl
        · kernel_rfl
        · kernel_rfl
        · (intro _ _ _ hq; exact hq)
        · rfl
        · (intro _w hSw; (try dsimp only at hSw); go_simp; try with_reducible rfl)
        · assumption
        try simp only [Act.put, List.setIfInBounds_toArray, List.set_cons_zero, List.set_cons_succ]
        refine take_in (i := 2) (v := ?_) (d := (some 18)) rfl rfl ?_ ?_ ?_ ?_ ?_ ?_ ?_ ?_
        rotate_left
        · kernel_rfl
        · kernel_rfl
        · kernel_rfl
        · (intro _ _ _ hq; exact hq)
        · rfl
        · (intro _w hSw; (try dsimp only at hSw); go_simp; try with_reducible rfl)
        · assumption
        try simp only [Act.put, List.setIfInBounds_toArray, List.set_cons_zero, List.set_cons_succ]
        refine take_in (i := 3) (v := ?_) (d := (some 19)) rfl rfl ?_ ?_ ?_ ?_ ?_ ?_ ?_ ?_
        rotate_left
        · kernel_rfl
        · kernel_rfl
        · kernel_rfl
        · (intro _ _ _ hq; exact hq)
        · rfl
        · (intro _w hSw; (try dsimp only at hSw); go_simp; try with_reducible rfl)
        · assumption
        try simp only [Act.put, List.setIfInBounds_toArray, List.set_cons_zero, List.set_cons_succ]
        refine take_in (i := 4) (v := ?_) (d := (some 20)) rfl rfl ?_ ?_ ?_ ?_ ?_ ?_ ?_ ?_
        rotate_left
        · kernel_rfl
        · kernel_rfl
        · kernel_rfl
        · (intro _ _ _ hq; exact hq)
        · rfl
        · (intro _w hSw; (try dsimp only at hSw); go_simp; try with_reducible rfl)
        · assumption
        try simp only [Act.put, List.setIfInBounds_toArray, List.set_cons_zero, List.set_cons_succ]
        refine take_in (i := 5) (v := ?_) (d := (some 21)) rfl rfl ?_ ?_ ?_ ?_ ?_ ?_ ?_ ?_
        rotate_left
        · kernel_rfl
        · kernel_rfl
        · kernel_rfl
        · (intro _ _ _ hq; exact hq)
        · rfl
        · (intro _w hSw; (try dsimp only at hSw); go_simp; try with_reducible rfl)
        · assumption
        try simp only [Act.put, List.setIfInBounds_toArray, List.set_cons_zero, List.set_cons_succ]
        refine take_in (i := 6) (v := ?_) (d := (some 22)) rfl rfl ?_ ?_ ?_ ?_ ?_ ?_ ?_ ?_
        rotate_left
        · kernel_rfl
        · kernel_rfl
        · kernel_rfl
        · (intro _ _ _ hq; exact hq)
        · rfl
        · (intro _w hSw; (try dsimp only at hSw); go_simp; try with_reducible rfl)
        · assumption
        try simp only [Act.put, List.setIfInBounds_toArray, List.set_cons_zero, List.set_cons_succ]
        refine take_in (i := 7) (v := ?_) (d := (some 23)) rfl rfl ?_ ?_ ?_ ?_ ?_ ?_ ?_ ?_
        rotate_left
        · kernel_rfl
        · kernel_rfl
        · kernel_rfl
        · (intro _ _ _ hq; exact hq)
        · rfl
        · (intro _w hSw; (try dsimp only at hSw); go_simp; try with_reducible rfl)
        · assumption
        try simp only [Act.put, List.setIfInBounds_toArray, List.set_cons_zero, List.set_cons_succ]
        refine take_in (i := 8) (v := ?_) (d := (some 24)) rfl rfl ?_ ?_ ?_ ?_ ?_ ?_ ?_ ?_
        rotate_left
        · kernel_rfl
        · kernel_rfl
        · kernel_rfl
        · (intro _ _ _ hq; exact hq)
        · rfl
        · (intro _w hSw; (try dsimp only at hSw); go_simp; try with_reducible rfl)
        · assumption
        try simp only [Act.put, List.setIfInBounds_toArray, List.set_cons_zero, List.set_cons_succ]
        refine take_in (i := 9) (v := ?_) (d := (some 25)) rfl rfl ?_ ?_ ?_ ?_ ?_ ?_ ?_ ?_
        rotate_left
        · kernel_rfl
        · kernel_rfl
        · kernel_rfl
        · (intro _ _ _ hq; exact hq)
        · rfl
        · (intro _w hSw; (try dsimp only at hSw); go_simp; try with_reducible rfl)
        · assumption
        try simp only [Act.put, List.setIfInBounds_toArray, List.set_cons_zero, List.set_cons_succ]
        refine take_in (i := 10) (v := ?_) (d := (some 26)) rfl rfl ?_ ?_ ?_ ?_ ?_ ?_ ?_ ?_
        rotate_left
        · kernel_rfl
        · kernel_rfl
        · kernel_rfl
        · (intro _ _ _ hq; exact hq)
        · rfl
        · (intro _w hSw; (try dsimp only at hSw); go_simp; try with_reducible rfl)
        · assumption
        try simp only [Act.put, List.setIfInBounds_toArray, List.set_cons_zero, List.set_cons_succ]
        refine wpAnyH_ready (rs := [11]) ?_ ?_ ?_
        · kernel_rfl
        · simp
        refine (AllReadyH.cons rfl (fun K hK => ?_) AllReadyH.nil)
        go_simp
        first | (go_at_call 33; ((with_reducible refine (HCM.out _).mono ?_)); rintro e w5 ⟨rfl, hg5⟩; have HGA := Lib.hid (hHeld.1.trans hg5); clear hg5)
        refine hK.out _ _ ?_ (fun hHeld => ?_)
        · ((try dsimp only); (first | exact hHeld | exact KS.out _ hdr | exact KS.out _ HGA.out))
        clear hK K
        try simp only [Act.put, List.setIfInBounds_toArray, List.set_cons_zero, List.set_cons_succ]
        refine take_in (i := 12) (v := ?_) (d := (some 7)) rfl rfl ?_ ?_ ?_ ?_ ?_ ?_ ?_ ?_
        rotate_left
        · kernel_rfl
        · kernel_rfl
        · kernel_rfl
        · (intro _ _ _ hq; exact hq)
        · rfl
        · (intro _w hSw; (try dsimp only at hSw); go_simp; try with_reducible rfl)
        · assumption
        try simp only [Act.put, List.setIfInBounds_toArray, List.set_cons_zero, List.set_cons_succ]
        refine wpAnyH_done ?_ ?_ _
        · kernel_rfl
        rotate_left
        all_goals
          have hgr5 := hgr.trans HGA.out
          have hown5 := Lib.hid (owns_gr hown.out HGA.out)
          obtain ⟨hi, hz0, hz1, hz2⟩ := HI.out
          clear HGA KS hdr hHeld x0 y0 HCM g1 p1 p2 hgr hown
        all_goals
          rename_i w5 _
          go_wp2_with (at_builtin; refine wpList_append_own _ rfl _ _ 23 rfl w.heap.size 3 i0 _ 1 8 Try.underlying23 hi hz0 hz1 hz2 rfl (by decide) _ _ _ rfl (hown5.out.alloc _) ⟨w5.heap.size, 0, none⟩ 1 1 [.int .i64 (v : Int)] rfl rfl ?b1 ?b2 ?b3 ?b4 ?b5 ?_)
          case b1 =>
            intro t x ht
            rw [Addr.add_lit]
            exact alloc_new rfl (by rw [Nat.zero_add]; simpa using ht)
          case b2 => intro x hx; rw [List.mem_singleton] at hx; subst hx; rfl
          case b3 => unfold maxLen; omega
          case b4 => omega
          case b5 => have := hgr5.size; simp; omega
          intro v' w3 hown3 hgrow _
          have hal : Gr w5 (w5.alloc (.cells #[.int .i64 (v : Int)] 3)) := (Gr.refl _).alloc _
          have ho2 := hown5.out.alloc (.cells #[.int .i64 (v : Int)] 3)
          have hg3 : Gr w w3 := Below.grown (hgr5.trans hal) hgrow (hgr5.trans hal).size (fun t ht => (ho2.lt t ht).1)
          obtain ⟨g3, c3, rfl, -⟩ := owns_shape hown3 (by omega)
          have HO3 : Hid (w3.ownsRow w.heap.size 3 1 (.slice (some ⟨g3, 0, none⟩) (k + 1) c3) (k + 1) (flatE enc1 (nI ((ovsL (bts s) o).take (k + 1))))) := Lib.hid (by
            have e : ∀ (a : List Nat) (b : Nat), nI (a ++ [b]) = nI a ++ [(b : Int)] := fun a b => by simp [nI]
            rw [HTK.out, e, flatE_app]; exact hown3)
          clear hown3 hgrow hal ho2 hi hz0 hz1 hz2 hown5
          go_wp2_with fail
          go_roundw
          case rel => exact ⟨k + 1, _, _, by omega, by go_num, rfl, HO3, hg3⟩
          case measure => simp [intOf]; omega
    · obtain rfl : k = n := by omega
      have HF : Hid (wr.ownsRow w.heap.size 3 1 (.slice B k d) k (flatE enc1 (nI (ovsL (bts s) o)))) := Lib.hid (by
        have := hown.out
        rwa [List.take_of_length_le (by rw [ovsL_len, HL.out]; exact Nat.le_refl _)] at this)
      go_wp2_with fail
      go_ret
      exact ⟨B, d, rfl, HF.out, hgr⟩

end Go.Proofs.Ytmcefcdnfngndaa
