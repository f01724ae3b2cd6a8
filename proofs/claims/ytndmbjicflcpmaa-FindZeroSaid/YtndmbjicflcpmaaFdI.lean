/- Layer 7: Common. -/
import Derived.Test.YtndmbjicflcpmaaFdM3
import Derived.Test.YtndmbjicflcpmaaFdH
import Derived.Test.YtndmbjicflcpmaaFdRc
namespace Go.Proofs.Ytndmbjicflcpmaa
open Go.RowKit Go.Shelf
set_option linter.unusedSimpArgs false

set_option maxRecDepth 1000000 in
set_option maxHeartbeats 4000000 in
theorem common_no (a b : ByteArray) (w : World) (h : 4096 < a.size ∨ 4096 < b.size) : Calls Try.prog 34 #[.string a, .string b] w fun e w' => e = .returned (.tuple #[.int .i64 0, .int .i64 0, .int .i64 0, .int .i64 2]) ∧ Gr w w' := by
  obtain ⟨ta, hta⟩ : ∃ t, decide (a.size ≤ 4096) = t := ⟨_, rfl⟩
  obtain ⟨tb, htb⟩ : ∃ t, decide (b.size ≤ 4096) = t := ⟨_, rfl⟩
  have HA := Lib.hid (fun W => isText_any a W ta hta)
  have HB := Lib.hid (fun W => isText_any b W tb htb)
  have HT : Hid (ta = false ∨ tb = false) := Lib.hid (by
    rcases h with h | h
    · left; rw [← hta]; exact decide_eq_false (by omega)
    · right; rw [← htb]; exact decide_eq_false (by omega))
  clear hta htb h
  go_enter Try.func34, Try.ntmps34
  go_wp2_with fail
  refine (HA.out w).mono ?_
  rintro e w2 ⟨rfl, rfl⟩
  cases ta with
  | false =>
    go_wp2_with fail
    refine bodyPost_ret (v := .tuple #[.int .i64 0, .int .i64 0, .int .i64 0, .int .i64 2]) ?_ ?_ ?_
    · simp [results, Try.results34, go_sem]
    · rfl
    · exact ⟨rfl, Gr.refl _⟩
  | true =>
    obtain rfl : tb = false := by rcases HT.out with h | h; cases h; exact h
    go_wp2_with fail
    refine (HB.out w).mono ?_
    rintro e w3 ⟨rfl, rfl⟩
    go_wp2_with fail
    refine bodyPost_ret (v := .tuple #[.int .i64 0, .int .i64 0, .int .i64 0, .int .i64 2]) ?_ ?_ ?_
    · simp [results, Try.results34, go_sem]
    · rfl
    · exact ⟨rfl, Gr.refl _⟩

set_option maxRecDepth 1000000 in
set_option maxHeartbeats 16000000 in
theorem common_yes (a b : ByteArray) (n q : Nat) (w : World) (hn : a.size = n) (hq : b.size = q) (ha : n ≤ 4096) (hb : q ≤ 4096) : Calls Try.prog 34 #[.string a, .string b] w fun e w' => e = .returned (.tuple #[.int .i64 ((lgF (bts a) (bts b) n).1 : Int), .int .i64 ((lgF (bts a) (bts b) n).2 : Int), .int .i64 (comY (bts a) (bts b) : Int), .int .i64 0]) ∧ Gr w w' := by
  have HA := Lib.hid (fun W => isText_any a W true (decide_eq_true (by omega)))
  have HB := Lib.hid (fun W => isText_any b W true (decide_eq_true (by omega)))
  have HN := Lib.hid (fun W => new_yes b q W hq hb)
  have HTA : Hid ((bts a).length = n) := Lib.hid (by rw [bts_len]; exact hn)
  have HTB : Hid ((bts b).length = q) := Lib.hid (by rw [bts_len]; exact hq)
  have HNA := Lib.hid hn
  have HNB := Lib.hid hq
  have hni : (a.size : Int) = (n : Int) := by omega
  clear hn hq
  go_enter Try.func34, Try.ntmps34
  go_wp2_with fail
  refine (HA.out w).mono ?_
  rintro e w2 ⟨rfl, rfl⟩
  go_wp2_with fail
  refine (HB.out w).mono ?_
  rintro e w3 ⟨rfl, rfl⟩
  have HN1 := Lib.hid (HN.out w)
  clear HA HB HN
  go_wp2_with fail
  refine HN1.out.mono ?_
  rintro e w1 ⟨o, G, V, rfl, hX, hg1⟩
  have HX := Lib.hid hX
  clear HN1 hX
  go_upto_region 4 with fail
  generalize hW2 : World.alloc w1 _ = w2
  obtain ⟨X, hXX⟩ : ∃ X, w1.heap.size = X := ⟨_, rfl⟩
  rw [hXX]
  have hg2 : Gr w1 w2 := by rw [← hW2]; exact (Gr.refl _).alloc _
  have HB : Hid (Blk w2 X 25 #[.string b, .slice (some ⟨G, 0, none⟩) q q, .slice (some ⟨V, 0, none⟩) q q]) := Lib.hid (by rw [← hW2]; exact Blk.new w1 _ _ hXX)
  clear hW2 hXX
  have HCT := Lib.hid (fun p W (hW : Gr w2 W) => count_any b p q q q o _ _ W (HX.out.keep (hg2.trans hW)))
  have HFN := Lib.hid (fun p W (hW : Gr w2 W) => find_any b p q q q o _ _ W (HX.out.keep (hg2.trans hW)))
  have hgw := hg1.trans hg2
  go_wp2_with fail
  go_loopw [10, 11, 28] (fun x y z wr => ∃ k : Nat, k ≤ n ∧ z = .int .i64 (k : Int) ∧ x = .int .i64 ((lgF (bts a) (bts b) k).1 : Int) ∧ y = .int .i64 ((lgF (bts a) (bts b) k).2 : Int) ∧ Gr w2 wr) (fun _ _ z _ => n - (intOf z).toNat)
  case atStart => exact ⟨0, Nat.zero_le _, rfl, rfl, rfl, Gr.refl _⟩
  case round =>
    obtain ⟨k, hk, rfl, rfl, rfl, hgr⟩ := hrel
    have htp := lg_top (bts a) (bts b) (k := k) (by rw [HTA.out]; exact hk)
    rw [HTA.out] at htp
    by_cases hlt : k < n
    · have hki : (k : Int) < (n : Int) := by omega
      have hbl := bst_le (bts a) (bts b) k (bts b).length
      rw [HTA.out] at hbl
      have HOP : Hid (∀ l, k + (l + 1) ≤ n → (0 < occN (bts b) (((bts a).drop k).take (l + 1)) ↔ l + 1 ≤ bstF (bts a) (bts b) k (bts b).length)) := Lib.hid (fun l hl => occ_pos (by omega) (by rw [HTA.out]; exact hl))
      have HLG : Hid (lgF (bts a) (bts b) (k + 1) = if (lgF (bts a) (bts b) k).1 < bstF (bts a) (bts b) k (bts b).length then (bstF (bts a) (bts b) k (bts b).length, k) else lgF (bts a) (bts b) k) := Lib.hid rfl
      obtain ⟨be, hbe⟩ : ∃ be, bstF (bts a) (bts b) k (bts b).length = be := ⟨_, rfl⟩
      rw [hbe] at hbl HOP HLG
      clear hbe
      generalize lgF (bts a) (bts b) k = r at htp HLG
      obtain ⟨L0, F0⟩ := r
      dsimp only at htp HLG
      obtain ⟨wA, rfl⟩ : ∃ wA, wA = wr := ⟨_, rfl⟩
      go_wp2_with fail
      go_loopw [10, 11] (fun x y wb => ∃ l f : Nat, x = .int .i64 (l : Int) ∧ y = .int .i64 (f : Int) ∧ l ≤ n ∧ (l = L0 ∧ f = F0 ∨ L0 < l ∧ l ≤ be ∧ f = k) ∧ Gr w2 wb) (fun x _ _ => n - (intOf x).toNat)
      case atStart => exact ⟨L0, F0, rfl, rfl, by omega, Or.inl ⟨rfl, rfl⟩, hgr⟩
      case round =>
        obtain ⟨l, f, rfl, rfl, hln, hlf, hgb⟩ := hrel
        have hb0 := HB.out.keep hgb
        have z0 : wr.cell? ⟨X, 0, none⟩ = some (.string b) := hb0.cell 0
        have z1 : wr.cell? ⟨X, 1, none⟩ = some (.slice (some ⟨G, 0, none⟩) q q) := hb0.cell 1
        have z2 : wr.cell? ⟨X, 2, none⟩ = some (.slice (some ⟨V, 0, none⟩) q q) := hb0.cell 2
        have hdr : Gr wr wr.drew := (Gr.refl wr).drew
        have KS : Hid (∀ W', Gr wr W' → Gr wr W' ∧ W'.cell? ⟨X, 0, none⟩ = some (.string b) ∧ W'.cell? ⟨X, 1, none⟩ = some (.slice (some ⟨G, 0, none⟩) q q) ∧ W'.cell? ⟨X, 2, none⟩ = some (.slice (some ⟨V, 0, none⟩) q q)) := Lib.hid (fun W' h => ⟨h, h.keep z0, h.keep z1, h.keep z2⟩)
        by_cases hc : k + l < n
        · have hop := HOP.out l (by omega)
          have hpc := (bts_piece a (a := k) (l := l + 1) (by rw [HNA.out]; omega)).1
          have HC1 := Lib.hid (fun W (hW : Gr wr W) => HCT.out (a.extract k (k + (l + 1))) W (hgb.trans hW))
          rw [hpc] at HC1
          generalize occN (bts b) (((bts a).drop k).take (l + 1)) = ct at hop HC1
          obtain ⟨e1, he1⟩ : ∃ e, k + l = e := ⟨_, rfl⟩
          obtain ⟨e2, he2⟩ : ∃ e, k + (l + 1) = e := ⟨_, rfl⟩
          rw [he2] at HC1
          have q1 : (k : Int) + (l : Int) = (e1 : Int) := by omega
          have q2 : (e1 : Int) + 1 = (e2 : Int) := by omega
          have q3 : IntKind.i64.wrap (e1 : Int) = (e1 : Int) := IntWalk.i64_in _ (by omega)
          have q4 : IntKind.i64.wrap (e2 : Int) = (e2 : Int) := IntWalk.i64_in _ (by omega)
          have q5 : (e1 : Int) < (n : Int) := by omega
          have q6 : k ≤ e2 := by omega
          have q7 : e2 ≤ n := by omega
          have q8 : IntKind.i64.wrap ((e1 : Int) + 1) = (e2 : Int) := by rw [q2]; exact q4
          go_upto_region 8 with fail
          refine wp_region_held_drew (S := (fun W' => Gr wr W' ∧ W'.cell? ⟨X, 0, none⟩ = some (.string b) ∧ W'.cell? ⟨X, 1, none⟩ = some (.slice (some ⟨G, 0, none⟩) q q) ∧ W'.cell? ⟨X, 2, none⟩ = some (.slice (some ⟨V, 0, none⟩) q q))) ?_ ?_ (fun hHeld => ?_)
          · kernel_rfl
          · ((try dsimp only); (first | exact hHeld | exact KS.out _ hdr | exact KS.out _ HGA.out))
          refine take_in (i := 0) (v := ?_) (d := (some 31)) rfl rfl ?_ ?_ ?_ ?_ ?_ ?_ ?_ ?_
          rotate_left
          · kernel_rfl
          · kernel_rfl
          · kernel_rfl
          · (intro _ _ _ hq; exact hq)
          · rfl
          · (intro _w hSw; (try dsimp only at hSw); go_simp; try with_reducible rfl)
          · assumption
          try simp only [Act.put, List.setIfInBounds_toArray, List.set_cons_zero, List.set_cons_succ]
          refine take_in (i := 1) (v := ?_) (d := (some 32)) rfl rfl ?_ ?_ ?_ ?_ ?_ ?_ ?_ ?_
          rotate_left
          · kernel_rfl
          · kernel_rfl
          · kernel_rfl
          · (intro _ _ _ hq; exact hq)
          · rfl
          · (intro _w hSw; (try dsimp only at hSw); go_simp; try with_reducible rfl)
          · assumption
          try simp only [Act.put, List.setIfInBounds_toArray, List.set_cons_zero, List.set_cons_succ]
          refine take_in (i := 2) (v := ?_) (d := (some 33)) rfl rfl ?_ ?_ ?_ ?_ ?_ ?_ ?_ ?_
          rotate_left
          · kernel_rfl
          · kernel_rfl
          · kernel_rfl
          · (intro _ _ _ hq; exact hq)
          · rfl
          · (intro _w hSw; (try dsimp only at hSw); go_simp; try with_reducible rfl)
          · assumption
          try simp only [Act.put, List.setIfInBounds_toArray, List.set_cons_zero, List.set_cons_succ]
          refine take_in (i := 3) (v := ?_) (d := (some 34)) rfl rfl ?_ ?_ ?_ ?_ ?_ ?_ ?_ ?_
          rotate_left
          · kernel_rfl
          · kernel_rfl
          · kernel_rfl
          · (intro _ _ _ hq; exact hq)
          · rfl
          · (intro _w hSw; (try dsimp only at hSw); go_simp; try with_reducible rfl)
          · assumption
          try simp only [Act.put, List.setIfInBounds_toArray, List.set_cons_zero, List.set_cons_succ]
          refine take_in (i := 4) (v := ?_) (d := (some 35)) rfl rfl ?_ ?_ ?_ ?_ ?_ ?_ ?_ ?_
          rotate_left
          · kernel_rfl
          · kernel_rfl
          · kernel_rfl
          · (intro _ _ _ hq; exact hq)
          · rfl
          · (intro _w hSw; (try dsimp only at hSw); go_simp; try with_reducible rfl)
          · assumption
          try simp only [Act.put, List.setIfInBounds_toArray, List.set_cons_zero, List.set_cons_succ]
          refine take_in (i := 5) (v := ?_) (d := (some 36)) rfl rfl ?_ ?_ ?_ ?_ ?_ ?_ ?_ ?_
          rotate_left
          · kernel_rfl
          · kernel_rfl
          · kernel_rfl
          · (intro _ _ _ hq; exact hq)
          · rfl
          · (intro _w hSw; (try dsimp only at hSw); go_simp; try with_reducible rfl)
          · assumption
          try simp only [Act.put, List.setIfInBounds_toArray, List.set_cons_zero, List.set_cons_succ]
          refine take_in (i := 6) (v := ?_) (d := (some 37)) rfl rfl ?_ ?_ ?_ ?_ ?_ ?_ ?_ ?_
          rotate_left
          · kernel_rfl
          · kernel_rfl
          · kernel_rfl
          · (intro _ _ _ hq; exact hq)
          · rfl
          · (intro _w hSw; (try dsimp only at hSw); go_simp; try with_reducible rfl)
          · assumption
          try simp only [Act.put, List.setIfInBounds_toArray, List.set_cons_zero, List.set_cons_succ]
          refine take_in (i := 7) (v := ?_) (d := (some 38)) rfl rfl ?_ ?_ ?_ ?_ ?_ ?_ ?_ ?_
          rotate_left
          · kernel_rfl
          · kernel_rfl
          · kernel_rfl
          · (intro _ _ _ hq; exact hq)
          · rfl
          · (intro _w hSw; (try dsimp only at hSw); go_simp; try with_reducible rfl)
          · assumption
          try simp only [Act.put, List.setIfInBounds_toArray, List.set_cons_zero, List.set_cons_succ]
          refine take_in (i := 8) (v := ?_) (d := (some 39)) rfl rfl ?_ ?_ ?_ ?_ ?_ ?_ ?_ ?_
          rotate_left
          · kernel_rfl
          · kernel_rfl
          · kernel_rfl
          · (intro _ _ _ hq; exact hq)
          · rfl
          · (intro _w hSw; (try dsimp only at hSw); go_simp; try with_reducible rfl)
          · assumption
          try simp only [Act.put, List.setIfInBounds_toArray, List.set_cons_zero, List.set_cons_succ]
          refine take_in (i := 9) (v := ?_) (d := (some 40)) rfl rfl ?_ ?_ ?_ ?_ ?_ ?_ ?_ ?_
          rotate_left
          · kernel_rfl
          · kernel_rfl
          · kernel_rfl
          · (intro _ _ _ hq; exact hq)
          · rfl
          · (intro _w hSw; (try dsimp only at hSw); go_simp; try with_reducible rfl)
          · assumption
          try simp only [Act.put, List.setIfInBounds_toArray, List.set_cons_zero, List.set_cons_succ]
          refine take_in (i := 10) (v := ?_) (d := (some 41)) rfl rfl ?_ ?_ ?_ ?_ ?_ ?_ ?_ ?_
          rotate_left
          · kernel_rfl
          · kernel_rfl
          · kernel_rfl
          · (intro _ _ _ hq; exact hq)
          · rfl
          · (intro _w hSw; (try dsimp only at hSw); go_simp; try with_reducible rfl)
          · assumption
          try simp only [Act.put, List.setIfInBounds_toArray, List.set_cons_zero, List.set_cons_succ]
          refine take_in (i := 11) (v := ?_) (d := (some 42)) rfl rfl ?_ ?_ ?_ ?_ ?_ ?_ ?_ ?_
          rotate_left
          · kernel_rfl
          · kernel_rfl
          · kernel_rfl
          · (intro _ _ _ hq; exact hq)
          · rfl
          · (intro _w hSw; (try dsimp only at hSw); go_simp; try with_reducible rfl)
          · assumption
          try simp only [Act.put, List.setIfInBounds_toArray, List.set_cons_zero, List.set_cons_succ]
          refine take_in (i := 12) (v := ?_) (d := (some 43)) rfl rfl ?_ ?_ ?_ ?_ ?_ ?_ ?_ ?_
          rotate_left
          · kernel_rfl
          · kernel_rfl
          · kernel_rfl
          · (intro _ _ _ hq; exact hq)
          · rfl
          · (intro _w hSw; (try dsimp only at hSw); go_simp; try with_reducible rfl)
          · assumption
          try simp only [Act.put, List.setIfInBounds_toArray, List.set_cons_zero, List.set_cons_succ]
          refine take_in (i := 13) (v := ?_) (d := (some 44)) rfl rfl ?_ ?_ ?_ ?_ ?_ ?_ ?_ ?_
          rotate_left
          · kernel_rfl
          · kernel_rfl
          · kernel_rfl
          · (intro _ _ _ hq; exact hq)
          · rfl
          · (intro _w hSw; (try dsimp only at hSw); go_simp; try with_reducible rfl)
          · assumption
          try simp only [Act.put, List.setIfInBounds_toArray, List.set_cons_zero, List.set_cons_succ]
          refine take_in (i := 14) (v := ?_) (d := (some 45)) rfl rfl ?_ ?_ ?_ ?_ ?_ ?_ ?_ ?_
          rotate_left
          · kernel_rfl
          · kernel_rfl
          · kernel_rfl
          · (intro _ _ _ hq; exact hq)
          · rfl
          · (intro _w hSw; (try dsimp only at hSw); go_simp; try with_reducible rfl)
          · assumption
          try simp only [Act.put, List.setIfInBounds_toArray, List.set_cons_zero, List.set_cons_succ]
          refine wpAnyH_ready (rs := [15]) ?_ ?_ ?_
          · kernel_rfl
          · simp
          refine (AllReadyH.cons rfl (fun K hK => ?_) AllReadyH.nil)
          go_simp
          first | (go_at_call 27; ((with_reducible refine (HC1.out _ hHeld.1).mono ?_)); rintro e w5 ⟨rfl, hg5⟩; have HGA := Lib.hid (hHeld.1.trans hg5); clear hg5)
          refine hK.out _ _ ?_ (fun hHeld => ?_)
          · ((try dsimp only); (first | exact hHeld | exact KS.out _ hdr | exact KS.out _ HGA.out))
          clear hK K
          try simp only [Act.put, List.setIfInBounds_toArray, List.set_cons_zero, List.set_cons_succ]
          refine take_in (i := 16) (v := ?_) (d := (some 47)) rfl rfl ?_ ?_ ?_ ?_ ?_ ?_ ?_ ?_
          rotate_left
          · kernel_rfl
          · kernel_rfl
          · kernel_rfl
          · (intro _ _ _ hq; exact hq)
          · rfl
          · (intro _w hSw; (try dsimp only at hSw); go_simp; try with_reducible rfl)
          · assumption
          try simp only [Act.put, List.setIfInBounds_toArray, List.set_cons_zero, List.set_cons_succ]
          refine take_in (i := 17) (v := ?_) (d := (some 48)) rfl rfl ?_ ?_ ?_ ?_ ?_ ?_ ?_ ?_
          rotate_left
          · kernel_rfl
          · kernel_rfl
          · kernel_rfl
          · (intro _ _ _ hq; exact hq)
          · rfl
          · (intro _w hSw; (try dsimp only at hSw); go_simp; try with_reducible rfl)
          · assumption
          try simp only [Act.put, List.setIfInBounds_toArray, List.set_cons_zero, List.set_cons_succ]
          refine wpAnyH_done ?_ ?_ _
          · kernel_rfl
          rotate_left
          all_goals
            have hgr5 := hgb.trans HGA.out
            clear HGA KS hdr hHeld z0 z1 z2 HC1 q1 q2 q3 q4 q5 q6 q7 q8 he1 he2
            by_cases hct : 0 < ct
            · have hcti : (0 : Int) < (ct : Int) := by omega
              have hle := hop.1 hct
              clear hop
              go_wp2_with fail
              go_roundw
              case rel => exact ⟨l + 1, k, by go_num, rfl, by omega, Or.inr ⟨by omega, hle, rfl⟩, hgr5⟩
              case measure => simp [intOf]; omega
            · have hcti : ¬ (0 : Int) < (ct : Int) := by omega
              have hge : ¬ l + 1 ≤ be := fun h => hct (hop.2 h)
              have HR : Hid (lgF (bts a) (bts b) (k + 1) = (l, f)) := Lib.hid (by
                rw [HLG.out]
                rcases hlf with ⟨e1, e2⟩ | ⟨e1, e2, e3⟩
                · rw [if_neg (by omega), e1, e2]
                · rw [if_pos (by omega), e3, show be = l by omega])
              clear hop hlf
              go_wp2_with fail
              go_roundw
              case rel => exact ⟨k + 1, by omega, by go_num, by rw [HR.out], by rw [HR.out], hgr5⟩
              case measure => simp [intOf]; omega
        · have HR : Hid (lgF (bts a) (bts b) (k + 1) = (l, f)) := Lib.hid (by
            rw [HLG.out]
            rcases hlf with ⟨e1, e2⟩ | ⟨e1, e2, e3⟩
            · rw [if_neg (by omega), e1, e2]
            · rw [if_pos (by omega), e3, show be = l by omega])
          obtain ⟨e1, he1⟩ : ∃ e, k + l = e := ⟨_, rfl⟩
          have q1 : (k : Int) + (l : Int) = (e1 : Int) := by omega
          have q3 : IntKind.i64.wrap (e1 : Int) = (e1 : Int) := IntWalk.i64_in _ (by omega)
          have q5 : ¬ (e1 : Int) < (n : Int) := by omega
          go_upto_region 8 with fail
          refine wp_region_held_drew (S := (fun W' => Gr wr W')) ?_ ?_ (fun hHeld => ?_)
          · kernel_rfl
          · ((try dsimp only); (first | exact hHeld | exact hdr))
          refine take_in (i := 0) (v := ?_) (d := (some 31)) rfl rfl ?_ ?_ ?_ ?_ ?_ ?_ ?_ ?_
          rotate_left
          · kernel_rfl
          · kernel_rfl
          · kernel_rfl
          · (intro _ _ _ hq; exact hq)
          · rfl
          · (intro _w hSw; (try dsimp only at hSw); go_simp; try with_reducible rfl)
          · assumption
          try simp only [Act.put, List.setIfInBounds_toArray, List.set_cons_zero, List.set_cons_succ]
          refine take_in (i := 1) (v := ?_) (d := (some 32)) rfl rfl ?_ ?_ ?_ ?_ ?_ ?_ ?_ ?_
          rotate_left
          · kernel_rfl
          · kernel_rfl
          · kernel_rfl
          · (intro _ _ _ hq; exact hq)
          · rfl
          · (intro _w hSw; (try dsimp only at hSw); go_simp; try with_reducible rfl)
          · assumption
          try simp only [Act.put, List.setIfInBounds_toArray, List.set_cons_zero, List.set_cons_succ]
          refine take_in (i := 2) (v := ?_) (d := (some 33)) rfl rfl ?_ ?_ ?_ ?_ ?_ ?_ ?_ ?_
          rotate_left
          · kernel_rfl
          · kernel_rfl
          · kernel_rfl
          · (intro _ _ _ hq; exact hq)
          · rfl
          · (intro _w hSw; (try dsimp only at hSw); go_simp; try with_reducible rfl)
          · assumption
          try simp only [Act.put, List.setIfInBounds_toArray, List.set_cons_zero, List.set_cons_succ]
          refine take_in (i := 3) (v := ?_) (d := (some 34)) rfl rfl ?_ ?_ ?_ ?_ ?_ ?_ ?_ ?_
          rotate_left
          · kernel_rfl
          · kernel_rfl
          · kernel_rfl
          · (intro _ _ _ hq; exact hq)
          · rfl
          · (intro _w hSw; (try dsimp only at hSw); go_simp; try with_reducible rfl)
          · assumption
          try simp only [Act.put, List.setIfInBounds_toArray, List.set_cons_zero, List.set_cons_succ]
          refine take_in (i := 4) (v := ?_) (d := (some 35)) rfl rfl ?_ ?_ ?_ ?_ ?_ ?_ ?_ ?_
          rotate_left
          · kernel_rfl
          · kernel_rfl
          · kernel_rfl
          · (intro _ _ _ hq; exact hq)
          · rfl
          · (intro _w hSw; (try dsimp only at hSw); go_simp; try with_reducible rfl)
          · assumption
          try simp only [Act.put, List.setIfInBounds_toArray, List.set_cons_zero, List.set_cons_succ]
          refine take_in (i := 5) (v := ?_) (d := (some 36)) rfl rfl ?_ ?_ ?_ ?_ ?_ ?_ ?_ ?_
          rotate_left
          · kernel_rfl
          · kernel_rfl
          · kernel_rfl
          · (intro _ _ _ hq; exact hq)
          · rfl
          · (intro _w hSw; (try dsimp only at hSw); go_simp; try with_reducible rfl)
          · assumption
          try simp only [Act.put, List.setIfInBounds_toArray, List.set_cons_zero, List.set_cons_succ]
          refine take_in (i := 6) (v := ?_) (d := (some 37)) rfl rfl ?_ ?_ ?_ ?_ ?_ ?_ ?_ ?_
          rotate_left
          · kernel_rfl
          · kernel_rfl
          · kernel_rfl
          · (intro _ _ _ hq; exact hq)
          · rfl
          · (intro _w hSw; (try dsimp only at hSw); go_simp; try with_reducible rfl)
          · assumption
          try simp only [Act.put, List.setIfInBounds_toArray, List.set_cons_zero, List.set_cons_succ]
          refine take_un (i := 7) (d := (some 38)) rfl rfl ?_ ?_ ?_ ?_ ?_ ?_ ?_
          · kernel_rfl
          · kernel_rfl
          · kernel_rfl
          · (intro _ _ _ hq; exact hq)
          · rfl
          · assumption
          try simp only [Act.put, List.setIfInBounds_toArray, List.set_cons_zero, List.set_cons_succ]
          refine take_un (i := 8) (d := (some 39)) rfl rfl ?_ ?_ ?_ ?_ ?_ ?_ ?_
          · kernel_rfl
          · kernel_rfl
          · kernel_rfl
          · (intro _ _ _ hq; exact hq)
          · rfl
          · assumption
          try simp only [Act.put, List.setIfInBounds_toArray, List.set_cons_zero, List.set_cons_succ]
          refine take_un (i := 9) (d := (some 40)) rfl rfl ?_ ?_ ?_ ?_ ?_ ?_ ?_
          · kernel_rfl
          · kernel_rfl
          · kernel_rfl
          · (intro _ _ _ hq; exact hq)
          · rfl
          · assumption
          try simp only [Act.put, List.setIfInBounds_toArray, List.set_cons_zero, List.set_cons_succ]
          refine take_un (i := 10) (d := (some 41)) rfl rfl ?_ ?_ ?_ ?_ ?_ ?_ ?_
          · kernel_rfl
          · kernel_rfl
          · kernel_rfl
          · (intro _ _ _ hq; exact hq)
          · rfl
          · assumption
          try simp only [Act.put, List.setIfInBounds_toArray, List.set_cons_zero, List.set_cons_succ]
          refine take_un (i := 11) (d := (some 42)) rfl rfl ?_ ?_ ?_ ?_ ?_ ?_ ?_
          · kernel_rfl
          · kernel_rfl
          · kernel_rfl
          · (intro _ _ _ hq; exact hq)
          · rfl
          · assumption
          try simp only [Act.put, List.setIfInBounds_toArray, List.set_cons_zero, List.set_cons_succ]
          refine take_un (i := 12) (d := (some 43)) rfl rfl ?_ ?_ ?_ ?_ ?_ ?_ ?_
          · kernel_rfl
          · kernel_rfl
          · kernel_rfl
          · (intro _ _ _ hq; exact hq)
          · rfl
          · assumption
          try simp only [Act.put, List.setIfInBounds_toArray, List.set_cons_zero, List.set_cons_succ]
          refine take_un (i := 13) (d := (some 44)) rfl rfl ?_ ?_ ?_ ?_ ?_ ?_ ?_
          · kernel_rfl
          · kernel_rfl
          · kernel_rfl
          · (intro _ _ _ hq; exact hq)
          · rfl
          · assumption
          try simp only [Act.put, List.setIfInBounds_toArray, List.set_cons_zero, List.set_cons_succ]
          refine take_un (i := 14) (d := (some 45)) rfl rfl ?_ ?_ ?_ ?_ ?_ ?_ ?_
          · kernel_rfl
          · kernel_rfl
          · kernel_rfl
          · (intro _ _ _ hq; exact hq)
          · rfl
          · assumption
          try simp only [Act.put, List.setIfInBounds_toArray, List.set_cons_zero, List.set_cons_succ]
          refine take_un (i := 15) (d := (some 46)) rfl rfl ?_ ?_ ?_ ?_ ?_ ?_ ?_
          · kernel_rfl
          · kernel_rfl
          · kernel_rfl
          · (intro _ _ _ hq; exact hq)
          · rfl
          · assumption
          try simp only [Act.put, List.setIfInBounds_toArray, List.set_cons_zero, List.set_cons_succ]
          refine take_un (i := 16) (d := (some 47)) rfl rfl ?_ ?_ ?_ ?_ ?_ ?_ ?_
          · kernel_rfl
          · kernel_rfl
          · kernel_rfl
          · (intro _ _ _ hq; exact hq)
          · rfl
          · assumption
          try simp only [Act.put, List.setIfInBounds_toArray, List.set_cons_zero, List.set_cons_succ]
          refine take_in (i := 17) (v := ?_) (d := (some 48)) rfl rfl ?_ ?_ ?_ ?_ ?_ ?_ ?_ ?_
          rotate_left
          · kernel_rfl
          · kernel_rfl
          · kernel_rfl
          · (intro _ _ _ hq; exact hq)
          · rfl
          · (intro _w hSw; (try dsimp only at hSw); go_simp; try with_reducible rfl)
          · assumption
          try simp only [Act.put, List.setIfInBounds_toArray, List.set_cons_zero, List.set_cons_succ]
          refine wpAnyH_done ?_ ?_ _
          · kernel_rfl
          rotate_left
          all_goals
            have hgr5 := hgb.trans hHeld
            clear KS hdr hHeld z0 z1 z2 q1 q3 q5 he1 hlf
            go_wp2_with fail
            go_roundw
            case rel => exact ⟨k + 1, by omega, by go_num, by rw [HR.out], by rw [HR.out], hgr5⟩
            case measure => simp [intOf]; omega
    · obtain rfl : k = n := by omega
      have hfact := (lg_fact (bts a) (bts b) k (by rw [HTA.out]; exact Nat.le_refl _)).2
      have HY : Hid (comY (bts a) (bts b) = if (lgF (bts a) (bts b) k).1 = 0 then 0 else (occL (bts b) (((bts a).drop (lgF (bts a) (bts b) k).2).take (lgF (bts a) (bts b) k).1)).getD 0 0) := Lib.hid (by unfold comY; rw [HTA.out])
      have HPO := Lib.hid (fun (h1 : 1 ≤ (lgF (bts a) (bts b) k).1) => (occ_pos (B := bts b) h1 (by rw [HTA.out]; exact htp)).2)
      obtain ⟨⟨L, F⟩, hr⟩ : ∃ r, lgF (bts a) (bts b) k = r := ⟨_, rfl⟩
      rw [hr] at htp hfact HY HPO ⊢
      dsimp only at htp hfact HY HPO ⊢
      have HRR := Lib.hid hr
      clear hr
      have hb0 := HB.out.keep hgr
      have z0 : wr.cell? ⟨X, 0, none⟩ = some (.string b) := hb0.cell 0
      have z1 : wr.cell? ⟨X, 1, none⟩ = some (.slice (some ⟨G, 0, none⟩) q q) := hb0.cell 1
      have z2 : wr.cell? ⟨X, 2, none⟩ = some (.slice (some ⟨V, 0, none⟩) q q) := hb0.cell 2
      have hgr2 := hgw.trans hgr
      by_cases hL : L = 0
      · subst hL
        obtain rfl : F = 0 := by
          rcases hfact with ⟨_, h⟩ | ⟨h, _⟩
          · exact h
          · exact absurd rfl h
        have HY0 : Hid (comY (bts a) (bts b) = 0) := Lib.hid (by rw [HY.out, if_pos rfl])
        clear hfact HY HPO hb0
        go_wp2_with fail
        refine bodyPost_ret (v := .tuple #[.int .i64 0, .int .i64 0, .int .i64 0, .int .i64 0]) ?_ ?_ ?_
        · simp [results, Try.results34, go_sem]
        · rfl
        · exact ⟨by rw [HY0.out, HRR.out]; rfl, hgr2⟩
      · have hLe : ((L : Int) == 0) = false := beq_eq_false_iff_ne.2 (by omega)
        have hbst : L ≤ bstF (bts a) (bts b) F (bts b).length := by
          rcases hfact with ⟨h, _⟩ | ⟨_, _, h, _⟩
          · exact absurd h hL
          · omega
        have hpos := HPO.out (by omega) hbst
        have hY1 := HY.out
        rw [if_neg hL] at hY1
        have hpc := (bts_piece a (a := F) (l := L) (by rw [HNA.out]; exact htp)).1
        have HF1 := Lib.hid (fun W (hW : Gr wr W) => HFN.out (a.extract F (F + L)) W (hgr.trans hW))
        rw [hpc] at HF1
        have HLN := Lib.hid (occL_len (bts b) (((bts a).drop F).take L))
        have HY1 := Lib.hid hY1
        clear hY1
        generalize occL (bts b) (((bts a).drop F).take L) = ol at HF1 HLN HY1
        generalize occN (bts b) (((bts a).drop F).take L) = ct at HF1 HLN hpos
        obtain ⟨e1, he1⟩ : ∃ e, F + L = e := ⟨_, rfl⟩
        rw [he1] at HF1
        have q1 : (F : Int) + (L : Int) = (e1 : Int) := by omega
        have q3 : IntKind.i64.wrap (e1 : Int) = (e1 : Int) := IntWalk.i64_in _ (by omega)
        have q6 : F ≤ e1 := by omega
        have q7 : e1 ≤ k := by omega
        have hpi : (0 : Int) < (ct : Int) := by omega
        have hdr : Gr wr wr.drew := (Gr.refl wr).drew
        have KS : Hid (∀ W', Gr wr W' → Gr wr W' ∧ W'.cell? ⟨X, 0, none⟩ = some (.string b) ∧ W'.cell? ⟨X, 1, none⟩ = some (.slice (some ⟨G, 0, none⟩) q q) ∧ W'.cell? ⟨X, 2, none⟩ = some (.slice (some ⟨V, 0, none⟩) q q)) := Lib.hid (fun W' h => ⟨h, h.keep z0, h.keep z1, h.keep z2⟩)
        clear hfact HY HPO hb0 hbst hpc
        go_upto_region 14 with fail
        refine wp_region_held_drew (S := (fun W' => Gr wr W' ∧ W'.cell? ⟨X, 0, none⟩ = some (.string b) ∧ W'.cell? ⟨X, 1, none⟩ = some (.slice (some ⟨G, 0, none⟩) q q) ∧ W'.cell? ⟨X, 2, none⟩ = some (.slice (some ⟨V, 0, none⟩) q q))) ?_ ?_ (fun hHeld => ?_)
        · kernel_rfl
        · ((try dsimp only); (first | exact hHeld | exact KS.out _ hdr | exact KS.out _ HGA.out))
        refine take_in (i := 0) (v := ?_) (d := (some 55)) rfl rfl ?_ ?_ ?_ ?_ ?_ ?_ ?_ ?_
        rotate_left
        · kernel_rfl
        · kernel_rfl
        · kernel_rfl
        · (intro _ _ _ hq; exact hq)
        · rfl
        · (intro _w hSw; (try dsimp only at hSw); go_simp; try with_reducible rfl)
        · assumption
        try simp only [Act.put, List.setIfInBounds_toArray, List.set_cons_zero, List.set_cons_succ]
        refine take_in (i := 1) (v := ?_) (d := (some 56)) rfl rfl ?_ ?_ ?_ ?_ ?_ ?_ ?_ ?_
        rotate_left
        · kernel_rfl
        · kernel_rfl
        · kernel_rfl
        · (intro _ _ _ hq; exact hq)
        · rfl
        · (intro _w hSw; (try dsimp only at hSw); go_simp; try with_reducible rfl)
        · assumption
        try simp only [Act.put, List.setIfInBounds_toArray, List.set_cons_zero, List.set_cons_succ]
        refine take_in (i := 2) (v := ?_) (d := (some 57)) rfl rfl ?_ ?_ ?_ ?_ ?_ ?_ ?_ ?_
        rotate_left
        · kernel_rfl
        · kernel_rfl
        · kernel_rfl
        · (intro _ _ _ hq; exact hq)
        · rfl
        · (intro _w hSw; (try dsimp only at hSw); go_simp; try with_reducible rfl)
        · assumption
        try simp only [Act.put, List.setIfInBounds_toArray, List.set_cons_zero, List.set_cons_succ]
        refine take_in (i := 3) (v := ?_) (d := (some 58)) rfl rfl ?_ ?_ ?_ ?_ ?_ ?_ ?_ ?_
        rotate_left
        · kernel_rfl
        · kernel_rfl
        · kernel_rfl
        · (intro _ _ _ hq; exact hq)
        · rfl
        · (intro _w hSw; (try dsimp only at hSw); go_simp; try with_reducible rfl)
        · assumption
        try simp only [Act.put, List.setIfInBounds_toArray, List.set_cons_zero, List.set_cons_succ]
        refine take_in (i := 4) (v := ?_) (d := (some 59)) rfl rfl ?_ ?_ ?_ ?_ ?_ ?_ ?_ ?_
        rotate_left
        · kernel_rfl
        · kernel_rfl
        · kernel_rfl
        · (intro _ _ _ hq; exact hq)
        · rfl
        · (intro _w hSw; (try dsimp only at hSw); go_simp; try with_reducible rfl)
        · assumption
        try simp only [Act.put, List.setIfInBounds_toArray, List.set_cons_zero, List.set_cons_succ]
        refine take_in (i := 5) (v := ?_) (d := (some 60)) rfl rfl ?_ ?_ ?_ ?_ ?_ ?_ ?_ ?_
        rotate_left
        · kernel_rfl
        · kernel_rfl
        · kernel_rfl
        · (intro _ _ _ hq; exact hq)
        · rfl
        · (intro _w hSw; (try dsimp only at hSw); go_simp; try with_reducible rfl)
        · assumption
        try simp only [Act.put, List.setIfInBounds_toArray, List.set_cons_zero, List.set_cons_succ]
        refine take_in (i := 6) (v := ?_) (d := (some 61)) rfl rfl ?_ ?_ ?_ ?_ ?_ ?_ ?_ ?_
        rotate_left
        · kernel_rfl
        · kernel_rfl
        · kernel_rfl
        · (intro _ _ _ hq; exact hq)
        · rfl
        · (intro _w hSw; (try dsimp only at hSw); go_simp; try with_reducible rfl)
        · assumption
        try simp only [Act.put, List.setIfInBounds_toArray, List.set_cons_zero, List.set_cons_succ]
        refine take_in (i := 7) (v := ?_) (d := (some 62)) rfl rfl ?_ ?_ ?_ ?_ ?_ ?_ ?_ ?_
        rotate_left
        · kernel_rfl
        · kernel_rfl
        · kernel_rfl
        · (intro _ _ _ hq; exact hq)
        · rfl
        · (intro _w hSw; (try dsimp only at hSw); go_simp; try with_reducible rfl)
        · assumption
        try simp only [Act.put, List.setIfInBounds_toArray, List.set_cons_zero, List.set_cons_succ]
        refine take_in (i := 8) (v := ?_) (d := (some 63)) rfl rfl ?_ ?_ ?_ ?_ ?_ ?_ ?_ ?_
        rotate_left
        · kernel_rfl
        · kernel_rfl
        · kernel_rfl
        · (intro _ _ _ hq; exact hq)
        · rfl
        · (intro _w hSw; (try dsimp only at hSw); go_simp; try with_reducible rfl)
        · assumption
        try simp only [Act.put, List.setIfInBounds_toArray, List.set_cons_zero, List.set_cons_succ]
        refine wpAnyH_ready (rs := [9]) ?_ ?_ ?_
        · kernel_rfl
        · simp
        refine (AllReadyH.cons rfl (fun K hK => ?_) AllReadyH.nil)
        go_simp
        first | (go_at_call 26; ((with_reducible refine (HF1.out _ hHeld.1).mono ?_)); rintro e w5 ⟨A5, c5, rfl, hown5, hg5⟩; have HGA := Lib.hid (hHeld.1.trans hg5); obtain ⟨g5, c6, e5, -⟩ := owns_shape hown5 hpos; cases e5; have x5 := (owns_FB hown5).at hpos; obtain ⟨y0, hy0⟩ : ∃ y, ol.getD 0 0 = y := ⟨_, rfl⟩; rw [hy0] at x5; have HY0 := Lib.hid hy0; clear hg5 hown5 hy0)
        refine hK.out _ _ ?_ (fun hHeld => ?_)
        · ((try dsimp only); (first | exact hHeld | exact KS.out _ hdr | exact KS.out _ HGA.out))
        clear hK K
        try simp only [Act.put, List.setIfInBounds_toArray, List.set_cons_zero, List.set_cons_succ]
        refine take_in (i := 12) (v := ?_) (d := (some 4)) rfl rfl ?_ ?_ ?_ ?_ ?_ ?_ ?_ ?_
        rotate_left
        · kernel_rfl
        · kernel_rfl
        · kernel_rfl
        · (intro _ _ _ hq; exact hq)
        · rfl
        · (intro _w hSw; (try dsimp only at hSw); go_simp; try with_reducible rfl)
        · assumption
        try simp only [Act.put, List.setIfInBounds_toArray, List.set_cons_zero, List.set_cons_succ]
        refine take_in (i := 13) (v := ?_) (d := (some 5)) rfl rfl ?_ ?_ ?_ ?_ ?_ ?_ ?_ ?_
        rotate_left
        · kernel_rfl
        · kernel_rfl
        · kernel_rfl
        · (intro _ _ _ hq; exact hq)
        · rfl
        · (intro _w hSw; (try dsimp only at hSw); go_simp; try with_reducible rfl)
        · assumption
        try simp only [Act.put, List.setIfInBounds_toArray, List.set_cons_zero, List.set_cons_succ]
        refine wpAnyH_ready (rs := [10]) ?_ ?_ ?_
        · kernel_rfl
        · simp
        refine (AllReadyH.cons rfl (fun K hK => ?_) AllReadyH.nil)
        go_simp
        refine hK.out _ _ ?_ (fun hHeld => ?_)
        · ((try dsimp only); (first | exact hHeld | exact KS.out _ hdr | exact KS.out _ HGA.out))
        clear hK K
        try simp only [Act.put, List.setIfInBounds_toArray, List.set_cons_zero, List.set_cons_succ]
        refine wpAnyH_ready (rs := [11]) ?_ ?_ ?_
        · kernel_rfl
        · simp
        refine (AllReadyH.cons rfl (fun K hK => ?_) AllReadyH.nil)
        go_simp
        refine hK.out _ _ ?_ (fun hHeld => ?_)
        · ((try dsimp only); (first | exact hHeld | exact KS.out _ hdr | exact KS.out _ HGA.out))
        clear hK K
        try simp only [Act.put, List.setIfInBounds_toArray, List.set_cons_zero, List.set_cons_succ]
        refine take_in (i := 14) (v := ?_) (d := (some 6)) rfl rfl ?_ ?_ ?_ ?_ ?_ ?_ ?_ ?_
        rotate_left
        · kernel_rfl
        · kernel_rfl
        · kernel_rfl
        · (intro _ _ _ hq; exact hq)
        · rfl
        · (intro _w hSw; (try dsimp only at hSw); go_simp; try with_reducible rfl)
        · assumption
        try simp only [Act.put, List.setIfInBounds_toArray, List.set_cons_zero, List.set_cons_succ]
        refine take_in (i := 15) (v := ?_) (d := (some 7)) rfl rfl ?_ ?_ ?_ ?_ ?_ ?_ ?_ ?_
        rotate_left
        · kernel_rfl
        · kernel_rfl
        · kernel_rfl
        · (intro _ _ _ hq; exact hq)
        · rfl
        · (intro _w hSw; (try dsimp only at hSw); go_simp; try with_reducible rfl)
        · assumption
        try simp only [Act.put, List.setIfInBounds_toArray, List.set_cons_zero, List.set_cons_succ]
        refine wpAnyH_done ?_ ?_ _
        · kernel_rfl
        rotate_left
        all_goals
          have hgr5 := hgr2.trans HGA.out
          clear HGA KS hdr hHeld z0 z1 z2 HF1 q1 q3 q6 q7 he1
          go_wp2_with fail
          refine bodyPost_ret (v := .tuple #[.int .i64 (L : Int), .int .i64 (F : Int), .int .i64 (y0 : Int), .int .i64 0]) ?_ ?_ ?_
          · simp [results, Try.results34, go_sem]
          · rfl
          · exact ⟨by rw [HRR.out, HY1.out, HY0.out], hgr5⟩

end Go.Proofs.Ytndmbjicflcpmaa
