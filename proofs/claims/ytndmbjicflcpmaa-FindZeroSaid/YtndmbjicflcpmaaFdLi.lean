/- Layer 7: the law of the zero value. -/
import Derived.Test.YtndmbjicflcpmaaFdLd
import Derived.Test.YtndmbjicflcpmaaFdH
import Derived.Test.YtndmbjicflcpmaaFdLh
namespace Go.Proofs.Ytndmbjicflcpmaa
open Go.RowKit Go.Shelf
set_option linter.unusedSimpArgs false

/-- A list that may be written: none of its cells lies below base. -/
def WrB (base : Nat) (w : World) (A : Option Addr) (n : Nat) : Prop := n = 0 ∨ ∃ g f, A = some ⟨g, 0, none⟩ ∧ base ≤ g ∧ FB 3 w g n f
theorem WrB.keep {base : Nat} {w w' : World} {A : Option Addr} {n : Nat} (h : WrB base w A n) (hg : Gr w w') : WrB base w' A n := by
  rcases h with h | ⟨g, f, h1, h2, h3⟩
  · exact Or.inl h
  · exact Or.inr ⟨g, f, h1, h2, h3.keep hg⟩
theorem WrB.set {base : Nat} {w : World} {A : Option Addr} {n : Nat} (h : WrB base w A n) (g' i : Nat) (v : Int) : WrB base (w.setCell ⟨g', i, none⟩ (.int .i64 v)) A n := by
  rcases h with h | ⟨g, f, h1, h2, h3⟩
  · exact Or.inl h
  · by_cases e : g = g'
    · subst e; exact Or.inr ⟨g, _, h1, h2, h3.put i v⟩
    · exact Or.inr ⟨g, f, h1, h2, h3.other (p := ⟨g', i, none⟩) e _⟩
theorem WrB.of {base b : Nat} {w : World} {A : Option Addr} {n c : Nat} {l : List Nat} (h : w.ownsRow b 3 1 (.slice A n c) n (flatE enc1 (nI l))) (hb : base ≤ b) : WrB base w A n := by
  rcases Nat.eq_zero_or_pos n with h0 | h0
  · exact Or.inl h0
  · obtain ⟨g, c', e, -⟩ := owns_shape h h0
    injection e with e1 e2 e3
    subst e1
    exact Or.inr ⟨g, _, rfl, Nat.le_trans hb (h.lt g rfl).1, owns_FB h⟩
theorem occN_nil (T : List UInt8) : occN T [] = T.length := by
  unfold occN
  exact (List.countP_eq_length.2 (fun i _ => rfl)).trans List.length_range
theorem occN_none (p : List UInt8) : occN [] p = 0 := rfl

set_option maxRecDepth 1000000 in
set_option maxHeartbeats 32000000 in
theorem lawZero_any (s0 p : ByteArray) (x : Int) (w : World) : Calls Try.prog 15 #[.string s0, .string p, .int .i64 x] w fun e w' => e = .returned (.bool true) ∧ Gr w w' := by
  obtain ⟨k0, hk0⟩ : ∃ k : Nat, min s0.size 200 = k := ⟨_, rfl⟩
  have hmn : min (s0.size : Int) 200 = (k0 : Int) := by omega
  have h1 : k0 ≤ s0.size := by omega
  have h1i : (k0 : Int) ≤ (s0.size : Int) := by omega
  have hkb : k0 ≤ 200 := by omega
  obtain ⟨s, hs⟩ : ∃ s, s0.extract 0 k0 = s := ⟨_, rfl⟩
  have hsz : s.size = k0 := by rw [← hs]; exact size_take s0 k0 h1
  have HS := Lib.hid hs
  clear hk0 hs
  have HRP := Lib.hid (fun W => repeat_any ⟨#[]⟩ 0 0 0 [] none none W (idx_zero W))
  have HSH := Lib.hid (fun W => shortest_any ⟨#[]⟩ 0 0 0 x [] none none W (idx_zero W))
  have HTX := Lib.hid (fun W => text_any ⟨#[]⟩ 0 0 0 none none W)
  have HOR := Lib.hid (fun W => order_any ⟨#[]⟩ 0 0 0 [] none none W (idx_zero W))
  have HOV := Lib.hid (fun W => overlaps_any ⟨#[]⟩ 0 0 0 [] none none W (idx_zero W))
  have HCT := Lib.hid (fun W => count_any ⟨#[]⟩ p 0 0 0 [] none none W (idx_zero W))
  have HFN := Lib.hid (fun W => find_any ⟨#[]⟩ p 0 0 0 [] none none W (idx_zero W))
  have HDS := Lib.hid (fun W => distinct_any ⟨#[]⟩ 0 0 0 [] none none W (idx_zero W))
  have e1 : repV ⟨#[]⟩ [] 0 = .tuple #[.string ⟨#[]⟩, .int .i64 0, .int .i64 6] := by kernel_rfl
  have e2 : shoV (bts ⟨#[]⟩) 0 x = .tuple #[.int .i64 0, .int .i64 2] := by unfold shoV; rw [if_pos (by omega)]
  have e3 : occN (bts ⟨#[]⟩) (bts p) = 0 := occN_none _
  have e4 : dstN (bts ⟨#[]⟩) [] 0 = 0 := rfl
  rw [e1] at HRP
  rw [e2] at HSH
  rw [e3] at HCT HFN
  rw [e4] at HDS
  clear e1 e2 e3 e4
  go_enter Try.func15, Try.ntmps15
  go_upto_region 2 with fail
  generalize hW1 : World.alloc w _ = w1
  obtain ⟨X, hXX⟩ : ∃ X, w.heap.size = X := ⟨_, rfl⟩
  rw [hXX]
  have hg1 : Gr w w1 := by rw [← hW1]; exact (Gr.refl _).alloc _
  have HB : Hid (Blk w1 X 25 #[.string ⟨#[]⟩, .slice none 0 0, .slice none 0 0]) := Lib.hid (by rw [← hW1]; exact Blk.new w _ _ hXX)
  have KS : Hid (∀ W', Gr w1 W' → W'.cell? ⟨X, 0, none⟩ = some (.string ⟨#[]⟩) ∧ W'.cell? ⟨X, 1, none⟩ = some (.slice none 0 0) ∧ W'.cell? ⟨X, 2, none⟩ = some (.slice none 0 0)) := Lib.hid (fun W' h => ⟨h.keep (HB.out.cell 0), h.keep (HB.out.cell 1), h.keep (HB.out.cell 2)⟩)
  clear hW1 hXX
  have hr := Gr.refl w1
  obtain ⟨z0, z1, z2⟩ := KS.out w1 hr
  have HC := Lib.hid (HRP.out w1)
  go_wp2_with fail
  refine HC.out.mono ?_
  rintro e w2 ⟨rfl, hg2⟩
  have hr2 := hr.trans hg2
  clear HC z0 z1 z2 HRP
  obtain ⟨z0, z1, z2⟩ := KS.out _ hr2
  have HC := Lib.hid (HSH.out w2)
  go_wp2_with fail
  refine HC.out.mono ?_
  rintro e w3 ⟨rfl, hg3⟩
  have hr3 := hr2.trans hg3
  clear HC z0 z1 z2 HSH
  obtain ⟨z0, z1, z2⟩ := KS.out _ hr3
  have HC := Lib.hid (HTX.out w3)
  go_wp2_with fail
  refine HC.out.mono ?_
  rintro e w4 ⟨rfl, hg4⟩
  have hr4 := hr3.trans hg4
  clear HC z0 z1 z2 HTX
  obtain ⟨z0, z1, z2⟩ := KS.out _ hr4
  have HC := Lib.hid (HOR.out w4)
  go_wp2_with fail
  refine HC.out.mono ?_
  rintro e w5 ⟨A5, c5, rfl, -, hg5⟩
  have hr5 := hr4.trans hg5
  clear HC z0 z1 z2 HOR
  obtain ⟨z0, z1, z2⟩ := KS.out _ hr5
  have HC := Lib.hid (HOV.out w5)
  go_wp2_with fail
  refine HC.out.mono ?_
  rintro e w6 ⟨A6, c6, rfl, -, hg6⟩
  have hr6 := hr5.trans hg6
  clear HC z0 z1 z2 HOV
  obtain ⟨z0, z1, z2⟩ := KS.out _ hr6
  have HC := Lib.hid (HCT.out w6)
  go_wp2_with fail
  refine HC.out.mono ?_
  rintro e w7 ⟨rfl, hg7⟩
  have hr7 := hr6.trans hg7
  clear HC z0 z1 z2 HCT
  obtain ⟨z0, z1, z2⟩ := KS.out _ hr7
  have HC := Lib.hid (HFN.out w7)
  go_wp2_with fail
  refine HC.out.mono ?_
  rintro e w8 ⟨A8, c8, rfl, -, hg8⟩
  have hr8 := hr7.trans hg8
  clear HC z0 z1 z2 HFN
  obtain ⟨z0, z1, z2⟩ := KS.out _ hr8
  have HC := Lib.hid (HDS.out w8)
  go_wp2_with fail
  refine HC.out.mono ?_
  rintro e w9 ⟨rfl, hg9⟩
  have hgr9 := hg1.trans (hr8.trans hg9)
  clear HC z0 z1 z2 HDS KS HB hr hr2 hr3 hr4 hr5 hr6 hr7 hr8
  go_upto_region 7 with fail
  rw [HS.out]
  clear hmn h1 h1i HS
  subst hsz
  obtain ⟨n, hn⟩ : ∃ n, s.size = n := ⟨_, rfl⟩
  have hni : (s.size : Int) = (n : Int) := by omega
  have hnb : n ≤ 200 := by omega
  have HSZ := Lib.hid hn
  have HT := Lib.hid (new_yes s n w9 hn (by omega))
  clear hn hkb
  go_wp2_with fail
  refine HT.out.mono ?_
  rintro e w10 ⟨o, G, V, rfl, hX, hg10⟩
  have HX := Lib.hid hX
  have hgr10 := hgr9.trans hg10
  have HON : Hid (occN (bts s) (bts ⟨#[]⟩) = n) := Lib.hid ((occN_nil (bts s)).trans hX.tlen)
  clear HT hX
  go_upto_region 8 with fail
  generalize hW2 : World.alloc w10 _ = w11
  obtain ⟨Z, hXX⟩ : ∃ X, w10.heap.size = X := ⟨_, rfl⟩
  rw [hXX]
  have hg11 : Gr w10 w11 := by rw [← hW2]; exact (Gr.refl _).alloc _
  have HB : Hid (Blk w11 Z 25 #[.string s, .slice (some ⟨G, 0, none⟩) n n, .slice (some ⟨V, 0, none⟩) n n]) := Lib.hid (by rw [← hW2]; exact Blk.new w10 _ _ hXX)
  clear hW2 hXX
  have KS : Hid (∀ W', Gr w11 W' → W'.cell? ⟨Z, 0, none⟩ = some (.string s) ∧ W'.cell? ⟨Z, 1, none⟩ = some (.slice (some ⟨G, 0, none⟩) n n) ∧ W'.cell? ⟨Z, 2, none⟩ = some (.slice (some ⟨V, 0, none⟩) n n)) := Lib.hid (fun W' h => ⟨h.keep (HB.out.cell 0), h.keep (HB.out.cell 1), h.keep (HB.out.cell 2)⟩)
  have K2 : Hid (∀ W', Gr w11 W' → Gr w11 W' ∧ W'.cell? ⟨Z, 0, none⟩ = some (.string s) ∧ W'.cell? ⟨Z, 1, none⟩ = some (.slice (some ⟨G, 0, none⟩) n n) ∧ W'.cell? ⟨Z, 2, none⟩ = some (.slice (some ⟨V, 0, none⟩) n n)) := Lib.hid (fun W' h => ⟨h, KS.out W' h⟩)
  have HF1 := Lib.hid (fun W (hW : Gr w11 W) => order_any s n n n o _ _ W (HX.out.keep (hg11.trans hW)))
  have HF2 := Lib.hid (fun W (hW : Gr w11 W) => overlaps_any s n n n o _ _ W (HX.out.keep (hg11.trans hW)))
  have HF3 := Lib.hid (fun W (hW : Gr w11 W) => find_any s ⟨#[]⟩ n n n o _ _ W (HX.out.keep (hg11.trans hW)))
  rw [HON.out] at HF3
  have hdr : Gr w11 w11.drew := (Gr.refl w11).drew
  refine wp_region_held_drew (S := (fun W' => Gr w11 W' ∧ W'.cell? ⟨Z, 0, none⟩ = some (.string s) ∧ W'.cell? ⟨Z, 1, none⟩ = some (.slice (some ⟨G, 0, none⟩) n n) ∧ W'.cell? ⟨Z, 2, none⟩ = some (.slice (some ⟨V, 0, none⟩) n n))) ?_ ?_ (fun hHeld => ?_)
  · kernel_rfl
  · ((try dsimp only); (first | exact hHeld | exact K2.out _ hdr | exact K2.out _ HGA.out))
  refine take_in (i := 0) (v := ?_) (d := (some 97)) rfl rfl ?_ ?_ ?_ ?_ ?_ ?_ ?_ ?_
  rotate_left
  · kernel_rfl
  · kernel_rfl
  · kernel_rfl
  · (intro _ _ _ hq; exact hq)
  · rfl
  · (intro _w hSw; (try dsimp only at hSw); go_simp; try with_reducible rfl)
  · assumption
  try simp only [Act.put, List.setIfInBounds_toArray, List.set_cons_zero, List.set_cons_succ]
  refine take_in (i := 2) (v := ?_) (d := (some 99)) rfl rfl ?_ ?_ ?_ ?_ ?_ ?_ ?_ ?_
  rotate_left
  · kernel_rfl
  · kernel_rfl
  · kernel_rfl
  · (intro _ _ _ hq; exact hq)
  · rfl
  · (intro _w hSw; (try dsimp only at hSw); go_simp; try with_reducible rfl)
  · assumption
  try simp only [Act.put, List.setIfInBounds_toArray, List.set_cons_zero, List.set_cons_succ]
  refine take_in (i := 4) (v := ?_) (d := (some 101)) rfl rfl ?_ ?_ ?_ ?_ ?_ ?_ ?_ ?_
  rotate_left
  · kernel_rfl
  · kernel_rfl
  · kernel_rfl
  · (intro _ _ _ hq; exact hq)
  · rfl
  · (intro _w hSw; (try dsimp only at hSw); go_simp; try with_reducible rfl)
  · assumption
  try simp only [Act.put, List.setIfInBounds_toArray, List.set_cons_zero, List.set_cons_succ]
  refine wpAnyH_ready (rs := [1]) ?_ ?_ ?_
  · kernel_rfl
  · simp
  refine (AllReadyH.cons rfl (fun K hK => ?_) AllReadyH.nil)
  go_simp
  first | (go_at_call 19; ((with_reducible refine (HF1.out _ hHeld.1).mono ?_)); rintro e w12 ⟨A12, c12, rfl, hown12, hg12⟩; have HGA := Lib.hid (hHeld.1.trans hg12); have HG1 := Lib.hid hg12; have HP1 := Lib.hid (WrB.of hown12 hHeld.1.size); clear hg12 hown12) | (go_at_call 23; ((with_reducible refine (HF2.out _ hHeld.1).mono ?_)); rintro e w13 ⟨A13, c13, rfl, hown13, hg13⟩; have HGA := Lib.hid (hHeld.1.trans hg13); have HG2 := Lib.hid hg13; have HP2 := Lib.hid (WrB.of hown13 hHeld.1.size); clear hg13 hown13) | (go_at_call 26; ((with_reducible refine (HF3.out _ hHeld.1).mono ?_)); rintro e w14 ⟨A14, c14, rfl, hown14, hg14⟩; have HGA := Lib.hid (hHeld.1.trans hg14); have HG3 := Lib.hid hg14; have HP3 := Lib.hid (WrB.of hown14 hHeld.1.size); clear hg14 hown14)
  refine hK.out _ _ ?_ (fun hHeld => ?_)
  · ((try dsimp only); (first | exact hHeld | exact K2.out _ hdr | exact K2.out _ HGA.out))
  clear hK K
  try simp only [Act.put, List.setIfInBounds_toArray, List.set_cons_zero, List.set_cons_succ]
  refine wpAnyH_ready (rs := [3]) ?_ ?_ ?_
  · kernel_rfl
  · simp
  refine (AllReadyH.cons rfl (fun K hK => ?_) AllReadyH.nil)
  go_simp
  first | (go_at_call 19; ((with_reducible refine (HF1.out _ hHeld.1).mono ?_)); rintro e w12 ⟨A12, c12, rfl, hown12, hg12⟩; have HGA := Lib.hid (hHeld.1.trans hg12); have HG1 := Lib.hid hg12; have HP1 := Lib.hid (WrB.of hown12 hHeld.1.size); clear hg12 hown12) | (go_at_call 23; ((with_reducible refine (HF2.out _ hHeld.1).mono ?_)); rintro e w13 ⟨A13, c13, rfl, hown13, hg13⟩; have HGA := Lib.hid (hHeld.1.trans hg13); have HG2 := Lib.hid hg13; have HP2 := Lib.hid (WrB.of hown13 hHeld.1.size); clear hg13 hown13) | (go_at_call 26; ((with_reducible refine (HF3.out _ hHeld.1).mono ?_)); rintro e w14 ⟨A14, c14, rfl, hown14, hg14⟩; have HGA := Lib.hid (hHeld.1.trans hg14); have HG3 := Lib.hid hg14; have HP3 := Lib.hid (WrB.of hown14 hHeld.1.size); clear hg14 hown14)
  refine hK.out _ _ ?_ (fun hHeld => ?_)
  · ((try dsimp only); (first | exact hHeld | exact K2.out _ hdr | exact K2.out _ HGA.out))
  clear hK K
  try simp only [Act.put, List.setIfInBounds_toArray, List.set_cons_zero, List.set_cons_succ]
  refine wpAnyH_ready (rs := [5]) ?_ ?_ ?_
  · kernel_rfl
  · simp
  refine (AllReadyH.cons rfl (fun K hK => ?_) AllReadyH.nil)
  go_simp
  first | (go_at_call 19; ((with_reducible refine (HF1.out _ hHeld.1).mono ?_)); rintro e w12 ⟨A12, c12, rfl, hown12, hg12⟩; have HGA := Lib.hid (hHeld.1.trans hg12); have HG1 := Lib.hid hg12; have HP1 := Lib.hid (WrB.of hown12 hHeld.1.size); clear hg12 hown12) | (go_at_call 23; ((with_reducible refine (HF2.out _ hHeld.1).mono ?_)); rintro e w13 ⟨A13, c13, rfl, hown13, hg13⟩; have HGA := Lib.hid (hHeld.1.trans hg13); have HG2 := Lib.hid hg13; have HP2 := Lib.hid (WrB.of hown13 hHeld.1.size); clear hg13 hown13) | (go_at_call 26; ((with_reducible refine (HF3.out _ hHeld.1).mono ?_)); rintro e w14 ⟨A14, c14, rfl, hown14, hg14⟩; have HGA := Lib.hid (hHeld.1.trans hg14); have HG3 := Lib.hid hg14; have HP3 := Lib.hid (WrB.of hown14 hHeld.1.size); clear hg14 hown14)
  refine hK.out _ _ ?_ (fun hHeld => ?_)
  · ((try dsimp only); (first | exact hHeld | exact K2.out _ hdr | exact K2.out _ HGA.out))
  clear hK K
  try simp only [Act.put, List.setIfInBounds_toArray, List.set_cons_zero, List.set_cons_succ]
  refine take_in (i := 6) (v := ?_) (d := (some 15)) rfl rfl ?_ ?_ ?_ ?_ ?_ ?_ ?_ ?_
  rotate_left
  · kernel_rfl
  · kernel_rfl
  · kernel_rfl
  · (intro _ _ _ hq; exact hq)
  · rfl
  · (intro _w hSw; (try dsimp only at hSw); go_simp; try with_reducible rfl)
  · assumption
  try simp only [Act.put, List.setIfInBounds_toArray, List.set_cons_zero, List.set_cons_succ]
  refine take_in (i := 7) (v := ?_) (d := (some 16)) rfl rfl ?_ ?_ ?_ ?_ ?_ ?_ ?_ ?_
  rotate_left
  · kernel_rfl
  · kernel_rfl
  · kernel_rfl
  · (intro _ _ _ hq; exact hq)
  · rfl
  · (intro _w hSw; (try dsimp only at hSw); go_simp; try with_reducible rfl)
  · assumption
  try simp only [Act.put, List.setIfInBounds_toArray, List.set_cons_zero, List.set_cons_succ]
  refine take_in (i := 8) (v := ?_) (d := (some 17)) rfl rfl ?_ ?_ ?_ ?_ ?_ ?_ ?_ ?_
  rotate_left
  · kernel_rfl
  · kernel_rfl
  · kernel_rfl
  · (intro _ _ _ hq; exact hq)
  · rfl
  · (intro _w hSw; (try dsimp only at hSw); go_simp; try with_reducible rfl)
  · assumption
  try simp only [Act.put, List.setIfInBounds_toArray, List.set_cons_zero, List.set_cons_succ]
  refine wpAnyH_done ?_ ?_ _
  · kernel_rfl
  rotate_left
  all_goals
    have o1 := pick HGA.out (fun W => WrB w11.heap.size W A12 n) (HP1.out.keep (by first | exact Gr.refl _ | exact HG2.out | exact HG3.out | exact HG2.out.trans HG3.out | exact HG3.out.trans HG2.out))
    have o2 := pick HGA.out (fun W => WrB w11.heap.size W A13 n) (HP2.out.keep (by first | exact Gr.refl _ | exact HG1.out | exact HG3.out | exact HG1.out.trans HG3.out | exact HG3.out.trans HG1.out))
    have o3 := pick HGA.out (fun W => WrB w11.heap.size W A14 n) (HP3.out.keep (by first | exact Gr.refl _ | exact HG2.out | exact HG1.out | exact HG2.out.trans HG1.out | exact HG1.out.trans HG2.out))
    have HW := Lib.hid (And.intro o1 (And.intro o2 o3))
    have hgc := HGA.out
    clear o1 o2 o3 HGA HG1 HG2 HG3 HP1 HP2 HP3 HF1 HF2 HF3 hHeld hdr K2
    go_wp2_with fail
    go_loopw [18] (fun z wr => ∃ k : Nat, k ≤ n ∧ z = .int .i64 (k : Int) ∧ Hid (WrB w11.heap.size wr A12 n ∧ WrB w11.heap.size wr A13 n ∧ WrB w11.heap.size wr A14 n) ∧ Gr w11 wr) (fun z _ => n - (intOf z).toNat)
    case atStart => exact ⟨0, Nat.zero_le _, rfl, HW, hgc⟩
    case round =>
      clear HW hgc
      obtain ⟨k, hk, rfl, hw, hgr⟩ := hrel
      by_cases hlt : k < n
      · have hki : (k : Int) < (n : Int) := by omega
        rcases hw.out.1 with h0 | ⟨g, f, rfl, hbg, hF⟩
        · omega
        · have x0 := hF.at hlt
          have x1 := hF.free k
          have HG2 := Lib.hid (hgr.setCell (p := ⟨g, k, none⟩) hbg (.int .i64 (-1)))
          have HW2 := Lib.hid (And.intro (hw.out.1.set g k (-1)) (And.intro (hw.out.2.1.set g k (-1)) (hw.out.2.2.set g k (-1))))
          generalize f k = fk at x0
          clear hF hw
          go_wp2_with fail
          go_roundw
          case rel => exact ⟨k + 1, by omega, by go_num, HW2, HG2.out⟩
          case measure => simp [intOf]; omega
      · obtain rfl : n = k := by omega
        have HW := hw
        have hgc := hgr
        clear hw hgr hlt hk
        obtain ⟨wD, rfl⟩ : ∃ wD, wD = wr := ⟨_, rfl⟩
        go_wp2_with fail
        go_loopw [19] (fun z wr => ∃ k : Nat, k ≤ n ∧ z = .int .i64 (k : Int) ∧ Hid (WrB w11.heap.size wr A12 n ∧ WrB w11.heap.size wr A13 n ∧ WrB w11.heap.size wr A14 n) ∧ Gr w11 wr) (fun z _ => n - (intOf z).toNat)
        case atStart => exact ⟨0, Nat.zero_le _, rfl, HW, hgc⟩
        case round =>
          clear HW hgc
          obtain ⟨k, hk, rfl, hw, hgr⟩ := hrel
          by_cases hlt : k < n
          · have hki : (k : Int) < (n : Int) := by omega
            rcases hw.out.2.1 with h0 | ⟨g, f, rfl, hbg, hF⟩
            · omega
            · have x0 := hF.at hlt
              have x1 := hF.free k
              have HG2 := Lib.hid (hgr.setCell (p := ⟨g, k, none⟩) hbg (.int .i64 (-1)))
              have HW2 := Lib.hid (And.intro (hw.out.1.set g k (-1)) (And.intro (hw.out.2.1.set g k (-1)) (hw.out.2.2.set g k (-1))))
              generalize f k = fk at x0
              clear hF hw
              go_wp2_with fail
              go_roundw
              case rel => exact ⟨k + 1, by omega, by go_num, HW2, HG2.out⟩
              case measure => simp [intOf]; omega
          · obtain rfl : n = k := by omega
            have HW := hw
            have hgc := hgr
            clear hw hgr hlt hk
            obtain ⟨wD, rfl⟩ : ∃ wD, wD = wr := ⟨_, rfl⟩
            go_wp2_with fail
            go_loopw [20] (fun z wr => ∃ k : Nat, k ≤ n ∧ z = .int .i64 (k : Int) ∧ Hid (WrB w11.heap.size wr A12 n ∧ WrB w11.heap.size wr A13 n ∧ WrB w11.heap.size wr A14 n) ∧ Gr w11 wr) (fun z _ => n - (intOf z).toNat)
            case atStart => exact ⟨0, Nat.zero_le _, rfl, HW, hgc⟩
            case round =>
              clear HW hgc
              obtain ⟨k, hk, rfl, hw, hgr⟩ := hrel
              by_cases hlt : k < n
              · have hki : (k : Int) < (n : Int) := by omega
                rcases hw.out.2.2 with h0 | ⟨g, f, rfl, hbg, hF⟩
                · omega
                · have x0 := hF.at hlt
                  have x1 := hF.free k
                  have HG2 := Lib.hid (hgr.setCell (p := ⟨g, k, none⟩) hbg (.int .i64 (-1)))
                  have HW2 := Lib.hid (And.intro (hw.out.1.set g k (-1)) (And.intro (hw.out.2.1.set g k (-1)) (hw.out.2.2.set g k (-1))))
                  generalize f k = fk at x0
                  clear hF hw
                  go_wp2_with fail
                  go_roundw
                  case rel => exact ⟨k + 1, by omega, by go_num, HW2, HG2.out⟩
                  case measure => simp [intOf]; omega
              · obtain rfl : n = k := by omega
                have hgc := hgr
                clear hw hlt hk
                have HR3 := Lib.hid (rOrder_any s n wr HSZ.out (by omega))
                go_wp2_with fail
                refine HR3.out.mono ?_
                rintro e w15 ⟨A15, c15, o', rfl, ho', hown15, hg15⟩
                obtain rfl : o' = o := ho'.one HX.out.ord
                have HOL : Hid (o'.length = n) := Lib.hid HX.out.olen
                have HI3 : Hid (Ints w15 A15 (nI o')) := Lib.hid (ints_of_owns HOL.out hown15)
                have hr := hgc.trans hg15
                obtain ⟨z0, z1, z2⟩ := KS.out _ hr
                have HC := Lib.hid (order_any s n n n o' _ _ w15 (HX.out.keep (hg11.trans hr)))
                clear HR3 hown15 ho'
                go_wp2_with fail
                refine HC.out.mono ?_
                rintro e w16 ⟨A16, c16, rfl, hown16, hg16⟩
                have HIN := Lib.hid (ints_any A16 A15 n c16 n c15 o' o' w16 HOL.out HOL.out (by omega) (by omega) (ints_of_owns HOL.out hown16) (HI3.out.keep hg16))
                rw [decide_eq_true rfl] at HIN
                clear HC z0 z1 z2 hown16
                go_wp2_with fail
                refine HIN.out.mono ?_
                rintro e w17 ⟨rfl, hg17⟩
                have hr17 := (hr.trans hg16).trans hg17
                have hg1517 := hg16.trans hg17
                obtain ⟨z0, z1, z2⟩ := KS.out _ hr17
                have HC := Lib.hid (overlaps_any s n n n o' _ _ w17 (HX.out.keep (hg11.trans hr17)))
                clear HIN
                go_wp2_with fail
                refine HC.out.mono ?_
                rintro e w18 ⟨A18, c18, rfl, hown18, hg18⟩
                have HVL : Hid ((ovsL (bts s) o').length = n) := Lib.hid (by rw [ovsL_len]; exact HOL.out)
                have HI7 : Hid (Ints w18 A18 (nI (ovsL (bts s) o'))) := Lib.hid (ints_of_owns HVL.out hown18)
                have HRV := Lib.hid (rOverlaps_any s A15 n c15 o' w18 HSZ.out (by omega) HX.out.ord (HI3.out.keep (hg1517.trans hg18)))
                clear HC z0 z1 z2 hown18
                go_wp2_with fail
                refine HRV.out.mono ?_
                rintro e w19 ⟨A19, c19, rfl, hown19, hg19⟩
                have HIN := Lib.hid (ints_any A18 A19 n c18 n c19 (ovsL (bts s) o') (ovsL (bts s) o') w19 HVL.out HVL.out (by omega) (by omega) (HI7.out.keep hg19) (ints_of_owns HVL.out hown19))
                rw [decide_eq_true rfl] at HIN
                clear HRV hown19
                go_wp2_with fail
                refine HIN.out.mono ?_
                rintro e w20 ⟨rfl, hg20⟩
                have hr20 := ((hr17.trans hg18).trans hg19).trans hg20
                obtain ⟨z0, z1, z2⟩ := KS.out _ hr20
                have HC := Lib.hid (find_any s ⟨#[]⟩ n n n o' _ _ w20 (HX.out.keep (hg11.trans hr20)))
                rw [HON.out] at HC
                clear HIN
                go_wp2_with fail
                refine HC.out.mono ?_
                rintro e w21 ⟨A21, c21, rfl, -, hg21⟩
                have hr21 := hgr10.trans (hg11.trans (hr20.trans hg21))
                have HA := Lib.hid (awake_any w21)
                clear HC z0 z1 z2
                go_wp2_with fail
                refine HA.out.mono ?_
                rintro e w22 ⟨rfl, hg22⟩
                clear HA
                go_wp2_with fail
                go_ret
                exact ⟨rfl, hr21.trans hg22⟩

end Go.Proofs.Ytndmbjicflcpmaa
