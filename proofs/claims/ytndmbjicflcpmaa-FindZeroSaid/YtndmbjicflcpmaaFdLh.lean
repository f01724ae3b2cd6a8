/- Layer 7: the law of both texts. -/
import Derived.Test.YtndmbjicflcpmaaFdLg
import Derived.Test.YtndmbjicflcpmaaFdLc
namespace Go.Proofs.Ytndmbjicflcpmaa
open Go.RowKit Go.Shelf
set_option linter.unusedSimpArgs false

theorem lg_ge {A B : List UInt8} {i j : Nat} (hi : i < A.length) (hj : j < B.length) : lcp (A.drop i) (B.drop j) ≤ (lgF A B A.length).1 :=
  Nat.le_trans (bst_ge A B i B.length j hj) ((lg_fact A B A.length (Nat.le_refl _)).1 i hi)
theorem lg_le (A B : List UInt8) : (lgF A B A.length).1 ≤ (lgF B A B.length).1 := by
  rcases (lg_fact A B A.length (Nat.le_refl _)).2 with ⟨h, _⟩ | ⟨h0, h1, h2, _⟩
  · omega
  · rcases bst_at A B (lgF A B A.length).2 B.length with h | ⟨k, h3, h4⟩
    · omega
    · rw [← h2, ← h4, lcp_comm]
      exact lg_ge h3 h1
theorem lg_sym (A B : List UInt8) : (lgF A B A.length).1 = (lgF B A B.length).1 := Nat.le_antisymm (lg_le A B) (lg_le B A)
/-- What the law asks of the answer. -/
theorem both_fact {A B : List UInt8} {L F Y : Nat} (h : lgF A B A.length = (L, F)) (hy : comY A B = Y) :
    F + L ≤ A.length ∧ Y + L ≤ B.length ∧ (∀ c l, c < A.length → L < l → c + l ≤ A.length → occN B ((A.drop c).take l) = 0) ∧
    (L = 0 → F = 0 ∧ Y = 0) ∧ (L ≠ 0 → 0 < occN A ((A.drop F).take L) ∧ 0 < occN B ((A.drop F).take L) ∧ (occL A ((A.drop F).take L)).getD 0 0 = F ∧ (occL B ((A.drop F).take L)).getD 0 0 = Y ∧ ∀ c, c < F → occN B ((A.drop c).take L) = 0) := by
  obtain ⟨f1, f2⟩ := lg_fact A B A.length (Nat.le_refl _)
  have htop := lg_top A B (k := A.length) (Nat.le_refl _)
  obtain ⟨a1, a2, a3⟩ := lonF_fact A B A.length
  have hcl := com_lon A B
  rw [h] at f1 f2 htop a1 a2 a3
  dsimp only at f1 f2 htop a1 a2 a3
  rw [hcl, hy] at a3
  dsimp only at a3
  refine ⟨htop, ?_, fun c l hc hl hcl => ?_, fun h0 => ?_, fun h0 => ?_⟩
  · rcases a3 with ⟨h1, h2⟩ | ⟨_, h1, h2, _⟩
    · omega
    · have := (lcp_le (A.drop F) (B.drop Y)).2
      rw [List.length_drop] at this
      omega
  · refine Nat.eq_zero_of_not_pos (fun hp => ?_)
    have := (occ_pos (B := B) (by omega) hcl).1 hp
    have := f1 c hc
    omega
  · rcases f2 with ⟨_, e⟩ | ⟨e, _⟩
    · refine ⟨e, ?_⟩
      rcases a3 with ⟨_, e2⟩ | ⟨e2, _⟩
      · exact e2
      · exact absurd h0 e2
    · exact absurd h0 e
  · rcases f2 with ⟨e, _⟩ | ⟨_, g1, g2, g3⟩
    · exact absurd e h0
    rcases a3 with ⟨e, _⟩ | ⟨_, y1, y2, y3⟩
    · exact absurd e h0
    have hself : F ∈ occL A ((A.drop F).take L) := occL_mem.2 ⟨g1, (pre_piece htop).2 (by rw [lcp_self, List.length_drop]; omega)⟩
    have hYm : Y ∈ occL B ((A.drop F).take L) := occL_mem.2 ⟨y1, (pre_piece htop).2 (by omega)⟩
    refine ⟨by rw [← occL_len]; exact List.length_pos_of_mem hself, by rw [← occL_len]; exact List.length_pos_of_mem hYm, ?_, ?_, fun c hc => ?_⟩
    · refine occ_first hself (fun i hi hm => ?_)
      have h5 := (pre_piece (B := A) (k := i) htop).1 (occL_mem.1 hm).2
      have h6 := g3 i hi
      have h7 := bst_ge A B i B.length Y y1
      have e1 : L ≤ lcp (A.drop i) (B.drop Y) := by
        have t1 := (lcp_take (A.drop F) (A.drop i) L).1 h5
        have t2 := (lcp_take (A.drop F) (B.drop Y) L).1 (by omega)
        exact (lcp_take _ _ _).2 ⟨t1.2.1, t2.2.1, by rw [← t1.2.2, t2.2.2]⟩
      omega
    · refine occ_first hYm (fun j hj hm => ?_)
      have h5 := (pre_piece (B := B) (k := j) htop).1 (occL_mem.1 hm).2
      have := y3 j hj
      omega
    · refine Nat.eq_zero_of_not_pos (fun hp => ?_)
      have := (occ_pos (B := B) (i := c) (l := L) (by omega) (by omega)).1 hp
      have := g3 c hc
      omega
theorem pick {w wc : World} (_h : Gr w wc) (p : World → Prop) (hp : p wc) : p wc := hp

set_option maxRecDepth 1000000 in
set_option maxHeartbeats 32000000 in
theorem lawBoth_any (a0 b0 : ByteArray) (w : World) : Calls Try.prog 14 #[.string a0, .string b0] w fun e w' => e = .returned (.bool true) ∧ Gr w w' := by
  obtain ⟨ka, hka⟩ : ∃ k : Nat, min a0.size 300 = k := ⟨_, rfl⟩
  obtain ⟨kb, hkb⟩ : ∃ k : Nat, min b0.size 300 = k := ⟨_, rfl⟩
  have hmna : min (a0.size : Int) 300 = (ka : Int) := by omega
  have hmnb : min (b0.size : Int) 300 = (kb : Int) := by omega
  have h1 : ka ≤ a0.size := by omega
  have h2 : kb ≤ b0.size := by omega
  have h1i : (ka : Int) ≤ (a0.size : Int) := by omega
  have h2i : (kb : Int) ≤ (b0.size : Int) := by omega
  have hb1 : ka ≤ 300 := by omega
  have hb2 : kb ≤ 300 := by omega
  obtain ⟨a, hsa⟩ : ∃ s, a0.extract 0 ka = s := ⟨_, rfl⟩
  obtain ⟨b, hsb⟩ : ∃ s, b0.extract 0 kb = s := ⟨_, rfl⟩
  have hza : a.size = ka := by rw [← hsa]; exact size_take a0 ka h1
  have hzb : b.size = kb := by rw [← hsb]; exact size_take b0 kb h2
  have HSA := Lib.hid hsa
  have HSB := Lib.hid hsb
  clear hka hkb hsa hsb
  go_enter Try.func14, Try.ntmps14
  go_upto_region 1 with fail
  go_quiet (fail)
  rw [HSA.out, HSB.out]
  generalize hwq : w.drewN _ = w0
  have hg0 : Gr w w0 := by rw [← hwq]; exact (Gr.refl w).drewN _
  clear hmna hmnb h1 h2 h1i h2i HSA HSB hwq
  subst hza hzb
  obtain ⟨n, hn⟩ : ∃ n, a.size = n := ⟨_, rfl⟩
  obtain ⟨q, hq⟩ : ∃ q, b.size = q := ⟨_, rfl⟩
  have HNA := Lib.hid hn
  have HNB := Lib.hid hq
  have hnb : n ≤ 300 := by omega
  have hqb : q ≤ 300 := by omega
  have hni : (a.size : Int) = (n : Int) := by omega
  have hqi : (b.size : Int) = (q : Int) := by omega
  have HC1 := Lib.hid (common_yes a b n q w0 hn hq (by omega) (by omega))
  have HC2 := Lib.hid (fun W => common_yes b a q n W hq hn (by omega) (by omega))
  have HNX := Lib.hid (fun W => new_yes a n W hn (by omega))
  have HNY := Lib.hid (fun W => new_yes b q W hq (by omega))
  have hsym := lg_sym (bts a) (bts b)
  rw [bts_len, bts_len, hn, hq] at hsym
  obtain ⟨⟨L, F⟩, hlg⟩ : ∃ r, lgF (bts a) (bts b) n = r := ⟨_, rfl⟩
  obtain ⟨Y, hY⟩ : ∃ y, comY (bts a) (bts b) = y := ⟨_, rfl⟩
  have HBF := Lib.hid (both_fact (A := bts a) (B := bts b) (L := L) (F := F) (Y := Y) (by rw [bts_len, hn]; exact hlg) hY)
  rw [hlg, hY] at HC1
  rw [hlg] at hsym
  dsimp only at HC1 hsym
  rw [← hsym] at HC2
  have hf1 := HBF.out.1
  have hf2 := HBF.out.2.1
  rw [bts_len, hn] at hf1
  rw [bts_len, hq] at hf2
  generalize (lgF (bts b) (bts a) q).2 = F2 at HC2
  generalize comY (bts b) (bts a) = Y2 at HC2
  clear hsym hlg hY hn hq hb1 hb2
  go_wp2_with fail
  refine HC1.out.mono ?_
  rintro e w1 ⟨rfl, hg1⟩
  have hgr1 := hg0.trans hg1
  have HC21 := Lib.hid (HC2.out w1)
  clear HC1 HC2
  go_wp2_with fail
  refine HC21.out.mono ?_
  rintro e w2 ⟨rfl, hg2⟩
  have hgr2 := hgr1.trans hg2
  have HNX1 := Lib.hid (HNX.out w2)
  clear HC21 HNX
  go_wp2_with fail
  refine HNX1.out.mono ?_
  rintro e w3 ⟨o, G, V, rfl, hX, hg3⟩
  have HX := Lib.hid hX
  have hgr3 := hgr2.trans hg3
  clear HNX1 hX
  go_upto_region 5 with fail
  generalize hW4 : World.alloc w3 _ = w4
  obtain ⟨X, hXX⟩ : ∃ X, w3.heap.size = X := ⟨_, rfl⟩
  rw [hXX]
  have hg4 : Gr w3 w4 := by rw [← hW4]; exact (Gr.refl _).alloc _
  have HBX : Hid (Blk w4 X 25 #[.string a, .slice (some ⟨G, 0, none⟩) n n, .slice (some ⟨V, 0, none⟩) n n]) := Lib.hid (by rw [← hW4]; exact Blk.new w3 _ _ hXX)
  have HX4 := Lib.hid (HX.out.keep hg4)
  have hgr4 := hgr3.trans hg4
  have HNY1 := Lib.hid (HNY.out w4)
  clear hW4 hXX HNY HX
  go_wp2_with fail
  refine HNY1.out.mono ?_
  rintro e w5 ⟨o2, G2, V2, rfl, hX2, hg5⟩
  have HY5 := Lib.hid hX2
  have hgr5 := hgr4.trans hg5
  clear HNY1 hX2
  go_upto_region 6 with fail
  generalize hW6 : World.alloc w5 _ = w6
  obtain ⟨Z, hZZ⟩ : ∃ X, w5.heap.size = X := ⟨_, rfl⟩
  rw [hZZ]
  have hg6 : Gr w5 w6 := by rw [← hW6]; exact (Gr.refl _).alloc _
  have HBY : Hid (Blk w6 Z 25 #[.string b, .slice (some ⟨G2, 0, none⟩) q q, .slice (some ⟨V2, 0, none⟩) q q]) := Lib.hid (by rw [← hW6]; exact Blk.new w5 _ _ hZZ)
  have HBX6 := Lib.hid (HBX.out.keep (hg5.trans hg6))
  have HX6 := Lib.hid (HX4.out.keep (hg5.trans hg6))
  have HY6 := Lib.hid (HY5.out.keep hg6)
  have hgr6 := hgr5.trans hg6
  have HCT := Lib.hid (fun p W (hW : Gr w6 W) => count_any b p q q q o2 _ _ W (HY6.out.keep hW))
  have HFX := Lib.hid (fun p W (hW : Gr w6 W) => find_any a p n n n o _ _ W (HX6.out.keep hW))
  have HFY := Lib.hid (fun p W (hW : Gr w6 W) => find_any b p q q q o2 _ _ W (HY6.out.keep hW))
  have HOC : Hid (∀ c l, c < n → L < l → c + l ≤ n → occN (bts b) (bts (a.extract c (c + l))) = 0) := Lib.hid (fun c l h1 h2 h3 => by
    rw [(bts_piece a (a := c) (l := l) (by rw [HNA.out]; exact h3)).1]
    exact HBF.out.2.2.1 c l (by rw [bts_len, HNA.out]; exact h1) h2 (by rw [bts_len, HNA.out]; exact h3))
  have KS : Hid (∀ W', Gr w6 W' → Gr w6 W' ∧ W'.cell? ⟨Z, 0, none⟩ = some (.string b) ∧ W'.cell? ⟨Z, 1, none⟩ = some (.slice (some ⟨G2, 0, none⟩) q q) ∧ W'.cell? ⟨Z, 2, none⟩ = some (.slice (some ⟨V2, 0, none⟩) q q)) := Lib.hid (fun W' h => ⟨h, h.keep (HBY.out.cell 0), h.keep (HBY.out.cell 1), h.keep (HBY.out.cell 2)⟩)
  have p1 : ¬ (L : Int) < 0 := by omega
  have p2 : ¬ (F : Int) < 0 := by omega
  have p3 : ¬ (Y : Int) < 0 := by omega
  have p4 : ¬ (n : Int) < (F : Int) + (L : Int) := by omega
  have p5 : ¬ (q : Int) < (Y : Int) + (L : Int) := by omega
  have g1 : IntKind.i64.wrap ((F : Int) + (L : Int)) = (F : Int) + (L : Int) := IntWalk.i64_in _ (by omega)
  have g2 : IntKind.i64.wrap ((Y : Int) + (L : Int)) = (Y : Int) + (L : Int) := IntWalk.i64_in _ (by omega)
  clear hW6 hZZ
  by_cases h0 : L = 0
  · obtain ⟨rfl, rfl⟩ := HBF.out.2.2.2.1 h0
    subst h0
    have HOC1 : Hid (∀ c, c < n → occN (bts b) (bts (a.extract c (c + 1))) = 0) := Lib.hid (fun c hc => HOC.out c 1 hc (by omega) (by omega))
    clear HBF HOC HFX HFY
    go_wp2_with fail
    go_loopw [17] (fun z wr => ∃ k : Nat, k ≤ n ∧ z = .int .i64 (k : Int) ∧ Gr w6 wr) (fun z _ => n - (intOf z).toNat)
    case atStart => exact ⟨0, Nat.zero_le _, rfl, Gr.refl _⟩
    case round =>
      obtain ⟨k, hk, rfl, hgr⟩ := hrel
      by_cases hlt : k < n
      · have hki : (k : Int) < (n : Int) := by omega
        have HC1 := Lib.hid (fun W (hW : Gr wr W) => HCT.out (a.extract k (k + 1)) W (hgr.trans hW))
        rw [HOC1.out k hlt] at HC1
        obtain ⟨e1, he1⟩ : ∃ e, k + 1 = e := ⟨_, rfl⟩
        rw [he1] at HC1
        have q1 : (k : Int) + 1 = (e1 : Int) := by omega
        have q3 : IntKind.i64.wrap (e1 : Int) = (e1 : Int) := IntWalk.i64_in _ (by omega)
        have q4 : IntKind.i64.wrap ((k : Int) + 1) = (e1 : Int) := by rw [q1]; exact q3
        have q6 : k ≤ e1 := by omega
        have q7 : e1 ≤ n := by omega
        have zz := KS.out _ hgr
        have z0 := zz.2.1
        have z1 := zz.2.2.1
        have z2 := zz.2.2.2
        have hdr : Gr wr wr.drew := (Gr.refl wr).drew
        have KS2 : Hid (∀ W', Gr wr W' → Gr wr W' ∧ W'.cell? ⟨Z, 0, none⟩ = some (.string b) ∧ W'.cell? ⟨Z, 1, none⟩ = some (.slice (some ⟨G2, 0, none⟩) q q) ∧ W'.cell? ⟨Z, 2, none⟩ = some (.slice (some ⟨V2, 0, none⟩) q q)) := Lib.hid (fun W' h => ⟨h, h.keep z0, h.keep z1, h.keep z2⟩)
        clear zz
        go_upto_region 12 with fail
        refine wp_region_held_drew (S := (fun W' => Gr wr W' ∧ W'.cell? ⟨Z, 0, none⟩ = some (.string b) ∧ W'.cell? ⟨Z, 1, none⟩ = some (.slice (some ⟨G2, 0, none⟩) q q) ∧ W'.cell? ⟨Z, 2, none⟩ = some (.slice (some ⟨V2, 0, none⟩) q q))) ?_ ?_ (fun hHeld => ?_)
        · kernel_rfl
        · ((try dsimp only); (first | exact hHeld | exact KS2.out _ hdr | exact KS2.out _ HGA.out))
        refine take_in (i := 0) (v := ?_) (d := (some 113)) rfl rfl ?_ ?_ ?_ ?_ ?_ ?_ ?_ ?_
        rotate_left
        · kernel_rfl
        · kernel_rfl
        · kernel_rfl
        · (intro _ _ _ hq; exact hq)
        · rfl
        · (intro _w hSw; (try dsimp only at hSw); go_simp; try with_reducible rfl)
        · assumption
        try simp only [Act.put, List.setIfInBounds_toArray, List.set_cons_zero, List.set_cons_succ]
        refine take_in (i := 1) (v := ?_) (d := (some 114)) rfl rfl ?_ ?_ ?_ ?_ ?_ ?_ ?_ ?_
        rotate_left
        · kernel_rfl
        · kernel_rfl
        · kernel_rfl
        · (intro _ _ _ hq; exact hq)
        · rfl
        · (intro _w hSw; (try dsimp only at hSw); go_simp; try with_reducible rfl)
        · assumption
        try simp only [Act.put, List.setIfInBounds_toArray, List.set_cons_zero, List.set_cons_succ]
        refine take_in (i := 2) (v := ?_) (d := (some 115)) rfl rfl ?_ ?_ ?_ ?_ ?_ ?_ ?_ ?_
        rotate_left
        · kernel_rfl
        · kernel_rfl
        · kernel_rfl
        · (intro _ _ _ hq; exact hq)
        · rfl
        · (intro _w hSw; (try dsimp only at hSw); go_simp; try with_reducible rfl)
        · assumption
        try simp only [Act.put, List.setIfInBounds_toArray, List.set_cons_zero, List.set_cons_succ]
        refine take_in (i := 3) (v := ?_) (d := (some 116)) rfl rfl ?_ ?_ ?_ ?_ ?_ ?_ ?_ ?_
        rotate_left
        · kernel_rfl
        · kernel_rfl
        · kernel_rfl
        · (intro _ _ _ hq; exact hq)
        · rfl
        · (intro _w hSw; (try dsimp only at hSw); go_simp; try with_reducible rfl)
        · assumption
        try simp only [Act.put, List.setIfInBounds_toArray, List.set_cons_zero, List.set_cons_succ]
        refine take_in (i := 4) (v := ?_) (d := (some 117)) rfl rfl ?_ ?_ ?_ ?_ ?_ ?_ ?_ ?_
        rotate_left
        · kernel_rfl
        · kernel_rfl
        · kernel_rfl
        · (intro _ _ _ hq; exact hq)
        · rfl
        · (intro _w hSw; (try dsimp only at hSw); go_simp; try with_reducible rfl)
        · assumption
        try simp only [Act.put, List.setIfInBounds_toArray, List.set_cons_zero, List.set_cons_succ]
        refine take_in (i := 5) (v := ?_) (d := (some 118)) rfl rfl ?_ ?_ ?_ ?_ ?_ ?_ ?_ ?_
        rotate_left
        · kernel_rfl
        · kernel_rfl
        · kernel_rfl
        · (intro _ _ _ hq; exact hq)
        · rfl
        · (intro _w hSw; (try dsimp only at hSw); go_simp; try with_reducible rfl)
        · assumption
        try simp only [Act.put, List.setIfInBounds_toArray, List.set_cons_zero, List.set_cons_succ]
        refine wpAnyH_ready (rs := [6]) ?_ ?_ ?_
        · kernel_rfl
        · simp
        refine (AllReadyH.cons rfl (fun K hK => ?_) AllReadyH.nil)
        go_simp
        first | (go_at_call 27; ((with_reducible refine (HC1.out _ hHeld.1).mono ?_)); rintro e w7 ⟨rfl, hg7⟩; have HGA := Lib.hid (hHeld.1.trans hg7); clear hg7)
        refine hK.out _ _ ?_ (fun hHeld => ?_)
        · ((try dsimp only); (first | exact hHeld | exact KS2.out _ hdr | exact KS2.out _ HGA.out))
        clear hK K
        try simp only [Act.put, List.setIfInBounds_toArray, List.set_cons_zero, List.set_cons_succ]
        refine take_in (i := 7) (v := ?_) (d := (some 120)) rfl rfl ?_ ?_ ?_ ?_ ?_ ?_ ?_ ?_
        rotate_left
        · kernel_rfl
        · kernel_rfl
        · kernel_rfl
        · (intro _ _ _ hq; exact hq)
        · rfl
        · (intro _w hSw; (try dsimp only at hSw); go_simp; try with_reducible rfl)
        · assumption
        try simp only [Act.put, List.setIfInBounds_toArray, List.set_cons_zero, List.set_cons_succ]
        refine wpAnyH_done ?_ ?_ _
        · kernel_rfl
        rotate_left
        all_goals
          have hgr7 := hgr.trans HGA.out
          clear HGA KS2 hdr hHeld z0 z1 z2 HC1 q1 q3 q4 q6 q7
          have he2 : (k : Int) + 1 = (e1 : Int) := by omega
          go_wp2_with fail
          go_roundw
          case rel => exact ⟨k + 1, by omega, by go_num, hgr7⟩
          case measure => simp [intOf]; omega
      · obtain rfl : k = n := by omega
        have HA := Lib.hid (awake_any wr)
        have hgr7 := hgr6.trans hgr
        go_wp2_with fail
        refine HA.out.mono ?_
        rintro e w10 ⟨rfl, hg10⟩
        clear HA
        go_wp2_with fail
        go_ret
        exact ⟨rfl, hgr7.trans hg10⟩
  · have hLe : ((L : Int) == 0) = false := beq_eq_false_iff_ne.2 (by omega)
    obtain ⟨b1, b2, b3, b4, b5⟩ := HBF.out.2.2.2.2 h0
    have hpc := (bts_piece a (a := F) (l := L) (by rw [HNA.out]; exact hf1)).1
    have HF1 := Lib.hid (fun W (hW : Gr w6 W) => HFX.out (a.extract F (F + L)) W hW)
    have HF2 := Lib.hid (fun W (hW : Gr w6 W) => HFY.out (a.extract F (F + L)) W hW)
    have HOE : Hid (∀ c, c < F → occN (bts b) (bts (a.extract c (c + L))) = 0) := Lib.hid (fun c hc => by
      rw [(bts_piece a (a := c) (l := L) (by rw [HNA.out]; omega)).1]; exact b5 c hc)
    rw [hpc] at HF1 HF2
    generalize ((bts a).drop F).take L = pc at HF1 HF2 b1 b2 b3 b4
    have HB3 := Lib.hid b3
    have HB4 := Lib.hid b4
    obtain ⟨e1, he1⟩ : ∃ e, F + L = e := ⟨_, rfl⟩
    rw [he1] at HF1 HF2
    have q1 : (F : Int) + (L : Int) = (e1 : Int) := by omega
    have q3 : IntKind.i64.wrap (e1 : Int) = (e1 : Int) := IntWalk.i64_in _ (by omega)
    have q6 : F ≤ e1 := by omega
    have q7 : e1 ≤ n := by omega
    have p4' : ¬ (n : Int) < (e1 : Int) := by omega
    have HBX7 := HBX6.out
    have HBY7 := HBY.out
    have x0 : w6.cell? ⟨X, 0, none⟩ = some (.string a) := HBX7.cell 0
    have x1 : w6.cell? ⟨X, 1, none⟩ = some (.slice (some ⟨G, 0, none⟩) n n) := HBX7.cell 1
    have x2 : w6.cell? ⟨X, 2, none⟩ = some (.slice (some ⟨V, 0, none⟩) n n) := HBX7.cell 2
    have y0 : w6.cell? ⟨Z, 0, none⟩ = some (.string b) := HBY7.cell 0
    have y1 : w6.cell? ⟨Z, 1, none⟩ = some (.slice (some ⟨G2, 0, none⟩) q q) := HBY7.cell 1
    have y2 : w6.cell? ⟨Z, 2, none⟩ = some (.slice (some ⟨V2, 0, none⟩) q q) := HBY7.cell 2
    have hdr : Gr w6 w6.drew := (Gr.refl w6).drew
    have KX : Hid (∀ W', Gr w6 W' → Gr w6 W' ∧ W'.cell? ⟨X, 0, none⟩ = some (.string a) ∧ W'.cell? ⟨X, 1, none⟩ = some (.slice (some ⟨G, 0, none⟩) n n) ∧ W'.cell? ⟨X, 2, none⟩ = some (.slice (some ⟨V, 0, none⟩) n n) ∧ W'.cell? ⟨Z, 0, none⟩ = some (.string b) ∧ W'.cell? ⟨Z, 1, none⟩ = some (.slice (some ⟨G2, 0, none⟩) q q) ∧ W'.cell? ⟨Z, 2, none⟩ = some (.slice (some ⟨V2, 0, none⟩) q q)) := Lib.hid (fun W' h => ⟨h, h.keep x0, h.keep x1, h.keep x2, h.keep y0, h.keep y1, h.keep y2⟩)
    clear HBX7 HBY7 HBF HFX HFY hpc b3 b4 b5
    go_upto_region 16 with fail
    refine wp_region_held_drew (S := (fun W' => Gr w6 W' ∧ W'.cell? ⟨X, 0, none⟩ = some (.string a) ∧ W'.cell? ⟨X, 1, none⟩ = some (.slice (some ⟨G, 0, none⟩) n n) ∧ W'.cell? ⟨X, 2, none⟩ = some (.slice (some ⟨V, 0, none⟩) n n) ∧ W'.cell? ⟨Z, 0, none⟩ = some (.string b) ∧ W'.cell? ⟨Z, 1, none⟩ = some (.slice (some ⟨G2, 0, none⟩) q q) ∧ W'.cell? ⟨Z, 2, none⟩ = some (.slice (some ⟨V2, 0, none⟩) q q))) ?_ ?_ (fun hHeld => ?_)
    · kernel_rfl
    · ((try dsimp only); (first | exact hHeld | exact KX.out _ hdr | exact KX.out _ HGA.out))
    refine take_in (i := 0) (v := ?_) (d := (some 136)) rfl rfl ?_ ?_ ?_ ?_ ?_ ?_ ?_ ?_
    rotate_left
    · kernel_rfl
    · kernel_rfl
    · kernel_rfl
    · (intro _ _ _ hq; exact hq)
    · rfl
    · (intro _w hSw; (try dsimp only at hSw); go_simp; try with_reducible rfl)
    · assumption
    try simp only [Act.put, List.setIfInBounds_toArray, List.set_cons_zero, List.set_cons_succ]
    refine take_in (i := 1) (v := ?_) (d := (some 137)) rfl rfl ?_ ?_ ?_ ?_ ?_ ?_ ?_ ?_
    rotate_left
    · kernel_rfl
    · kernel_rfl
    · kernel_rfl
    · (intro _ _ _ hq; exact hq)
    · rfl
    · (intro _w hSw; (try dsimp only at hSw); go_simp; try with_reducible rfl)
    · assumption
    try simp only [Act.put, List.setIfInBounds_toArray, List.set_cons_zero, List.set_cons_succ]
    refine take_in (i := 3) (v := ?_) (d := (some 139)) rfl rfl ?_ ?_ ?_ ?_ ?_ ?_ ?_ ?_
    rotate_left
    · kernel_rfl
    · kernel_rfl
    · kernel_rfl
    · (intro _ _ _ hq; exact hq)
    · rfl
    · (intro _w hSw; (try dsimp only at hSw); go_simp; try with_reducible rfl)
    · assumption
    try simp only [Act.put, List.setIfInBounds_toArray, List.set_cons_zero, List.set_cons_succ]
    refine take_in (i := 4) (v := ?_) (d := (some 140)) rfl rfl ?_ ?_ ?_ ?_ ?_ ?_ ?_ ?_
    rotate_left
    · kernel_rfl
    · kernel_rfl
    · kernel_rfl
    · (intro _ _ _ hq; exact hq)
    · rfl
    · (intro _w hSw; (try dsimp only at hSw); go_simp; try with_reducible rfl)
    · assumption
    try simp only [Act.put, List.setIfInBounds_toArray, List.set_cons_zero, List.set_cons_succ]
    refine wpAnyH_ready (rs := [2]) ?_ ?_ ?_
    · kernel_rfl
    · simp
    refine (AllReadyH.cons rfl (fun K hK => ?_) AllReadyH.nil)
    go_simp
    first | (go_at_call 26; ((with_reducible refine (HF1.out _ hHeld.1).mono ?_)); rintro e w7 ⟨A7, c7, rfl, hown7, hg7⟩; have HGA := Lib.hid (hHeld.1.trans hg7); have HGX := Lib.hid hg7; obtain ⟨g7, c17, e7, -⟩ := owns_shape hown7 b1; cases e7; have HP1 := Lib.hid ((owns_FB hown7).at b1); clear hg7 hown7) | (go_at_call 26; ((with_reducible refine (HF2.out _ hHeld.1).mono ?_)); rintro e w8 ⟨A8, c8, rfl, hown8, hg8⟩; have HGA := Lib.hid (hHeld.1.trans hg8); have HGX := Lib.hid hg8; obtain ⟨g8, c18, e8, -⟩ := owns_shape hown8 b2; cases e8; have HP2 := Lib.hid ((owns_FB hown8).at b2); clear hg8 hown8)
    refine hK.out _ _ ?_ (fun hHeld => ?_)
    · ((try dsimp only); (first | exact hHeld | exact KX.out _ hdr | exact KX.out _ HGA.out))
    clear hK K
    try simp only [Act.put, List.setIfInBounds_toArray, List.set_cons_zero, List.set_cons_succ]
    refine wpAnyH_ready (rs := [5]) ?_ ?_ ?_
    · kernel_rfl
    · simp
    refine (AllReadyH.cons rfl (fun K hK => ?_) AllReadyH.nil)
    go_simp
    first | (go_at_call 26; ((with_reducible refine (HF1.out _ hHeld.1).mono ?_)); rintro e w7 ⟨A7, c7, rfl, hown7, hg7⟩; have HGA := Lib.hid (hHeld.1.trans hg7); have HGX := Lib.hid hg7; obtain ⟨g7, c17, e7, -⟩ := owns_shape hown7 b1; cases e7; have HP1 := Lib.hid ((owns_FB hown7).at b1); clear hg7 hown7) | (go_at_call 26; ((with_reducible refine (HF2.out _ hHeld.1).mono ?_)); rintro e w8 ⟨A8, c8, rfl, hown8, hg8⟩; have HGA := Lib.hid (hHeld.1.trans hg8); have HGX := Lib.hid hg8; obtain ⟨g8, c18, e8, -⟩ := owns_shape hown8 b2; cases e8; have HP2 := Lib.hid ((owns_FB hown8).at b2); clear hg8 hown8)
    refine hK.out _ _ ?_ (fun hHeld => ?_)
    · ((try dsimp only); (first | exact hHeld | exact KX.out _ hdr | exact KX.out _ HGA.out))
    clear hK K
    try simp only [Act.put, List.setIfInBounds_toArray, List.set_cons_zero, List.set_cons_succ]
    refine take_in (i := 6) (v := ?_) (d := (some 19)) rfl rfl ?_ ?_ ?_ ?_ ?_ ?_ ?_ ?_
    rotate_left
    · kernel_rfl
    · kernel_rfl
    · kernel_rfl
    · (intro _ _ _ hq; exact hq)
    · rfl
    · (intro _w hSw; (try dsimp only at hSw); go_simp; try with_reducible rfl)
    · assumption
    try simp only [Act.put, List.setIfInBounds_toArray, List.set_cons_zero, List.set_cons_succ]
    refine take_in (i := 7) (v := ?_) (d := (some 20)) rfl rfl ?_ ?_ ?_ ?_ ?_ ?_ ?_ ?_
    rotate_left
    · kernel_rfl
    · kernel_rfl
    · kernel_rfl
    · (intro _ _ _ hq; exact hq)
    · rfl
    · (intro _w hSw; (try dsimp only at hSw); go_simp; try with_reducible rfl)
    · assumption
    try simp only [Act.put, List.setIfInBounds_toArray, List.set_cons_zero, List.set_cons_succ]
    refine wpAnyH_done ?_ ?_ _
    · kernel_rfl
    rotate_left
    all_goals
      have u1 := pick HGA.out (fun W => W.cell? ⟨g7, 0, none⟩ = some (.int .i64 (F : Int))) (by rw [HB3.out] at HP1; first | exact HP1.out | exact HGX.out.keep HP1.out)
      have u2 := pick HGA.out (fun W => W.cell? ⟨g8, 0, none⟩ = some (.int .i64 (Y : Int))) (by rw [HB4.out] at HP2; first | exact HP2.out | exact HGX.out.keep HP2.out)
      have hg67 := HGA.out
      clear KX hdr hHeld x0 x1 x2 y0 y1 y2 HF1 HF2 HGX HP1 HP2 HGA
      have i1 : (0 : Int) < (occN (bts a) pc : Int) := by omega
      have i2 : (0 : Int) < (occN (bts b) pc : Int) := by omega
      have i3 : ((occN (bts a) pc : Int) == 0) = false := beq_eq_false_iff_ne.2 (by omega)
      have i4 : ((occN (bts b) pc : Int) == 0) = false := beq_eq_false_iff_ne.2 (by omega)
      generalize occN (bts a) pc = m1 at *
      generalize occN (bts b) pc = m2 at *
      go_wp2_with fail
      clear u1 u2 i1 i2 i3 i4 b1 b2
      go_loopw [21] (fun z wr => ∃ k : Nat, k ≤ n ∧ z = .int .i64 (k : Int) ∧ Gr w6 wr) (fun z _ => n - (intOf z).toNat)
      case atStart => exact ⟨0, Nat.zero_le _, rfl, hg67⟩
      case round =>
        obtain ⟨k, hk, rfl, hgr⟩ := hrel
        obtain ⟨e2, he2⟩ : ∃ e, k + L = e := ⟨_, rfl⟩
        have r1 : (k : Int) + (L : Int) = (e2 : Int) := by omega
        have r2 : IntKind.i64.wrap (e2 : Int) = (e2 : Int) := IntWalk.i64_in _ (by omega)
        by_cases hlt : k + L < n
        · have hki : (e2 : Int) < (n : Int) := by omega
          have hkn : k < n := by omega
          have hoc1 := HOC.out k (L + 1) hkn (by omega) (by omega)
          have HC1 := Lib.hid (fun W (hW : Gr wr W) => HCT.out (a.extract k (k + (L + 1))) W (hgr.trans hW))
          have HC2 := Lib.hid (fun W (hW : Gr wr W) => HCT.out (a.extract k (k + L)) W (hgr.trans hW))
          rw [hoc1] at HC1
          obtain ⟨e3, he3⟩ : ∃ e, k + (L + 1) = e := ⟨_, rfl⟩
          rw [he3] at HC1
          have r3 : (e2 : Int) + 1 = (e3 : Int) := by omega
          have r4 : IntKind.i64.wrap (e3 : Int) = (e3 : Int) := IntWalk.i64_in _ (by omega)
          have r5 : IntKind.i64.wrap ((e2 : Int) + 1) = (e3 : Int) := by rw [r3]; exact r4
          have r6 : k ≤ e3 := by omega
          have r7 : e3 ≤ n := by omega
          have r8 : k ≤ e2 := by omega
          have r9 : e2 ≤ n := by omega
          have zz := KS.out _ hgr
          have z0 := zz.2.1
          have z1 := zz.2.2.1
          have z2 := zz.2.2.2
          have hdr : Gr wr wr.drew := (Gr.refl wr).drew
          have KS2 : Hid (∀ W', Gr wr W' → Gr wr W' ∧ W'.cell? ⟨Z, 0, none⟩ = some (.string b) ∧ W'.cell? ⟨Z, 1, none⟩ = some (.slice (some ⟨G2, 0, none⟩) q q) ∧ W'.cell? ⟨Z, 2, none⟩ = some (.slice (some ⟨V2, 0, none⟩) q q)) := Lib.hid (fun W' h => ⟨h, h.keep z0, h.keep z1, h.keep z2⟩)
          clear zz hoc1
          by_cases hkF : k < F
          · have hkFi : (k : Int) < (F : Int) := by omega
            rw [HOE.out k hkF, he2] at HC2
            go_upto_region 22 with fail
            refine wp_region_held_drew (S := (fun W' => Gr wr W' ∧ W'.cell? ⟨Z, 0, none⟩ = some (.string b) ∧ W'.cell? ⟨Z, 1, none⟩ = some (.slice (some ⟨G2, 0, none⟩) q q) ∧ W'.cell? ⟨Z, 2, none⟩ = some (.slice (some ⟨V2, 0, none⟩) q q))) ?_ ?_ (fun hHeld => ?_)
            · kernel_rfl
            · ((try dsimp only); (first | exact hHeld | exact KS2.out _ hdr | exact KS2.out _ HGA.out))
            refine take_in (i := 0) (v := ?_) (d := (some 172)) rfl rfl ?_ ?_ ?_ ?_ ?_ ?_ ?_ ?_
            rotate_left
            · kernel_rfl
            · kernel_rfl
            · kernel_rfl
            · (intro _ _ _ hq; exact hq)
            · rfl
            · (intro _w hSw; (try dsimp only at hSw); go_simp; try with_reducible rfl)
            · assumption
            try simp only [Act.put, List.setIfInBounds_toArray, List.set_cons_zero, List.set_cons_succ]
            refine take_in (i := 1) (v := ?_) (d := (some 173)) rfl rfl ?_ ?_ ?_ ?_ ?_ ?_ ?_ ?_
            rotate_left
            · kernel_rfl
            · kernel_rfl
            · kernel_rfl
            · (intro _ _ _ hq; exact hq)
            · rfl
            · (intro _w hSw; (try dsimp only at hSw); go_simp; try with_reducible rfl)
            · assumption
            try simp only [Act.put, List.setIfInBounds_toArray, List.set_cons_zero, List.set_cons_succ]
            refine take_in (i := 2) (v := ?_) (d := (some 174)) rfl rfl ?_ ?_ ?_ ?_ ?_ ?_ ?_ ?_
            rotate_left
            · kernel_rfl
            · kernel_rfl
            · kernel_rfl
            · (intro _ _ _ hq; exact hq)
            · rfl
            · (intro _w hSw; (try dsimp only at hSw); go_simp; try with_reducible rfl)
            · assumption
            try simp only [Act.put, List.setIfInBounds_toArray, List.set_cons_zero, List.set_cons_succ]
            refine take_in (i := 3) (v := ?_) (d := (some 175)) rfl rfl ?_ ?_ ?_ ?_ ?_ ?_ ?_ ?_
            rotate_left
            · kernel_rfl
            · kernel_rfl
            · kernel_rfl
            · (intro _ _ _ hq; exact hq)
            · rfl
            · (intro _w hSw; (try dsimp only at hSw); go_simp; try with_reducible rfl)
            · assumption
            try simp only [Act.put, List.setIfInBounds_toArray, List.set_cons_zero, List.set_cons_succ]
            refine take_in (i := 4) (v := ?_) (d := (some 176)) rfl rfl ?_ ?_ ?_ ?_ ?_ ?_ ?_ ?_
            rotate_left
            · kernel_rfl
            · kernel_rfl
            · kernel_rfl
            · (intro _ _ _ hq; exact hq)
            · rfl
            · (intro _w hSw; (try dsimp only at hSw); go_simp; try with_reducible rfl)
            · assumption
            try simp only [Act.put, List.setIfInBounds_toArray, List.set_cons_zero, List.set_cons_succ]
            refine take_in (i := 5) (v := ?_) (d := (some 177)) rfl rfl ?_ ?_ ?_ ?_ ?_ ?_ ?_ ?_
            rotate_left
            · kernel_rfl
            · kernel_rfl
            · kernel_rfl
            · (intro _ _ _ hq; exact hq)
            · rfl
            · (intro _w hSw; (try dsimp only at hSw); go_simp; try with_reducible rfl)
            · assumption
            try simp only [Act.put, List.setIfInBounds_toArray, List.set_cons_zero, List.set_cons_succ]
            refine take_in (i := 6) (v := ?_) (d := (some 178)) rfl rfl ?_ ?_ ?_ ?_ ?_ ?_ ?_ ?_
            rotate_left
            · kernel_rfl
            · kernel_rfl
            · kernel_rfl
            · (intro _ _ _ hq; exact hq)
            · rfl
            · (intro _w hSw; (try dsimp only at hSw); go_simp; try with_reducible rfl)
            · assumption
            try simp only [Act.put, List.setIfInBounds_toArray, List.set_cons_zero, List.set_cons_succ]
            refine take_in (i := 7) (v := ?_) (d := (some 179)) rfl rfl ?_ ?_ ?_ ?_ ?_ ?_ ?_ ?_
            rotate_left
            · kernel_rfl
            · kernel_rfl
            · kernel_rfl
            · (intro _ _ _ hq; exact hq)
            · rfl
            · (intro _w hSw; (try dsimp only at hSw); go_simp; try with_reducible rfl)
            · assumption
            try simp only [Act.put, List.setIfInBounds_toArray, List.set_cons_zero, List.set_cons_succ]
            refine wpAnyH_ready (rs := [8]) ?_ ?_ ?_
            · kernel_rfl
            · simp
            refine (AllReadyH.cons rfl (fun K hK => ?_) AllReadyH.nil)
            go_simp
            first | (go_at_call 27; ((with_reducible refine (HC1.out _ hHeld.1).mono ?_)); rintro e w9 ⟨rfl, hg9⟩; have HGA := Lib.hid (hHeld.1.trans hg9); clear hg9) | (go_at_call 27; ((with_reducible refine (HC2.out _ hHeld.1).mono ?_)); rintro e w9 ⟨rfl, hg9⟩; have HGA := Lib.hid (hHeld.1.trans hg9); clear hg9)
            refine hK.out _ _ ?_ (fun hHeld => ?_)
            · ((try dsimp only); (first | exact hHeld | exact KS2.out _ hdr | exact KS2.out _ HGA.out))
            clear hK K
            try simp only [Act.put, List.setIfInBounds_toArray, List.set_cons_zero, List.set_cons_succ]
            refine take_in (i := 9) (v := ?_) (d := (some 181)) rfl rfl ?_ ?_ ?_ ?_ ?_ ?_ ?_ ?_
            rotate_left
            · kernel_rfl
            · kernel_rfl
            · kernel_rfl
            · (intro _ _ _ hq; exact hq)
            · rfl
            · (intro _w hSw; (try dsimp only at hSw); go_simp; try with_reducible rfl)
            · assumption
            try simp only [Act.put, List.setIfInBounds_toArray, List.set_cons_zero, List.set_cons_succ]
            refine take_in (i := 10) (v := ?_) (d := (some 182)) rfl rfl ?_ ?_ ?_ ?_ ?_ ?_ ?_ ?_
            rotate_left
            · kernel_rfl
            · kernel_rfl
            · kernel_rfl
            · (intro _ _ _ hq; exact hq)
            · rfl
            · (intro _w hSw; (try dsimp only at hSw); go_simp; try with_reducible rfl)
            · assumption
            try simp only [Act.put, List.setIfInBounds_toArray, List.set_cons_zero, List.set_cons_succ]
            refine take_in (i := 11) (v := ?_) (d := (some 183)) rfl rfl ?_ ?_ ?_ ?_ ?_ ?_ ?_ ?_
            rotate_left
            · kernel_rfl
            · kernel_rfl
            · kernel_rfl
            · (intro _ _ _ hq; exact hq)
            · rfl
            · (intro _w hSw; (try dsimp only at hSw); go_simp; try with_reducible rfl)
            · assumption
            try simp only [Act.put, List.setIfInBounds_toArray, List.set_cons_zero, List.set_cons_succ]
            refine take_in (i := 12) (v := ?_) (d := (some 184)) rfl rfl ?_ ?_ ?_ ?_ ?_ ?_ ?_ ?_
            rotate_left
            · kernel_rfl
            · kernel_rfl
            · kernel_rfl
            · (intro _ _ _ hq; exact hq)
            · rfl
            · (intro _w hSw; (try dsimp only at hSw); go_simp; try with_reducible rfl)
            · assumption
            try simp only [Act.put, List.setIfInBounds_toArray, List.set_cons_zero, List.set_cons_succ]
            refine take_in (i := 13) (v := ?_) (d := (some 185)) rfl rfl ?_ ?_ ?_ ?_ ?_ ?_ ?_ ?_
            rotate_left
            · kernel_rfl
            · kernel_rfl
            · kernel_rfl
            · (intro _ _ _ hq; exact hq)
            · rfl
            · (intro _w hSw; (try dsimp only at hSw); go_simp; try with_reducible rfl)
            · assumption
            try simp only [Act.put, List.setIfInBounds_toArray, List.set_cons_zero, List.set_cons_succ]
            refine take_in (i := 14) (v := ?_) (d := (some 186)) rfl rfl ?_ ?_ ?_ ?_ ?_ ?_ ?_ ?_
            rotate_left
            · kernel_rfl
            · kernel_rfl
            · kernel_rfl
            · (intro _ _ _ hq; exact hq)
            · rfl
            · (intro _w hSw; (try dsimp only at hSw); go_simp; try with_reducible rfl)
            · assumption
            try simp only [Act.put, List.setIfInBounds_toArray, List.set_cons_zero, List.set_cons_succ]
            refine take_in (i := 15) (v := ?_) (d := (some 187)) rfl rfl ?_ ?_ ?_ ?_ ?_ ?_ ?_ ?_
            rotate_left
            · kernel_rfl
            · kernel_rfl
            · kernel_rfl
            · (intro _ _ _ hq; exact hq)
            · rfl
            · (intro _w hSw; (try dsimp only at hSw); go_simp; try with_reducible rfl)
            · assumption
            try simp only [Act.put, List.setIfInBounds_toArray, List.set_cons_zero, List.set_cons_succ]
            refine take_in (i := 16) (v := ?_) (d := (some 188)) rfl rfl ?_ ?_ ?_ ?_ ?_ ?_ ?_ ?_
            rotate_left
            · kernel_rfl
            · kernel_rfl
            · kernel_rfl
            · (intro _ _ _ hq; exact hq)
            · rfl
            · (intro _w hSw; (try dsimp only at hSw); go_simp; try with_reducible rfl)
            · assumption
            try simp only [Act.put, List.setIfInBounds_toArray, List.set_cons_zero, List.set_cons_succ]
            refine take_in (i := 17) (v := ?_) (d := (some 189)) rfl rfl ?_ ?_ ?_ ?_ ?_ ?_ ?_ ?_
            rotate_left
            · kernel_rfl
            · kernel_rfl
            · kernel_rfl
            · (intro _ _ _ hq; exact hq)
            · rfl
            · (intro _w hSw; (try dsimp only at hSw); go_simp; try with_reducible rfl)
            · assumption
            try simp only [Act.put, List.setIfInBounds_toArray, List.set_cons_zero, List.set_cons_succ]
            refine take_in (i := 18) (v := ?_) (d := (some 190)) rfl rfl ?_ ?_ ?_ ?_ ?_ ?_ ?_ ?_
            rotate_left
            · kernel_rfl
            · kernel_rfl
            · kernel_rfl
            · (intro _ _ _ hq; exact hq)
            · rfl
            · (intro _w hSw; (try dsimp only at hSw); go_simp; try with_reducible rfl)
            · assumption
            try simp only [Act.put, List.setIfInBounds_toArray, List.set_cons_zero, List.set_cons_succ]
            refine take_in (i := 19) (v := ?_) (d := (some 191)) rfl rfl ?_ ?_ ?_ ?_ ?_ ?_ ?_ ?_
            rotate_left
            · kernel_rfl
            · kernel_rfl
            · kernel_rfl
            · (intro _ _ _ hq; exact hq)
            · rfl
            · (intro _w hSw; (try dsimp only at hSw); go_simp; try with_reducible rfl)
            · assumption
            try simp only [Act.put, List.setIfInBounds_toArray, List.set_cons_zero, List.set_cons_succ]
            refine take_in (i := 20) (v := ?_) (d := (some 192)) rfl rfl ?_ ?_ ?_ ?_ ?_ ?_ ?_ ?_
            rotate_left
            · kernel_rfl
            · kernel_rfl
            · kernel_rfl
            · (intro _ _ _ hq; exact hq)
            · rfl
            · (intro _w hSw; (try dsimp only at hSw); go_simp; try with_reducible rfl)
            · assumption
            try simp only [Act.put, List.setIfInBounds_toArray, List.set_cons_zero, List.set_cons_succ]
            refine take_in (i := 21) (v := ?_) (d := (some 193)) rfl rfl ?_ ?_ ?_ ?_ ?_ ?_ ?_ ?_
            rotate_left
            · kernel_rfl
            · kernel_rfl
            · kernel_rfl
            · (intro _ _ _ hq; exact hq)
            · rfl
            · (intro _w hSw; (try dsimp only at hSw); go_simp; try with_reducible rfl)
            · assumption
            try simp only [Act.put, List.setIfInBounds_toArray, List.set_cons_zero, List.set_cons_succ]
            refine wpAnyH_ready (rs := [22]) ?_ ?_ ?_
            · kernel_rfl
            · simp
            refine (AllReadyH.cons rfl (fun K hK => ?_) AllReadyH.nil)
            go_simp
            first | (go_at_call 27; ((with_reducible refine (HC1.out _ hHeld.1).mono ?_)); rintro e w9 ⟨rfl, hg9⟩; have HGA := Lib.hid (hHeld.1.trans hg9); clear hg9) | (go_at_call 27; ((with_reducible refine (HC2.out _ hHeld.1).mono ?_)); rintro e w9 ⟨rfl, hg9⟩; have HGA := Lib.hid (hHeld.1.trans hg9); clear hg9)
            refine hK.out _ _ ?_ (fun hHeld => ?_)
            · ((try dsimp only); (first | exact hHeld | exact KS2.out _ hdr | exact KS2.out _ HGA.out))
            clear hK K
            try simp only [Act.put, List.setIfInBounds_toArray, List.set_cons_zero, List.set_cons_succ]
            refine take_in (i := 23) (v := ?_) (d := (some 195)) rfl rfl ?_ ?_ ?_ ?_ ?_ ?_ ?_ ?_
            rotate_left
            · kernel_rfl
            · kernel_rfl
            · kernel_rfl
            · (intro _ _ _ hq; exact hq)
            · rfl
            · (intro _w hSw; (try dsimp only at hSw); go_simp; try with_reducible rfl)
            · assumption
            try simp only [Act.put, List.setIfInBounds_toArray, List.set_cons_zero, List.set_cons_succ]
            refine take_in (i := 24) (v := ?_) (d := (some 196)) rfl rfl ?_ ?_ ?_ ?_ ?_ ?_ ?_ ?_
            rotate_left
            · kernel_rfl
            · kernel_rfl
            · kernel_rfl
            · (intro _ _ _ hq; exact hq)
            · rfl
            · (intro _w hSw; (try dsimp only at hSw); go_simp; try with_reducible rfl)
            · assumption
            try simp only [Act.put, List.setIfInBounds_toArray, List.set_cons_zero, List.set_cons_succ]
            refine take_in (i := 25) (v := ?_) (d := (some 197)) rfl rfl ?_ ?_ ?_ ?_ ?_ ?_ ?_ ?_
            rotate_left
            · kernel_rfl
            · kernel_rfl
            · kernel_rfl
            · (intro _ _ _ hq; exact hq)
            · rfl
            · (intro _w hSw; (try dsimp only at hSw); go_simp; try with_reducible rfl)
            · assumption
            try simp only [Act.put, List.setIfInBounds_toArray, List.set_cons_zero, List.set_cons_succ]
            refine wpAnyH_done ?_ ?_ _
            · kernel_rfl
            rotate_left
            all_goals
              have hgr7 := hgr.trans HGA.out
              clear HGA KS2 hdr hHeld z0 z1 z2 HC1 HC2 r1 r2 r3 r4 r5 r6 r7 r8 r9 he2 he3
              go_wp2_with fail
              go_roundw
              case rel => exact ⟨k + 1, by omega, by go_num, hgr7⟩
              case measure => simp [intOf]; omega
          · have hkFi : ¬ (k : Int) < (F : Int) := by omega
            go_upto_region 22 with fail
            refine wp_region_held_drew (S := (fun W' => Gr wr W' ∧ W'.cell? ⟨Z, 0, none⟩ = some (.string b) ∧ W'.cell? ⟨Z, 1, none⟩ = some (.slice (some ⟨G2, 0, none⟩) q q) ∧ W'.cell? ⟨Z, 2, none⟩ = some (.slice (some ⟨V2, 0, none⟩) q q))) ?_ ?_ (fun hHeld => ?_)
            · kernel_rfl
            · ((try dsimp only); (first | exact hHeld | exact KS2.out _ hdr | exact KS2.out _ HGA.out))
            refine take_in (i := 0) (v := ?_) (d := (some 172)) rfl rfl ?_ ?_ ?_ ?_ ?_ ?_ ?_ ?_
            rotate_left
            · kernel_rfl
            · kernel_rfl
            · kernel_rfl
            · (intro _ _ _ hq; exact hq)
            · rfl
            · (intro _w hSw; (try dsimp only at hSw); go_simp; try with_reducible rfl)
            · assumption
            try simp only [Act.put, List.setIfInBounds_toArray, List.set_cons_zero, List.set_cons_succ]
            refine take_in (i := 1) (v := ?_) (d := (some 173)) rfl rfl ?_ ?_ ?_ ?_ ?_ ?_ ?_ ?_
            rotate_left
            · kernel_rfl
            · kernel_rfl
            · kernel_rfl
            · (intro _ _ _ hq; exact hq)
            · rfl
            · (intro _w hSw; (try dsimp only at hSw); go_simp; try with_reducible rfl)
            · assumption
            try simp only [Act.put, List.setIfInBounds_toArray, List.set_cons_zero, List.set_cons_succ]
            refine take_in (i := 2) (v := ?_) (d := (some 174)) rfl rfl ?_ ?_ ?_ ?_ ?_ ?_ ?_ ?_
            rotate_left
            · kernel_rfl
            · kernel_rfl
            · kernel_rfl
            · (intro _ _ _ hq; exact hq)
            · rfl
            · (intro _w hSw; (try dsimp only at hSw); go_simp; try with_reducible rfl)
            · assumption
            try simp only [Act.put, List.setIfInBounds_toArray, List.set_cons_zero, List.set_cons_succ]
            refine take_in (i := 3) (v := ?_) (d := (some 175)) rfl rfl ?_ ?_ ?_ ?_ ?_ ?_ ?_ ?_
            rotate_left
            · kernel_rfl
            · kernel_rfl
            · kernel_rfl
            · (intro _ _ _ hq; exact hq)
            · rfl
            · (intro _w hSw; (try dsimp only at hSw); go_simp; try with_reducible rfl)
            · assumption
            try simp only [Act.put, List.setIfInBounds_toArray, List.set_cons_zero, List.set_cons_succ]
            refine take_in (i := 4) (v := ?_) (d := (some 176)) rfl rfl ?_ ?_ ?_ ?_ ?_ ?_ ?_ ?_
            rotate_left
            · kernel_rfl
            · kernel_rfl
            · kernel_rfl
            · (intro _ _ _ hq; exact hq)
            · rfl
            · (intro _w hSw; (try dsimp only at hSw); go_simp; try with_reducible rfl)
            · assumption
            try simp only [Act.put, List.setIfInBounds_toArray, List.set_cons_zero, List.set_cons_succ]
            refine take_in (i := 5) (v := ?_) (d := (some 177)) rfl rfl ?_ ?_ ?_ ?_ ?_ ?_ ?_ ?_
            rotate_left
            · kernel_rfl
            · kernel_rfl
            · kernel_rfl
            · (intro _ _ _ hq; exact hq)
            · rfl
            · (intro _w hSw; (try dsimp only at hSw); go_simp; try with_reducible rfl)
            · assumption
            try simp only [Act.put, List.setIfInBounds_toArray, List.set_cons_zero, List.set_cons_succ]
            refine take_in (i := 6) (v := ?_) (d := (some 178)) rfl rfl ?_ ?_ ?_ ?_ ?_ ?_ ?_ ?_
            rotate_left
            · kernel_rfl
            · kernel_rfl
            · kernel_rfl
            · (intro _ _ _ hq; exact hq)
            · rfl
            · (intro _w hSw; (try dsimp only at hSw); go_simp; try with_reducible rfl)
            · assumption
            try simp only [Act.put, List.setIfInBounds_toArray, List.set_cons_zero, List.set_cons_succ]
            refine take_in (i := 7) (v := ?_) (d := (some 179)) rfl rfl ?_ ?_ ?_ ?_ ?_ ?_ ?_ ?_
            rotate_left
            · kernel_rfl
            · kernel_rfl
            · kernel_rfl
            · (intro _ _ _ hq; exact hq)
            · rfl
            · (intro _w hSw; (try dsimp only at hSw); go_simp; try with_reducible rfl)
            · assumption
            try simp only [Act.put, List.setIfInBounds_toArray, List.set_cons_zero, List.set_cons_succ]
            refine wpAnyH_ready (rs := [8]) ?_ ?_ ?_
            · kernel_rfl
            · simp
            refine (AllReadyH.cons rfl (fun K hK => ?_) AllReadyH.nil)
            go_simp
            first | (go_at_call 27; ((with_reducible refine (HC1.out _ hHeld.1).mono ?_)); rintro e w9 ⟨rfl, hg9⟩; have HGA := Lib.hid (hHeld.1.trans hg9); clear hg9)
            refine hK.out _ _ ?_ (fun hHeld => ?_)
            · ((try dsimp only); (first | exact hHeld | exact KS2.out _ hdr | exact KS2.out _ HGA.out))
            clear hK K
            try simp only [Act.put, List.setIfInBounds_toArray, List.set_cons_zero, List.set_cons_succ]
            refine take_in (i := 9) (v := ?_) (d := (some 181)) rfl rfl ?_ ?_ ?_ ?_ ?_ ?_ ?_ ?_
            rotate_left
            · kernel_rfl
            · kernel_rfl
            · kernel_rfl
            · (intro _ _ _ hq; exact hq)
            · rfl
            · (intro _w hSw; (try dsimp only at hSw); go_simp; try with_reducible rfl)
            · assumption
            try simp only [Act.put, List.setIfInBounds_toArray, List.set_cons_zero, List.set_cons_succ]
            refine take_in (i := 10) (v := ?_) (d := (some 182)) rfl rfl ?_ ?_ ?_ ?_ ?_ ?_ ?_ ?_
            rotate_left
            · kernel_rfl
            · kernel_rfl
            · kernel_rfl
            · (intro _ _ _ hq; exact hq)
            · rfl
            · (intro _w hSw; (try dsimp only at hSw); go_simp; try with_reducible rfl)
            · assumption
            try simp only [Act.put, List.setIfInBounds_toArray, List.set_cons_zero, List.set_cons_succ]
            refine take_in (i := 11) (v := ?_) (d := (some 183)) rfl rfl ?_ ?_ ?_ ?_ ?_ ?_ ?_ ?_
            rotate_left
            · kernel_rfl
            · kernel_rfl
            · kernel_rfl
            · (intro _ _ _ hq; exact hq)
            · rfl
            · (intro _w hSw; (try dsimp only at hSw); go_simp; try with_reducible rfl)
            · assumption
            try simp only [Act.put, List.setIfInBounds_toArray, List.set_cons_zero, List.set_cons_succ]
            refine take_in (i := 12) (v := ?_) (d := (some 184)) rfl rfl ?_ ?_ ?_ ?_ ?_ ?_ ?_ ?_
            rotate_left
            · kernel_rfl
            · kernel_rfl
            · kernel_rfl
            · (intro _ _ _ hq; exact hq)
            · rfl
            · (intro _w hSw; (try dsimp only at hSw); go_simp; try with_reducible rfl)
            · assumption
            try simp only [Act.put, List.setIfInBounds_toArray, List.set_cons_zero, List.set_cons_succ]
            refine take_in (i := 13) (v := ?_) (d := (some 185)) rfl rfl ?_ ?_ ?_ ?_ ?_ ?_ ?_ ?_
            rotate_left
            · kernel_rfl
            · kernel_rfl
            · kernel_rfl
            · (intro _ _ _ hq; exact hq)
            · rfl
            · (intro _w hSw; (try dsimp only at hSw); go_simp; try with_reducible rfl)
            · assumption
            try simp only [Act.put, List.setIfInBounds_toArray, List.set_cons_zero, List.set_cons_succ]
            refine take_in (i := 14) (v := ?_) (d := (some 186)) rfl rfl ?_ ?_ ?_ ?_ ?_ ?_ ?_ ?_
            rotate_left
            · kernel_rfl
            · kernel_rfl
            · kernel_rfl
            · (intro _ _ _ hq; exact hq)
            · rfl
            · (intro _w hSw; (try dsimp only at hSw); go_simp; try with_reducible rfl)
            · assumption
            try simp only [Act.put, List.setIfInBounds_toArray, List.set_cons_zero, List.set_cons_succ]
            refine take_un (i := 15) (d := (some 187)) rfl rfl ?_ ?_ ?_ ?_ ?_ ?_ ?_
            · kernel_rfl
            · kernel_rfl
            · kernel_rfl
            · (intro _ _ _ hq; exact hq)
            · rfl
            · assumption
            try simp only [Act.put, List.setIfInBounds_toArray, List.set_cons_zero, List.set_cons_succ]
            refine take_un (i := 16) (d := (some 188)) rfl rfl ?_ ?_ ?_ ?_ ?_ ?_ ?_
            · kernel_rfl
            · kernel_rfl
            · kernel_rfl
            · (intro _ _ _ hq; exact hq)
            · rfl
            · assumption
            try simp only [Act.put, List.setIfInBounds_toArray, List.set_cons_zero, List.set_cons_succ]
            refine take_un (i := 17) (d := (some 189)) rfl rfl ?_ ?_ ?_ ?_ ?_ ?_ ?_
            · kernel_rfl
            · kernel_rfl
            · kernel_rfl
            · (intro _ _ _ hq; exact hq)
            · rfl
            · assumption
            try simp only [Act.put, List.setIfInBounds_toArray, List.set_cons_zero, List.set_cons_succ]
            refine take_un (i := 18) (d := (some 190)) rfl rfl ?_ ?_ ?_ ?_ ?_ ?_ ?_
            · kernel_rfl
            · kernel_rfl
            · kernel_rfl
            · (intro _ _ _ hq; exact hq)
            · rfl
            · assumption
            try simp only [Act.put, List.setIfInBounds_toArray, List.set_cons_zero, List.set_cons_succ]
            refine take_un (i := 19) (d := (some 191)) rfl rfl ?_ ?_ ?_ ?_ ?_ ?_ ?_
            · kernel_rfl
            · kernel_rfl
            · kernel_rfl
            · (intro _ _ _ hq; exact hq)
            · rfl
            · assumption
            try simp only [Act.put, List.setIfInBounds_toArray, List.set_cons_zero, List.set_cons_succ]
            refine take_un (i := 20) (d := (some 192)) rfl rfl ?_ ?_ ?_ ?_ ?_ ?_ ?_
            · kernel_rfl
            · kernel_rfl
            · kernel_rfl
            · (intro _ _ _ hq; exact hq)
            · rfl
            · assumption
            try simp only [Act.put, List.setIfInBounds_toArray, List.set_cons_zero, List.set_cons_succ]
            refine take_un (i := 21) (d := (some 193)) rfl rfl ?_ ?_ ?_ ?_ ?_ ?_ ?_
            · kernel_rfl
            · kernel_rfl
            · kernel_rfl
            · (intro _ _ _ hq; exact hq)
            · rfl
            · assumption
            try simp only [Act.put, List.setIfInBounds_toArray, List.set_cons_zero, List.set_cons_succ]
            refine take_un (i := 22) (d := (some 194)) rfl rfl ?_ ?_ ?_ ?_ ?_ ?_ ?_
            · kernel_rfl
            · kernel_rfl
            · kernel_rfl
            · (intro _ _ _ hq; exact hq)
            · rfl
            · assumption
            try simp only [Act.put, List.setIfInBounds_toArray, List.set_cons_zero, List.set_cons_succ]
            refine take_un (i := 23) (d := (some 195)) rfl rfl ?_ ?_ ?_ ?_ ?_ ?_ ?_
            · kernel_rfl
            · kernel_rfl
            · kernel_rfl
            · (intro _ _ _ hq; exact hq)
            · rfl
            · assumption
            try simp only [Act.put, List.setIfInBounds_toArray, List.set_cons_zero, List.set_cons_succ]
            refine take_in (i := 24) (v := ?_) (d := (some 196)) rfl rfl ?_ ?_ ?_ ?_ ?_ ?_ ?_ ?_
            rotate_left
            · kernel_rfl
            · kernel_rfl
            · kernel_rfl
            · (intro _ _ _ hq; exact hq)
            · rfl
            · (intro _w hSw; (try dsimp only at hSw); go_simp; try with_reducible rfl)
            · assumption
            try simp only [Act.put, List.setIfInBounds_toArray, List.set_cons_zero, List.set_cons_succ]
            refine take_in (i := 25) (v := ?_) (d := (some 197)) rfl rfl ?_ ?_ ?_ ?_ ?_ ?_ ?_ ?_
            rotate_left
            · kernel_rfl
            · kernel_rfl
            · kernel_rfl
            · (intro _ _ _ hq; exact hq)
            · rfl
            · (intro _w hSw; (try dsimp only at hSw); go_simp; try with_reducible rfl)
            · assumption
            try simp only [Act.put, List.setIfInBounds_toArray, List.set_cons_zero, List.set_cons_succ]
            refine wpAnyH_done ?_ ?_ _
            · kernel_rfl
            rotate_left
            all_goals
              have hgr7 := hgr.trans HGA.out
              clear HGA KS2 hdr hHeld z0 z1 z2 HC1 HC2 r1 r2 r3 r4 r5 r6 r7 r8 r9 he2 he3
              go_wp2_with fail
              go_roundw
              case rel => exact ⟨k + 1, by omega, by go_num, hgr7⟩
              case measure => simp [intOf]; omega
        · have hki : ¬ (e2 : Int) < (n : Int) := by omega
          have HA := Lib.hid (awake_any wr)
          have hgr7 := hgr6.trans hgr
          go_wp2_with fail
          refine HA.out.mono ?_
          rintro e w10 ⟨rfl, hg10⟩
          clear HA
          go_wp2_with fail
          go_ret
          exact ⟨rfl, hgr7.trans hg10⟩

end Go.Proofs.Ytndmbjicflcpmaa
