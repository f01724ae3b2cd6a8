/- Layer 7: the law of Sides. -/
import Derived.Test.YtmcefcdnfngndaaFdMa
namespace Go.Proofs.Ytmcefcdnfngndaa
open Go.RowKit Go.Shelf
set_option linter.unusedSimpArgs false

set_option maxRecDepth 1000000 in
set_option maxHeartbeats 32000000 in
theorem lawSides_any (s0 p : ByteArray) (w : World) (hpb : p.size ≤ 9223372036854775807) : Calls Try.prog 7 #[.string s0, .string p] w fun e w' => e = .returned (.bool true) ∧ Gr w w' := by
  obtain ⟨k0, hk0⟩ : ∃ k : Nat, min s0.size 500 = k := ⟨_, rfl⟩
  have hmn : min (s0.size : Int) 500 = (k0 : Int) := by omega
  have h1 : k0 ≤ s0.size := by omega
  have h1i : (k0 : Int) ≤ (s0.size : Int) := by omega
  have hkb : k0 ≤ 500 := by omega
  obtain ⟨s, hs⟩ : ∃ s, s0.extract 0 k0 = s := ⟨_, rfl⟩
  have hsz : s.size = k0 := by rw [← hs]; exact size_take s0 k0 h1
  have HS := Lib.hid hs
  have HPB := Lib.hid hpb
  clear hk0 hs hpb
  go_enter Try.func7, Try.ntmps7
  go_upto_region 2 with fail
  rw [HS.out]
  clear hmn h1 h1i HS
  subst hsz
  obtain ⟨n, hn⟩ : ∃ n, s.size = n := ⟨_, rfl⟩
  have HN := Lib.hid hn
  have hnb : n ≤ 500 := by omega
  have hsn : (s.size : Int) = (n : Int) := by omega
  have HT := Lib.hid (new_yes s n w hn (by omega))
  obtain ⟨q, hq⟩ : ∃ q, p.size = q := ⟨_, rfl⟩
  have hqi : (p.size : Int) = (q : Int) := by omega
  have hqb : q ≤ 9223372036854775807 := by have := HPB.out; omega
  have HQ := Lib.hid hq
  clear hn hkb hq
  go_wp2_with fail
  refine HT.out.mono ?_
  rintro e w1 ⟨o, G, V, rfl, hX, hg1⟩
  have HX := Lib.hid hX
  clear HT hX
  go_upto_region 3 with fail
  generalize hW2 : World.alloc w1 _ = w2
  obtain ⟨X, hXX⟩ : ∃ X, w1.heap.size = X := ⟨_, rfl⟩
  rw [hXX]
  have hg2 : Gr w1 w2 := by rw [← hW2]; exact (Gr.refl _).alloc _
  have HB : Hid (Blk w2 X 25 #[.string s, .slice (some ⟨G, 0, none⟩) n n, .slice (some ⟨V, 0, none⟩) n n]) := Lib.hid (by rw [← hW2]; exact Blk.new w1 _ _ hXX)
  clear hW2 hXX
  have HFC := Lib.hid (fun W (hW : Gr w1 W) => find_any s p n n n o _ _ W (HX.out.keep hW))
  have HCC := Lib.hid (fun W (hW : Gr w1 W) => count_any s p n n n o _ _ W (HX.out.keep hW))
  have HOC := Lib.hid (fun W (hW : Gr w1 W) => order_any s n n n o _ _ W (HX.out.keep hW))
  have HLL := Lib.hid (occL_len (bts s) (bts p))
  have HOL := Lib.hid HX.out.olen
  have HOT := Lib.hid (fun i (hi : i < n) => HX.out.olt hi)
  have HTL := Lib.hid HX.out.tlen
  have HO := Lib.hid HX.out.ord
  have hcb : occN (bts s) (bts p) ≤ 500 := by
    have : occN (bts s) (bts p) ≤ (bts s).length := by
      unfold occN
      have := List.countP_le_length (p := fun i => (bts p).isPrefixOf ((bts s).drop i)) (l := List.range (bts s).length)
      rwa [List.length_range] at this
    rw [HX.out.tlen] at this
    omega
  obtain ⟨fr, t, hPL⟩ := HX.out.ord.places (bts p)
  have HCN := Lib.hid (hPL.count HX.out.ord.perm)
  have HPI := Lib.hid (fun i (hi : i < n) => hPL.iff i (by rw [HOL.out]; exact hi))
  have hft : fr ≤ t := hPL.le
  have htn : t ≤ n := by have := hPL.top; rw [HOL.out] at this; exact this
  clear hPL
  have HOM := Lib.hid (fun y => @occL_mem (bts s) (bts p) y)
  have HOA := Lib.hid (occL_asc (bts s) (bts p))
  generalize occL (bts s) (bts p) = L at *
  generalize occN (bts s) (bts p) = m at *
  have HR0 := Lib.hid (Gr.refl w2)
  have KS : Hid (∀ W', Gr w2 W' → Gr w2 W' ∧ W'.cell? ⟨X, 0, none⟩ = some (.string s) ∧ W'.cell? ⟨X, 1, none⟩ = some (.slice (some ⟨G, 0, none⟩) n n) ∧ W'.cell? ⟨X, 2, none⟩ = some (.slice (some ⟨V, 0, none⟩) n n)) := Lib.hid (fun W' h => ⟨h, (HB.out.keep h).cell 0, (HB.out.keep h).cell 1, (HB.out.keep h).cell 2⟩)
  have hdr : Gr w2 w2.drew := (Gr.refl w2).drew
  have HG2 := Lib.hid hg2
  clear hg2
  go_cut [7, 8] from 27 to 31 (fun v7 v8 wx => ∃ A c A' c', v7 = .slice A n c ∧ v8 = .slice A' m c' ∧ Hid (Ints wx A (nI o)) ∧ Hid (Ints wx A' (nI L)) ∧ Hid (Gr w2 wx))
  case first =>
    refine wp_region_held_drew (S := (fun W' => Gr w2 W' ∧ W'.cell? ⟨X, 0, none⟩ = some (.string s) ∧ W'.cell? ⟨X, 1, none⟩ = some (.slice (some ⟨G, 0, none⟩) n n) ∧ W'.cell? ⟨X, 2, none⟩ = some (.slice (some ⟨V, 0, none⟩) n n))) ?_ ?_ (fun hHeld => ?_)
    · kernel_rfl
    · ((try dsimp only); (first | exact hHeld | exact KS.out _ hdr | exact KS.out _ HGF.out | exact KS.out _ HGO.out))
    refine take_in (i := 0) (v := ?_) (d := (some 27)) rfl rfl ?_ ?_ ?_ ?_ ?_ ?_ ?_ ?_
    rotate_left
    · kernel_rfl
    · kernel_rfl
    · kernel_rfl
    · (intro _ _ _ hq; exact hq)
    · rfl
    · (intro _w hSw; (try dsimp only at hSw); go_simp; try with_reducible rfl)
    · assumption
    try simp only [Act.put, List.setIfInBounds_toArray, List.set_cons_zero, List.set_cons_succ]
    refine take_in (i := 2) (v := ?_) (d := (some 29)) rfl rfl ?_ ?_ ?_ ?_ ?_ ?_ ?_ ?_
    rotate_left
    · kernel_rfl
    · kernel_rfl
    · kernel_rfl
    · (intro _ _ _ hq; exact hq)
    · rfl
    · (intro _w hSw; (try dsimp only at hSw); go_simp; try with_reducible rfl)
    · assumption
    try simp only [Act.put, List.setIfInBounds_toArray, List.set_cons_zero, List.set_cons_succ]
    refine take_in (i := 3) (v := ?_) (d := (some 30)) rfl rfl ?_ ?_ ?_ ?_ ?_ ?_ ?_ ?_
    rotate_left
    · kernel_rfl
    · kernel_rfl
    · kernel_rfl
    · (intro _ _ _ hq; exact hq)
    · rfl
    · (intro _w hSw; (try dsimp only at hSw); go_simp; try with_reducible rfl)
    · assumption
    try simp only [Act.put, List.setIfInBounds_toArray, List.set_cons_zero, List.set_cons_succ]
    refine wpAnyH_ready (rs := [1]) ?_ ?_ ?_
    · kernel_rfl
    · simp
    refine (AllReadyH.cons rfl (fun K hK => ?_) AllReadyH.nil)
    go_simp
    first | (go_at_call 12; ((with_reducible refine (HOC.out _ (HG2.out.trans hHeld.1)).mono ?_)); rintro e w5 ⟨A3, c3, rfl, hown3, hgo⟩; have HI3 := Lib.hid (ints_of_owns HOL.out hown3); have HGO := Lib.hid (hHeld.1.trans hgo); have HG5 := Lib.hid hgo; clear hown3 hgo) | (go_at_call 19; ((with_reducible refine (HFC.out _ (HG2.out.trans hHeld.1)).mono ?_)); rintro e w6 ⟨A4, c4, rfl, hown4, hgo⟩; have HI4 := Lib.hid (ints_of_owns HLL.out hown4); have HGF := Lib.hid (hHeld.1.trans hgo); have HG6 := Lib.hid hgo; clear hown4 hgo)
    refine hK.out _ _ ?_ (fun hHeld => ?_)
    · ((try dsimp only); (first | exact hHeld | exact KS.out _ hdr | exact KS.out _ HGF.out | exact KS.out _ HGO.out))
    clear hK K
    try simp only [Act.put, List.setIfInBounds_toArray, List.set_cons_zero, List.set_cons_succ]
    refine wpAnyH_ready (rs := [4]) ?_ ?_ ?_
    · kernel_rfl
    · simp
    refine (AllReadyH.cons rfl (fun K hK => ?_) AllReadyH.nil)
    go_simp
    first | (go_at_call 12; ((with_reducible refine (HOC.out _ (HG2.out.trans hHeld.1)).mono ?_)); rintro e w5 ⟨A3, c3, rfl, hown3, hgo⟩; have HI3 := Lib.hid (ints_of_owns HOL.out hown3); have HGO := Lib.hid (hHeld.1.trans hgo); have HG5 := Lib.hid hgo; clear hown3 hgo) | (go_at_call 19; ((with_reducible refine (HFC.out _ (HG2.out.trans hHeld.1)).mono ?_)); rintro e w6 ⟨A4, c4, rfl, hown4, hgo⟩; have HI4 := Lib.hid (ints_of_owns HLL.out hown4); have HGF := Lib.hid (hHeld.1.trans hgo); have HG6 := Lib.hid hgo; clear hown4 hgo)
    refine hK.out _ _ ?_ (fun hHeld => ?_)
    · ((try dsimp only); (first | exact hHeld | exact KS.out _ hdr | exact KS.out _ HGF.out | exact KS.out _ HGO.out))
    clear hK K
    try simp only [Act.put, List.setIfInBounds_toArray, List.set_cons_zero, List.set_cons_succ]
    refine take_in (i := 5) (v := ?_) (d := (some 7)) rfl rfl ?_ ?_ ?_ ?_ ?_ ?_ ?_ ?_
    rotate_left
    · kernel_rfl
    · kernel_rfl
    · kernel_rfl
    · (intro _ _ _ hq; exact hq)
    · rfl
    · (intro _w hSw; (try dsimp only at hSw); go_simp; try with_reducible rfl)
    · assumption
    try simp only [Act.put, List.setIfInBounds_toArray, List.set_cons_zero, List.set_cons_succ]
    refine take_in (i := 6) (v := ?_) (d := (some 8)) rfl rfl ?_ ?_ ?_ ?_ ?_ ?_ ?_ ?_
    rotate_left
    · kernel_rfl
    · kernel_rfl
    · kernel_rfl
    · (intro _ _ _ hq; exact hq)
    · rfl
    · (intro _w hSw; (try dsimp only at hSw); go_simp; try with_reducible rfl)
    · assumption
    try simp only [Act.put, List.setIfInBounds_toArray, List.set_cons_zero, List.set_cons_succ]
    refine wpAnyH_done ?_ ?_ _
    · kernel_rfl
    rotate_left
    all_goals
      go_wp2_with fail
      go_meet
      first
      | exact ⟨A3, c3, A4, c4, rfl, rfl, Lib.hid (HI3.out.keep HG6.out), HI4, HGF⟩
      | exact ⟨A3, c3, A4, c4, rfl, rfl, HI3, Lib.hid (HI4.out.keep HG5.out), HGO⟩
  case rest =>
    obtain ⟨A, c, A', c', rfl, rfl, HIO, HIL, HGC⟩ := hcut
    obtain ⟨wA, hwA⟩ : ∃ wA, wc = wA := ⟨_, rfl⟩
    subst hwA
    clear hdr KS HOC HFC HR0
    have hmk := fun W => mk_boF n (by omega) W
    go_upto_region 7 with fail
    generalize hW3 : World.alloc wc _ = w3
    obtain ⟨Z, hZ⟩ : ∃ Z, wc.heap.size = Z := ⟨_, rfl⟩
    rw [hZ]
    have HZ := Lib.hid hZ
    have HSN : Hid (SB w3 Z n (seenF o 0)) := Lib.hid (by
      have := SB.new (by rw [← hW3]; exact Blk.new wc (boF n) _ hZ : Blk w3 Z 4 (boF n))
      have e : seenF o 0 = fun _ => false := by funext x; simp [seenF]
      rw [e]; exact this)
    have HGC3 : Hid (Gr wc w3) := Lib.hid (by rw [← hW3]; exact (Gr.refl _).alloc _)
    have hmi : m ≤ 500 := hcb
    clear hW3 hZ hmk
    go_wp2_with fail
    go_loopw [10, 11, 12, 13] (fun a b u z wr => ∃ k : Nat, k ≤ n ∧ z = .int .i64 (k : Int) ∧ a = .int .i64 (rnF fr t k : Int) ∧ b = .int .i64 (cnF fr t k : Int) ∧ u = .bool (decide (fr < k ∧ k ≤ t)) ∧ Hid (SB wr Z n (seenF o k)) ∧ Hid (Gr wc wr)) (fun _ _ _ z _ => n - (intOf z).toNat)
    case atStart => exact ⟨0, Nat.zero_le _, rfl, by simp [rnF], by simp [cnF], by simp, HSN, HGC3⟩
    case round =>
      clear HSN HGC3
      obtain ⟨k, hk, rfl, rfl, rfl, rfl, hS, hgr⟩ := hrel
      by_cases hlt : k < n
      · have hki : (k : Int) < (n : Int) := by omega
        have hx := HOT.out k hlt
        have hkl : k < o.length := by rw [HOL.out]; exact hlt
        obtain ⟨b, off, rfl, hc0⟩ := Ints_at (HIO.out.keep hgr.out) (i := k) (by rw [show (nI o).length = o.length from by simp [nI], HOL.out]; exact hlt)
        rw [nI_at] at hc0
        have HPX := HPI.out k hlt
        have hs0 := hS.out.at hx
        rw [seenF_new HO.out.nodup hkl] at hs0
        have hs1 := hS.out.free (o.getD k 0)
        have HSP := Lib.hid (fun W (hW : Gr wr W) => (hS.out.keep hW).put (o.getD k 0) (f' := seenF o (k + 1)) (fun i _ => seenF_step hkl i))
        have HGP := Lib.hid (fun W (hW : Gr wr W) => (hgr.out.trans hW).setCell (p := ⟨Z, o.getD k 0, none⟩) (by rw [← HZ.out]; exact Nat.le_refl _) (.bool true))
        have HSF := Lib.hid (fun W (hW : Gr wr W) => And.intro ((hS.out.keep hW).at hx) ((hS.out.keep hW).free (o.getD k 0)))
        have HPC := Lib.hid (fun q (hq : o.getD k 0 + q ≤ n) (hp : p.size = q) => piece_eq s p (k := o.getD k 0) (by rw [hp, HN.out]; exact hq))
        have HPN : Hid (n < o.getD k 0 + p.size → (bts p).isPrefixOf ((bts s).drop (o.getD k 0)) = false) := Lib.hid (fun h => by
          rw [Bool.eq_false_iff]
          intro h2
          have := pre_len h2
          rw [HTL.out, bts_len] at this
          omega)
        have HPV : Hid (k = 0 ∨ ∃ j y : Nat, j + 1 = k ∧ y < n ∧ wr.cell? ⟨b, off + j, none⟩ = some (.int .i64 (y : Int)) ∧ Op.bytesLess (s.extract y s.size).toList (s.extract (o.getD k 0) s.size).toList = true) := Lib.hid (by
          rcases Nat.eq_zero_or_pos k with e | e
          · exact Or.inl e
          · refine Or.inr ⟨k - 1, o.getD (k - 1) 0, by omega, HOT.out (k - 1) (by omega), ?_, ?_⟩
            · obtain ⟨b2, off2, e2, hc1⟩ := Ints_at (HIO.out.keep hgr.out) (i := k - 1) (by rw [nI_len, HOL.out]; omega)
              injection e2 with e2
              injection e2 with e3 e4
              rw [e3, e4, hc1, nI_at]
            · rw [less_lt, ByteArray.toList_eq, ByteArray.toList_eq]
              show ltS (bts (s.extract (o.getD (k - 1) 0) s.size)) (bts (s.extract (o.getD k 0) s.size)) = true
              rw [bts_drop, bts_drop]
              exact HO.out.at_lt (by omega) hkl)
        have HST : Hid (rnF fr t (k + 1) = rnF fr t k + (if k = fr ∧ fr < t then 1 else 0) ∧ cnF fr t (k + 1) = cnF fr t k + (if fr ≤ k ∧ k < t then 1 else 0)) := Lib.hid (by
          unfold rnF cnF
          constructor
          · repeat' split
            all_goals omega
          · split <;> omega)
        have HR1 : Hid (rnF fr t k ≤ 1 ∧ cnF fr t k ≤ 500) := Lib.hid (by
          unfold rnF cnF
          constructor
          · split <;> omega
          · omega)
        generalize o.getD k 0 = x at *
        have hxi : (x : Int) < (n : Int) := by omega
        generalize hrn : rnF fr t k = r0 at *
        generalize hcn : cnF fr t k = c0 at *
        clear hrn hcn hS hgr HIO
        go_upto_region 12 with fail
        have hx0 : (0 : Int) ≤ (x : Int) := by omega
        go_cut [84] from 54 to 84 (fun v wx => v = .bool false ∧ Hid (Gr wr wx))
        case first =>
          clear HPX HSP HGP HSF HPC HPN HST HR1
          rcases HPV.out with e | ⟨j, y, hj, hy, hc1, hcmp⟩
          · have hk0 : decide ((0 : Int) < (k : Int)) = false := decide_eq_false (by omega)
            have hk0n : decide (0 < k) = false := decide_eq_false (by omega)
            have hk0m : ¬ 0 < k := by omega
            have hd1 : decide ((n : Int) ≤ (x : Int)) = false := decide_eq_false (by omega)
            have hd1n : decide (n ≤ x) = false := decide_eq_false (by omega)
            have hd2 : decide ((x : Int) < 0) = false := decide_eq_false (by omega)
            clear e HPV
            refine wp_region_held_drew (S := (fun W' => Gr wr W' ∧ W'.cell? ⟨Z, x, none⟩ = some (.bool false))) ?_ ?_ (fun hHeld => ?_)
            · kernel_rfl
            · ((try dsimp only); ((try go_split_ands); (repeat' apply And.intro) <;> (repeat (first | assumption | (exact Gr.refl _) | (refine Gr.drew ?_) | (refine Gr.alloc ?_ _) | (refine alloc_old ?_) | (refine Gr.keep (by assumption) ?_) | (refine Gr.trans ?_ (by assumption))))))
            refine take_in (i := 0) (v := ?_) (d := (some 54)) rfl rfl ?_ ?_ ?_ ?_ ?_ ?_ ?_ ?_
            rotate_left
            · kernel_rfl
            · kernel_rfl
            · kernel_rfl
            · (intro _ _ _ hq; exact hq)
            · rfl
            · (intro _w hSw; (try dsimp only at hSw); go_simp; try with_reducible rfl)
            · assumption
            try simp only [Act.put, List.setIfInBounds_toArray, List.set_cons_zero, List.set_cons_succ]
            refine take_in (i := 1) (v := ?_) (d := (some 55)) rfl rfl ?_ ?_ ?_ ?_ ?_ ?_ ?_ ?_
            rotate_left
            · kernel_rfl
            · kernel_rfl
            · kernel_rfl
            · (intro _ _ _ hq; exact hq)
            · rfl
            · (intro _w hSw; (try dsimp only at hSw); go_simp; try with_reducible rfl)
            · assumption
            try simp only [Act.put, List.setIfInBounds_toArray, List.set_cons_zero, List.set_cons_succ]
            refine take_in (i := 2) (v := ?_) (d := (some 56)) rfl rfl ?_ ?_ ?_ ?_ ?_ ?_ ?_ ?_
            rotate_left
            · kernel_rfl
            · kernel_rfl
            · kernel_rfl
            · (intro _ _ _ hq; exact hq)
            · rfl
            · (intro _w hSw; (try dsimp only at hSw); go_simp; try with_reducible rfl)
            · assumption
            try simp only [Act.put, List.setIfInBounds_toArray, List.set_cons_zero, List.set_cons_succ]
            refine take_in (i := 3) (v := ?_) (d := (some 57)) rfl rfl ?_ ?_ ?_ ?_ ?_ ?_ ?_ ?_
            rotate_left
            · kernel_rfl
            · kernel_rfl
            · kernel_rfl
            · (intro _ _ _ hq; exact hq)
            · rfl
            · (intro _w hSw; (try dsimp only at hSw); go_simp; try with_reducible rfl)
            · assumption
            try simp only [Act.put, List.setIfInBounds_toArray, List.set_cons_zero, List.set_cons_succ]
            refine take_in (i := 4) (v := ?_) (d := (some 58)) rfl rfl ?_ ?_ ?_ ?_ ?_ ?_ ?_ ?_
            rotate_left
            · kernel_rfl
            · kernel_rfl
            · kernel_rfl
            · (intro _ _ _ hq; exact hq)
            · rfl
            · (intro _w hSw; (try dsimp only at hSw); go_simp; try with_reducible rfl)
            · assumption
            try simp only [Act.put, List.setIfInBounds_toArray, List.set_cons_zero, List.set_cons_succ]
            refine take_in (i := 5) (v := ?_) (d := (some 59)) rfl rfl ?_ ?_ ?_ ?_ ?_ ?_ ?_ ?_
            rotate_left
            · kernel_rfl
            · kernel_rfl
            · kernel_rfl
            · (intro _ _ _ hq; exact hq)
            · rfl
            · (intro _w hSw; (try dsimp only at hSw); go_simp; try with_reducible rfl)
            · assumption
            try simp only [Act.put, List.setIfInBounds_toArray, List.set_cons_zero, List.set_cons_succ]
            refine take_in (i := 6) (v := ?_) (d := (some 60)) rfl rfl ?_ ?_ ?_ ?_ ?_ ?_ ?_ ?_
            rotate_left
            · kernel_rfl
            · kernel_rfl
            · kernel_rfl
            · (intro _ _ _ hq; exact hq)
            · rfl
            · (intro _w hSw; (try dsimp only at hSw); go_simp; try with_reducible rfl)
            · assumption
            try simp only [Act.put, List.setIfInBounds_toArray, List.set_cons_zero, List.set_cons_succ]
            refine take_in (i := 7) (v := ?_) (d := (some 61)) rfl rfl ?_ ?_ ?_ ?_ ?_ ?_ ?_ ?_
            rotate_left
            · kernel_rfl
            · kernel_rfl
            · kernel_rfl
            · (intro _ _ _ hq; exact hq)
            · rfl
            · (intro _w hSw; (try dsimp only at hSw); go_simp; try with_reducible rfl)
            · assumption
            try simp only [Act.put, List.setIfInBounds_toArray, List.set_cons_zero, List.set_cons_succ]
            refine take_in (i := 8) (v := ?_) (d := (some 62)) rfl rfl ?_ ?_ ?_ ?_ ?_ ?_ ?_ ?_
            rotate_left
            · kernel_rfl
            · kernel_rfl
            · kernel_rfl
            · (intro _ _ _ hq; exact hq)
            · rfl
            · (intro _w hSw; (try dsimp only at hSw); go_simp; try with_reducible rfl)
            · assumption
            try simp only [Act.put, List.setIfInBounds_toArray, List.set_cons_zero, List.set_cons_succ]
            refine take_in (i := 9) (v := ?_) (d := (some 63)) rfl rfl ?_ ?_ ?_ ?_ ?_ ?_ ?_ ?_
            rotate_left
            · kernel_rfl
            · kernel_rfl
            · kernel_rfl
            · (intro _ _ _ hq; exact hq)
            · rfl
            · (intro _w hSw; (try dsimp only at hSw); go_simp; try with_reducible rfl)
            · assumption
            try simp only [Act.put, List.setIfInBounds_toArray, List.set_cons_zero, List.set_cons_succ]
            refine take_in (i := 10) (v := ?_) (d := (some 64)) rfl rfl ?_ ?_ ?_ ?_ ?_ ?_ ?_ ?_
            rotate_left
            · kernel_rfl
            · kernel_rfl
            · kernel_rfl
            · (intro _ _ _ hq; exact hq)
            · rfl
            · (intro _w hSw; (try dsimp only at hSw); go_simp; try with_reducible rfl)
            · assumption
            try simp only [Act.put, List.setIfInBounds_toArray, List.set_cons_zero, List.set_cons_succ]
            refine take_in (i := 11) (v := ?_) (d := (some 65)) rfl rfl ?_ ?_ ?_ ?_ ?_ ?_ ?_ ?_
            rotate_left
            · kernel_rfl
            · kernel_rfl
            · kernel_rfl
            · (intro _ _ _ hq; exact hq)
            · rfl
            · (intro _w hSw; (try dsimp only at hSw); go_simp; try with_reducible rfl)
            · assumption
            try simp only [Act.put, List.setIfInBounds_toArray, List.set_cons_zero, List.set_cons_succ]
            refine take_in (i := 12) (v := ?_) (d := (some 66)) rfl rfl ?_ ?_ ?_ ?_ ?_ ?_ ?_ ?_
            rotate_left
            · kernel_rfl
            · kernel_rfl
            · kernel_rfl
            · (intro _ _ _ hq; exact hq)
            · rfl
            · (intro _w hSw; (try dsimp only at hSw); go_simp; try with_reducible rfl)
            · assumption
            try simp only [Act.put, List.setIfInBounds_toArray, List.set_cons_zero, List.set_cons_succ]
            refine take_in (i := 13) (v := ?_) (d := (some 67)) rfl rfl ?_ ?_ ?_ ?_ ?_ ?_ ?_ ?_
            rotate_left
            · kernel_rfl
            · kernel_rfl
            · kernel_rfl
            · (intro _ _ _ hq; exact hq)
            · rfl
            · (intro _w hSw; (try dsimp only at hSw); go_simp; try with_reducible rfl)
            · assumption
            try simp only [Act.put, List.setIfInBounds_toArray, List.set_cons_zero, List.set_cons_succ]
            refine take_in (i := 14) (v := ?_) (d := (some 68)) rfl rfl ?_ ?_ ?_ ?_ ?_ ?_ ?_ ?_
            rotate_left
            · kernel_rfl
            · kernel_rfl
            · kernel_rfl
            · (intro _ _ _ hq; exact hq)
            · rfl
            · (intro _w hSw; (try dsimp only at hSw); go_simp; try with_reducible rfl)
            · assumption
            try simp only [Act.put, List.setIfInBounds_toArray, List.set_cons_zero, List.set_cons_succ]
            refine take_in (i := 15) (v := ?_) (d := (some 69)) rfl rfl ?_ ?_ ?_ ?_ ?_ ?_ ?_ ?_
            rotate_left
            · kernel_rfl
            · kernel_rfl
            · kernel_rfl
            · (intro _ _ _ hq; exact hq)
            · rfl
            · (intro _w hSw; (try dsimp only at hSw); go_simp; try with_reducible rfl)
            · assumption
            try simp only [Act.put, List.setIfInBounds_toArray, List.set_cons_zero, List.set_cons_succ]
            refine take_in (i := 16) (v := ?_) (d := (some 70)) rfl rfl ?_ ?_ ?_ ?_ ?_ ?_ ?_ ?_
            rotate_left
            · kernel_rfl
            · kernel_rfl
            · kernel_rfl
            · (intro _ _ _ hq; exact hq)
            · rfl
            · (intro _w hSw; (try dsimp only at hSw); go_simp; try with_reducible rfl)
            · assumption
            try simp only [Act.put, List.setIfInBounds_toArray, List.set_cons_zero, List.set_cons_succ]
            refine take_in (i := 17) (v := ?_) (d := (some 71)) rfl rfl ?_ ?_ ?_ ?_ ?_ ?_ ?_ ?_
            rotate_left
            · kernel_rfl
            · kernel_rfl
            · kernel_rfl
            · (intro _ _ _ hq; exact hq)
            · rfl
            · (intro _w hSw; (try dsimp only at hSw); go_simp; try with_reducible rfl)
            · assumption
            try simp only [Act.put, List.setIfInBounds_toArray, List.set_cons_zero, List.set_cons_succ]
            refine take_un (i := 18) (d := (some 72)) rfl rfl ?_ ?_ ?_ ?_ ?_ ?_ ?_
            · kernel_rfl
            · kernel_rfl
            · kernel_rfl
            · (intro _ _ _ hq; exact hq)
            · rfl
            · assumption
            try simp only [Act.put, List.setIfInBounds_toArray, List.set_cons_zero, List.set_cons_succ]
            refine take_un (i := 19) (d := (some 73)) rfl rfl ?_ ?_ ?_ ?_ ?_ ?_ ?_
            · kernel_rfl
            · kernel_rfl
            · kernel_rfl
            · (intro _ _ _ hq; exact hq)
            · rfl
            · assumption
            try simp only [Act.put, List.setIfInBounds_toArray, List.set_cons_zero, List.set_cons_succ]
            refine take_un (i := 20) (d := (some 74)) rfl rfl ?_ ?_ ?_ ?_ ?_ ?_ ?_
            · kernel_rfl
            · kernel_rfl
            · kernel_rfl
            · (intro _ _ _ hq; exact hq)
            · rfl
            · assumption
            try simp only [Act.put, List.setIfInBounds_toArray, List.set_cons_zero, List.set_cons_succ]
            refine take_un (i := 21) (d := (some 75)) rfl rfl ?_ ?_ ?_ ?_ ?_ ?_ ?_
            · kernel_rfl
            · kernel_rfl
            · kernel_rfl
            · (intro _ _ _ hq; exact hq)
            · rfl
            · assumption
            try simp only [Act.put, List.setIfInBounds_toArray, List.set_cons_zero, List.set_cons_succ]
            refine take_un (i := 22) (d := (some 76)) rfl rfl ?_ ?_ ?_ ?_ ?_ ?_ ?_
            · kernel_rfl
            · kernel_rfl
            · kernel_rfl
            · (intro _ _ _ hq; exact hq)
            · rfl
            · assumption
            try simp only [Act.put, List.setIfInBounds_toArray, List.set_cons_zero, List.set_cons_succ]
            refine take_un (i := 23) (d := (some 77)) rfl rfl ?_ ?_ ?_ ?_ ?_ ?_ ?_
            · kernel_rfl
            · kernel_rfl
            · kernel_rfl
            · (intro _ _ _ hq; exact hq)
            · rfl
            · assumption
            try simp only [Act.put, List.setIfInBounds_toArray, List.set_cons_zero, List.set_cons_succ]
            refine take_un (i := 24) (d := (some 78)) rfl rfl ?_ ?_ ?_ ?_ ?_ ?_ ?_
            · kernel_rfl
            · kernel_rfl
            · kernel_rfl
            · (intro _ _ _ hq; exact hq)
            · rfl
            · assumption
            try simp only [Act.put, List.setIfInBounds_toArray, List.set_cons_zero, List.set_cons_succ]
            refine take_un (i := 25) (d := (some 79)) rfl rfl ?_ ?_ ?_ ?_ ?_ ?_ ?_
            · kernel_rfl
            · kernel_rfl
            · kernel_rfl
            · (intro _ _ _ hq; exact hq)
            · rfl
            · assumption
            try simp only [Act.put, List.setIfInBounds_toArray, List.set_cons_zero, List.set_cons_succ]
            refine take_un (i := 26) (d := (some 80)) rfl rfl ?_ ?_ ?_ ?_ ?_ ?_ ?_
            · kernel_rfl
            · kernel_rfl
            · kernel_rfl
            · (intro _ _ _ hq; exact hq)
            · rfl
            · assumption
            try simp only [Act.put, List.setIfInBounds_toArray, List.set_cons_zero, List.set_cons_succ]
            refine take_un (i := 27) (d := (some 81)) rfl rfl ?_ ?_ ?_ ?_ ?_ ?_ ?_
            · kernel_rfl
            · kernel_rfl
            · kernel_rfl
            · (intro _ _ _ hq; exact hq)
            · rfl
            · assumption
            try simp only [Act.put, List.setIfInBounds_toArray, List.set_cons_zero, List.set_cons_succ]
            refine take_un (i := 28) (d := (some 82)) rfl rfl ?_ ?_ ?_ ?_ ?_ ?_ ?_
            · kernel_rfl
            · kernel_rfl
            · kernel_rfl
            · (intro _ _ _ hq; exact hq)
            · rfl
            · assumption
            try simp only [Act.put, List.setIfInBounds_toArray, List.set_cons_zero, List.set_cons_succ]
            refine take_in (i := 29) (v := ?_) (d := (some 83)) rfl rfl ?_ ?_ ?_ ?_ ?_ ?_ ?_ ?_
            rotate_left
            · kernel_rfl
            · kernel_rfl
            · kernel_rfl
            · (intro _ _ _ hq; exact hq)
            · rfl
            · (intro _w hSw; (try dsimp only at hSw); go_simp; try with_reducible rfl)
            · assumption
            try simp only [Act.put, List.setIfInBounds_toArray, List.set_cons_zero, List.set_cons_succ]
            refine take_in (i := 30) (v := ?_) (d := (some 84)) rfl rfl ?_ ?_ ?_ ?_ ?_ ?_ ?_ ?_
            rotate_left
            · kernel_rfl
            · kernel_rfl
            · kernel_rfl
            · (intro _ _ _ hq; exact hq)
            · rfl
            · (intro _w hSw; (try dsimp only at hSw); go_simp; try with_reducible rfl)
            · assumption
            try simp only [Act.put, List.setIfInBounds_toArray, List.set_cons_zero, List.set_cons_succ]
            refine wpAnyH_done ?_ ?_ _
            · kernel_rfl
            rotate_left
            all_goals
              go_wp2_with fail
              go_meet
              exact ⟨rfl, Lib.hid (by (repeat (first | exact Gr.refl _ | assumption | (refine Gr.drew ?_) | (refine Gr.drewN ?_ _) | (refine Gr.alloc ?_ _) | (refine Gr.trans ?_ (by assumption)))))⟩
          · have g1 : IntKind.i64.wrap ((k : Int) - 1) = (j : Int) := by rw [show (k : Int) - 1 = (j : Int) by omega]; exact IntWalk.i64_in _ (by omega)
            have hk0 : decide ((0 : Int) < (k : Int)) = true := decide_eq_true (by omega)
            have hk0n : decide (0 < k) = true := decide_eq_true (by omega)
            have hk0m : 0 < k := by omega
            have hjn : (j : Int) < (n : Int) := by omega
            have hyi : (y : Int) ≤ (n : Int) := by omega
            have hxi2 : (x : Int) ≤ (n : Int) := by omega
            have hy0 : (0 : Int) ≤ (y : Int) := by omega
            have hd1 : decide ((n : Int) ≤ (x : Int)) = false := decide_eq_false (by omega)
            have hd1n : decide (n ≤ x) = false := decide_eq_false (by omega)
            have hd2 : decide ((x : Int) < 0) = false := decide_eq_false (by omega)
            clear hj HPV
            refine wp_region_held_drew (S := (fun W' => Gr wr W' ∧ W'.cell? ⟨Z, x, none⟩ = some (.bool false) ∧ W'.cell? ⟨b, off + j, none⟩ = some (.int .i64 (y : Int)))) ?_ ?_ (fun hHeld => ?_)
            · kernel_rfl
            · ((try dsimp only); ((try go_split_ands); (repeat' apply And.intro) <;> (repeat (first | assumption | (exact Gr.refl _) | (refine Gr.drew ?_) | (refine Gr.alloc ?_ _) | (refine alloc_old ?_) | (refine Gr.keep (by assumption) ?_) | (refine Gr.trans ?_ (by assumption))))))
            refine take_in (i := 0) (v := ?_) (d := (some 54)) rfl rfl ?_ ?_ ?_ ?_ ?_ ?_ ?_ ?_
            rotate_left
            · kernel_rfl
            · kernel_rfl
            · kernel_rfl
            · (intro _ _ _ hq; exact hq)
            · rfl
            · (intro _w hSw; (try dsimp only at hSw); go_simp; try with_reducible rfl)
            · assumption
            try simp only [Act.put, List.setIfInBounds_toArray, List.set_cons_zero, List.set_cons_succ]
            refine take_in (i := 1) (v := ?_) (d := (some 55)) rfl rfl ?_ ?_ ?_ ?_ ?_ ?_ ?_ ?_
            rotate_left
            · kernel_rfl
            · kernel_rfl
            · kernel_rfl
            · (intro _ _ _ hq; exact hq)
            · rfl
            · (intro _w hSw; (try dsimp only at hSw); go_simp; try with_reducible rfl)
            · assumption
            try simp only [Act.put, List.setIfInBounds_toArray, List.set_cons_zero, List.set_cons_succ]
            refine take_in (i := 2) (v := ?_) (d := (some 56)) rfl rfl ?_ ?_ ?_ ?_ ?_ ?_ ?_ ?_
            rotate_left
            · kernel_rfl
            · kernel_rfl
            · kernel_rfl
            · (intro _ _ _ hq; exact hq)
            · rfl
            · (intro _w hSw; (try dsimp only at hSw); go_simp; try with_reducible rfl)
            · assumption
            try simp only [Act.put, List.setIfInBounds_toArray, List.set_cons_zero, List.set_cons_succ]
            refine take_in (i := 3) (v := ?_) (d := (some 57)) rfl rfl ?_ ?_ ?_ ?_ ?_ ?_ ?_ ?_
            rotate_left
            · kernel_rfl
            · kernel_rfl
            · kernel_rfl
            · (intro _ _ _ hq; exact hq)
            · rfl
            · (intro _w hSw; (try dsimp only at hSw); go_simp; try with_reducible rfl)
            · assumption
            try simp only [Act.put, List.setIfInBounds_toArray, List.set_cons_zero, List.set_cons_succ]
            refine take_in (i := 4) (v := ?_) (d := (some 58)) rfl rfl ?_ ?_ ?_ ?_ ?_ ?_ ?_ ?_
            rotate_left
            · kernel_rfl
            · kernel_rfl
            · kernel_rfl
            · (intro _ _ _ hq; exact hq)
            · rfl
            · (intro _w hSw; (try dsimp only at hSw); go_simp; try with_reducible rfl)
            · assumption
            try simp only [Act.put, List.setIfInBounds_toArray, List.set_cons_zero, List.set_cons_succ]
            refine take_in (i := 5) (v := ?_) (d := (some 59)) rfl rfl ?_ ?_ ?_ ?_ ?_ ?_ ?_ ?_
            rotate_left
            · kernel_rfl
            · kernel_rfl
            · kernel_rfl
            · (intro _ _ _ hq; exact hq)
            · rfl
            · (intro _w hSw; (try dsimp only at hSw); go_simp; try with_reducible rfl)
            · assumption
            try simp only [Act.put, List.setIfInBounds_toArray, List.set_cons_zero, List.set_cons_succ]
            refine take_in (i := 6) (v := ?_) (d := (some 60)) rfl rfl ?_ ?_ ?_ ?_ ?_ ?_ ?_ ?_
            rotate_left
            · kernel_rfl
            · kernel_rfl
            · kernel_rfl
            · (intro _ _ _ hq; exact hq)
            · rfl
            · (intro _w hSw; (try dsimp only at hSw); go_simp; try with_reducible rfl)
            · assumption
            try simp only [Act.put, List.setIfInBounds_toArray, List.set_cons_zero, List.set_cons_succ]
            refine take_in (i := 7) (v := ?_) (d := (some 61)) rfl rfl ?_ ?_ ?_ ?_ ?_ ?_ ?_ ?_
            rotate_left
            · kernel_rfl
            · kernel_rfl
            · kernel_rfl
            · (intro _ _ _ hq; exact hq)
            · rfl
            · (intro _w hSw; (try dsimp only at hSw); go_simp; try with_reducible rfl)
            · assumption
            try simp only [Act.put, List.setIfInBounds_toArray, List.set_cons_zero, List.set_cons_succ]
            refine take_in (i := 8) (v := ?_) (d := (some 62)) rfl rfl ?_ ?_ ?_ ?_ ?_ ?_ ?_ ?_
            rotate_left
            · kernel_rfl
            · kernel_rfl
            · kernel_rfl
            · (intro _ _ _ hq; exact hq)
            · rfl
            · (intro _w hSw; (try dsimp only at hSw); go_simp; try with_reducible rfl)
            · assumption
            try simp only [Act.put, List.setIfInBounds_toArray, List.set_cons_zero, List.set_cons_succ]
            refine take_in (i := 9) (v := ?_) (d := (some 63)) rfl rfl ?_ ?_ ?_ ?_ ?_ ?_ ?_ ?_
            rotate_left
            · kernel_rfl
            · kernel_rfl
            · kernel_rfl
            · (intro _ _ _ hq; exact hq)
            · rfl
            · (intro _w hSw; (try dsimp only at hSw); go_simp; try with_reducible rfl)
            · assumption
            try simp only [Act.put, List.setIfInBounds_toArray, List.set_cons_zero, List.set_cons_succ]
            refine take_in (i := 10) (v := ?_) (d := (some 64)) rfl rfl ?_ ?_ ?_ ?_ ?_ ?_ ?_ ?_
            rotate_left
            · kernel_rfl
            · kernel_rfl
            · kernel_rfl
            · (intro _ _ _ hq; exact hq)
            · rfl
            · (intro _w hSw; (try dsimp only at hSw); go_simp; try with_reducible rfl)
            · assumption
            try simp only [Act.put, List.setIfInBounds_toArray, List.set_cons_zero, List.set_cons_succ]
            refine take_in (i := 11) (v := ?_) (d := (some 65)) rfl rfl ?_ ?_ ?_ ?_ ?_ ?_ ?_ ?_
            rotate_left
            · kernel_rfl
            · kernel_rfl
            · kernel_rfl
            · (intro _ _ _ hq; exact hq)
            · rfl
            · (intro _w hSw; (try dsimp only at hSw); go_simp; try with_reducible rfl)
            · assumption
            try simp only [Act.put, List.setIfInBounds_toArray, List.set_cons_zero, List.set_cons_succ]
            refine take_in (i := 12) (v := ?_) (d := (some 66)) rfl rfl ?_ ?_ ?_ ?_ ?_ ?_ ?_ ?_
            rotate_left
            · kernel_rfl
            · kernel_rfl
            · kernel_rfl
            · (intro _ _ _ hq; exact hq)
            · rfl
            · (intro _w hSw; (try dsimp only at hSw); go_simp; try with_reducible rfl)
            · assumption
            try simp only [Act.put, List.setIfInBounds_toArray, List.set_cons_zero, List.set_cons_succ]
            refine take_in (i := 13) (v := ?_) (d := (some 67)) rfl rfl ?_ ?_ ?_ ?_ ?_ ?_ ?_ ?_
            rotate_left
            · kernel_rfl
            · kernel_rfl
            · kernel_rfl
            · (intro _ _ _ hq; exact hq)
            · rfl
            · (intro _w hSw; (try dsimp only at hSw); go_simp; try with_reducible rfl)
            · assumption
            try simp only [Act.put, List.setIfInBounds_toArray, List.set_cons_zero, List.set_cons_succ]
            refine take_in (i := 14) (v := ?_) (d := (some 68)) rfl rfl ?_ ?_ ?_ ?_ ?_ ?_ ?_ ?_
            rotate_left
            · kernel_rfl
            · kernel_rfl
            · kernel_rfl
            · (intro _ _ _ hq; exact hq)
            · rfl
            · (intro _w hSw; (try dsimp only at hSw); go_simp; try with_reducible rfl)
            · assumption
            try simp only [Act.put, List.setIfInBounds_toArray, List.set_cons_zero, List.set_cons_succ]
            refine take_in (i := 15) (v := ?_) (d := (some 69)) rfl rfl ?_ ?_ ?_ ?_ ?_ ?_ ?_ ?_
            rotate_left
            · kernel_rfl
            · kernel_rfl
            · kernel_rfl
            · (intro _ _ _ hq; exact hq)
            · rfl
            · (intro _w hSw; (try dsimp only at hSw); go_simp; try with_reducible rfl)
            · assumption
            try simp only [Act.put, List.setIfInBounds_toArray, List.set_cons_zero, List.set_cons_succ]
            refine take_in (i := 16) (v := ?_) (d := (some 70)) rfl rfl ?_ ?_ ?_ ?_ ?_ ?_ ?_ ?_
            rotate_left
            · kernel_rfl
            · kernel_rfl
            · kernel_rfl
            · (intro _ _ _ hq; exact hq)
            · rfl
            · (intro _w hSw; (try dsimp only at hSw); go_simp; try with_reducible rfl)
            · assumption
            try simp only [Act.put, List.setIfInBounds_toArray, List.set_cons_zero, List.set_cons_succ]
            refine take_in (i := 17) (v := ?_) (d := (some 71)) rfl rfl ?_ ?_ ?_ ?_ ?_ ?_ ?_ ?_
            rotate_left
            · kernel_rfl
            · kernel_rfl
            · kernel_rfl
            · (intro _ _ _ hq; exact hq)
            · rfl
            · (intro _w hSw; (try dsimp only at hSw); go_simp; try with_reducible rfl)
            · assumption
            try simp only [Act.put, List.setIfInBounds_toArray, List.set_cons_zero, List.set_cons_succ]
            refine take_in (i := 18) (v := ?_) (d := (some 72)) rfl rfl ?_ ?_ ?_ ?_ ?_ ?_ ?_ ?_
            rotate_left
            · kernel_rfl
            · kernel_rfl
            · kernel_rfl
            · (intro _ _ _ hq; exact hq)
            · rfl
            · (intro _w hSw; (try dsimp only at hSw); go_simp; try with_reducible rfl)
            · assumption
            try simp only [Act.put, List.setIfInBounds_toArray, List.set_cons_zero, List.set_cons_succ]
            refine take_in (i := 19) (v := ?_) (d := (some 73)) rfl rfl ?_ ?_ ?_ ?_ ?_ ?_ ?_ ?_
            rotate_left
            · kernel_rfl
            · kernel_rfl
            · kernel_rfl
            · (intro _ _ _ hq; exact hq)
            · rfl
            · (intro _w hSw; (try dsimp only at hSw); go_simp; try with_reducible rfl)
            · assumption
            try simp only [Act.put, List.setIfInBounds_toArray, List.set_cons_zero, List.set_cons_succ]
            refine take_in (i := 20) (v := ?_) (d := (some 74)) rfl rfl ?_ ?_ ?_ ?_ ?_ ?_ ?_ ?_
            rotate_left
            · kernel_rfl
            · kernel_rfl
            · kernel_rfl
            · (intro _ _ _ hq; exact hq)
            · rfl
            · (intro _w hSw; (try dsimp only at hSw); go_simp; try with_reducible rfl)
            · assumption
            try simp only [Act.put, List.setIfInBounds_toArray, List.set_cons_zero, List.set_cons_succ]
            refine take_in (i := 21) (v := ?_) (d := (some 75)) rfl rfl ?_ ?_ ?_ ?_ ?_ ?_ ?_ ?_
            rotate_left
            · kernel_rfl
            · kernel_rfl
            · kernel_rfl
            · (intro _ _ _ hq; exact hq)
            · rfl
            · (intro _w hSw; (try dsimp only at hSw); go_simp; try with_reducible rfl)
            · assumption
            try simp only [Act.put, List.setIfInBounds_toArray, List.set_cons_zero, List.set_cons_succ]
            refine take_in (i := 22) (v := ?_) (d := (some 76)) rfl rfl ?_ ?_ ?_ ?_ ?_ ?_ ?_ ?_
            rotate_left
            · kernel_rfl
            · kernel_rfl
            · kernel_rfl
            · (intro _ _ _ hq; exact hq)
            · rfl
            · (intro _w hSw; (try dsimp only at hSw); go_simp; try with_reducible rfl)
            · assumption
            try simp only [Act.put, List.setIfInBounds_toArray, List.set_cons_zero, List.set_cons_succ]
            refine take_in (i := 23) (v := ?_) (d := (some 77)) rfl rfl ?_ ?_ ?_ ?_ ?_ ?_ ?_ ?_
            rotate_left
            · kernel_rfl
            · kernel_rfl
            · kernel_rfl
            · (intro _ _ _ hq; exact hq)
            · rfl
            · (intro _w hSw; (try dsimp only at hSw); go_simp; try with_reducible rfl)
            · assumption
            try simp only [Act.put, List.setIfInBounds_toArray, List.set_cons_zero, List.set_cons_succ]
            refine take_in (i := 24) (v := ?_) (d := (some 78)) rfl rfl ?_ ?_ ?_ ?_ ?_ ?_ ?_ ?_
            rotate_left
            · kernel_rfl
            · kernel_rfl
            · kernel_rfl
            · (intro _ _ _ hq; exact hq)
            · rfl
            · (intro _w hSw; (try dsimp only at hSw); go_simp; try with_reducible rfl)
            · assumption
            try simp only [Act.put, List.setIfInBounds_toArray, List.set_cons_zero, List.set_cons_succ]
            refine take_in (i := 25) (v := ?_) (d := (some 79)) rfl rfl ?_ ?_ ?_ ?_ ?_ ?_ ?_ ?_
            rotate_left
            · kernel_rfl
            · kernel_rfl
            · kernel_rfl
            · (intro _ _ _ hq; exact hq)
            · rfl
            · (intro _w hSw; (try dsimp only at hSw); go_simp; try with_reducible rfl)
            · assumption
            try simp only [Act.put, List.setIfInBounds_toArray, List.set_cons_zero, List.set_cons_succ]
            refine take_in (i := 26) (v := ?_) (d := (some 80)) rfl rfl ?_ ?_ ?_ ?_ ?_ ?_ ?_ ?_
            rotate_left
            · kernel_rfl
            · kernel_rfl
            · kernel_rfl
            · (intro _ _ _ hq; exact hq)
            · rfl
            · (intro _w hSw; (try dsimp only at hSw); go_simp; try with_reducible rfl)
            · assumption
            try simp only [Act.put, List.setIfInBounds_toArray, List.set_cons_zero, List.set_cons_succ]
            refine take_in (i := 27) (v := ?_) (d := (some 81)) rfl rfl ?_ ?_ ?_ ?_ ?_ ?_ ?_ ?_
            rotate_left
            · kernel_rfl
            · kernel_rfl
            · kernel_rfl
            · (intro _ _ _ hq; exact hq)
            · rfl
            · (intro _w hSw; (try dsimp only at hSw); go_simp; try with_reducible rfl)
            · assumption
            try simp only [Act.put, List.setIfInBounds_toArray, List.set_cons_zero, List.set_cons_succ]
            refine take_in (i := 28) (v := ?_) (d := (some 82)) rfl rfl ?_ ?_ ?_ ?_ ?_ ?_ ?_ ?_
            rotate_left
            · kernel_rfl
            · kernel_rfl
            · kernel_rfl
            · (intro _ _ _ hq; exact hq)
            · rfl
            · (intro _w hSw; (try dsimp only at hSw); go_simp; try with_reducible rfl)
            · assumption
            try simp only [Act.put, List.setIfInBounds_toArray, List.set_cons_zero, List.set_cons_succ]
            refine take_in (i := 29) (v := ?_) (d := (some 83)) rfl rfl ?_ ?_ ?_ ?_ ?_ ?_ ?_ ?_
            rotate_left
            · kernel_rfl
            · kernel_rfl
            · kernel_rfl
            · (intro _ _ _ hq; exact hq)
            · rfl
            · (intro _w hSw; (try dsimp only at hSw); go_simp; try with_reducible rfl)
            · assumption
            try simp only [Act.put, List.setIfInBounds_toArray, List.set_cons_zero, List.set_cons_succ]
            refine take_in (i := 30) (v := ?_) (d := (some 84)) rfl rfl ?_ ?_ ?_ ?_ ?_ ?_ ?_ ?_
            rotate_left
            · kernel_rfl
            · kernel_rfl
            · kernel_rfl
            · (intro _ _ _ hq; exact hq)
            · rfl
            · (intro _w hSw; (try dsimp only at hSw); go_simp; try with_reducible rfl)
            · assumption
            try simp only [Act.put, List.setIfInBounds_toArray, List.set_cons_zero, List.set_cons_succ]
            refine wpAnyH_done ?_ ?_ _
            · kernel_rfl
            rotate_left
            all_goals
              go_wp2_with fail
              go_meet
              exact ⟨rfl, Lib.hid (by (repeat (first | exact Gr.refl _ | assumption | (refine Gr.drew ?_) | (refine Gr.drewN ?_ _) | (refine Gr.alloc ?_ _) | (refine Gr.trans ?_ (by assumption)))))⟩
        case rest =>
          obtain ⟨rfl, HGX⟩ := hcut
          clear hs0 hs1 hc0 HPV
          obtain ⟨s0', s1'⟩ := HSF.out _ HGX.out
          have HSW := Lib.hid (HSP.out _ HGX.out)
          have HGW := Lib.hid (HGP.out _ HGX.out)
          clear HSP HGP HSF HGX
          have hr1 := HR1.out
          go_upto_region 15 with fail
          generalize World.setCell _ _ _ = w4 at HSW HGW ⊢
          clear s0' s1'
          obtain ⟨ws, hws⟩ : ∃ ws, decide (fr < k ∧ k ≤ t) = ws := ⟨_, rfl⟩
          rw [hws]
          have HWS := Lib.hid hws
          have hfti : fr ≤ t := hft
          clear hws
          by_cases hle : x + q ≤ n
          · obtain ⟨ee, hee⟩ : ∃ e, x + q = e := ⟨_, rfl⟩
            have g3 : IntKind.i64.wrap ((x : Int) + (q : Int)) = (ee : Int) := by rw [show (x : Int) + (q : Int) = (ee : Int) by omega]; exact IntWalk.i64_in _ (by omega)
            have HPE := Lib.hid (HPC.out q hle HQ.out)
            rw [HQ.out, hee] at HPE
            obtain ⟨d, hd⟩ : ∃ d, n - x = d := ⟨_, rfl⟩
            have g2 : IntKind.i64.wrap ((n : Int) - (x : Int)) = (d : Int) := by rw [show (n : Int) - (x : Int) = (d : Int) by omega]; exact IntWalk.i64_in _ (by omega)
            have hxe : x ≤ ee := by omega
            have hen : (ee : Int) ≤ (n : Int) := by omega
            have hqd : (q : Int) ≤ (d : Int) := by omega
            clear hee hd hle HPC HPN
            cases hb : (bts p).isPrefixOf ((bts s).drop x) with
            | true =>
              rw [hb] at HPE HPX
              have hin := HPX.1 rfl
              have hcmp := HPE.out
              have HN1 : Hid (rnF fr t (k + 1) = r0 + (if ws then 0 else 1) ∧ cnF fr t (k + 1) = c0 + 1 ∧ decide (fr < k + 1 ∧ k + 1 ≤ t) = true) := Lib.hid (by
                have h1 := HST.out
                have h2 := HWS.out
                refine ⟨?_, ?_, decide_eq_true (by omega)⟩
                · rw [h1.1]
                  cases ws with
                  | true => have := of_decide_eq_true h2; rw [if_neg (by omega)]; rfl
                  | false => have := of_decide_eq_false h2; rw [if_pos (by omega)]; rfl
                · rw [h1.2, if_pos hin])
              clear hb HST HPX HWS hin HPE
              cases ws with
              | true =>
                go_wp2_with fail
                go_roundw
                case rel => exact ⟨k + 1, by omega, by go_num, by rw [HN1.out.1]; rfl, by rw [HN1.out.2.1]; go_num, by rw [HN1.out.2.2], HSW, HGW⟩
                case measure => simp [intOf]; omega
              | false =>
                go_wp2_with fail
                go_roundw
                case rel => exact ⟨k + 1, by omega, by go_num, by rw [HN1.out.1]; go_num, by rw [HN1.out.2.1]; go_num, by rw [HN1.out.2.2], HSW, HGW⟩
                case measure => simp [intOf]; omega
            | false =>
              rw [hb] at HPE HPX
              have hcmp := HPE.out
              have HN1 : Hid (rnF fr t (k + 1) = r0 ∧ cnF fr t (k + 1) = c0 ∧ decide (fr < k + 1 ∧ k + 1 ≤ t) = false) := Lib.hid (by
                have h1 := HST.out
                have hno : ¬ (fr ≤ k ∧ k < t) := fun h => by have := HPX.2 h; cases this
                refine ⟨?_, ?_, decide_eq_false (by omega)⟩
                · rw [h1.1, if_neg (by omega)]; rfl
                · rw [h1.2, if_neg hno]; rfl)
              clear hb HST HPX HWS HPE
              go_wp2_with fail
              go_roundw
              case rel => exact ⟨k + 1, by omega, by go_num, by rw [HN1.out.1], by rw [HN1.out.2.1], by rw [HN1.out.2.2], HSW, HGW⟩
              case measure => simp [intOf]; omega
          · have hb := HPN.out (by rw [HQ.out]; omega)
            rw [hb] at HPX
            obtain ⟨d, hd⟩ : ∃ d, n - x = d := ⟨_, rfl⟩
            have g2 : IntKind.i64.wrap ((n : Int) - (x : Int)) = (d : Int) := by rw [show (n : Int) - (x : Int) = (d : Int) by omega]; exact IntWalk.i64_in _ (by omega)
            have hqd : ¬ (q : Int) ≤ (d : Int) := by omega
            have hqd2 : ¬ q ≤ d := by omega
            have HN1 : Hid (rnF fr t (k + 1) = r0 ∧ cnF fr t (k + 1) = c0 ∧ decide (fr < k + 1 ∧ k + 1 ≤ t) = false) := Lib.hid (by
              have h1 := HST.out
              have hno : ¬ (fr ≤ k ∧ k < t) := fun h => by have := HPX.2 h; cases this
              refine ⟨?_, ?_, decide_eq_false (by omega)⟩
              · rw [h1.1, if_neg (by omega)]; rfl
              · rw [h1.2, if_neg hno]; rfl)
            clear hb HST HPX HWS hle hd HPC HPN
            go_wp2_with fail
            go_roundw
            case rel => exact ⟨k + 1, by omega, by go_num, by rw [HN1.out.1], by rw [HN1.out.2.1], by rw [HN1.out.2.2], HSW, HGW⟩
            case measure => simp [intOf]; omega
      · obtain rfl : k = n := by omega
        have hrc : rnF fr t k ≤ 1 ∧ cnF fr t k = m := by
          have := HCN.out
          unfold rnF cnF
          constructor
          · split <;> omega
          · omega
        obtain ⟨hrn, hcn⟩ := hrc
        rw [hcn]
        clear hcn
        generalize rnF fr t k = r0 at hrn ⊢
        have HGR := Lib.hid (HGC.out.trans hgr.out)
        have HCW := Lib.hid (HCC.out wr (HG2.out.trans HGR.out))
        have HBW := Lib.hid (HB.out.keep HGR.out)
        have x0 := HBW.out.cell 0
        have x1 := HBW.out.cell 1
        have x2 := HBW.out.cell 2
        have HLW := Lib.hid (HIL.out.keep hgr.out)
        have hr1 : ¬ (1 : Int) < (r0 : Int) := by omega
        generalize decide (fr < k ∧ k ≤ t) = ws
        clear hS HOT HPI HCC hlt hgr HIL HIO HGC HB
        obtain ⟨wB, hwB⟩ : ∃ wB, wB = wr := ⟨_, rfl⟩
        subst hwB
        go_wp2_with fail
        refine HCW.out.mono ?_
        rintro e w5 ⟨rfl, hg5⟩
        have HG5 := Lib.hid hg5
        clear HCW hg5 x0 x1 x2
        go_wp2_with fail
        go_loopw [16] (fun z wr2 => ∃ i : Nat, i ≤ m ∧ z = .int .i64 (i : Int) ∧ Hid (Gr wB wr2)) (fun z _ => m - (intOf z).toNat)
        case atStart => exact ⟨0, Nat.zero_le _, rfl, HG5⟩
        case round =>
          obtain ⟨i, hi, rfl, hgr⟩ := hrel
          clear HG5
          by_cases hlt : i < m
          · have hii : (i : Int) < (m : Int) := by omega
            have hil : i < L.length := by rw [HLL.out]; exact hlt
            obtain ⟨b, off, rfl, hc0⟩ := Ints_at (HLW.out.keep hgr.out) (i := i) (by rw [nI_len, HLL.out]; exact hlt)
            rw [nI_at] at hc0
            have hym : L.getD i 0 ∈ L := by rw [List.getD_eq_getElem?_getD, List.getElem?_eq_getElem hil]; exact List.getElem_mem hil
            obtain ⟨hy1, hy2⟩ := (HOM.out _).1 hym
            have hy3 := pre_len hy2
            rw [HTL.out] at hy1 hy3
            rw [bts_len, HQ.out] at hy3
            have HPE := Lib.hid (piece_eq s p (k := L.getD i 0) (by rw [HQ.out, HN.out]; omega))
            rw [HQ.out, hy2] at HPE
            have HPV : Hid (i = 0 ∨ ∃ j y : Nat, j + 1 = i ∧ y < L.getD i 0 ∧ wr.cell? ⟨b, off + j, none⟩ = some (.int .i64 (y : Int))) := Lib.hid (by
              rcases Nat.eq_zero_or_pos i with e | e
              · exact Or.inl e
              · refine Or.inr ⟨i - 1, L.getD (i - 1) 0, by omega, ?_, ?_⟩
                · have h1 : i - 1 < L.length := by omega
                  rw [List.getD_eq_getElem?_getD, List.getD_eq_getElem?_getD, List.getElem?_eq_getElem hil, List.getElem?_eq_getElem h1]
                  exact List.pairwise_iff_getElem.1 HOA.out (i - 1) i h1 hil (by omega)
                · obtain ⟨b2, off2, e2, hc1⟩ := Ints_at (HLW.out.keep hgr.out) (i := i - 1) (by rw [nI_len, HLL.out]; omega)
                  injection e2 with e2
                  injection e2 with e3 e4
                  rw [e3, e4, hc1, nI_at])
            clear hym hy2
            generalize L.getD i 0 = y at *
            obtain ⟨ee, hee⟩ : ∃ e, y + q = e := ⟨_, rfl⟩
            have g3 : IntKind.i64.wrap ((y : Int) + (q : Int)) = (ee : Int) := by rw [show (y : Int) + (q : Int) = (ee : Int) by omega]; exact IntWalk.i64_in _ (by omega)
            rw [hee] at HPE
            have hcmp := HPE.out
            have hye : y ≤ ee := by omega
            have hyei : (y : Int) ≤ (ee : Int) := by omega
            have hen : (ee : Int) ≤ (k : Int) := by omega
            have hd1 : decide ((y : Int) < 0) = false := decide_eq_false (by omega)
            have hd2 : decide ((k : Int) < (ee : Int)) = false := decide_eq_false (by omega)
            have hd2n : decide (k < ee) = false := decide_eq_false (by omega)
            have hy0 : (0 : Int) ≤ (y : Int) := by omega
            clear hee hy1 hy3
            go_upto_region 26 with fail
            rcases HPV.out with e | ⟨j, y2, hj, hyy, hc1⟩
            · have hk0 : decide ((0 : Int) < (i : Int)) = false := decide_eq_false (by omega)
              have hk0n : decide (0 < i) = false := decide_eq_false (by omega)
              have hk0m : ¬ 0 < i := by omega
              clear e HPV
              refine wp_region_held_drew (S := (fun W' => Gr wr W' ∧ W'.cell? ⟨b, off + i, none⟩ = some (.int .i64 (y : Int)))) ?_ ?_ (fun hHeld => ?_)
              · kernel_rfl
              · ((try dsimp only); ((try go_split_ands); (repeat' apply And.intro) <;> (repeat (first | assumption | (exact Gr.refl _) | (refine Gr.drew ?_) | (refine Gr.alloc ?_ _) | (refine alloc_old ?_) | (refine Gr.keep (by assumption) ?_) | (refine Gr.trans ?_ (by assumption))))))
              refine take_in (i := 0) (v := ?_) (d := (some 138)) rfl rfl ?_ ?_ ?_ ?_ ?_ ?_ ?_ ?_
              rotate_left
              · kernel_rfl
              · kernel_rfl
              · kernel_rfl
              · (intro _ _ _ hq; exact hq)
              · rfl
              · (intro _w hSw; (try dsimp only at hSw); go_simp; try with_reducible rfl)
              · assumption
              try simp only [Act.put, List.setIfInBounds_toArray, List.set_cons_zero, List.set_cons_succ]
              refine take_in (i := 1) (v := ?_) (d := (some 139)) rfl rfl ?_ ?_ ?_ ?_ ?_ ?_ ?_ ?_
              rotate_left
              · kernel_rfl
              · kernel_rfl
              · kernel_rfl
              · (intro _ _ _ hq; exact hq)
              · rfl
              · (intro _w hSw; (try dsimp only at hSw); go_simp; try with_reducible rfl)
              · assumption
              try simp only [Act.put, List.setIfInBounds_toArray, List.set_cons_zero, List.set_cons_succ]
              refine take_in (i := 2) (v := ?_) (d := (some 140)) rfl rfl ?_ ?_ ?_ ?_ ?_ ?_ ?_ ?_
              rotate_left
              · kernel_rfl
              · kernel_rfl
              · kernel_rfl
              · (intro _ _ _ hq; exact hq)
              · rfl
              · (intro _w hSw; (try dsimp only at hSw); go_simp; try with_reducible rfl)
              · assumption
              try simp only [Act.put, List.setIfInBounds_toArray, List.set_cons_zero, List.set_cons_succ]
              refine take_in (i := 3) (v := ?_) (d := (some 141)) rfl rfl ?_ ?_ ?_ ?_ ?_ ?_ ?_ ?_
              rotate_left
              · kernel_rfl
              · kernel_rfl
              · kernel_rfl
              · (intro _ _ _ hq; exact hq)
              · rfl
              · (intro _w hSw; (try dsimp only at hSw); go_simp; try with_reducible rfl)
              · assumption
              try simp only [Act.put, List.setIfInBounds_toArray, List.set_cons_zero, List.set_cons_succ]
              refine take_in (i := 4) (v := ?_) (d := (some 142)) rfl rfl ?_ ?_ ?_ ?_ ?_ ?_ ?_ ?_
              rotate_left
              · kernel_rfl
              · kernel_rfl
              · kernel_rfl
              · (intro _ _ _ hq; exact hq)
              · rfl
              · (intro _w hSw; (try dsimp only at hSw); go_simp; try with_reducible rfl)
              · assumption
              try simp only [Act.put, List.setIfInBounds_toArray, List.set_cons_zero, List.set_cons_succ]
              refine take_in (i := 5) (v := ?_) (d := (some 143)) rfl rfl ?_ ?_ ?_ ?_ ?_ ?_ ?_ ?_
              rotate_left
              · kernel_rfl
              · kernel_rfl
              · kernel_rfl
              · (intro _ _ _ hq; exact hq)
              · rfl
              · (intro _w hSw; (try dsimp only at hSw); go_simp; try with_reducible rfl)
              · assumption
              try simp only [Act.put, List.setIfInBounds_toArray, List.set_cons_zero, List.set_cons_succ]
              refine take_in (i := 6) (v := ?_) (d := (some 144)) rfl rfl ?_ ?_ ?_ ?_ ?_ ?_ ?_ ?_
              rotate_left
              · kernel_rfl
              · kernel_rfl
              · kernel_rfl
              · (intro _ _ _ hq; exact hq)
              · rfl
              · (intro _w hSw; (try dsimp only at hSw); go_simp; try with_reducible rfl)
              · assumption
              try simp only [Act.put, List.setIfInBounds_toArray, List.set_cons_zero, List.set_cons_succ]
              refine take_in (i := 7) (v := ?_) (d := (some 145)) rfl rfl ?_ ?_ ?_ ?_ ?_ ?_ ?_ ?_
              rotate_left
              · kernel_rfl
              · kernel_rfl
              · kernel_rfl
              · (intro _ _ _ hq; exact hq)
              · rfl
              · (intro _w hSw; (try dsimp only at hSw); go_simp; try with_reducible rfl)
              · assumption
              try simp only [Act.put, List.setIfInBounds_toArray, List.set_cons_zero, List.set_cons_succ]
              refine take_in (i := 8) (v := ?_) (d := (some 146)) rfl rfl ?_ ?_ ?_ ?_ ?_ ?_ ?_ ?_
              rotate_left
              · kernel_rfl
              · kernel_rfl
              · kernel_rfl
              · (intro _ _ _ hq; exact hq)
              · rfl
              · (intro _w hSw; (try dsimp only at hSw); go_simp; try with_reducible rfl)
              · assumption
              try simp only [Act.put, List.setIfInBounds_toArray, List.set_cons_zero, List.set_cons_succ]
              refine take_in (i := 9) (v := ?_) (d := (some 147)) rfl rfl ?_ ?_ ?_ ?_ ?_ ?_ ?_ ?_
              rotate_left
              · kernel_rfl
              · kernel_rfl
              · kernel_rfl
              · (intro _ _ _ hq; exact hq)
              · rfl
              · (intro _w hSw; (try dsimp only at hSw); go_simp; try with_reducible rfl)
              · assumption
              try simp only [Act.put, List.setIfInBounds_toArray, List.set_cons_zero, List.set_cons_succ]
              refine take_in (i := 10) (v := ?_) (d := (some 148)) rfl rfl ?_ ?_ ?_ ?_ ?_ ?_ ?_ ?_
              rotate_left
              · kernel_rfl
              · kernel_rfl
              · kernel_rfl
              · (intro _ _ _ hq; exact hq)
              · rfl
              · (intro _w hSw; (try dsimp only at hSw); go_simp; try with_reducible rfl)
              · assumption
              try simp only [Act.put, List.setIfInBounds_toArray, List.set_cons_zero, List.set_cons_succ]
              refine take_in (i := 11) (v := ?_) (d := (some 149)) rfl rfl ?_ ?_ ?_ ?_ ?_ ?_ ?_ ?_
              rotate_left
              · kernel_rfl
              · kernel_rfl
              · kernel_rfl
              · (intro _ _ _ hq; exact hq)
              · rfl
              · (intro _w hSw; (try dsimp only at hSw); go_simp; try with_reducible rfl)
              · assumption
              try simp only [Act.put, List.setIfInBounds_toArray, List.set_cons_zero, List.set_cons_succ]
              refine take_in (i := 12) (v := ?_) (d := (some 150)) rfl rfl ?_ ?_ ?_ ?_ ?_ ?_ ?_ ?_
              rotate_left
              · kernel_rfl
              · kernel_rfl
              · kernel_rfl
              · (intro _ _ _ hq; exact hq)
              · rfl
              · (intro _w hSw; (try dsimp only at hSw); go_simp; try with_reducible rfl)
              · assumption
              try simp only [Act.put, List.setIfInBounds_toArray, List.set_cons_zero, List.set_cons_succ]
              refine take_in (i := 13) (v := ?_) (d := (some 151)) rfl rfl ?_ ?_ ?_ ?_ ?_ ?_ ?_ ?_
              rotate_left
              · kernel_rfl
              · kernel_rfl
              · kernel_rfl
              · (intro _ _ _ hq; exact hq)
              · rfl
              · (intro _w hSw; (try dsimp only at hSw); go_simp; try with_reducible rfl)
              · assumption
              try simp only [Act.put, List.setIfInBounds_toArray, List.set_cons_zero, List.set_cons_succ]
              refine take_in (i := 14) (v := ?_) (d := (some 152)) rfl rfl ?_ ?_ ?_ ?_ ?_ ?_ ?_ ?_
              rotate_left
              · kernel_rfl
              · kernel_rfl
              · kernel_rfl
              · (intro _ _ _ hq; exact hq)
              · rfl
              · (intro _w hSw; (try dsimp only at hSw); go_simp; try with_reducible rfl)
              · assumption
              try simp only [Act.put, List.setIfInBounds_toArray, List.set_cons_zero, List.set_cons_succ]
              refine take_in (i := 15) (v := ?_) (d := (some 153)) rfl rfl ?_ ?_ ?_ ?_ ?_ ?_ ?_ ?_
              rotate_left
              · kernel_rfl
              · kernel_rfl
              · kernel_rfl
              · (intro _ _ _ hq; exact hq)
              · rfl
              · (intro _w hSw; (try dsimp only at hSw); go_simp; try with_reducible rfl)
              · assumption
              try simp only [Act.put, List.setIfInBounds_toArray, List.set_cons_zero, List.set_cons_succ]
              refine take_in (i := 16) (v := ?_) (d := (some 154)) rfl rfl ?_ ?_ ?_ ?_ ?_ ?_ ?_ ?_
              rotate_left
              · kernel_rfl
              · kernel_rfl
              · kernel_rfl
              · (intro _ _ _ hq; exact hq)
              · rfl
              · (intro _w hSw; (try dsimp only at hSw); go_simp; try with_reducible rfl)
              · assumption
              try simp only [Act.put, List.setIfInBounds_toArray, List.set_cons_zero, List.set_cons_succ]
              refine take_in (i := 17) (v := ?_) (d := (some 155)) rfl rfl ?_ ?_ ?_ ?_ ?_ ?_ ?_ ?_
              rotate_left
              · kernel_rfl
              · kernel_rfl
              · kernel_rfl
              · (intro _ _ _ hq; exact hq)
              · rfl
              · (intro _w hSw; (try dsimp only at hSw); go_simp; try with_reducible rfl)
              · assumption
              try simp only [Act.put, List.setIfInBounds_toArray, List.set_cons_zero, List.set_cons_succ]
              refine take_in (i := 18) (v := ?_) (d := (some 156)) rfl rfl ?_ ?_ ?_ ?_ ?_ ?_ ?_ ?_
              rotate_left
              · kernel_rfl
              · kernel_rfl
              · kernel_rfl
              · (intro _ _ _ hq; exact hq)
              · rfl
              · (intro _w hSw; (try dsimp only at hSw); go_simp; try with_reducible rfl)
              · assumption
              try simp only [Act.put, List.setIfInBounds_toArray, List.set_cons_zero, List.set_cons_succ]
              refine take_in (i := 19) (v := ?_) (d := (some 157)) rfl rfl ?_ ?_ ?_ ?_ ?_ ?_ ?_ ?_
              rotate_left
              · kernel_rfl
              · kernel_rfl
              · kernel_rfl
              · (intro _ _ _ hq; exact hq)
              · rfl
              · (intro _w hSw; (try dsimp only at hSw); go_simp; try with_reducible rfl)
              · assumption
              try simp only [Act.put, List.setIfInBounds_toArray, List.set_cons_zero, List.set_cons_succ]
              refine take_in (i := 20) (v := ?_) (d := (some 158)) rfl rfl ?_ ?_ ?_ ?_ ?_ ?_ ?_ ?_
              rotate_left
              · kernel_rfl
              · kernel_rfl
              · kernel_rfl
              · (intro _ _ _ hq; exact hq)
              · rfl
              · (intro _w hSw; (try dsimp only at hSw); go_simp; try with_reducible rfl)
              · assumption
              try simp only [Act.put, List.setIfInBounds_toArray, List.set_cons_zero, List.set_cons_succ]
              refine take_in (i := 21) (v := ?_) (d := (some 159)) rfl rfl ?_ ?_ ?_ ?_ ?_ ?_ ?_ ?_
              rotate_left
              · kernel_rfl
              · kernel_rfl
              · kernel_rfl
              · (intro _ _ _ hq; exact hq)
              · rfl
              · (intro _w hSw; (try dsimp only at hSw); go_simp; try with_reducible rfl)
              · assumption
              try simp only [Act.put, List.setIfInBounds_toArray, List.set_cons_zero, List.set_cons_succ]
              refine take_in (i := 22) (v := ?_) (d := (some 160)) rfl rfl ?_ ?_ ?_ ?_ ?_ ?_ ?_ ?_
              rotate_left
              · kernel_rfl
              · kernel_rfl
              · kernel_rfl
              · (intro _ _ _ hq; exact hq)
              · rfl
              · (intro _w hSw; (try dsimp only at hSw); go_simp; try with_reducible rfl)
              · assumption
              try simp only [Act.put, List.setIfInBounds_toArray, List.set_cons_zero, List.set_cons_succ]
              refine take_in (i := 23) (v := ?_) (d := (some 161)) rfl rfl ?_ ?_ ?_ ?_ ?_ ?_ ?_ ?_
              rotate_left
              · kernel_rfl
              · kernel_rfl
              · kernel_rfl
              · (intro _ _ _ hq; exact hq)
              · rfl
              · (intro _w hSw; (try dsimp only at hSw); go_simp; try with_reducible rfl)
              · assumption
              try simp only [Act.put, List.setIfInBounds_toArray, List.set_cons_zero, List.set_cons_succ]
              refine take_in (i := 24) (v := ?_) (d := (some 162)) rfl rfl ?_ ?_ ?_ ?_ ?_ ?_ ?_ ?_
              rotate_left
              · kernel_rfl
              · kernel_rfl
              · kernel_rfl
              · (intro _ _ _ hq; exact hq)
              · rfl
              · (intro _w hSw; (try dsimp only at hSw); go_simp; try with_reducible rfl)
              · assumption
              try simp only [Act.put, List.setIfInBounds_toArray, List.set_cons_zero, List.set_cons_succ]
              refine take_in (i := 25) (v := ?_) (d := (some 163)) rfl rfl ?_ ?_ ?_ ?_ ?_ ?_ ?_ ?_
              rotate_left
              · kernel_rfl
              · kernel_rfl
              · kernel_rfl
              · (intro _ _ _ hq; exact hq)
              · rfl
              · (intro _w hSw; (try dsimp only at hSw); go_simp; try with_reducible rfl)
              · assumption
              try simp only [Act.put, List.setIfInBounds_toArray, List.set_cons_zero, List.set_cons_succ]
              refine take_in (i := 26) (v := ?_) (d := (some 164)) rfl rfl ?_ ?_ ?_ ?_ ?_ ?_ ?_ ?_
              rotate_left
              · kernel_rfl
              · kernel_rfl
              · kernel_rfl
              · (intro _ _ _ hq; exact hq)
              · rfl
              · (intro _w hSw; (try dsimp only at hSw); go_simp; try with_reducible rfl)
              · assumption
              try simp only [Act.put, List.setIfInBounds_toArray, List.set_cons_zero, List.set_cons_succ]
              refine take_in (i := 27) (v := ?_) (d := (some 165)) rfl rfl ?_ ?_ ?_ ?_ ?_ ?_ ?_ ?_
              rotate_left
              · kernel_rfl
              · kernel_rfl
              · kernel_rfl
              · (intro _ _ _ hq; exact hq)
              · rfl
              · (intro _w hSw; (try dsimp only at hSw); go_simp; try with_reducible rfl)
              · assumption
              try simp only [Act.put, List.setIfInBounds_toArray, List.set_cons_zero, List.set_cons_succ]
              refine take_in (i := 28) (v := ?_) (d := (some 166)) rfl rfl ?_ ?_ ?_ ?_ ?_ ?_ ?_ ?_
              rotate_left
              · kernel_rfl
              · kernel_rfl
              · kernel_rfl
              · (intro _ _ _ hq; exact hq)
              · rfl
              · (intro _w hSw; (try dsimp only at hSw); go_simp; try with_reducible rfl)
              · assumption
              try simp only [Act.put, List.setIfInBounds_toArray, List.set_cons_zero, List.set_cons_succ]
              refine take_in (i := 29) (v := ?_) (d := (some 167)) rfl rfl ?_ ?_ ?_ ?_ ?_ ?_ ?_ ?_
              rotate_left
              · kernel_rfl
              · kernel_rfl
              · kernel_rfl
              · (intro _ _ _ hq; exact hq)
              · rfl
              · (intro _w hSw; (try dsimp only at hSw); go_simp; try with_reducible rfl)
              · assumption
              try simp only [Act.put, List.setIfInBounds_toArray, List.set_cons_zero, List.set_cons_succ]
              refine take_in (i := 30) (v := ?_) (d := (some 168)) rfl rfl ?_ ?_ ?_ ?_ ?_ ?_ ?_ ?_
              rotate_left
              · kernel_rfl
              · kernel_rfl
              · kernel_rfl
              · (intro _ _ _ hq; exact hq)
              · rfl
              · (intro _w hSw; (try dsimp only at hSw); go_simp; try with_reducible rfl)
              · assumption
              try simp only [Act.put, List.setIfInBounds_toArray, List.set_cons_zero, List.set_cons_succ]
              refine take_in (i := 31) (v := ?_) (d := (some 169)) rfl rfl ?_ ?_ ?_ ?_ ?_ ?_ ?_ ?_
              rotate_left
              · kernel_rfl
              · kernel_rfl
              · kernel_rfl
              · (intro _ _ _ hq; exact hq)
              · rfl
              · (intro _w hSw; (try dsimp only at hSw); go_simp; try with_reducible rfl)
              · assumption
              try simp only [Act.put, List.setIfInBounds_toArray, List.set_cons_zero, List.set_cons_succ]
              refine take_in (i := 32) (v := ?_) (d := (some 170)) rfl rfl ?_ ?_ ?_ ?_ ?_ ?_ ?_ ?_
              rotate_left
              · kernel_rfl
              · kernel_rfl
              · kernel_rfl
              · (intro _ _ _ hq; exact hq)
              · rfl
              · (intro _w hSw; (try dsimp only at hSw); go_simp; try with_reducible rfl)
              · assumption
              try simp only [Act.put, List.setIfInBounds_toArray, List.set_cons_zero, List.set_cons_succ]
              refine take_in (i := 33) (v := ?_) (d := (some 171)) rfl rfl ?_ ?_ ?_ ?_ ?_ ?_ ?_ ?_
              rotate_left
              · kernel_rfl
              · kernel_rfl
              · kernel_rfl
              · (intro _ _ _ hq; exact hq)
              · rfl
              · (intro _w hSw; (try dsimp only at hSw); go_simp; try with_reducible rfl)
              · assumption
              try simp only [Act.put, List.setIfInBounds_toArray, List.set_cons_zero, List.set_cons_succ]
              refine take_in (i := 34) (v := ?_) (d := (some 172)) rfl rfl ?_ ?_ ?_ ?_ ?_ ?_ ?_ ?_
              rotate_left
              · kernel_rfl
              · kernel_rfl
              · kernel_rfl
              · (intro _ _ _ hq; exact hq)
              · rfl
              · (intro _w hSw; (try dsimp only at hSw); go_simp; try with_reducible rfl)
              · assumption
              try simp only [Act.put, List.setIfInBounds_toArray, List.set_cons_zero, List.set_cons_succ]
              refine take_in (i := 35) (v := ?_) (d := (some 173)) rfl rfl ?_ ?_ ?_ ?_ ?_ ?_ ?_ ?_
              rotate_left
              · kernel_rfl
              · kernel_rfl
              · kernel_rfl
              · (intro _ _ _ hq; exact hq)
              · rfl
              · (intro _w hSw; (try dsimp only at hSw); go_simp; try with_reducible rfl)
              · assumption
              try simp only [Act.put, List.setIfInBounds_toArray, List.set_cons_zero, List.set_cons_succ]
              refine take_in (i := 36) (v := ?_) (d := (some 174)) rfl rfl ?_ ?_ ?_ ?_ ?_ ?_ ?_ ?_
              rotate_left
              · kernel_rfl
              · kernel_rfl
              · kernel_rfl
              · (intro _ _ _ hq; exact hq)
              · rfl
              · (intro _w hSw; (try dsimp only at hSw); go_simp; try with_reducible rfl)
              · assumption
              try simp only [Act.put, List.setIfInBounds_toArray, List.set_cons_zero, List.set_cons_succ]
              refine take_in (i := 37) (v := ?_) (d := (some 175)) rfl rfl ?_ ?_ ?_ ?_ ?_ ?_ ?_ ?_
              rotate_left
              · kernel_rfl
              · kernel_rfl
              · kernel_rfl
              · (intro _ _ _ hq; exact hq)
              · rfl
              · (intro _w hSw; (try dsimp only at hSw); go_simp; try with_reducible rfl)
              · assumption
              try simp only [Act.put, List.setIfInBounds_toArray, List.set_cons_zero, List.set_cons_succ]
              refine take_un (i := 38) (d := (some 176)) rfl rfl ?_ ?_ ?_ ?_ ?_ ?_ ?_
              · kernel_rfl
              · kernel_rfl
              · kernel_rfl
              · (intro _ _ _ hq; exact hq)
              · rfl
              · assumption
              try simp only [Act.put, List.setIfInBounds_toArray, List.set_cons_zero, List.set_cons_succ]
              refine take_un (i := 39) (d := (some 177)) rfl rfl ?_ ?_ ?_ ?_ ?_ ?_ ?_
              · kernel_rfl
              · kernel_rfl
              · kernel_rfl
              · (intro _ _ _ hq; exact hq)
              · rfl
              · assumption
              try simp only [Act.put, List.setIfInBounds_toArray, List.set_cons_zero, List.set_cons_succ]
              refine take_un (i := 40) (d := (some 178)) rfl rfl ?_ ?_ ?_ ?_ ?_ ?_ ?_
              · kernel_rfl
              · kernel_rfl
              · kernel_rfl
              · (intro _ _ _ hq; exact hq)
              · rfl
              · assumption
              try simp only [Act.put, List.setIfInBounds_toArray, List.set_cons_zero, List.set_cons_succ]
              refine take_un (i := 41) (d := (some 179)) rfl rfl ?_ ?_ ?_ ?_ ?_ ?_ ?_
              · kernel_rfl
              · kernel_rfl
              · kernel_rfl
              · (intro _ _ _ hq; exact hq)
              · rfl
              · assumption
              try simp only [Act.put, List.setIfInBounds_toArray, List.set_cons_zero, List.set_cons_succ]
              refine take_un (i := 42) (d := (some 180)) rfl rfl ?_ ?_ ?_ ?_ ?_ ?_ ?_
              · kernel_rfl
              · kernel_rfl
              · kernel_rfl
              · (intro _ _ _ hq; exact hq)
              · rfl
              · assumption
              try simp only [Act.put, List.setIfInBounds_toArray, List.set_cons_zero, List.set_cons_succ]
              refine take_un (i := 43) (d := (some 181)) rfl rfl ?_ ?_ ?_ ?_ ?_ ?_ ?_
              · kernel_rfl
              · kernel_rfl
              · kernel_rfl
              · (intro _ _ _ hq; exact hq)
              · rfl
              · assumption
              try simp only [Act.put, List.setIfInBounds_toArray, List.set_cons_zero, List.set_cons_succ]
              refine take_un (i := 44) (d := (some 182)) rfl rfl ?_ ?_ ?_ ?_ ?_ ?_ ?_
              · kernel_rfl
              · kernel_rfl
              · kernel_rfl
              · (intro _ _ _ hq; exact hq)
              · rfl
              · assumption
              try simp only [Act.put, List.setIfInBounds_toArray, List.set_cons_zero, List.set_cons_succ]
              refine take_un (i := 45) (d := (some 183)) rfl rfl ?_ ?_ ?_ ?_ ?_ ?_ ?_
              · kernel_rfl
              · kernel_rfl
              · kernel_rfl
              · (intro _ _ _ hq; exact hq)
              · rfl
              · assumption
              try simp only [Act.put, List.setIfInBounds_toArray, List.set_cons_zero, List.set_cons_succ]
              refine take_un (i := 46) (d := (some 184)) rfl rfl ?_ ?_ ?_ ?_ ?_ ?_ ?_
              · kernel_rfl
              · kernel_rfl
              · kernel_rfl
              · (intro _ _ _ hq; exact hq)
              · rfl
              · assumption
              try simp only [Act.put, List.setIfInBounds_toArray, List.set_cons_zero, List.set_cons_succ]
              refine take_un (i := 47) (d := (some 185)) rfl rfl ?_ ?_ ?_ ?_ ?_ ?_ ?_
              · kernel_rfl
              · kernel_rfl
              · kernel_rfl
              · (intro _ _ _ hq; exact hq)
              · rfl
              · assumption
              try simp only [Act.put, List.setIfInBounds_toArray, List.set_cons_zero, List.set_cons_succ]
              refine take_in (i := 48) (v := ?_) (d := (some 186)) rfl rfl ?_ ?_ ?_ ?_ ?_ ?_ ?_ ?_
              rotate_left
              · kernel_rfl
              · kernel_rfl
              · kernel_rfl
              · (intro _ _ _ hq; exact hq)
              · rfl
              · (intro _w hSw; (try dsimp only at hSw); go_simp; try with_reducible rfl)
              · assumption
              try simp only [Act.put, List.setIfInBounds_toArray, List.set_cons_zero, List.set_cons_succ]
              refine take_in (i := 49) (v := ?_) (d := (some 187)) rfl rfl ?_ ?_ ?_ ?_ ?_ ?_ ?_ ?_
              rotate_left
              · kernel_rfl
              · kernel_rfl
              · kernel_rfl
              · (intro _ _ _ hq; exact hq)
              · rfl
              · (intro _w hSw; (try dsimp only at hSw); go_simp; try with_reducible rfl)
              · assumption
              try simp only [Act.put, List.setIfInBounds_toArray, List.set_cons_zero, List.set_cons_succ]
              refine wpAnyH_done ?_ ?_ _
              · kernel_rfl
              rotate_left
              all_goals
                go_wp2_with fail
                go_roundw
                case rel => exact ⟨i + 1, by omega, by go_num, Lib.hid (hgr.out.trans (by (repeat (first | exact Gr.refl _ | assumption | (refine Gr.drew ?_) | (refine Gr.drewN ?_ _) | (refine Gr.alloc ?_ _) | (refine Gr.trans ?_ (by assumption))))))⟩
                case measure => simp [intOf]; omega
            · have g1 : IntKind.i64.wrap ((i : Int) - 1) = (j : Int) := by rw [show (i : Int) - 1 = (j : Int) by omega]; exact IntWalk.i64_in _ (by omega)
              have hk0 : decide ((0 : Int) < (i : Int)) = true := decide_eq_true (by omega)
              have hk0n : decide (0 < i) = true := decide_eq_true (by omega)
              have hk0m : 0 < i := by omega
              have hjn : (j : Int) < (m : Int) := by omega
              have hd3 : decide ((y : Int) ≤ (y2 : Int)) = false := decide_eq_false (by omega)
              have hd3n : decide (y ≤ y2) = false := decide_eq_false (by omega)
              clear hj HPV
              refine wp_region_held_drew (S := (fun W' => Gr wr W' ∧ W'.cell? ⟨b, off + i, none⟩ = some (.int .i64 (y : Int)) ∧ W'.cell? ⟨b, off + j, none⟩ = some (.int .i64 (y2 : Int)))) ?_ ?_ (fun hHeld => ?_)
              · kernel_rfl
              · ((try dsimp only); ((try go_split_ands); (repeat' apply And.intro) <;> (repeat (first | assumption | (exact Gr.refl _) | (refine Gr.drew ?_) | (refine Gr.alloc ?_ _) | (refine alloc_old ?_) | (refine Gr.keep (by assumption) ?_) | (refine Gr.trans ?_ (by assumption))))))
              refine take_in (i := 0) (v := ?_) (d := (some 138)) rfl rfl ?_ ?_ ?_ ?_ ?_ ?_ ?_ ?_
              rotate_left
              · kernel_rfl
              · kernel_rfl
              · kernel_rfl
              · (intro _ _ _ hq; exact hq)
              · rfl
              · (intro _w hSw; (try dsimp only at hSw); go_simp; try with_reducible rfl)
              · assumption
              try simp only [Act.put, List.setIfInBounds_toArray, List.set_cons_zero, List.set_cons_succ]
              refine take_in (i := 1) (v := ?_) (d := (some 139)) rfl rfl ?_ ?_ ?_ ?_ ?_ ?_ ?_ ?_
              rotate_left
              · kernel_rfl
              · kernel_rfl
              · kernel_rfl
              · (intro _ _ _ hq; exact hq)
              · rfl
              · (intro _w hSw; (try dsimp only at hSw); go_simp; try with_reducible rfl)
              · assumption
              try simp only [Act.put, List.setIfInBounds_toArray, List.set_cons_zero, List.set_cons_succ]
              refine take_in (i := 2) (v := ?_) (d := (some 140)) rfl rfl ?_ ?_ ?_ ?_ ?_ ?_ ?_ ?_
              rotate_left
              · kernel_rfl
              · kernel_rfl
              · kernel_rfl
              · (intro _ _ _ hq; exact hq)
              · rfl
              · (intro _w hSw; (try dsimp only at hSw); go_simp; try with_reducible rfl)
              · assumption
              try simp only [Act.put, List.setIfInBounds_toArray, List.set_cons_zero, List.set_cons_succ]
              refine take_in (i := 3) (v := ?_) (d := (some 141)) rfl rfl ?_ ?_ ?_ ?_ ?_ ?_ ?_ ?_
              rotate_left
              · kernel_rfl
              · kernel_rfl
              · kernel_rfl
              · (intro _ _ _ hq; exact hq)
              · rfl
              · (intro _w hSw; (try dsimp only at hSw); go_simp; try with_reducible rfl)
              · assumption
              try simp only [Act.put, List.setIfInBounds_toArray, List.set_cons_zero, List.set_cons_succ]
              refine take_in (i := 4) (v := ?_) (d := (some 142)) rfl rfl ?_ ?_ ?_ ?_ ?_ ?_ ?_ ?_
              rotate_left
              · kernel_rfl
              · kernel_rfl
              · kernel_rfl
              · (intro _ _ _ hq; exact hq)
              · rfl
              · (intro _w hSw; (try dsimp only at hSw); go_simp; try with_reducible rfl)
              · assumption
              try simp only [Act.put, List.setIfInBounds_toArray, List.set_cons_zero, List.set_cons_succ]
              refine take_in (i := 5) (v := ?_) (d := (some 143)) rfl rfl ?_ ?_ ?_ ?_ ?_ ?_ ?_ ?_
              rotate_left
              · kernel_rfl
              · kernel_rfl
              · kernel_rfl
              · (intro _ _ _ hq; exact hq)
              · rfl
              · (intro _w hSw; (try dsimp only at hSw); go_simp; try with_reducible rfl)
              · assumption
              try simp only [Act.put, List.setIfInBounds_toArray, List.set_cons_zero, List.set_cons_succ]
              refine take_in (i := 6) (v := ?_) (d := (some 144)) rfl rfl ?_ ?_ ?_ ?_ ?_ ?_ ?_ ?_
              rotate_left
              · kernel_rfl
              · kernel_rfl
              · kernel_rfl
              · (intro _ _ _ hq; exact hq)
              · rfl
              · (intro _w hSw; (try dsimp only at hSw); go_simp; try with_reducible rfl)
              · assumption
              try simp only [Act.put, List.setIfInBounds_toArray, List.set_cons_zero, List.set_cons_succ]
              refine take_in (i := 7) (v := ?_) (d := (some 145)) rfl rfl ?_ ?_ ?_ ?_ ?_ ?_ ?_ ?_
              rotate_left
              · kernel_rfl
              · kernel_rfl
              · kernel_rfl
              · (intro _ _ _ hq; exact hq)
              · rfl
              · (intro _w hSw; (try dsimp only at hSw); go_simp; try with_reducible rfl)
              · assumption
              try simp only [Act.put, List.setIfInBounds_toArray, List.set_cons_zero, List.set_cons_succ]
              refine take_in (i := 8) (v := ?_) (d := (some 146)) rfl rfl ?_ ?_ ?_ ?_ ?_ ?_ ?_ ?_
              rotate_left
              · kernel_rfl
              · kernel_rfl
              · kernel_rfl
              · (intro _ _ _ hq; exact hq)
              · rfl
              · (intro _w hSw; (try dsimp only at hSw); go_simp; try with_reducible rfl)
              · assumption
              try simp only [Act.put, List.setIfInBounds_toArray, List.set_cons_zero, List.set_cons_succ]
              refine take_in (i := 9) (v := ?_) (d := (some 147)) rfl rfl ?_ ?_ ?_ ?_ ?_ ?_ ?_ ?_
              rotate_left
              · kernel_rfl
              · kernel_rfl
              · kernel_rfl
              · (intro _ _ _ hq; exact hq)
              · rfl
              · (intro _w hSw; (try dsimp only at hSw); go_simp; try with_reducible rfl)
              · assumption
              try simp only [Act.put, List.setIfInBounds_toArray, List.set_cons_zero, List.set_cons_succ]
              refine take_in (i := 10) (v := ?_) (d := (some 148)) rfl rfl ?_ ?_ ?_ ?_ ?_ ?_ ?_ ?_
              rotate_left
              · kernel_rfl
              · kernel_rfl
              · kernel_rfl
              · (intro _ _ _ hq; exact hq)
              · rfl
              · (intro _w hSw; (try dsimp only at hSw); go_simp; try with_reducible rfl)
              · assumption
              try simp only [Act.put, List.setIfInBounds_toArray, List.set_cons_zero, List.set_cons_succ]
              refine take_in (i := 11) (v := ?_) (d := (some 149)) rfl rfl ?_ ?_ ?_ ?_ ?_ ?_ ?_ ?_
              rotate_left
              · kernel_rfl
              · kernel_rfl
              · kernel_rfl
              · (intro _ _ _ hq; exact hq)
              · rfl
              · (intro _w hSw; (try dsimp only at hSw); go_simp; try with_reducible rfl)
              · assumption
              try simp only [Act.put, List.setIfInBounds_toArray, List.set_cons_zero, List.set_cons_succ]
              refine take_in (i := 12) (v := ?_) (d := (some 150)) rfl rfl ?_ ?_ ?_ ?_ ?_ ?_ ?_ ?_
              rotate_left
              · kernel_rfl
              · kernel_rfl
              · kernel_rfl
              · (intro _ _ _ hq; exact hq)
              · rfl
              · (intro _w hSw; (try dsimp only at hSw); go_simp; try with_reducible rfl)
              · assumption
              try simp only [Act.put, List.setIfInBounds_toArray, List.set_cons_zero, List.set_cons_succ]
              refine take_in (i := 13) (v := ?_) (d := (some 151)) rfl rfl ?_ ?_ ?_ ?_ ?_ ?_ ?_ ?_
              rotate_left
              · kernel_rfl
              · kernel_rfl
              · kernel_rfl
              · (intro _ _ _ hq; exact hq)
              · rfl
              · (intro _w hSw; (try dsimp only at hSw); go_simp; try with_reducible rfl)
              · assumption
              try simp only [Act.put, List.setIfInBounds_toArray, List.set_cons_zero, List.set_cons_succ]
              refine take_in (i := 14) (v := ?_) (d := (some 152)) rfl rfl ?_ ?_ ?_ ?_ ?_ ?_ ?_ ?_
              rotate_left
              · kernel_rfl
              · kernel_rfl
              · kernel_rfl
              · (intro _ _ _ hq; exact hq)
              · rfl
              · (intro _w hSw; (try dsimp only at hSw); go_simp; try with_reducible rfl)
              · assumption
              try simp only [Act.put, List.setIfInBounds_toArray, List.set_cons_zero, List.set_cons_succ]
              refine take_in (i := 15) (v := ?_) (d := (some 153)) rfl rfl ?_ ?_ ?_ ?_ ?_ ?_ ?_ ?_
              rotate_left
              · kernel_rfl
              · kernel_rfl
              · kernel_rfl
              · (intro _ _ _ hq; exact hq)
              · rfl
              · (intro _w hSw; (try dsimp only at hSw); go_simp; try with_reducible rfl)
              · assumption
              try simp only [Act.put, List.setIfInBounds_toArray, List.set_cons_zero, List.set_cons_succ]
              refine take_in (i := 16) (v := ?_) (d := (some 154)) rfl rfl ?_ ?_ ?_ ?_ ?_ ?_ ?_ ?_
              rotate_left
              · kernel_rfl
              · kernel_rfl
              · kernel_rfl
              · (intro _ _ _ hq; exact hq)
              · rfl
              · (intro _w hSw; (try dsimp only at hSw); go_simp; try with_reducible rfl)
              · assumption
              try simp only [Act.put, List.setIfInBounds_toArray, List.set_cons_zero, List.set_cons_succ]
              refine take_in (i := 17) (v := ?_) (d := (some 155)) rfl rfl ?_ ?_ ?_ ?_ ?_ ?_ ?_ ?_
              rotate_left
              · kernel_rfl
              · kernel_rfl
              · kernel_rfl
              · (intro _ _ _ hq; exact hq)
              · rfl
              · (intro _w hSw; (try dsimp only at hSw); go_simp; try with_reducible rfl)
              · assumption
              try simp only [Act.put, List.setIfInBounds_toArray, List.set_cons_zero, List.set_cons_succ]
              refine take_in (i := 18) (v := ?_) (d := (some 156)) rfl rfl ?_ ?_ ?_ ?_ ?_ ?_ ?_ ?_
              rotate_left
              · kernel_rfl
              · kernel_rfl
              · kernel_rfl
              · (intro _ _ _ hq; exact hq)
              · rfl
              · (intro _w hSw; (try dsimp only at hSw); go_simp; try with_reducible rfl)
              · assumption
              try simp only [Act.put, List.setIfInBounds_toArray, List.set_cons_zero, List.set_cons_succ]
              refine take_in (i := 19) (v := ?_) (d := (some 157)) rfl rfl ?_ ?_ ?_ ?_ ?_ ?_ ?_ ?_
              rotate_left
              · kernel_rfl
              · kernel_rfl
              · kernel_rfl
              · (intro _ _ _ hq; exact hq)
              · rfl
              · (intro _w hSw; (try dsimp only at hSw); go_simp; try with_reducible rfl)
              · assumption
              try simp only [Act.put, List.setIfInBounds_toArray, List.set_cons_zero, List.set_cons_succ]
              refine take_in (i := 20) (v := ?_) (d := (some 158)) rfl rfl ?_ ?_ ?_ ?_ ?_ ?_ ?_ ?_
              rotate_left
              · kernel_rfl
              · kernel_rfl
              · kernel_rfl
              · (intro _ _ _ hq; exact hq)
              · rfl
              · (intro _w hSw; (try dsimp only at hSw); go_simp; try with_reducible rfl)
              · assumption
              try simp only [Act.put, List.setIfInBounds_toArray, List.set_cons_zero, List.set_cons_succ]
              refine take_in (i := 21) (v := ?_) (d := (some 159)) rfl rfl ?_ ?_ ?_ ?_ ?_ ?_ ?_ ?_
              rotate_left
              · kernel_rfl
              · kernel_rfl
              · kernel_rfl
              · (intro _ _ _ hq; exact hq)
              · rfl
              · (intro _w hSw; (try dsimp only at hSw); go_simp; try with_reducible rfl)
              · assumption
              try simp only [Act.put, List.setIfInBounds_toArray, List.set_cons_zero, List.set_cons_succ]
              refine take_in (i := 22) (v := ?_) (d := (some 160)) rfl rfl ?_ ?_ ?_ ?_ ?_ ?_ ?_ ?_
              rotate_left
              · kernel_rfl
              · kernel_rfl
              · kernel_rfl
              · (intro _ _ _ hq; exact hq)
              · rfl
              · (intro _w hSw; (try dsimp only at hSw); go_simp; try with_reducible rfl)
              · assumption
              try simp only [Act.put, List.setIfInBounds_toArray, List.set_cons_zero, List.set_cons_succ]
              refine take_in (i := 23) (v := ?_) (d := (some 161)) rfl rfl ?_ ?_ ?_ ?_ ?_ ?_ ?_ ?_
              rotate_left
              · kernel_rfl
              · kernel_rfl
              · kernel_rfl
              · (intro _ _ _ hq; exact hq)
              · rfl
              · (intro _w hSw; (try dsimp only at hSw); go_simp; try with_reducible rfl)
              · assumption
              try simp only [Act.put, List.setIfInBounds_toArray, List.set_cons_zero, List.set_cons_succ]
              refine take_in (i := 24) (v := ?_) (d := (some 162)) rfl rfl ?_ ?_ ?_ ?_ ?_ ?_ ?_ ?_
              rotate_left
              · kernel_rfl
              · kernel_rfl
              · kernel_rfl
              · (intro _ _ _ hq; exact hq)
              · rfl
              · (intro _w hSw; (try dsimp only at hSw); go_simp; try with_reducible rfl)
              · assumption
              try simp only [Act.put, List.setIfInBounds_toArray, List.set_cons_zero, List.set_cons_succ]
              refine take_in (i := 25) (v := ?_) (d := (some 163)) rfl rfl ?_ ?_ ?_ ?_ ?_ ?_ ?_ ?_
              rotate_left
              · kernel_rfl
              · kernel_rfl
              · kernel_rfl
              · (intro _ _ _ hq; exact hq)
              · rfl
              · (intro _w hSw; (try dsimp only at hSw); go_simp; try with_reducible rfl)
              · assumption
              try simp only [Act.put, List.setIfInBounds_toArray, List.set_cons_zero, List.set_cons_succ]
              refine take_in (i := 26) (v := ?_) (d := (some 164)) rfl rfl ?_ ?_ ?_ ?_ ?_ ?_ ?_ ?_
              rotate_left
              · kernel_rfl
              · kernel_rfl
              · kernel_rfl
              · (intro _ _ _ hq; exact hq)
              · rfl
              · (intro _w hSw; (try dsimp only at hSw); go_simp; try with_reducible rfl)
              · assumption
              try simp only [Act.put, List.setIfInBounds_toArray, List.set_cons_zero, List.set_cons_succ]
              refine take_in (i := 27) (v := ?_) (d := (some 165)) rfl rfl ?_ ?_ ?_ ?_ ?_ ?_ ?_ ?_
              rotate_left
              · kernel_rfl
              · kernel_rfl
              · kernel_rfl
              · (intro _ _ _ hq; exact hq)
              · rfl
              · (intro _w hSw; (try dsimp only at hSw); go_simp; try with_reducible rfl)
              · assumption
              try simp only [Act.put, List.setIfInBounds_toArray, List.set_cons_zero, List.set_cons_succ]
              refine take_in (i := 28) (v := ?_) (d := (some 166)) rfl rfl ?_ ?_ ?_ ?_ ?_ ?_ ?_ ?_
              rotate_left
              · kernel_rfl
              · kernel_rfl
              · kernel_rfl
              · (intro _ _ _ hq; exact hq)
              · rfl
              · (intro _w hSw; (try dsimp only at hSw); go_simp; try with_reducible rfl)
              · assumption
              try simp only [Act.put, List.setIfInBounds_toArray, List.set_cons_zero, List.set_cons_succ]
              refine take_in (i := 29) (v := ?_) (d := (some 167)) rfl rfl ?_ ?_ ?_ ?_ ?_ ?_ ?_ ?_
              rotate_left
              · kernel_rfl
              · kernel_rfl
              · kernel_rfl
              · (intro _ _ _ hq; exact hq)
              · rfl
              · (intro _w hSw; (try dsimp only at hSw); go_simp; try with_reducible rfl)
              · assumption
              try simp only [Act.put, List.setIfInBounds_toArray, List.set_cons_zero, List.set_cons_succ]
              refine take_in (i := 30) (v := ?_) (d := (some 168)) rfl rfl ?_ ?_ ?_ ?_ ?_ ?_ ?_ ?_
              rotate_left
              · kernel_rfl
              · kernel_rfl
              · kernel_rfl
              · (intro _ _ _ hq; exact hq)
              · rfl
              · (intro _w hSw; (try dsimp only at hSw); go_simp; try with_reducible rfl)
              · assumption
              try simp only [Act.put, List.setIfInBounds_toArray, List.set_cons_zero, List.set_cons_succ]
              refine take_in (i := 31) (v := ?_) (d := (some 169)) rfl rfl ?_ ?_ ?_ ?_ ?_ ?_ ?_ ?_
              rotate_left
              · kernel_rfl
              · kernel_rfl
              · kernel_rfl
              · (intro _ _ _ hq; exact hq)
              · rfl
              · (intro _w hSw; (try dsimp only at hSw); go_simp; try with_reducible rfl)
              · assumption
              try simp only [Act.put, List.setIfInBounds_toArray, List.set_cons_zero, List.set_cons_succ]
              refine take_in (i := 32) (v := ?_) (d := (some 170)) rfl rfl ?_ ?_ ?_ ?_ ?_ ?_ ?_ ?_
              rotate_left
              · kernel_rfl
              · kernel_rfl
              · kernel_rfl
              · (intro _ _ _ hq; exact hq)
              · rfl
              · (intro _w hSw; (try dsimp only at hSw); go_simp; try with_reducible rfl)
              · assumption
              try simp only [Act.put, List.setIfInBounds_toArray, List.set_cons_zero, List.set_cons_succ]
              refine take_in (i := 33) (v := ?_) (d := (some 171)) rfl rfl ?_ ?_ ?_ ?_ ?_ ?_ ?_ ?_
              rotate_left
              · kernel_rfl
              · kernel_rfl
              · kernel_rfl
              · (intro _ _ _ hq; exact hq)
              · rfl
              · (intro _w hSw; (try dsimp only at hSw); go_simp; try with_reducible rfl)
              · assumption
              try simp only [Act.put, List.setIfInBounds_toArray, List.set_cons_zero, List.set_cons_succ]
              refine take_in (i := 34) (v := ?_) (d := (some 172)) rfl rfl ?_ ?_ ?_ ?_ ?_ ?_ ?_ ?_
              rotate_left
              · kernel_rfl
              · kernel_rfl
              · kernel_rfl
              · (intro _ _ _ hq; exact hq)
              · rfl
              · (intro _w hSw; (try dsimp only at hSw); go_simp; try with_reducible rfl)
              · assumption
              try simp only [Act.put, List.setIfInBounds_toArray, List.set_cons_zero, List.set_cons_succ]
              refine take_in (i := 35) (v := ?_) (d := (some 173)) rfl rfl ?_ ?_ ?_ ?_ ?_ ?_ ?_ ?_
              rotate_left
              · kernel_rfl
              · kernel_rfl
              · kernel_rfl
              · (intro _ _ _ hq; exact hq)
              · rfl
              · (intro _w hSw; (try dsimp only at hSw); go_simp; try with_reducible rfl)
              · assumption
              try simp only [Act.put, List.setIfInBounds_toArray, List.set_cons_zero, List.set_cons_succ]
              refine take_in (i := 36) (v := ?_) (d := (some 174)) rfl rfl ?_ ?_ ?_ ?_ ?_ ?_ ?_ ?_
              rotate_left
              · kernel_rfl
              · kernel_rfl
              · kernel_rfl
              · (intro _ _ _ hq; exact hq)
              · rfl
              · (intro _w hSw; (try dsimp only at hSw); go_simp; try with_reducible rfl)
              · assumption
              try simp only [Act.put, List.setIfInBounds_toArray, List.set_cons_zero, List.set_cons_succ]
              refine take_in (i := 37) (v := ?_) (d := (some 175)) rfl rfl ?_ ?_ ?_ ?_ ?_ ?_ ?_ ?_
              rotate_left
              · kernel_rfl
              · kernel_rfl
              · kernel_rfl
              · (intro _ _ _ hq; exact hq)
              · rfl
              · (intro _w hSw; (try dsimp only at hSw); go_simp; try with_reducible rfl)
              · assumption
              try simp only [Act.put, List.setIfInBounds_toArray, List.set_cons_zero, List.set_cons_succ]
              refine take_in (i := 38) (v := ?_) (d := (some 176)) rfl rfl ?_ ?_ ?_ ?_ ?_ ?_ ?_ ?_
              rotate_left
              · kernel_rfl
              · kernel_rfl
              · kernel_rfl
              · (intro _ _ _ hq; exact hq)
              · rfl
              · (intro _w hSw; (try dsimp only at hSw); go_simp; try with_reducible rfl)
              · assumption
              try simp only [Act.put, List.setIfInBounds_toArray, List.set_cons_zero, List.set_cons_succ]
              refine take_in (i := 39) (v := ?_) (d := (some 177)) rfl rfl ?_ ?_ ?_ ?_ ?_ ?_ ?_ ?_
              rotate_left
              · kernel_rfl
              · kernel_rfl
              · kernel_rfl
              · (intro _ _ _ hq; exact hq)
              · rfl
              · (intro _w hSw; (try dsimp only at hSw); go_simp; try with_reducible rfl)
              · assumption
              try simp only [Act.put, List.setIfInBounds_toArray, List.set_cons_zero, List.set_cons_succ]
              refine take_in (i := 40) (v := ?_) (d := (some 178)) rfl rfl ?_ ?_ ?_ ?_ ?_ ?_ ?_ ?_
              rotate_left
              · kernel_rfl
              · kernel_rfl
              · kernel_rfl
              · (intro _ _ _ hq; exact hq)
              · rfl
              · (intro _w hSw; (try dsimp only at hSw); go_simp; try with_reducible rfl)
              · assumption
              try simp only [Act.put, List.setIfInBounds_toArray, List.set_cons_zero, List.set_cons_succ]
              refine take_in (i := 41) (v := ?_) (d := (some 179)) rfl rfl ?_ ?_ ?_ ?_ ?_ ?_ ?_ ?_
              rotate_left
              · kernel_rfl
              · kernel_rfl
              · kernel_rfl
              · (intro _ _ _ hq; exact hq)
              · rfl
              · (intro _w hSw; (try dsimp only at hSw); go_simp; try with_reducible rfl)
              · assumption
              try simp only [Act.put, List.setIfInBounds_toArray, List.set_cons_zero, List.set_cons_succ]
              refine take_in (i := 42) (v := ?_) (d := (some 180)) rfl rfl ?_ ?_ ?_ ?_ ?_ ?_ ?_ ?_
              rotate_left
              · kernel_rfl
              · kernel_rfl
              · kernel_rfl
              · (intro _ _ _ hq; exact hq)
              · rfl
              · (intro _w hSw; (try dsimp only at hSw); go_simp; try with_reducible rfl)
              · assumption
              try simp only [Act.put, List.setIfInBounds_toArray, List.set_cons_zero, List.set_cons_succ]
              refine take_in (i := 43) (v := ?_) (d := (some 181)) rfl rfl ?_ ?_ ?_ ?_ ?_ ?_ ?_ ?_
              rotate_left
              · kernel_rfl
              · kernel_rfl
              · kernel_rfl
              · (intro _ _ _ hq; exact hq)
              · rfl
              · (intro _w hSw; (try dsimp only at hSw); go_simp; try with_reducible rfl)
              · assumption
              try simp only [Act.put, List.setIfInBounds_toArray, List.set_cons_zero, List.set_cons_succ]
              refine take_in (i := 44) (v := ?_) (d := (some 182)) rfl rfl ?_ ?_ ?_ ?_ ?_ ?_ ?_ ?_
              rotate_left
              · kernel_rfl
              · kernel_rfl
              · kernel_rfl
              · (intro _ _ _ hq; exact hq)
              · rfl
              · (intro _w hSw; (try dsimp only at hSw); go_simp; try with_reducible rfl)
              · assumption
              try simp only [Act.put, List.setIfInBounds_toArray, List.set_cons_zero, List.set_cons_succ]
              refine take_in (i := 45) (v := ?_) (d := (some 183)) rfl rfl ?_ ?_ ?_ ?_ ?_ ?_ ?_ ?_
              rotate_left
              · kernel_rfl
              · kernel_rfl
              · kernel_rfl
              · (intro _ _ _ hq; exact hq)
              · rfl
              · (intro _w hSw; (try dsimp only at hSw); go_simp; try with_reducible rfl)
              · assumption
              try simp only [Act.put, List.setIfInBounds_toArray, List.set_cons_zero, List.set_cons_succ]
              refine take_in (i := 46) (v := ?_) (d := (some 184)) rfl rfl ?_ ?_ ?_ ?_ ?_ ?_ ?_ ?_
              rotate_left
              · kernel_rfl
              · kernel_rfl
              · kernel_rfl
              · (intro _ _ _ hq; exact hq)
              · rfl
              · (intro _w hSw; (try dsimp only at hSw); go_simp; try with_reducible rfl)
              · assumption
              try simp only [Act.put, List.setIfInBounds_toArray, List.set_cons_zero, List.set_cons_succ]
              refine take_in (i := 47) (v := ?_) (d := (some 185)) rfl rfl ?_ ?_ ?_ ?_ ?_ ?_ ?_ ?_
              rotate_left
              · kernel_rfl
              · kernel_rfl
              · kernel_rfl
              · (intro _ _ _ hq; exact hq)
              · rfl
              · (intro _w hSw; (try dsimp only at hSw); go_simp; try with_reducible rfl)
              · assumption
              try simp only [Act.put, List.setIfInBounds_toArray, List.set_cons_zero, List.set_cons_succ]
              refine take_in (i := 48) (v := ?_) (d := (some 186)) rfl rfl ?_ ?_ ?_ ?_ ?_ ?_ ?_ ?_
              rotate_left
              · kernel_rfl
              · kernel_rfl
              · kernel_rfl
              · (intro _ _ _ hq; exact hq)
              · rfl
              · (intro _w hSw; (try dsimp only at hSw); go_simp; try with_reducible rfl)
              · assumption
              try simp only [Act.put, List.setIfInBounds_toArray, List.set_cons_zero, List.set_cons_succ]
              refine take_in (i := 49) (v := ?_) (d := (some 187)) rfl rfl ?_ ?_ ?_ ?_ ?_ ?_ ?_ ?_
              rotate_left
              · kernel_rfl
              · kernel_rfl
              · kernel_rfl
              · (intro _ _ _ hq; exact hq)
              · rfl
              · (intro _w hSw; (try dsimp only at hSw); go_simp; try with_reducible rfl)
              · assumption
              try simp only [Act.put, List.setIfInBounds_toArray, List.set_cons_zero, List.set_cons_succ]
              refine wpAnyH_done ?_ ?_ _
              · kernel_rfl
              rotate_left
              all_goals
                go_wp2_with fail
                go_roundw
                case rel => exact ⟨i + 1, by omega, by go_num, Lib.hid (hgr.out.trans (by (repeat (first | exact Gr.refl _ | assumption | (refine Gr.drew ?_) | (refine Gr.drewN ?_ _) | (refine Gr.alloc ?_ _) | (refine Gr.trans ?_ (by assumption))))))⟩
                case measure => simp [intOf]; omega
          · obtain rfl : i = m := by omega
            have HG6 := Lib.hid (((hg1.trans HG2.out).trans HGR.out).trans hgr.out)
            clear hlt hgr
            go_wp2_with fail
            refine (awake_any wr).mono ?_
            rintro e w6 ⟨rfl, hg6⟩
            go_wp2_with fail
            go_ret
            exact ⟨rfl, HG6.out.trans hg6⟩

end Go.Proofs.Ytmcefcdnfngndaa
