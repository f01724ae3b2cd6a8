/- Layer 4: the law BenchTimes as a walk. -/
import Derived.Test.YtngcgienhdifaaaBnLawM
namespace Go.Proofs.Ytngcgienhdifaaa
open Go.RowKit
set_option linter.unusedSimpArgs false

theorem task_map {N : Int} {L : List Jb} {f : Jb → Jb} (h : okT N L = true) (hf : ∀ j, j < L.length → okJ (f (jbA L j)) = true) : okT N (L.map f) = true := by
  unfold okT at *
  simp only [Bool.and_eq_true, decide_eq_true_eq, List.all_eq_true, List.length_map] at *
  refine ⟨h.1, fun x hx => ?_⟩
  obtain ⟨y, hy, rfl⟩ := List.mem_map.1 hx
  obtain ⟨i, hi, rfl⟩ := List.mem_iff_getElem.1 hy
  have e : jbA L i = L[i] := by unfold jbA; rw [List.getD_eq_getElem?_getD, List.getElem?_eq_getElem hi]; rfl
  rw [← e]; exact hf i hi
theorem task_rev {N : Int} {L : List Jb} (h : okT N L = true) : okT N L.reverse = true := by
  unfold okT at *
  simp only [Bool.and_eq_true, decide_eq_true_eq, List.all_eq_true, List.length_reverse, List.mem_reverse] at *
  exact h
theorem map_take_snoc (f : Jb → Jb) (L : List Jb) {i : Nat} (h : i < L.length) : (L.map f).take (i + 1) = (L.map f).take i ++ [f (jbA L i)] := by
  rw [take_snoc (L.map f) (0, 0, 0) i (by rw [List.length_map]; exact h)]
  congr 2
  exact jbA_map f L h
theorem rev_take_snoc (L : List Jb) {i : Nat} (h : i < L.length) : L.reverse.take (i + 1) = L.reverse.take i ++ [jbA L (L.length - 1 - i)] := by
  rw [take_snoc L.reverse (0, 0, 0) i (by rw [List.length_reverse]; exact h)]
  congr 2
  exact jbA_rev L h
theorem can_same {M : Nat} {L K : List Jb} {r r' : Int} (hV : JobsV K) (hp : Poss M L → Poss M K) (hr : Refd M L → ¬ Poss M K)
    (h : (r = 1 ∧ Poss M L) ∨ (r = 0 ∧ Refd M L)) (h' : (r' = 1 ∧ Poss M K) ∨ (r' = 0 ∧ Refd M K)) : r' = r := by
  rcases h with ⟨h1, h2⟩ | ⟨h1, h2⟩
  · rcases h' with ⟨h3, -⟩ | ⟨-, h4⟩
    · rw [h1, h3]
    · exact (h4.no hV.three (hp h2)).elim
  · rcases h' with ⟨-, h4⟩ | ⟨h3, -⟩
    · exact (hr h2 h4).elim
    · rw [h1, h3]
theorem quo_le {k x : Int} (hk : 1 ≤ k) (h : ¬ (1048576 : Int).tdiv k < x) : k * x ≤ 1048576 := by
  rw [Int.tdiv_eq_ediv_of_nonneg (by omega)] at h
  have h1 : x ≤ 1048576 / k := by omega
  have h2 := Int.mul_le_mul_of_nonneg_left h1 (show (0 : Int) ≤ k by omega)
  have h3 := Int.mul_ediv_self_le (x := 1048576) (k := k) (by omega)
  omega

set_option maxRecDepth 100000 in
set_option maxHeartbeats 16000000 in
theorem lawTimes_any (B : Int) (A : Option Addr) (n c : Nat) (l : List Jb) (ax ay : Int) (w : World) (hn : l.length = n) (hl : n ≤ 9223372036854775807) (_hc : n ≤ c) (_h0 : A = none → c = 0) (hp : Tris w A l) :
    Calls Try.prog 9 #[.int .i64 B, .slice A n c, .agg #[.int .i64 ax, .int .i64 ay]] w fun e w' => e = .returned (.bool true) ∧ Gr w w' := by
  obtain ⟨k, hk⟩ : ∃ k, (tmL4 12 l).length = k := ⟨_, rfl⟩
  have HTM := Lib.hid (fun W (hW : Gr w W) => tame_any B 12 (by omega) A n c l W k hk hn hl (hp.keep hW))
  have hT : okT (tmB B) (tmL4 12 l) = true := tm_task (B := B) (by omega)
  obtain ⟨hB, hn32, hV⟩ := okT_v hT
  generalize tmL4 12 l = L at hk HTM hT hn32 hV
  generalize tmB B = N at HTM hT hB
  rw [hk] at hn32
  have HK := Lib.hid hk
  have HT := Lib.hid hT
  have HV := Lib.hid hV
  have HCN := Lib.hid (fun (M : Int) (l' : List Jb) (A' : Option Addr) (n' c' : Nat) W (hn' : l'.length = n') (hT' : okT M l' = true) (h : Tris W A' l') => can_any M A' n' c' l' W hn' hT' h)
  obtain ⟨i0, hi, hz0, hz1, hz2⟩ := info_parts Try.infoBnJ
  have HI := Lib.hid (And.intro hi (And.intro hz0 (And.intro hz1 hz2)))
  clear hi hz0 hz1 hz2 hn hl hp hk hT hV
  go_enter Try.func9, Try.ntmps9
  go_upto_region 1 with fail
  generalize hW0 : World.alloc w _ = w0
  have hg0 : Gr w w0 := by rw [← hW0]; exact (Gr.refl w).alloc _
  have hX : Blk w0 w.heap.size 46 #[.int .i64 ax, .int .i64 ay] := by rw [← hW0]; exact heap_alloc_new w _
  generalize w.heap.size = X at hX ⊢
  have HX := Lib.hid hX
  have HTM0 := Lib.hid (HTM.out w0 hg0)
  clear hW0 hX HTM
  go_wp2_with fail
  refine HTM0.out.mono ?_
  rintro e w1 ⟨A', c', rfl, hT1, -, -, hg1⟩
  have HT1 := Lib.hid hT1
  have HX1 := Lib.hid (HX.out.keep hg1)
  have hgr1 := hg0.trans hg1
  clear hT1 HTM0 hg0 hg1 HX
  have HM1 := Lib.hid (fun W => mod4_any ax 5 W (by omega) (by omega))
  have HM2 := Lib.hid (fun W => mod4_any ay 1000 W (by omega) (by omega))
  have hb := modL_le (x := ax) (n := 5) (by omega) (by omega)
  have hu := modL_le (x := ay) (n := 1000) (by omega) (by omega)
  generalize modL ax 5 = b5 at HM1 hb
  generalize modL ay 1000 = d at HM2 hu
  obtain ⟨kk, hkk⟩ : ∃ kk, 1 + b5 = kk := ⟨_, rfl⟩
  have hbw : IntKind.i64.wrap (1 + b5) = kk := by rw [hkk]; exact IntWalk.i64_in _ (by omega)
  have hkb : 1 ≤ kk ∧ kk ≤ 5 := by omega
  clear hkk hb
  have x0 := HX1.out.cell 0
  have x1 := HX1.out.cell 1
  go_upto_region 2 with fail
  go_cut [9, 10] from 23 to 29 (fun v1 v2 wx => v1 = .int .i64 kk ∧ v2 = .int .i64 d ∧ Gr w1 wx)
  case first =>
    have hdr := (Gr.refl w1).drew
    have x0d : w1.drew.cell? ⟨X, 0, none⟩ = some (.int .i64 ax) := x0
    have x1d : w1.drew.cell? ⟨X, 1, none⟩ = some (.int .i64 ay) := x1
    refine wp_region_held_drew (S := (fun W' => Gr w1 W' ∧ W'.cell? ⟨X, 0, none⟩ = some (.int .i64 ax) ∧ W'.cell? ⟨X, 1, none⟩ = some (.int .i64 ay))) ?_ ?_ (fun hHeld => ?_)
    · kernel_rfl
    · ((try dsimp only); (first | exact hHeld | exact ⟨hdr, x0d, x1d⟩))
    refine take_in (i := 0) (v := ?_) (d := (some 23)) rfl rfl ?_ ?_ ?_ ?_ ?_ ?_ ?_ ?_
    rotate_left
    · kernel_rfl
    · kernel_rfl
    · kernel_rfl
    · (intro _ _ _ hq; exact hq)
    · rfl
    · (intro _w hSw; (try dsimp only at hSw); go_simp; try with_reducible rfl)
    · assumption
    try simp only [Act.put, List.setIfInBounds_toArray, List.set_cons_zero, List.set_cons_succ]
    refine take_in (i := 1) (v := ?_) (d := (some 24)) rfl rfl ?_ ?_ ?_ ?_ ?_ ?_ ?_ ?_
    rotate_left
    · kernel_rfl
    · kernel_rfl
    · kernel_rfl
    · (intro _ _ _ hq; exact hq)
    · rfl
    · (intro _w hSw; (try dsimp only at hSw); go_simp; try with_reducible rfl)
    · assumption
    try simp only [Act.put, List.setIfInBounds_toArray, List.set_cons_zero, List.set_cons_succ]
    refine take_in (i := 4) (v := ?_) (d := (some 27)) rfl rfl ?_ ?_ ?_ ?_ ?_ ?_ ?_ ?_
    rotate_left
    · kernel_rfl
    · kernel_rfl
    · kernel_rfl
    · (intro _ _ _ hq; exact hq)
    · rfl
    · (intro _w hSw; (try dsimp only at hSw); go_simp; try with_reducible rfl)
    · assumption
    try simp only [Act.put, List.setIfInBounds_toArray, List.set_cons_zero, List.set_cons_succ]
    refine take_in (i := 5) (v := ?_) (d := (some 28)) rfl rfl ?_ ?_ ?_ ?_ ?_ ?_ ?_ ?_
    rotate_left
    · kernel_rfl
    · kernel_rfl
    · kernel_rfl
    · (intro _ _ _ hq; exact hq)
    · rfl
    · (intro _w hSw; (try dsimp only at hSw); go_simp; try with_reducible rfl)
    · assumption
    try simp only [Act.put, List.setIfInBounds_toArray, List.set_cons_zero, List.set_cons_succ]
    refine wpAnyH_ready (rs := [2]) ?_ ?_ ?_
    · kernel_rfl
    · simp
    refine (AllReadyH.cons rfl (fun K hK => ?_) AllReadyH.nil)
    go_simp
    first | (go_at_call 27; (with_reducible refine (HM1.out _).mono ?_); rintro e w4 ⟨rfl, rfl⟩) | (go_at_call 27; (with_reducible refine (HM2.out _).mono ?_); rintro e w4 ⟨rfl, rfl⟩)
    refine hK.out _ _ ?_ (fun hHeld => ?_)
    · ((try dsimp only); (first | exact hHeld | exact ⟨hdr, x0d, x1d⟩))
    clear hK K
    try simp only [Act.put, List.setIfInBounds_toArray, List.set_cons_zero, List.set_cons_succ]
    refine take_in (i := 3) (v := ?_) (d := (some 26)) rfl rfl ?_ ?_ ?_ ?_ ?_ ?_ ?_ ?_
    rotate_left
    · kernel_rfl
    · kernel_rfl
    · kernel_rfl
    · (intro _ _ _ hq; exact hq)
    · rfl
    · (intro _w hSw; (try dsimp only at hSw); go_simp; try with_reducible rfl)
    · assumption
    try simp only [Act.put, List.setIfInBounds_toArray, List.set_cons_zero, List.set_cons_succ]
    refine wpAnyH_ready (rs := [6]) ?_ ?_ ?_
    · kernel_rfl
    · simp
    refine (AllReadyH.cons rfl (fun K hK => ?_) AllReadyH.nil)
    go_simp
    first | (go_at_call 27; (with_reducible refine (HM1.out _).mono ?_); rintro e w4 ⟨rfl, rfl⟩) | (go_at_call 27; (with_reducible refine (HM2.out _).mono ?_); rintro e w4 ⟨rfl, rfl⟩)
    refine hK.out _ _ ?_ (fun hHeld => ?_)
    · ((try dsimp only); (first | exact hHeld | exact ⟨hdr, x0d, x1d⟩))
    clear hK K
    try simp only [Act.put, List.setIfInBounds_toArray, List.set_cons_zero, List.set_cons_succ]
    refine take_in (i := 7) (v := ?_) (d := (some 9)) rfl rfl ?_ ?_ ?_ ?_ ?_ ?_ ?_ ?_
    rotate_left
    · kernel_rfl
    · kernel_rfl
    · kernel_rfl
    · (intro _ _ _ hq; exact hq)
    · rfl
    · (intro _w hSw; (try dsimp only at hSw); go_simp; try with_reducible rfl)
    · assumption
    try simp only [Act.put, List.setIfInBounds_toArray, List.set_cons_zero, List.set_cons_succ]
    refine take_in (i := 8) (v := ?_) (d := (some 10)) rfl rfl ?_ ?_ ?_ ?_ ?_ ?_ ?_ ?_
    rotate_left
    · kernel_rfl
    · kernel_rfl
    · kernel_rfl
    · (intro _ _ _ hq; exact hq)
    · rfl
    · (intro _w hSw; (try dsimp only at hSw); go_simp; try with_reducible rfl)
    · assumption
    try simp only [Act.put, List.setIfInBounds_toArray, List.set_cons_zero, List.set_cons_succ]
    refine wpAnyH_done ?_ ?_ _
    · kernel_rfl
    rotate_left
    all_goals
      go_wp2_with fail
      go_meet
      exact ⟨rfl, rfl, hHeld.1⟩
  case rest =>
    obtain ⟨rfl, rfl, hgc⟩ := hcut
    have HT2 := Lib.hid (HT1.out.keep hgc)
    have hgr2 := hgr1.trans hgc
    clear x0 x1 HM1 HM2 hbw HX1 HT1 hgc hgr1
    rename World => w2
    have hkz : (kk == 0) = false := by simp; omega
    obtain ⟨Q, hQ⟩ : ∃ Q, (1048576 : Int).tdiv kk = Q := ⟨_, rfl⟩
    have hQb : 0 ≤ Q ∧ Q ≤ 1048576 := by
      rw [← hQ, Int.tdiv_eq_ediv_of_nonneg (by omega)]
      exact ⟨Int.ediv_nonneg (by omega) (by omega), Int.ediv_le_self _ (by omega)⟩
    have hQw : IntKind.i64.wrap ((1048576 : Int).tdiv kk) = Q := by rw [hQ]; exact IntWalk.i64_in _ (by omega)
    have HQ := Lib.hid hQ
    go_wp2_with fail
    go_loopw [11, 12, 13, 14] (fun p1 p2 p3 z wr => ∃ (i : Nat) (A1 : Option Addr) (c1 : Nat) (A2 : Option Addr) (c2 : Nat) (A3 : Option Addr) (c3 : Nat), i ≤ k ∧ z = .int .i64 (i : Int) ∧ p1 = .slice A1 i c1 ∧ p2 = .slice A2 i c2 ∧ p3 = .slice A3 i c3 ∧ Hid (∀ j, j < i → kk * (jbA L j).2.1 ≤ 1048576 ∧ kk * (jbA L j).2.2 ≤ 1048576 ∧ (jbA L j).2.1 + d ≤ 1048576) ∧ Hid (wr.ownsRow w2.heap.size 50 3 (.slice A1 i c1) i (flatE enc3 ((L.map (scJ kk)).take i))) ∧ Hid (wr.ownsRow w2.heap.size 50 3 (.slice A2 i c2) i (flatE enc3 ((L.map (shJ d)).take i))) ∧ Hid (wr.ownsRow w2.heap.size 50 3 (.slice A3 i c3) i (flatE enc3 (L.reverse.take i))) ∧ Hid (Ap (.slice A1 i c1) (.slice A2 i c2) ∧ Ap (.slice A1 i c1) (.slice A3 i c3) ∧ Ap (.slice A2 i c2) (.slice A3 i c3)) ∧ Gr w2 wr) (fun _ _ _ z _ => k - (intOf z).toNat)
    case atStart => exact ⟨0, none, 0, none, 0, none, 0, Nat.zero_le _, rfl, rfl, rfl, rfl, Lib.hid (fun j h => by omega), Lib.hid (World.ownsRow_nil _ _ _ _), Lib.hid (World.ownsRow_nil _ _ _ _), Lib.hid (World.ownsRow_nil _ _ _ _), Lib.hid ⟨Ap.nil _, Ap.nil _, Ap.nil _⟩, Gr.refl _⟩
    case round =>
      obtain ⟨i, A1, c1, A2, c2, A3, c3, hik, rfl, rfl, rfl, rfl, hok, ho1, ho2, ho3, hap, hgq⟩ := hrel
      by_cases hlt : i < k
      · have hii : (i : Int) < (k : Int) := by omega
        have hi0 : (0 : Int) ≤ (i : Int) := by omega
        have hil : i < L.length := by rw [HK.out]; exact hlt
        obtain ⟨b, off, rfl, y0, y1, y2⟩ := Tris_at (HT2.out.keep hgq) (i := i) hil
        have hbd := HV.out.bd hil
        have hja : L.getD i (0, 0, 0) = jbA L i := rfl
        have HQ1 := Lib.hid (map_take_snoc (scJ kk) L hil)
        have HQ2 := Lib.hid (map_take_snoc (shJ d) L hil)
        have HQ3 : Hid (L.reverse.take (i + 1) = L.reverse.take i ++ [jbA L (k - 1 - i)]) := Lib.hid (by have := rev_take_snoc L hil; rw [HK.out] at this; exact this)
        have HOK : Hid (kk * (jbA L i).2.1 ≤ 1048576 → kk * (jbA L i).2.2 ≤ 1048576 → (jbA L i).2.1 + d ≤ 1048576 → ∀ j, j < i + 1 → kk * (jbA L j).2.1 ≤ 1048576 ∧ kk * (jbA L j).2.2 ≤ 1048576 ∧ (jbA L j).2.1 + d ≤ 1048576) := Lib.hid (fun h1 h2 h3 j hj => by
          by_cases e : j = i
          · subst e; exact ⟨h1, h2, h3⟩
          · exact hok.out j (by omega))
        rw [hja] at y0 y1 y2
        clear hja hok hil
        generalize jbA L i = jb at y0 y1 y2 hbd HQ1 HQ2 HOK
        obtain ⟨ja, jd, jw⟩ := jb
        dsimp only at y0 y1 y2 hbd HOK
        have hdw : IntKind.i64.wrap (jd + d) = jd + d := IntWalk.i64_in _ (by omega)
        go_upto_region 8 with fail
        generalize hW5 : World.alloc wr _ = w5
        have hg5 : Gr wr w5 := by rw [← hW5]; exact (Gr.refl wr).alloc _
        have hZ : Blk w5 wr.heap.size 50 #[.int .i64 ja, .int .i64 jd, .int .i64 jw] := by rw [← hW5]; exact heap_alloc_new wr _
        have hOT0 : (Value.slice A1 i c1).ownBlock ≠ some wr.heap.size := fun e => Nat.lt_irrefl _ ((ho1.out.lt _ e).2)
        have hOT1 : (Value.slice A2 i c2).ownBlock ≠ some wr.heap.size := fun e => Nat.lt_irrefl _ ((ho2.out.lt _ e).2)
        generalize wr.heap.size = T at hZ hOT0 hOT1 ⊢
        have p0 := hZ.cell 0
        have p1 := hZ.cell 1
        have p2 := hZ.cell 2
        have HZ5 := Lib.hid hZ
        have HOT0 := Lib.hid hOT0
        have HOT1 := Lib.hid hOT1
        clear hOT0 hOT1
        have HO1 := Lib.hid (owns_gr ho1.out hg5)
        have HO2 := Lib.hid (owns_gr ho2.out hg5)
        have HO3 := Lib.hid (owns_gr ho3.out hg5)
        have hg25 := hgq.trans hg5
        clear hW5 hZ hg5 hgq y0 y1 y2 ho1 ho2 ho3
        by_cases a1 : Q < jd
        · go_quiet (fail)
          go_wp2_with fail
          refine (bawake_any _).mono ?_
          rintro e w6 ⟨rfl, hg6⟩
          go_wp2_with fail
          try rw [Exit.noGoto_ret]
          go_ret
          exact ⟨rfl, (hgr2.trans (hg25.drewN _)).trans hg6⟩
        · by_cases a2 : Q < jw
          · go_quiet (fail)
            go_wp2_with fail
            refine (bawake_any _).mono ?_
            rintro e w6 ⟨rfl, hg6⟩
            go_wp2_with fail
            try rw [Exit.noGoto_ret]
            go_ret
            exact ⟨rfl, (hgr2.trans (hg25.drewN _)).trans hg6⟩
          · by_cases a3 : 1048576 < jd + d
            · go_quiet (fail)
              go_wp2_with fail
              refine (bawake_any _).mono ?_
              rintro e w6 ⟨rfl, hg6⟩
              go_wp2_with fail
              try rw [Exit.noGoto_ret]
              go_ret
              exact ⟨rfl, (hgr2.trans (hg25.drewN _)).trans hg6⟩
            · go_quiet (fail)
              have m1 : kk * jd ≤ 1048576 := quo_le hkb.1 (by rw [HQ.out]; exact a1)
              have m2 : kk * jw ≤ 1048576 := quo_le hkb.1 (by rw [HQ.out]; exact a2)
              have HOK2 := Lib.hid (HOK.out m1 m2 (by omega))
              have m3 : 0 ≤ kk * ja := Int.mul_nonneg (by omega) hbd.1.1
              have m4 : kk * ja ≤ kk * jd := Int.mul_le_mul_of_nonneg_left (by omega) (by omega)
              have m5 : 0 ≤ kk * jw := Int.mul_nonneg (by omega) (by omega)
              have m6 : 0 ≤ kk * jd := by omega
              have HSC : Hid (scJ kk (ja, jd, jw) = (kk * ja, kk * jd, kk * jw)) := Lib.hid rfl
              obtain ⟨ka, hka⟩ : ∃ x, kk * ja = x := ⟨_, rfl⟩
              obtain ⟨kd, hkd⟩ : ∃ x, kk * jd = x := ⟨_, rfl⟩
              obtain ⟨kw, hkw⟩ : ∃ x, kk * jw = x := ⟨_, rfl⟩
              rw [hka, hkd, hkw] at HSC
              rw [hka] at m3 m4
              rw [hkd] at m1 m4 m6
              rw [hkw] at m2 m5
              have w1e : IntKind.i64.wrap (kk * ja) = ka := by rw [hka]; exact IntWalk.i64_in _ (by omega)
              have w2e : IntKind.i64.wrap (kk * jd) = kd := by rw [hkd]; exact IntWalk.i64_in _ (by omega)
              have w3e : IntKind.i64.wrap (kk * jw) = kw := by rw [hkw]; exact IntWalk.i64_in _ (by omega)
              have w4e : IntKind.i64.wrap (ja + d) = ja + d := IntWalk.i64_in _ (by omega)
              obtain ⟨i', hi'⟩ : ∃ i' : Nat, k - 1 - i = i' := ⟨_, rfl⟩
              have w5e : IntKind.i64.wrap ((k : Int) - 1) = (k : Int) - 1 := IntWalk.i64_in _ (by omega)
              have w6e : IntKind.i64.wrap ((k : Int) - 1 - (i : Int)) = (i' : Int) := by rw [show (k : Int) - 1 - (i : Int) = (i' : Int) by omega]; exact IntWalk.i64_in _ (by omega)
              have hi'k : (i' : Int) < (k : Int) := by omega
              have hi'0 : (0 : Int) ≤ (i' : Int) := by omega
              have hi'l : i' < L.length := by rw [HK.out]; omega
              obtain ⟨bb, oo, ebb, u0, u1, u2⟩ := Tris_at HT2.out (i := i') hi'l
              cases ebb
              have hja : L.getD i' (0, 0, 0) = jbA L i' := rfl
              rw [hja] at u0 u1 u2
              rw [hi'] at HQ3
              generalize jbA L i' = jb2 at u0 u1 u2 HQ3
              obtain ⟨ta, td, tw⟩ := jb2
              dsimp only at u0 u1 u2
              have HU := Lib.hid (And.intro u0 (And.intro u1 u2))
              clear hka hkd hkw a1 a2 a3 hja hi'l hi' HOK m1 m2 m3 m4 m5 m6 u0 u1 u2
              have hgd := (Gr.refl w5).drewN nq
              have HZ6 := Lib.hid (HZ5.out.keep hgd)
              have HP1 := Lib.hid (owns_gr HO1.out hgd)
              have HP2 := Lib.hid (owns_gr HO2.out hgd)
              have HP3 := Lib.hid (owns_gr HO3.out hgd)
              have HG6 := Lib.hid (hg25.trans hgd)
              clear hgd p0 p1 p2 HZ5 HO1 HO2 HO3 hg25
              generalize w5.drewN nq = w6 at HZ6 HP1 HP2 HP3 HG6 ⊢
              have HRw60 := HP1
              have HRw61 := HP2
              have HRw62 := HP3
              have HAPw6 := hap
              clear HP1 HP2 HP3 hap
              have p0 := HZ6.out.cell 0
              have p1 := HZ6.out.cell 1
              have p2 := HZ6.out.cell 2
              obtain ⟨hi, hz0, hz1, hz2⟩ := HI.out
              have hsw6 := HG6.out.size
              go_wp2_with (at_builtin; refine wpList_append_lies _ rfl _ _ 22 rfl w2.heap.size 50 i0 _ 3 24 Try.underlying22 hi hz0 hz1 hz2 rfl (by decide) _ _ _ rfl (HRw60.out.alloc _) ⟨w6.heap.size, 0, none⟩ 1 1 (enc3 (ka, kd, kw)) rfl rfl ?a1 ?a2 (by decide) ?a3 ?a4 ?a5 _ rfl ?_)
              case a1 =>
                intro t u ht
                first
                | (rw [Addr.add_lit]; exact alloc_new rfl (by rw [Nat.zero_add]; simpa [enc3] using ht))
                | exact ht
                | simpa [enc3] using ht
              case a2 => exact fun u hu => enc3_one _ u hu
              case a3 => unfold maxLen; omega
              case a4 => omega
              case a5 => first | (simp; omega) | omega
              intro ga qa w7 hown' hgrow hat _
              have hal := HG6.out.alloc (.cells #[.int .i64 ka, .int .i64 kd, .int .i64 kw] 50)
              have hal0 := (Gr.refl w6).alloc (.cells #[.int .i64 ka, .int .i64 kd, .int .i64 kw] 50)
              have hoa := HRw60.out.alloc (.cells #[.int .i64 ka, .int .i64 kd, .int .i64 kw] 50)
              have hob := HRw61.out.alloc (.cells #[.int .i64 ka, .int .i64 kd, .int .i64 kw] 50)
              have hoc := HRw62.out.alloc (.cells #[.int .i64 ka, .int .i64 kd, .int .i64 kw] 50)
              have HG7 : Hid (Gr w2 w7) := Lib.hid (Below.grown hal hgrow hal.size (fun t ht => (hoa.lt t ht).1))
              have HRw71 := Lib.hid (hob.kept (row := (Value.slice A1 i c1).ownBlock) hgrow (HAPw6.out.1.symm).or)
              have HRw72 := Lib.hid (hoc.kept (row := (Value.slice A1 i c1).ownBlock) hgrow (HAPw6.out.2.1.symm).or)
              have hab : Ap (.slice (some ⟨ga, 0, none⟩) (i + 1) qa) (.slice A2 i c2) := Ap.app (HAPw6.out.1) hob (hat.imp id fun h => by rw [h]; simp)
              have hac : Ap (.slice (some ⟨ga, 0, none⟩) (i + 1) qa) (.slice A3 i c3) := Ap.app (HAPw6.out.2.1) hoc (hat.imp id fun h => by rw [h]; simp)
              have HRw70 : Hid (w7.ownsRow w2.heap.size 50 3 (.slice (some ⟨ga, 0, none⟩) (i + 1) qa) (i + 1) (flatE enc3 ((L.map (scJ kk)).take (i + 1)))) := Lib.hid (by rw [HQ1.out, flatE_app]; simpa [flatE, HSC.out] using hown')
              have HAPw7 : Hid (Ap (.slice (some ⟨ga, 0, none⟩) (i + 1) qa) (.slice A2 i c2) ∧ Ap (.slice (some ⟨ga, 0, none⟩) (i + 1) qa) (.slice A3 i c3) ∧ Ap (.slice A2 i c2) (.slice A3 i c3)) := Lib.hid ⟨hab, hac, HAPw6.out.2.2⟩
              have HZ7 : Hid (Blk w7 T 50 #[.int .i64 ja, .int .i64 jd, .int .i64 jw]) := Lib.hid ((HZ6.out.keep hal0).grown hgrow (fun e => HOT0.out e.symm))
              clear hi hz0 hz1 hz2 hown' hgrow hat hal hal0 hoa hob hoc hab hac HRw60 HRw61 HRw62 HAPw6 HG6 HZ6 hsw6
              clear p0 p1 p2
              have p0 := HZ7.out.cell 0
              have p1 := HZ7.out.cell 1
              have p2 := HZ7.out.cell 2
              obtain ⟨hi, hz0, hz1, hz2⟩ := HI.out
              have hsw7 := HG7.out.size
              go_wp2_with (at_builtin; refine wpList_append_lies _ rfl _ _ 22 rfl w2.heap.size 50 i0 _ 3 24 Try.underlying22 hi hz0 hz1 hz2 rfl (by decide) _ _ _ rfl (HRw71.out.alloc _) ⟨w7.heap.size, 0, none⟩ 1 1 (enc3 (ja + d, jd + d, jw)) rfl rfl ?b1 ?b2 (by decide) ?b3 ?b4 ?b5 _ rfl ?_)
              case b1 =>
                intro t u ht
                first
                | (rw [Addr.add_lit]; exact alloc_new rfl (by rw [Nat.zero_add]; simpa [enc3] using ht))
                | exact ht
                | simpa [enc3] using ht
              case b2 => exact fun u hu => enc3_one _ u hu
              case b3 => unfold maxLen; omega
              case b4 => omega
              case b5 => first | (simp; omega) | omega
              intro gb qb w8 hown' hgrow hat _
              have hal := HG7.out.alloc (.cells #[.int .i64 (ja + d), .int .i64 (jd + d), .int .i64 jw] 50)
              have hal0 := (Gr.refl w7).alloc (.cells #[.int .i64 (ja + d), .int .i64 (jd + d), .int .i64 jw] 50)
              have hoa := HRw71.out.alloc (.cells #[.int .i64 (ja + d), .int .i64 (jd + d), .int .i64 jw] 50)
              have hob := HRw70.out.alloc (.cells #[.int .i64 (ja + d), .int .i64 (jd + d), .int .i64 jw] 50)
              have hoc := HRw72.out.alloc (.cells #[.int .i64 (ja + d), .int .i64 (jd + d), .int .i64 jw] 50)
              have HG8 : Hid (Gr w2 w8) := Lib.hid (Below.grown hal hgrow hal.size (fun t ht => (hoa.lt t ht).1))
              have HRw80 := Lib.hid (hob.kept (row := (Value.slice A2 i c2).ownBlock) hgrow (HAPw7.out.1).or)
              have HRw82 := Lib.hid (hoc.kept (row := (Value.slice A2 i c2).ownBlock) hgrow (HAPw7.out.2.2.symm).or)
              have hab : Ap (.slice (some ⟨gb, 0, none⟩) (i + 1) qb) (.slice (some ⟨ga, 0, none⟩) (i + 1) qa) := Ap.app (HAPw7.out.1.symm) hob (hat.imp id fun h => by rw [h]; simp)
              have hac : Ap (.slice (some ⟨gb, 0, none⟩) (i + 1) qb) (.slice A3 i c3) := Ap.app (HAPw7.out.2.2) hoc (hat.imp id fun h => by rw [h]; simp)
              have HRw81 : Hid (w8.ownsRow w2.heap.size 50 3 (.slice (some ⟨gb, 0, none⟩) (i + 1) qb) (i + 1) (flatE enc3 ((L.map (shJ d)).take (i + 1)))) := Lib.hid (by rw [HQ2.out, flatE_app]; simpa [flatE, shJ] using hown')
              have HAPw8 : Hid (Ap (.slice (some ⟨ga, 0, none⟩) (i + 1) qa) (.slice (some ⟨gb, 0, none⟩) (i + 1) qb) ∧ Ap (.slice (some ⟨ga, 0, none⟩) (i + 1) qa) (.slice A3 i c3) ∧ Ap (.slice (some ⟨gb, 0, none⟩) (i + 1) qb) (.slice A3 i c3)) := Lib.hid ⟨hab.symm, HAPw7.out.2.1, hac⟩
              have HZ8 : Hid (Blk w8 T 50 #[.int .i64 ja, .int .i64 jd, .int .i64 jw]) := Lib.hid ((HZ7.out.keep hal0).grown hgrow (fun e => HOT1.out e.symm))
              clear hi hz0 hz1 hz2 hown' hgrow hat hal hal0 hoa hob hoc hab hac HRw70 HRw71 HRw72 HAPw7 HG7 HZ7 hsw7
              clear p0 p1 p2
              have x0 := HG8.out.keep HU.out.1
              have x1 := HG8.out.keep HU.out.2.1
              have x2 := HG8.out.keep HU.out.2.2
              obtain ⟨hi, hz0, hz1, hz2⟩ := HI.out
              have hsw8 := HG8.out.size
              go_wp2_with (at_builtin; refine wpList_append_lies _ rfl _ _ 22 rfl w2.heap.size 50 i0 _ 3 24 Try.underlying22 hi hz0 hz1 hz2 rfl (by decide) _ _ _ rfl (HRw82.out.alloc _) ⟨w8.heap.size, 0, none⟩ 1 1 (enc3 (ta, td, tw)) rfl rfl ?c1 ?c2 (by decide) ?c3 ?c4 ?c5 _ rfl ?_)
              case c1 =>
                intro t u ht
                first
                | (rw [Addr.add_lit]; exact alloc_new rfl (by rw [Nat.zero_add]; simpa [enc3] using ht))
                | exact ht
                | simpa [enc3] using ht
              case c2 => exact fun u hu => enc3_one _ u hu
              case c3 => unfold maxLen; omega
              case c4 => omega
              case c5 => first | (simp; omega) | omega
              intro gc qc w9 hown' hgrow hat _
              have hal := HG8.out.alloc (.cells #[.int .i64 ta, .int .i64 td, .int .i64 tw] 50)
              have hal0 := (Gr.refl w8).alloc (.cells #[.int .i64 ta, .int .i64 td, .int .i64 tw] 50)
              have hoa := HRw82.out.alloc (.cells #[.int .i64 ta, .int .i64 td, .int .i64 tw] 50)
              have hob := HRw80.out.alloc (.cells #[.int .i64 ta, .int .i64 td, .int .i64 tw] 50)
              have hoc := HRw81.out.alloc (.cells #[.int .i64 ta, .int .i64 td, .int .i64 tw] 50)
              have HG9 : Hid (Gr w2 w9) := Lib.hid (Below.grown hal hgrow hal.size (fun t ht => (hoa.lt t ht).1))
              have HRw90 := Lib.hid (hob.kept (row := (Value.slice A3 i c3).ownBlock) hgrow (HAPw8.out.2.1).or)
              have HRw91 := Lib.hid (hoc.kept (row := (Value.slice A3 i c3).ownBlock) hgrow (HAPw8.out.2.2).or)
              have hab : Ap (.slice (some ⟨gc, 0, none⟩) (i + 1) qc) (.slice (some ⟨ga, 0, none⟩) (i + 1) qa) := Ap.app (HAPw8.out.2.1.symm) hob (hat.imp id fun h => by rw [h]; simp)
              have hac : Ap (.slice (some ⟨gc, 0, none⟩) (i + 1) qc) (.slice (some ⟨gb, 0, none⟩) (i + 1) qb) := Ap.app (HAPw8.out.2.2.symm) hoc (hat.imp id fun h => by rw [h]; simp)
              have HRw92 : Hid (w9.ownsRow w2.heap.size 50 3 (.slice (some ⟨gc, 0, none⟩) (i + 1) qc) (i + 1) (flatE enc3 (L.reverse.take (i + 1)))) := Lib.hid (by rw [HQ3.out, flatE_app]; simpa [flatE] using hown')
              have HAPw9 : Hid (Ap (.slice (some ⟨ga, 0, none⟩) (i + 1) qa) (.slice (some ⟨gb, 0, none⟩) (i + 1) qb) ∧ Ap (.slice (some ⟨ga, 0, none⟩) (i + 1) qa) (.slice (some ⟨gc, 0, none⟩) (i + 1) qc) ∧ Ap (.slice (some ⟨gb, 0, none⟩) (i + 1) qb) (.slice (some ⟨gc, 0, none⟩) (i + 1) qc)) := Lib.hid ⟨HAPw8.out.1, hab.symm, hac.symm⟩
              clear hi hz0 hz1 hz2 hown' hgrow hat hal hal0 hoa hob hoc hab hac HRw80 HRw81 HRw82 HAPw8 HG8 hsw8
              clear x0 x1 x2
              go_wp2_with fail
              go_roundw
              case rel => exact ⟨i + 1, _, _, _, _, _, _, by omega, by go_num, rfl, rfl, rfl, HOK2, HRw90, HRw91, HRw92, HAPw9, HG9.out⟩
              case measure => simp [intOf]; omega
      · obtain rfl : k = i := by omega
        rw [List.take_of_length_le (by rw [List.length_map, HK.out]; exact Nat.le_refl _)] at ho1 ho2
        rw [List.take_of_length_le (by rw [List.length_reverse, HK.out]; exact Nat.le_refl _)] at ho3
        have hl1 : (L.map (scJ kk)).length = k := by rw [List.length_map]; exact HK.out
        have hl2 : (L.map (shJ d)).length = k := by rw [List.length_map]; exact HK.out
        have hl3 : L.reverse.length = k := by rw [List.length_reverse]; exact HK.out
        have HT1 : Hid (Tris wr A1 (L.map (scJ kk))) := Lib.hid (by
          obtain ⟨A5, c5, he5, -, g2, -⟩ := own_row enc3_len hl1 ho1.out
          cases he5
          exact g2)
        have HT3 : Hid (Tris wr A2 (L.map (shJ d))) := Lib.hid (by
          obtain ⟨A5, c5, he5, -, g2, -⟩ := own_row enc3_len hl2 ho2.out
          cases he5
          exact g2)
        have HT4 : Hid (Tris wr A3 L.reverse) := Lib.hid (by
          obtain ⟨A5, c5, he5, -, g2, -⟩ := own_row enc3_len hl3 ho3.out
          cases he5
          exact g2)
        have hK1 : okT N (L.map (scJ kk)) = true := task_map HT.out (fun j hj => by
          have hbd := HV.out.bd hj
          obtain ⟨h1, h2, h3⟩ := hok.out j (by rw [HK.out] at hj; exact hj)
          have g1 : 0 ≤ kk * (jbA L j).1 := Int.mul_nonneg (by omega) hbd.1.1
          have g2 : kk * (jbA L j).1 < kk * (jbA L j).2.1 := Int.mul_lt_mul_of_pos_left hbd.1.2.1 (by omega)
          have g3 : 1 * (jbA L j).2.2 ≤ kk * (jbA L j).2.2 := Int.mul_le_mul_of_nonneg_right (by omega) (by omega)
          unfold okJ scJ
          exact decide_eq_true ⟨⟨g1, g2, h1⟩, by dsimp only; omega, h2⟩)
        have hK2 : okT N (L.map (shJ d)) = true := task_map HT.out (fun j hj => by
          have hbd := HV.out.bd hj
          obtain ⟨h1, h2, h3⟩ := hok.out j (by rw [HK.out] at hj; exact hj)
          exact decide_eq_true (by simp only [shJ]; omega))
        have hK3 : okT N L.reverse = true := task_rev HT.out
        have HC0 := Lib.hid (HCN.out N L A' k c' wr HK.out HT.out (HT2.out.keep hgq))
        have HC1 := Lib.hid (fun W (hW : Gr wr W) => HCN.out N (L.map (scJ kk)) A1 k c1 W hl1 hK1 (HT1.out.keep hW))
        have HC2 := Lib.hid (fun W (hW : Gr wr W) => HCN.out N (L.map (shJ d)) A2 k c2 W hl2 hK2 (HT3.out.keep hW))
        have HC3 := Lib.hid (fun W (hW : Gr wr W) => HCN.out N L.reverse A3 k c3 W hl3 hK3 (HT4.out.keep hW))
        obtain ⟨M, hM⟩ : ∃ M : Nat, N = M := ⟨N.toNat, by omega⟩
        have HS1 : Hid (∀ r r' : Int, ((r = 1 ∧ Poss N L) ∨ (r = 0 ∧ Refd N L)) → ((r' = 1 ∧ Poss N (L.map (scJ kk))) ∨ (r' = 0 ∧ Refd N (L.map (scJ kk)))) → r' = r) := Lib.hid (by
          subst hM
          exact fun r r' => can_same (okT_v hK1).2.2 (fun h => h.scale hkb.1) (fun h => h.scale HV.out.three hkb.1))
        have HS2 : Hid (∀ r r' : Int, ((r = 1 ∧ Poss N L) ∨ (r = 0 ∧ Refd N L)) → ((r' = 1 ∧ Poss N (L.map (shJ d))) ∨ (r' = 0 ∧ Refd N (L.map (shJ d)))) → r' = r) := Lib.hid (by
          subst hM
          exact fun r r' => can_same (okT_v hK2).2.2 (fun h => h.shift) (fun h => h.shift HV.out.three hu.1))
        have HS3 : Hid (∀ r r' : Int, ((r = 1 ∧ Poss N L) ∨ (r = 0 ∧ Refd N L)) → ((r' = 1 ∧ Poss N L.reverse) ∨ (r' = 0 ∧ Refd N L.reverse)) → r' = r) := Lib.hid (by
          subst hM
          exact fun r r' => can_same (okT_v hK3).2.2 (fun h => h.rev) (fun h => h.rev HV.out.three))
        have hgr3 := hgr2.trans hgq
        clear hM ho1 ho2 ho3 hl1 hl2 hl3 HT1 HT3 HT4 hK1 hK2 hK3 HCN hlt hap hok HT2 hgq
        go_wp2_with fail
        refine HC0.out.mono ?_
        rintro e w3 ⟨r, rfl, hr, hg3⟩
        have HA1 := Lib.hid (fun r' h' => HS1.out r r' hr h')
        have HA2 := Lib.hid (fun r' h' => HS2.out r r' hr h')
        have HA3 := Lib.hid (fun r' h' => HS3.out r r' hr h')
        have hr01 : r = 1 ∨ r = 0 := hr.imp (fun h => h.1) (fun h => h.1)
        have HD1 := Lib.hid (HC1.out w3 hg3)
        clear hr HC0 HC1 HS1 HS2 HS3
        rcases hr01 with rfl | rfl
        all_goals
          go_wp2_with fail
          refine HD1.out.mono ?_
          rintro e w4 ⟨r1, rfl, hr1, hg4⟩
          have hq1 := HA1.out _ hr1
          subst hq1
          have HD2 := Lib.hid (HC2.out w4 (hg3.trans hg4))
          clear hr1 HD1 HC2
          go_wp2_with fail
          refine HD2.out.mono ?_
          rintro e w5 ⟨r2, rfl, hr2, hg5⟩
          have hq2 := HA2.out _ hr2
          subst hq2
          have HD3 := Lib.hid (HC3.out w5 ((hg3.trans hg4).trans hg5))
          clear hr2 HD2 HC3
          go_wp2_with fail
          refine HD3.out.mono ?_
          rintro e w6 ⟨r3, rfl, hr3, hg6⟩
          have hq3 := HA3.out _ hr3
          subst hq3
          clear hr3 HD3
          go_wp2_with fail
          refine (bawake_any _).mono ?_
          rintro e w7 ⟨rfl, hg7⟩
          go_wp2_with fail
          go_ret
          exact ⟨rfl, (((hgr3.trans hg3).trans hg4).trans hg5 |>.trans hg6).trans hg7⟩

end Go.Proofs.Ytngcgienhdifaaa
