/- Layer 4: the reference's Refusal. -/
import Derived.Test.YtfmojiaaoebodaaBnRefA
namespace Go.Proofs.Ytfmojiaaoebodaa
open Go.RowKit
set_option linter.unusedSimpArgs false

theorem refuse_iff2 {n : Int} {l : List Jb} {J : List Int} {S : List (Int × Int)} : RefuseP n l J S ↔ AscOk l.length J ∧ SpansOk S ∧ roomS n S + lsum (fun j => besS S (jbA l j.toNat)) J < lsum (fun j => (jbA l j.toNat).2.2) J := by
  constructor
  · intro h; exact ⟨(asc_iff _ _).1 ⟨h.jobs, h.asc⟩, ⟨h.few, (spans_iff S).1 h.spans⟩, h.more⟩
  · rintro ⟨h1, ⟨h2, h3⟩, h4⟩
    obtain ⟨a, b⟩ := (asc_iff _ _).2 h1
    exact ⟨h2, (spans_iff S).2 h3, a, b, h4⟩
theorem okPs_few {n : Nat} {J : List Int} {k : Nat} (h : ∀ i, i < k + 1 → okPs n J i) : k + 1 ≤ n := by
  have h1 := chain_low (a := fun k => J.getD k 0) (b := fun k => J.getD k 0 + 1) (N := k + 1) (fun i hi => ⟨(h i hi).1, by dsimp only; omega⟩) k (by omega)
  have h2 := (h k (by omega)).2
  omega
theorem RefuseP.span {n : Int} {l : List Jb} {J : List Int} {S : List (Int × Int)} (h : RefuseP n l J S) {k : Nat} (hk : k < S.length) : 0 ≤ (S.getD k (0, 0)).1 ∧ okSp S k :=
  ⟨(h.spans.1 _ (List.mem_of_getElem? (getD_of (0, 0) hk))).1, (spans_iff S).1 h.spans k hk⟩
theorem RefuseP.job {n : Int} {l : List Jb} {J : List Int} {S : List (Int × Int)} (h : RefuseP n l J S) {k : Nat} (hk : k < J.length) : 0 ≤ J.getD k 0 ∧ okPs l.length J k :=
  ⟨(h.jobs _ (List.mem_of_getElem? (getD_of 0 hk))).1, (asc_iff _ _).1 ⟨h.jobs, h.asc⟩ k hk⟩

set_option maxRecDepth 100000 in
set_option maxHeartbeats 40000000 in
theorem rRefusal_any (B : Int) (hB : 1 ≤ B ∧ B ≤ 8) (A : Option Addr) (n c : Nat) (l : List Jb) (JA : Option Addr) (m1 c1 : Nat) (J : List Int) (SA : Option Addr) (m2 c2 : Nat) (S : List (Int × Int)) (w : World) (hn : l.length = n) (hn32 : n ≤ 32) (hV : JobsV l) (hp : Tris w A l)
    (hm1 : J.length = m1) (_hb1 : m1 ≤ 281474976710656) (hJ : Ints w JA J) (hm2 : S.length = m2) (_hb2 : m2 ≤ 281474976710656) (hS : Pts w SA S) :
    Calls Try.prog 23 #[.int .i64 B, .slice A n c, .slice JA m1 c1, .slice SA m2 c2] w (BoolP (RefuseP B l J S) w) := by
  have HRI : Hid (RefuseP B l J S ↔ _) := Lib.hid refuse_iff2
  have HN := Lib.hid hn
  have HM1 := Lib.hid hm1
  have HM2 := Lib.hid hm2
  have HV := Lib.hid hV
  have HP := Lib.hid hp
  have HJ := Lib.hid hJ
  have HS := Lib.hid hS
  clear hn hV hp hm1 hJ hm2 hS
  by_cases hbig : 4096 < m2
  · have hbi : (4096 : Int) < (m2 : Int) := by omega
    go_enter Try.func23, Try.ntmps23
    go_wp2_with fail
    go_ret
    exact ⟨false, rfl, no_of (fun h => by have := h.few; rw [HM2.out] at this; omega), Gr.refl _⟩
  · have hbi : ¬ (4096 : Int) < (m2 : Int) := by omega
    go_enter Try.func23, Try.ntmps23
    go_wp2_with fail
    go_loopw [9, 10] (fun q z wr => ∃ (k : Nat) (L : Int), k ≤ m2 ∧ z = .int .i64 (k : Int) ∧ q = .int .i64 L ∧ (0 ≤ L ∧ L ≤ 8388608 * (k : Int)) ∧ Hid (L = roomS B (S.take k)) ∧ Hid (∀ i, i < k → okSp S i) ∧ Gr w wr) (fun _ z _ => m2 - (intOf z).toNat)
    case atStart => exact ⟨0, 0, Nat.zero_le _, rfl, rfl, ⟨by omega, by omega⟩, Lib.hid (by simp [roomS, lsum]), Lib.hid (fun i h => by omega), Gr.refl _⟩
    case round =>
      obtain ⟨k, L, hk, rfl, rfl, ⟨hL0, hL1⟩, hE, hA, hgr⟩ := hrel
      by_cases hlt : k < m2
      · have hki : (k : Int) < (m2 : Int) := by omega
        have hkl : k < S.length := by rw [HM2.out]; exact hlt
        obtain ⟨b, off, rfl, x0, x1⟩ := Pts_at (HS.out.keep (hgr)) (k := k) hkl
        have HTK : Hid (S.take (k + 1) = S.take k ++ [S.getD k (0, 0)]) := Lib.hid (take_snoc S (0, 0) k hkl)
        have HOK : Hid (okSp S k ↔ endS S k ≤ (S.getD k (0, 0)).1 ∧ (S.getD k (0, 0)).1 < (S.getD k (0, 0)).2 ∧ (S.getD k (0, 0)).2 ≤ 1048576) := Lib.hid Iff.rfl
        have HREF : Hid (RefuseP B l J S → 0 ≤ (S.getD k (0, 0)).1 ∧ okSp S k) := Lib.hid (fun h => h.span hkl)
        generalize S.getD k (0, 0) = p at x0 x1 HTK HOK HREF
        obtain ⟨x, y⟩ := p
        dsimp only at x0 x1 HTK HOK HREF
        have hk0 : (0 : Int) ≤ (k : Int) := by omega
        go_upto_region 7 with fail
        go_quiet (fail)
        have hgr2 := hgr.drewN nq
        clear x0 x1 hgr hkl
        generalize wr.drewN nq = w2 at hgr2 ⊢
        by_cases a0 : x < 0
        · go_wp2_with fail
          try rw [Exit.noGoto_ret]
          go_ret
          exact ⟨false, rfl, no_of (fun h => by have := HREF.out h; omega), hgr2⟩
        · by_cases a1 : y ≤ x
          · go_wp2_with fail
            try rw [Exit.noGoto_ret]
            go_ret
            exact ⟨false, rfl, no_of (fun h => by have := HOK.out.1 (HREF.out h).2; omega), hgr2⟩
          · by_cases a2 : 1048576 < y
            · go_wp2_with fail
              try rw [Exit.noGoto_ret]
              go_ret
              exact ⟨false, rfl, no_of (fun h => by have := HOK.out.1 (HREF.out h).2; omega), hgr2⟩
            · obtain ⟨pr, hpr⟩ : ∃ pr, B * (y - x) = pr := ⟨_, rfl⟩
              have hprb := mul8 hB (x := y - x) ⟨by omega, by omega⟩
              rw [hpr] at hprb
              have i0 : IntKind.i64.wrap (y - x) = y - x := IntWalk.i64_in _ (by omega)
              have i1 : IntKind.i64.wrap (B * (y - x)) = pr := by rw [hpr]; exact IntWalk.i64_in _ (by omega)
              have i2 : IntKind.i64.wrap (L + pr) = L + pr := IntWalk.i64_in _ (by omega)
              have HE2 : Hid (L + pr = roomS B (S.take (k + 1))) := Lib.hid (by rw [HTK.out, roomS_snoc, hE.out]; dsimp only; omega)
              clear hpr HTK
              rcases Nat.eq_zero_or_pos k with e0 | e0
              · subst e0
                have HA2 : Hid (∀ i, i < 0 + 1 → okSp S i) := Lib.hid (fun i hi => by
                  obtain rfl : i = 0 := by omega
                  exact HOK.out.2 ⟨by unfold endS; simp; omega, by omega, by omega⟩)
                go_wp2_with fail
                go_roundw
                case rel => exact ⟨1, L + pr, by omega, by go_num, by first | rfl | go_num, ⟨by omega, by omega⟩, HE2, HA2, hgr2⟩
                case measure => simp [intOf]; omega
              · obtain ⟨k', rfl⟩ : ∃ k', k = k' + 1 := ⟨k - 1, by omega⟩
                obtain ⟨b', off', e, y0, y1⟩ := Pts_at (HS.out.keep hgr2) (k := k') (by rw [HM2.out]; omega)
                cases e
                have HES := Lib.hid (endS_succ S k')
                generalize S.getD k' (0, 0) = p' at y0 y1 HES
                obtain ⟨x', y'⟩ := p'
                dsimp only at y0 y1 HES
                have s1 : IntKind.i64.wrap (((k' : Nat) : Int) + 1 - 1) = (k' : Int) := by rw [show (k' : Int) + 1 - 1 = (k' : Int) by omega]; exact IntWalk.i64_in _ (by omega)
                have s2 : IntKind.i64.wrap (k' : Int) = (k' : Int) := IntWalk.i64_in _ (by omega)
                have s3 : (0 : Int) ≤ (k' : Int) := by omega
                have s4 : (k' : Int) < (m2 : Int) := by omega
                have s5 : (0 : Int) < (k' : Int) + 1 := by omega
                by_cases a3 : x < y'
                · go_wp2_with fail
                  try rw [Exit.noGoto_ret]
                  go_ret
                  exact ⟨false, rfl, no_of (fun h => by have := HOK.out.1 (HREF.out h).2; rw [HES.out] at this; omega), hgr2⟩
                · have HA2 : Hid (∀ i, i < k' + 1 + 1 → okSp S i) := Lib.hid (fun i hi => by
                    by_cases e : i = k' + 1
                    · rw [e]; exact HOK.out.2 ⟨by rw [HES.out]; omega, by omega, by omega⟩
                    · exact hA.out i (by omega))
                  go_wp2_with fail
                  go_roundw
                  case rel => exact ⟨k' + 1 + 1, L + pr, by omega, by go_num, by first | rfl | go_num, ⟨by omega, by omega⟩, HE2, HA2, hgr2⟩
                  case measure => simp [intOf]; omega
      · obtain rfl : m2 = k := by omega
        have HSPN : Hid (SpansOk S) := Lib.hid ⟨by rw [HM2.out]; omega, fun i hi => hA.out i (by rw [HM2.out] at hi; exact hi)⟩
        have HE0 : Hid (L = roomS B S + lsum (fun j => besS S (jbA l j.toNat)) (J.take 0)) := Lib.hid (by rw [hE.out, List.take_of_length_le (by rw [HM2.out]; exact Nat.le_refl _)]; simp [lsum])
        have hLb : 0 ≤ L ∧ L ≤ 34359738368 := by omega
        have HB : Hid (∀ jb : Jb, (0 ≤ jb.1 ∧ jb.1 < jb.2.1 ∧ jb.2.1 ≤ 1048576) → ∀ k, k ≤ m2 → -4294967296 ≤ besS (S.take k) jb ∧ besS (S.take k) jb ≤ 1048576) := Lib.hid (fun jb hjb k hk => by
          have := besS_bd hjb (S := S.take k) (fun p hp => (HSPN.out.mem p (List.mem_of_mem_take hp)).2.1)
          have h2 : (S.take k).length ≤ 4096 := by rw [List.length_take]; omega
          omega)
        clear hE hL0 hL1 hlt hA
        rename World => W1
        go_wp2_with fail
        go_loopw [9, 13, 14] (fun q v z wr => ∃ (k : Nat) (L V : Int), k ≤ m1 ∧ z = .int .i64 (k : Int) ∧ q = .int .i64 L ∧ v = .int .i64 V ∧ (-(4294967296 * (k : Int)) ≤ L ∧ L ≤ 34359738368 + 1048576 * (k : Int)) ∧ (0 ≤ V ∧ V ≤ 1048576 * (k : Int)) ∧ k ≤ 32 ∧ Hid (L = roomS B S + lsum (fun j => besS S (jbA l j.toNat)) (J.take k)) ∧ Hid (V = lsum (fun j => (jbA l j.toNat).2.2) (J.take k)) ∧ Hid (∀ i, i < k → okPs n J i) ∧ Gr w wr) (fun _ _ z _ => m1 - (intOf z).toNat)
        case atStart => exact ⟨0, L, 0, Nat.zero_le _, rfl, rfl, rfl, ⟨by omega, by omega⟩, ⟨by omega, by omega⟩, by omega, HE0, Lib.hid (by simp [lsum]), Lib.hid (fun i h => by omega), hgr⟩
        case round =>
          clear HE0 hLb hgr
          obtain ⟨k, L, V, hk, rfl, rfl, rfl, ⟨hL0, hL1⟩, ⟨hV0, hV1⟩, hk32, hE, hEV, hA, hgr⟩ := hrel
          by_cases hlt : k < m1
          · have hki : (k : Int) < (m1 : Int) := by omega
            have hk0 : (0 : Int) ≤ (k : Int) := by omega
            have hkl : k < J.length := by rw [HM1.out]; exact hlt
            obtain ⟨bj, offj, rfl, x0⟩ := Ints_at (HJ.out.keep hgr) (i := k) hkl
            have HTK : Hid (J.take (k + 1) = J.take k ++ [J.getD k 0]) := Lib.hid (take_snoc J 0 k hkl)
            have HOK : Hid (okPs n J k ↔ nxtJ J k ≤ J.getD k 0 ∧ J.getD k 0 < (n : Int)) := Lib.hid Iff.rfl
            have HREF : Hid (RefuseP B l J S → 0 ≤ J.getD k 0 ∧ okPs n J k) := Lib.hid (fun h => by have := h.job hkl; rw [HN.out] at this; exact this)
            generalize J.getD k 0 = jv at x0 HTK HOK HREF
            by_cases a0 : jv < 0
            · go_upto_region 15 with fail
              go_quiet (fail)
              go_wp2_with fail
              try rw [Exit.noGoto_ret]
              go_ret
              exact ⟨false, rfl, no_of (fun h => by have := HREF.out h; omega), hgr.drewN _⟩
            · by_cases a1 : (n : Int) ≤ jv
              · go_upto_region 15 with fail
                go_quiet (fail)
                go_wp2_with fail
                try rw [Exit.noGoto_ret]
                go_ret
                exact ⟨false, rfl, no_of (fun h => by have := HOK.out.1 (HREF.out h).2; omega), hgr.drewN _⟩
              · obtain ⟨i, rfl⟩ : ∃ i : Nat, jv = i := ⟨jv.toNat, by omega⟩
                have hprev : ∃ (pv : Int) (kz : Bool), (kz = true → k = 0) ∧ (kz = false → ∃ k', k = k' + 1 ∧ wr.cell? ⟨bj, offj + k', none⟩ = some (.int .i64 pv) ∧ nxtJ J k = pv + 1) := by
                  rcases Nat.eq_zero_or_pos k with e0 | e0
                  · exact ⟨0, true, fun _ => e0, fun h => by cases h⟩
                  · obtain ⟨k', rfl⟩ : ∃ k', k = k' + 1 := ⟨k - 1, by omega⟩
                    obtain ⟨b', off', e, y0⟩ := Ints_at (HJ.out.keep hgr) (i := k') (by omega)
                    cases e
                    exact ⟨_, false, fun h => (by cases h), fun _ => ⟨k', rfl, y0, nxtJ_succ J k'⟩⟩
                obtain ⟨pv, kz, hz1, hz2⟩ := hprev
                by_cases hbad : kz = false ∧ (i : Int) ≤ pv
                · obtain ⟨rfl, hpv⟩ := hbad
                  obtain ⟨k', rfl, y0, hnx⟩ := hz2 rfl
                  have HNX := Lib.hid hnx
                  have s1 : IntKind.i64.wrap (((k' : Nat) : Int) + 1 - 1) = (k' : Int) := by rw [show (k' : Int) + 1 - 1 = (k' : Int) by omega]; exact IntWalk.i64_in _ (by omega)
                  have s2 : IntKind.i64.wrap (k' : Int) = (k' : Int) := IntWalk.i64_in _ (by omega)
                  have s3 : (0 : Int) ≤ (k' : Int) := by omega
                  have s4 : (k' : Int) < (m1 : Int) := by omega
                  have s5 : (0 : Int) < (k' : Int) + 1 := by omega
                  clear hz1 hz2 hnx
                  go_upto_region 15 with fail
                  go_quiet (fail)
                  go_wp2_with fail
                  try rw [Exit.noGoto_ret]
                  go_ret
                  exact ⟨false, rfl, no_of (fun h => by have := HOK.out.1 (HREF.out h).2; rw [HNX.out] at this; omega), hgr.drewN _⟩
                · have hok : okPs n J k := HOK.out.2 ⟨by
                    cases kz with
                    | true => have := hz1 rfl; subst this; simp [nxtJ]
                    | false => obtain ⟨k', -, -, hnx⟩ := hz2 rfl; rw [hnx]; have : ¬ (i : Int) ≤ pv := fun h => hbad ⟨rfl, h⟩; omega, by omega⟩
                  have HA2 : Hid (∀ t, t < k + 1 → okPs n J t) := Lib.hid (fun t ht => by
                    by_cases e : t = k
                    · rw [e]; exact hok
                    · exact hA.out t (by omega))
                  have hk2 : k + 1 ≤ 32 := by have := okPs_few HA2.out; omega
                  have hil : i < l.length := by rw [HN.out]; omega
                  obtain ⟨b, off, rfl, y0, y1, y2⟩ := Tris_at (HP.out.keep hgr) (i := i) hil
                  have hja : l.getD i (0, 0, 0) = jbA l i := rfl
                  rw [hja] at y0 y1 y2
                  have hbd := HV.out.bd hil
                  have HE2 : Hid (L + besS S (jbA l i) = roomS B S + lsum (fun j => besS S (jbA l j.toNat)) (J.take (k + 1))) := Lib.hid (by rw [HTK.out, lsum_snoc, hE.out, Int.toNat_natCast]; omega)
                  have HEV2 : Hid (V + (jbA l i).2.2 = lsum (fun j => (jbA l j.toNat).2.2) (J.take (k + 1))) := Lib.hid (by rw [HTK.out, lsum_snoc, hEV.out, Int.toNat_natCast])
                  clear hja hok HOK HREF HTK
                  generalize jbA l i = jb at y0 y1 y2 hbd HE2 HEV2
                  have HBJ := Lib.hid (HB.out jb hbd.1)
                  obtain ⟨ja, jd, jw⟩ := jb
                  dsimp only at y0 y1 y2 hbd HE2 HEV2
                  have hii : (i : Int) < (n : Int) := by omega
                  have hi0 : (0 : Int) ≤ (i : Int) := by omega
                  have t1 : IntKind.i64.wrap (V + jw) = V + jw := IntWalk.i64_in _ (by omega)
                  have t2 : IntKind.i64.wrap (L + jd) = L + jd := IntWalk.i64_in _ (by omega)
                  have t3 : IntKind.i64.wrap (L + jd - ja) = L + jd - ja := IntWalk.i64_in _ (by omega)
                  have hkk : (kz = true ∧ k = 0) ∨ (∃ k', k = k' + 1 ∧ wr.cell? ⟨bj, offj + k', none⟩ = some (.int .i64 pv) ∧ pv < (i : Int)) := by
                    cases kz with
                    | true => exact Or.inl ⟨rfl, hz1 rfl⟩
                    | false =>
                      obtain ⟨k', e1, e2, -⟩ := hz2 rfl
                      exact Or.inr ⟨k', e1, e2, by have : ¬ (i : Int) ≤ pv := fun h => hbad ⟨rfl, h⟩; omega⟩
                  clear hz1 hz2 hbad
                  go_upto_region 15 with fail
                  go_cut [103] from 74 to 103 (fun v wx => v = .bool false ∧ Gr wr wx)
                  case first =>
                    rcases hkk with ⟨rfl, rfl⟩ | ⟨k', rfl, z0, hpl⟩
                    · have x0' := x0
                      simp only [Nat.add_zero] at x0'
                      have hm0 : (0 : Int) < (m1 : Int) := by omega
                      go_quiet (fail)
                      go_wp2_with fail
                      go_meet
                      exact ⟨rfl, (Gr.refl wr).drewN _⟩
                    · have s1 : IntKind.i64.wrap (((k' : Nat) : Int) + 1 - 1) = (k' : Int) := by rw [show (k' : Int) + 1 - 1 = (k' : Int) by omega]; exact IntWalk.i64_in _ (by omega)
                      have s2 : IntKind.i64.wrap (k' : Int) = (k' : Int) := IntWalk.i64_in _ (by omega)
                      have s3 : (0 : Int) ≤ (k' : Int) := by omega
                      have s4 : (k' : Int) < (m1 : Int) := by omega
                      have s5 : (0 : Int) < (k' : Int) + 1 := by omega
                      go_quiet (fail)
                      go_wp2_with fail
                      go_meet
                      exact ⟨congrArg Value.bool (decide_eq_false (by omega)), (Gr.refl wr).drewN _⟩
                  case rest =>
                    obtain ⟨rfl, hgc⟩ := hcut
                    replace x0 := hgc.keep x0
                    replace y0 := hgc.keep y0
                    replace y1 := hgc.keep y1
                    replace y2 := hgc.keep y2
                    have hgrc := hgr.trans hgc
                    clear hkk hgc hgr
                    go_upto_region 18 with fail
                    generalize hW2 : World.alloc wc _ = w2
                    have hg2 : Gr wc w2 := by rw [← hW2]; exact (Gr.refl wc).alloc _
                    have hZ : Blk w2 wc.heap.size 48 #[.int .i64 ja, .int .i64 jd, .int .i64 jw] := by rw [← hW2]; exact heap_alloc_new wc _
                    generalize wc.heap.size = Z at hZ ⊢
                    have hgr2 := hgrc.trans hg2
                    have HZ := Lib.hid hZ
                    have q0 := hZ.cell 0
                    have q1 := hZ.cell 1
                    have q2 := hZ.cell 2
                    clear hW2 hZ hg2 x0 y0 y1 y2 hgrc
                    go_wp2_with fail
                    clear q0 q1 q2 t1 t2 t3
                    go_loopw [9, 16] (fun q z wr => ∃ (t : Nat) (R : Int), t ≤ m2 ∧ z = .int .i64 (t : Int) ∧ q = .int .i64 R ∧ Hid (R = L + besS (S.take t) (ja, jd, jw)) ∧ Gr w2 wr) (fun _ z _ => m2 - (intOf z).toNat)
                    case atStart => exact ⟨0, _, Nat.zero_le _, rfl, rfl, Lib.hid (by rw [List.take_zero, besS_nil]; dsimp only; omega), Gr.refl _⟩
                    case round =>
                      obtain ⟨t, R, ht, rfl, rfl, hR, hgt⟩ := hrel
                      by_cases hlt2 : t < m2
                      · have hti : (t : Int) < (m2 : Int) := by omega
                        have ht0 : (0 : Int) ≤ (t : Int) := by omega
                        have htl : t < S.length := by rw [HM2.out]; exact hlt2
                        obtain ⟨bs, os, rfl, p0, p1⟩ := Pts_at (HS.out.keep (hgr2.trans hgt)) (k := t) htl
                        have hsn := take_snoc S (0, 0) t htl
                        have hbd1 := HBJ.out t ht
                        have hbd2 := HBJ.out (t + 1) hlt2
                        have hpm := HSPN.out.mem _ (List.mem_of_getElem? (getD_of (0, 0) htl))
                        rw [hsn, besS_snoc] at hbd2
                        have HR2 : Hid (R - ovr ja jd (S.getD t (0, 0)).1 (S.getD t (0, 0)).2 = L + besS (S.take (t + 1)) (ja, jd, jw)) := Lib.hid (by rw [hsn, besS_snoc, hR.out]; dsimp only; omega)
                        rw [show besS (S.take t) (ja, jd, jw) = R - L by have := hR.out; omega] at hbd1 hbd2
                        dsimp only at hbd2
                        generalize S.getD t (0, 0) = p at p0 p1 hbd2 HR2 hpm
                        obtain ⟨x, y⟩ := p
                        dsimp only at p0 p1 hbd2 HR2 hpm
                        have HOV := Lib.hid (fun W => overlap_any ja jd x y W ⟨by omega, by omega⟩ ⟨by omega, by omega⟩ ⟨by omega, by omega⟩ ⟨by omega, by omega⟩)
                        have hov0 := ovr_bd hbd.1.1 hbd.1.2.2 hpm.2.1
                        generalize ovr ja jd x y = ov at hbd2 HR2 HOV hov0
                        have v1 : IntKind.i64.wrap (R - ov) = R - ov := IntWalk.i64_in _ (by omega)
                        have HZ2 := Lib.hid (HZ.out.keep hgt)
                        have z0 := HZ2.out.cell 0
                        have z1 := HZ2.out.cell 1
                        have KS : Hid (∀ W', Gr wr W' → Gr wr W' ∧ W'.cell? ⟨Z, 0, none⟩ = some (.int .i64 ja) ∧ W'.cell? ⟨Z, 1, none⟩ = some (.int .i64 jd) ∧ W'.cell? ⟨bs, os + t * 2, none⟩ = some (.int .i64 x) ∧ W'.cell? ⟨bs, os + t * 2 + 1, none⟩ = some (.int .i64 y)) := Lib.hid (fun W' hg => ⟨hg, hg.keep z0, hg.keep z1, hg.keep p0, hg.keep p1⟩)
                        clear hsn htl hpm hbd1 hbd2
                        go_upto_region 23 with fail
                        refine wp_region_held_drew (S := (fun W' => Gr wr W' ∧ W'.cell? ⟨Z, 0, none⟩ = some (.int .i64 ja) ∧ W'.cell? ⟨Z, 1, none⟩ = some (.int .i64 jd) ∧ W'.cell? ⟨bs, os + t * 2, none⟩ = some (.int .i64 x) ∧ W'.cell? ⟨bs, os + t * 2 + 1, none⟩ = some (.int .i64 y))) ?_ ?_ (fun hHeld => ?_)
                        · kernel_rfl
                        · ((try dsimp only); (first | exact hHeld | exact KS.out _ (Gr.refl wr).drew | exact KS.out _ HGA.out))
                        refine take_in (i := 0) (v := ?_) (d := (some 128)) rfl rfl ?_ ?_ ?_ ?_ ?_ ?_ ?_ ?_
                        rotate_left
                        · kernel_rfl
                        · kernel_rfl
                        · kernel_rfl
                        · (intro _ _ _ hq; exact hq)
                        · rfl
                        · (intro _w hSw; (try dsimp only at hSw); go_simp; try with_reducible rfl)
                        · assumption
                        try simp only [Act.put, List.setIfInBounds_toArray, List.set_cons_zero, List.set_cons_succ]
                        refine take_in (i := 1) (v := ?_) (d := (some 129)) rfl rfl ?_ ?_ ?_ ?_ ?_ ?_ ?_ ?_
                        rotate_left
                        · kernel_rfl
                        · kernel_rfl
                        · kernel_rfl
                        · (intro _ _ _ hq; exact hq)
                        · rfl
                        · (intro _w hSw; (try dsimp only at hSw); go_simp; try with_reducible rfl)
                        · assumption
                        try simp only [Act.put, List.setIfInBounds_toArray, List.set_cons_zero, List.set_cons_succ]
                        refine take_in (i := 2) (v := ?_) (d := (some 130)) rfl rfl ?_ ?_ ?_ ?_ ?_ ?_ ?_ ?_
                        rotate_left
                        · kernel_rfl
                        · kernel_rfl
                        · kernel_rfl
                        · (intro _ _ _ hq; exact hq)
                        · rfl
                        · (intro _w hSw; (try dsimp only at hSw); go_simp; try with_reducible rfl)
                        · assumption
                        try simp only [Act.put, List.setIfInBounds_toArray, List.set_cons_zero, List.set_cons_succ]
                        refine take_in (i := 3) (v := ?_) (d := (some 131)) rfl rfl ?_ ?_ ?_ ?_ ?_ ?_ ?_ ?_
                        rotate_left
                        · kernel_rfl
                        · kernel_rfl
                        · kernel_rfl
                        · (intro _ _ _ hq; exact hq)
                        · rfl
                        · (intro _w hSw; (try dsimp only at hSw); go_simp; try with_reducible rfl)
                        · assumption
                        try simp only [Act.put, List.setIfInBounds_toArray, List.set_cons_zero, List.set_cons_succ]
                        refine take_in (i := 4) (v := ?_) (d := (some 132)) rfl rfl ?_ ?_ ?_ ?_ ?_ ?_ ?_ ?_
                        rotate_left
                        · kernel_rfl
                        · kernel_rfl
                        · kernel_rfl
                        · (intro _ _ _ hq; exact hq)
                        · rfl
                        · (intro _w hSw; (try dsimp only at hSw); go_simp; try with_reducible rfl)
                        · assumption
                        try simp only [Act.put, List.setIfInBounds_toArray, List.set_cons_zero, List.set_cons_succ]
                        refine take_in (i := 5) (v := ?_) (d := (some 133)) rfl rfl ?_ ?_ ?_ ?_ ?_ ?_ ?_ ?_
                        rotate_left
                        · kernel_rfl
                        · kernel_rfl
                        · kernel_rfl
                        · (intro _ _ _ hq; exact hq)
                        · rfl
                        · (intro _w hSw; (try dsimp only at hSw); go_simp; try with_reducible rfl)
                        · assumption
                        try simp only [Act.put, List.setIfInBounds_toArray, List.set_cons_zero, List.set_cons_succ]
                        refine take_in (i := 6) (v := ?_) (d := (some 134)) rfl rfl ?_ ?_ ?_ ?_ ?_ ?_ ?_ ?_
                        rotate_left
                        · kernel_rfl
                        · kernel_rfl
                        · kernel_rfl
                        · (intro _ _ _ hq; exact hq)
                        · rfl
                        · (intro _w hSw; (try dsimp only at hSw); go_simp; try with_reducible rfl)
                        · assumption
                        try simp only [Act.put, List.setIfInBounds_toArray, List.set_cons_zero, List.set_cons_succ]
                        refine take_in (i := 7) (v := ?_) (d := (some 135)) rfl rfl ?_ ?_ ?_ ?_ ?_ ?_ ?_ ?_
                        rotate_left
                        · kernel_rfl
                        · kernel_rfl
                        · kernel_rfl
                        · (intro _ _ _ hq; exact hq)
                        · rfl
                        · (intro _w hSw; (try dsimp only at hSw); go_simp; try with_reducible rfl)
                        · assumption
                        try simp only [Act.put, List.setIfInBounds_toArray, List.set_cons_zero, List.set_cons_succ]
                        refine take_in (i := 8) (v := ?_) (d := (some 136)) rfl rfl ?_ ?_ ?_ ?_ ?_ ?_ ?_ ?_
                        rotate_left
                        · kernel_rfl
                        · kernel_rfl
                        · kernel_rfl
                        · (intro _ _ _ hq; exact hq)
                        · rfl
                        · (intro _w hSw; (try dsimp only at hSw); go_simp; try with_reducible rfl)
                        · assumption
                        try simp only [Act.put, List.setIfInBounds_toArray, List.set_cons_zero, List.set_cons_succ]
                        refine take_in (i := 9) (v := ?_) (d := (some 137)) rfl rfl ?_ ?_ ?_ ?_ ?_ ?_ ?_ ?_
                        rotate_left
                        · kernel_rfl
                        · kernel_rfl
                        · kernel_rfl
                        · (intro _ _ _ hq; exact hq)
                        · rfl
                        · (intro _w hSw; (try dsimp only at hSw); go_simp; try with_reducible rfl)
                        · assumption
                        try simp only [Act.put, List.setIfInBounds_toArray, List.set_cons_zero, List.set_cons_succ]
                        refine take_in (i := 10) (v := ?_) (d := (some 138)) rfl rfl ?_ ?_ ?_ ?_ ?_ ?_ ?_ ?_
                        rotate_left
                        · kernel_rfl
                        · kernel_rfl
                        · kernel_rfl
                        · (intro _ _ _ hq; exact hq)
                        · rfl
                        · (intro _w hSw; (try dsimp only at hSw); go_simp; try with_reducible rfl)
                        · assumption
                        try simp only [Act.put, List.setIfInBounds_toArray, List.set_cons_zero, List.set_cons_succ]
                        refine take_in (i := 11) (v := ?_) (d := (some 139)) rfl rfl ?_ ?_ ?_ ?_ ?_ ?_ ?_ ?_
                        rotate_left
                        · kernel_rfl
                        · kernel_rfl
                        · kernel_rfl
                        · (intro _ _ _ hq; exact hq)
                        · rfl
                        · (intro _w hSw; (try dsimp only at hSw); go_simp; try with_reducible rfl)
                        · assumption
                        try simp only [Act.put, List.setIfInBounds_toArray, List.set_cons_zero, List.set_cons_succ]
                        refine take_in (i := 12) (v := ?_) (d := (some 140)) rfl rfl ?_ ?_ ?_ ?_ ?_ ?_ ?_ ?_
                        rotate_left
                        · kernel_rfl
                        · kernel_rfl
                        · kernel_rfl
                        · (intro _ _ _ hq; exact hq)
                        · rfl
                        · (intro _w hSw; (try dsimp only at hSw); go_simp; try with_reducible rfl)
                        · assumption
                        try simp only [Act.put, List.setIfInBounds_toArray, List.set_cons_zero, List.set_cons_succ]
                        refine take_in (i := 13) (v := ?_) (d := (some 141)) rfl rfl ?_ ?_ ?_ ?_ ?_ ?_ ?_ ?_
                        rotate_left
                        · kernel_rfl
                        · kernel_rfl
                        · kernel_rfl
                        · (intro _ _ _ hq; exact hq)
                        · rfl
                        · (intro _w hSw; (try dsimp only at hSw); go_simp; try with_reducible rfl)
                        · assumption
                        try simp only [Act.put, List.setIfInBounds_toArray, List.set_cons_zero, List.set_cons_succ]
                        refine take_in (i := 14) (v := ?_) (d := (some 142)) rfl rfl ?_ ?_ ?_ ?_ ?_ ?_ ?_ ?_
                        rotate_left
                        · kernel_rfl
                        · kernel_rfl
                        · kernel_rfl
                        · (intro _ _ _ hq; exact hq)
                        · rfl
                        · (intro _w hSw; (try dsimp only at hSw); go_simp; try with_reducible rfl)
                        · assumption
                        try simp only [Act.put, List.setIfInBounds_toArray, List.set_cons_zero, List.set_cons_succ]
                        refine wpAnyH_ready (rs := [15]) ?_ ?_ ?_
                        · kernel_rfl
                        · simp
                        refine (AllReadyH.cons rfl (fun K hK => ?_) AllReadyH.nil)
                        go_simp
                        first | (go_at_call 44; (with_reducible refine (HOV.out _).mono ?_); rintro e w3 ⟨rfl, hw3⟩; have HGA := Lib.hid (hHeld.1.trans hw3); clear hw3)
                        refine hK.out _ _ ?_ (fun hHeld => ?_)
                        · ((try dsimp only); (first | exact hHeld | exact KS.out _ (Gr.refl wr).drew | exact KS.out _ HGA.out))
                        clear hK K
                        try simp only [Act.put, List.setIfInBounds_toArray, List.set_cons_zero, List.set_cons_succ]
                        refine take_in (i := 16) (v := ?_) (d := (some 144)) rfl rfl ?_ ?_ ?_ ?_ ?_ ?_ ?_ ?_
                        rotate_left
                        · kernel_rfl
                        · kernel_rfl
                        · kernel_rfl
                        · (intro _ _ _ hq; exact hq)
                        · rfl
                        · (intro _w hSw; (try dsimp only at hSw); go_simp; try with_reducible rfl)
                        · assumption
                        try simp only [Act.put, List.setIfInBounds_toArray, List.set_cons_zero, List.set_cons_succ]
                        refine take_in (i := 17) (v := ?_) (d := (some 9)) rfl rfl ?_ ?_ ?_ ?_ ?_ ?_ ?_ ?_
                        rotate_left
                        · kernel_rfl
                        · kernel_rfl
                        · kernel_rfl
                        · (intro _ _ _ hq; exact hq)
                        · rfl
                        · (intro _w hSw; (try dsimp only at hSw); go_simp; try with_reducible rfl)
                        · assumption
                        try simp only [Act.put, List.setIfInBounds_toArray, List.set_cons_zero, List.set_cons_succ]
                        refine wpAnyH_done ?_ ?_ _
                        · kernel_rfl
                        rotate_left
                        all_goals
                          have hgf := hgt.trans hHeld.1
                          clear hHeld
                          go_wp2_with fail
                          go_roundw
                          case rel => exact ⟨t + 1, R - ov, by omega, by go_num, by first | rfl | go_num, HR2, hgf⟩
                          case measure => simp [intOf]; omega
                      · obtain rfl : t = m2 := by omega
                        have hRe : R = L + besS S (ja, jd, jw) := by rw [hR.out, List.take_of_length_le (by rw [HM2.out]; exact Nat.le_refl _)]
                        have hbd1 := HBJ.out t (Nat.le_refl _)
                        rw [List.take_of_length_le (by rw [HM2.out]; exact Nat.le_refl _)] at hbd1
                        rw [← hRe] at HE2
                        have hR0 : -(4294967296 * ((k : Int) + 1)) ≤ R ∧ R ≤ 34359738368 + 1048576 * ((k : Int) + 1) := by omega
                        clear hRe hbd1 hR
                        go_wp2_with fail
                        go_roundw
                        case rel => exact ⟨k + 1, R, V + jw, by omega, by go_num, by first | rfl | go_num, by first | rfl | go_num, ⟨by omega, by omega⟩, ⟨by omega, by omega⟩, hk2, HE2, HEV2, HA2, hgr2.trans hgt⟩
                        case measure => simp [intOf]; omega
          · obtain rfl : m1 = k := by omega
            have HF : Hid (RefuseP B l J S ↔ L < V) := Lib.hid (by
              rw [HRI.out, hE.out, hEV.out, List.take_of_length_le (by rw [HM1.out]; exact Nat.le_refl _)]
              exact ⟨fun h => h.2.2, fun h => ⟨fun t ht => by rw [HN.out]; exact hA.out t (by rw [HM1.out] at ht; exact ht), HSPN.out, h⟩⟩)
            clear hE hEV hlt
            go_wp2_with fail
            try rw [Exit.noGoto_ret]
            go_ret
            exact ⟨decide (L < V), by first | rfl | exact ret_bool rfl, ⟨fun h => HF.out.2 (of_decide_eq_true h), fun h => decide_eq_true (HF.out.1 h)⟩, hgr⟩

end Go.Proofs.Ytfmojiaaoebodaa
