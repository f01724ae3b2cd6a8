/- Layer 4: the reference's Schedule. -/
import Derived.Test.YtfmojiaaoebodaaBnRefA
namespace Go.Proofs.Ytfmojiaaoebodaa
open Go.RowKit
set_option linter.unusedSimpArgs false

theorem apS_ovr {x y : Sl} (hx : x.2.2.1 < x.2.2.2) (hy : y.2.2.1 < y.2.2.2) : 0 < ovr x.2.2.1 x.2.2.2 y.2.2.1 y.2.2.2 ↔ ¬ (x.2.2.2 ≤ y.2.2.1 ∨ y.2.2.2 ≤ x.2.2.1) := by unfold ovr; omega
theorem pair_snoc {α : Type} {R : α → α → Prop} (hs : ∀ {x y}, R x y → R y x) {l : List α} {x : α} (d : α) (h : l.Pairwise R) (h2 : ∀ i, i < l.length → R x (l.getD i d)) : (l ++ [x]).Pairwise R := by
  refine List.pairwise_append.2 ⟨h, List.pairwise_singleton _ _, fun a ha b hb => ?_⟩
  obtain rfl := List.mem_singleton.1 hb
  obtain ⟨i, hi, rfl⟩ := List.mem_iff_getElem.1 ha
  have := h2 i hi
  rw [List.getD_eq_getElem?_getD, List.getElem?_eq_getElem hi] at this
  exact hs this
theorem apS_sym {x y : Sl} (h : apS x y) : apS y x := fun e => (h (e.imp Eq.symm Eq.symm)).symm
theorem slA_take {s : List Sl} {k i : Nat} (h : i < k) (_hk : k ≤ s.length) : (s.take k).getD i (0, 0, 0, 0) = slA s i := by
  unfold slA
  rw [List.getD_eq_getElem?_getD, List.getD_eq_getElem?_getD, List.getElem?_take, if_pos h]
theorem okS_bd {B : Int} {l : List Jb} {x : Sl} (hV : JobsV l) (h : okS B l x) : 0 ≤ x.2.2.1 ∧ x.2.2.1 < x.2.2.2 ∧ x.2.2.2 ≤ 1048576 := by
  obtain ⟨a, -, b, c, d⟩ := h
  have := (hV.bd (j := x.1.toNat) (by omega)).1
  omega

set_option maxRecDepth 100000 in
set_option maxHeartbeats 40000000 in
theorem rSchedule_any (B : Int) (A : Option Addr) (n c : Nat) (l : List Jb) (C : Option Addr) (m cc : Nat) (s : List Sl) (w : World) (hn : l.length = n) (hn32 : n ≤ 32) (hV : JobsV l) (hp : Tris w A l)
    (hm : s.length = m) (hmb : m ≤ 281474976710656) (hs : Rd 4 enc4 w C s) :
    Calls Try.prog 22 #[.int .i64 B, .slice A n c, .slice C m cc] w (BoolP (SchedP B l s) w) := by
  have HN := Lib.hid hn
  have HM := Lib.hid hm
  have HV := Lib.hid hV
  have HP := Lib.hid hp
  have HS := Lib.hid hs
  by_cases hbig : 4096 < m
  · have hbi : (4096 : Int) < (m : Int) := by omega
    clear hn hV hp hm hs
    go_enter Try.func22, Try.ntmps22
    go_wp2_with fail
    go_ret
    exact ⟨false, rfl, no_of (fun h => by have := h.few; rw [HM.out] at this; omega), Gr.refl _⟩
  · have hbi : ¬ (4096 : Int) < (m : Int) := by omega
    have hmk := mk_icB n (by omega)
    have hg0 := (Gr.refl w).alloc (.cells (icB n (fun _ => 0)) 3)
    have hd0 : DB (w.alloc (.cells (icB n (fun _ => 0)) 3)) w.heap.size n (fun _ => 0) := Blk.new w _ _ rfl
    clear hn hV hp hm hs
    go_enter Try.func22, Try.ntmps22
    go_wp2_with fail
    clear hmk
    generalize World.alloc w _ = W0 at hg0 hd0 ⊢
    obtain ⟨D, hD⟩ : ∃ D, w.heap.size = D := ⟨_, rfl⟩
    rw [hD] at hd0 ⊢
    have hDle : w.heap.size ≤ D := by omega
    clear hD
    go_loopw [8] (fun z wr => ∃ k : Nat, k ≤ m ∧ z = .int .i64 (k : Int) ∧ Hid (∀ x ∈ s.take k, okS B l x) ∧ Hid ((s.take k).Pairwise apS) ∧ Hid (DB wr D n (fun j => doneS (s.take k) (j : Int))) ∧ Hid (Gb D W0 wr)) (fun z _ => m - (intOf z).toNat)
    case atStart => exact ⟨0, Nat.zero_le _, rfl, Lib.hid (fun x hx => by simp at hx), Lib.hid (by simp), Lib.hid (hd0.congr (fun j _ => by simp [doneS, lsum])), Lib.hid (Gb.refl _ _)⟩
    case round =>
      obtain ⟨k, hk, rfl, hA, hPW, hD, hG⟩ := hrel
      have hgr : Gr w wr := hG.out.gr hg0 hDle
      by_cases hlt : k < m
      · have hki : (k : Int) < (m : Int) := by omega
        have hkl : k < s.length := by rw [HM.out]; exact hlt
        obtain ⟨b, off, rfl, x0, x1, x2, x3⟩ := Quads_at (HS.out.keep hgr) (k := k) hkl
        obtain ⟨X, hX⟩ : ∃ X, slA s k = X := ⟨_, rfl⟩
        have hXm : X ∈ s := by rw [← hX, slA_get s k hkl]; exact List.getElem_mem _
        have HTK : Hid (s.take (k + 1) = s.take k ++ [X]) := Lib.hid (by rw [take_snoc s (0, 0, 0, 0) k hkl, ← hX]; rfl)
        have HXM := Lib.hid hXm
        have HKL := Lib.hid hkl
        rw [hX] at x0 x1 x2 x3
        have HOK : Hid (okS B l X ↔ (0 ≤ X.1 ∧ X.1 < (n : Int)) ∧ (0 ≤ X.2.1 ∧ X.2.1 < B) ∧ X.2.2.1 < X.2.2.2 ∧ (jbA l X.1.toNat).1 ≤ X.2.2.1 ∧ X.2.2.2 ≤ (jbA l X.1.toNat).2.1) := Lib.hid (by unfold okS; rw [HN.out])
        clear hX hXm hkl
        obtain ⟨xj, xb, xf, xt⟩ := X
        dsimp only at x0 x1 x2 x3 HOK
        go_upto_region 8 with fail
        generalize hW2 : World.alloc wr _ = w2
        have hg2 : Gr wr w2 := by rw [← hW2]; exact (Gr.refl wr).alloc _
        have hZ : Blk w2 wr.heap.size 72 #[.int .i64 xj, .int .i64 xb, .int .i64 xf, .int .i64 xt] := by rw [← hW2]; exact heap_alloc_new wr _
        generalize wr.heap.size = Z at hZ ⊢
        have HZ := Lib.hid hZ
        have HD2 := Lib.hid (hD.out.keep hg2)
        have HG2 : Hid (Gb D W0 w2) := Lib.hid (hG.out.trans (Gb.of hg2 D))
        have hgr2 := hgr.trans hg2
        have q0 := hZ.cell 0
        have q1 := hZ.cell 1
        have q2 := hZ.cell 2
        have q3 := hZ.cell 3
        clear hW2 hZ hg2 x0 x1 x2 x3 hD hG hgr
        by_cases a0 : xj < 0
        · go_quiet (fail)
          go_wp2_with fail
          try rw [Exit.noGoto_ret]
          go_ret
          exact ⟨false, rfl, no_of (fun h => by have := HOK.out.1 (h.ok _ HXM.out); omega), hgr2.drewN _⟩
        · by_cases a1 : (n : Int) ≤ xj
          · go_quiet (fail)
            go_wp2_with fail
            try rw [Exit.noGoto_ret]
            go_ret
            exact ⟨false, rfl, no_of (fun h => by have := HOK.out.1 (h.ok _ HXM.out); omega), hgr2.drewN _⟩
          · by_cases a2 : xb < 0
            · go_quiet (fail)
              go_wp2_with fail
              try rw [Exit.noGoto_ret]
              go_ret
              exact ⟨false, rfl, no_of (fun h => by have := HOK.out.1 (h.ok _ HXM.out); omega), hgr2.drewN _⟩
            · by_cases a3 : B ≤ xb
              · go_quiet (fail)
                go_wp2_with fail
                try rw [Exit.noGoto_ret]
                go_ret
                exact ⟨false, rfl, no_of (fun h => by have := HOK.out.1 (h.ok _ HXM.out); omega), hgr2.drewN _⟩
              · by_cases a4 : xt ≤ xf
                · go_quiet (fail)
                  go_wp2_with fail
                  try rw [Exit.noGoto_ret]
                  go_ret
                  exact ⟨false, rfl, no_of (fun h => by have := HOK.out.1 (h.ok _ HXM.out); omega), hgr2.drewN _⟩
                · obtain ⟨i, rfl⟩ : ∃ i : Nat, xj = i := ⟨xj.toNat, by omega⟩
                  have hil : i < l.length := by rw [HN.out]; omega
                  obtain ⟨bl, ol, rfl, y0, y1, y2⟩ := Tris_at (HP.out.keep hgr2) (i := i) hil
                  have hja : l.getD i (0, 0, 0) = jbA l i := rfl
                  rw [hja] at y0 y1 y2
                  have hbd := HV.out.bd hil
                  rw [Int.toNat_natCast] at HOK
                  clear hja hil
                  generalize jbA l i = jb at y0 y1 y2 hbd HOK
                  obtain ⟨ja, jd, jw⟩ := jb
                  dsimp only at y0 y1 y2 hbd HOK
                  have hii : (i : Int) < (n : Int) := by omega
                  have hi0 : (0 : Int) ≤ (i : Int) := by omega
                  by_cases a5 : xf < ja
                  · go_quiet (fail)
                    go_wp2_with fail
                    try rw [Exit.noGoto_ret]
                    go_ret
                    exact ⟨false, rfl, no_of (fun h => by have := HOK.out.1 (h.ok _ HXM.out); omega), hgr2.drewN _⟩
                  · by_cases a6 : jd < xt
                    · go_quiet (fail)
                      go_wp2_with fail
                      try rw [Exit.noGoto_ret]
                      go_ret
                      exact ⟨false, rfl, no_of (fun h => by have := HOK.out.1 (h.ok _ HXM.out); omega), hgr2.drewN _⟩
                    · have HOKX := Lib.hid (HOK.out.2 ⟨⟨by omega, by omega⟩, ⟨by omega, by omega⟩, by omega, by omega, by omega⟩)
                      have hsm := doneS_small HV.out.three hA.out (i : Int)
                      have hlk : (s.take k).length ≤ 4096 := by rw [List.length_take]; omega
                      have hfl : xt - xf ≤ 1048576 := by omega
                      have hfl0 : 0 ≤ xf ∧ xf < xt ∧ xt ≤ 1048576 := by omega
                      have HA2 : Hid (∀ x ∈ s.take (k + 1), okS B l x) := Lib.hid (fun x hx => by
                        rw [HTK.out] at hx
                        rcases List.mem_append.1 hx with h | h
                        · exact hA.out x h
                        · obtain rfl := List.mem_singleton.1 h; exact HOKX.out)
                      go_quiet (fail)
                      have HD3 := Lib.hid (HD2.out.keep ((Gr.refl w2).drewN nq))
                      have HZ3 := Lib.hid (HZ.out.keep ((Gr.refl w2).drewN nq))
                      have HG3 : Hid (Gb D W0 (w2.drewN nq)) := Lib.hid (HG2.out.trans (Gb.of ((Gr.refl w2).drewN nq) D))
                      clear HD2 HZ HG2 q0 q1 q2 q3 y0 y1 y2 hgr2
                      generalize w2.drewN nq = w3 at HD3 HZ3 HG3 ⊢
                      have z0 := HD3.out.at (i := i) (by omega)
                      have HPUT := Lib.hid (fun v (hv : v = doneS (s.take k) (i : Int) + (xt - xf)) => HD3.out.put (f' := fun j => doneS (s.take (k + 1)) (j : Int)) i v (by
                        try dsimp only
                        rw [HTK.out, doneS_snoc, hv]; simp [lenS]) (fun j _ hj => by
                        try dsimp only
                        rw [HTK.out, doneS_snoc, if_neg (by try dsimp only
                                                            omega)]; omega))
                      try dsimp only at z0
                      generalize hd : doneS (s.take k) (i : Int) = d at z0 hsm HPUT
                      have j1 : IntKind.i64.wrap (d + xt) = d + xt := IntWalk.i64_in _ (by omega)
                      have j2 : IntKind.i64.wrap (d + xt - xf) = d + xt - xf := IntWalk.i64_in _ (by omega)
                      have hv : d + xt - xf = d + (xt - xf) := by omega
                      have q0 := HZ3.out.cell 0
                      have q2 := HZ3.out.cell 2
                      have q3 := HZ3.out.cell 3
                      have f0 : w3.frozen? ⟨D, i, none⟩ = false := HD3.out.free i
                      have HPUT2 := Lib.hid (HPUT.out _ hv)
                      have HZD : Hid (Z ≠ D) := Lib.hid (HZ3.out.differ HD3.out (by decide))
                      clear hd hsm hbd hfl hlk HOK HPUT hv a5 a6 a4 a3 a2 a1 a0
                      go_wp2_with fail
                      go_still_tail 15, (by kernel_rfl)
                      go_upto_region 11 with fail
                      have HD4 := Lib.hid (HPUT2.out.keep (Gr.refl _).drew)
                      have HZ4 := Lib.hid ((HZ3.out.other (p := ⟨D, i, none⟩) HZD.out (.int .i64 (d + xt - xf))).keep (Gr.refl _).drew)
                      have HG4 : Hid (Gb D W0 (w3.setCell ⟨D, i, none⟩ (.int .i64 (d + xt - xf))).drew) := Lib.hid ((HG3.out.put i _).drew)
                      clear q0 q2 q3 z0 f0 j1 j2 HPUT2 HD3 HZ3 HG3
                      generalize World.drew _ = w4 at HD4 HZ4 HG4 ⊢
                      have hgr4 := HG4.out.gr hg0 hDle
                      go_wp2_with fail
                      go_loopw [10] (fun z wr => ∃ j : Nat, j ≤ k ∧ z = .int .i64 (j : Int) ∧ Hid (∀ t, t < j → apS ((i : Int), xb, xf, xt) (slA s t)) ∧ Gr w4 wr) (fun z _ => k - (intOf z).toNat)
                      case atStart => exact ⟨0, Nat.zero_le _, rfl, Lib.hid (fun t h => by omega), Gr.refl _⟩
                      case round =>
                        obtain ⟨j, hj, rfl, hAP, hgq⟩ := hrel
                        by_cases hlj : j < k
                        · have hji : (j : Int) < (k : Int) := by omega
                          have hjs : j < s.length := by have := HKL.out; omega
                          have hjm : (j : Int) < (m : Int) := by omega
                          obtain ⟨b', off', e, y0, y1, y2, y3⟩ := Quads_at (HS.out.keep (hgr4.trans hgq)) (k := j) hjs
                          cases e
                          obtain ⟨Y, hY⟩ : ∃ Y, slA s j = Y := ⟨_, rfl⟩
                          have hyk := okS_bd HV.out (hA.out (slA s j) (by
                            rw [← slA_take hlj (Nat.le_of_lt HKL.out), ← slA, slA_get _ j (by rw [List.length_take]; have := HKL.out; omega)]
                            exact List.getElem_mem _))
                          have HYY := Lib.hid hY
                          rw [hY] at y0 y1 y2 y3 hyk
                          clear hY hjs
                          obtain ⟨yj, yb, yf, yt⟩ := Y
                          dsimp only at y0 y1 y2 y3 hyk
                          have HOV := Lib.hid (fun W => overlap_any xf xt yf yt W ⟨by omega, by omega⟩ ⟨by omega, by omega⟩ ⟨by omega, by omega⟩ ⟨by omega, by omega⟩)
                          have HAO : Hid (0 < ovr xf xt yf yt ↔ ¬ (xt ≤ yf ∨ yt ≤ xf)) := Lib.hid (apS_ovr (x := ((i : Int), xb, xf, xt)) (y := (yj, yb, yf, yt)) hfl0.2.1 hyk.2.1)
                          have HAPY : Hid (apS ((i : Int), xb, xf, xt) (slA s j) ↔ (((i : Int) = yj ∨ xb = yb) → xt ≤ yf ∨ yt ≤ xf)) := Lib.hid (by rw [HYY.out]; exact Iff.rfl)
                          have HNOT : Hid (((i : Int) = yj ∨ xb = yb) → ¬ (xt ≤ yf ∨ yt ≤ xf) → ¬ SchedP B l s) := Lib.hid (fun h1 h2 h3 => by
                            have h4 := List.pairwise_iff_getElem.1 h3.apart j k (by have := HKL.out; omega) HKL.out hlj
                            rw [← slA_get s j (by have := HKL.out; omega), ← slA_get s k HKL.out] at h4
                            have hsk : slA s k = ((i : Int), xb, xf, xt) := by
                              have := HTK.out
                              rw [take_snoc s (0, 0, 0, 0) k HKL.out] at this
                              have := List.append_cancel_left this
                              simpa [slA] using this
                            rw [hsk] at h4
                            exact h2 (HAPY.out.1 (apS_sym h4) h1))
                          generalize ovr xf xt yf yt = ov at HOV HAO
                          clear hyk
                          go_upto_region 15 with fail
                          generalize hW5 : World.alloc wr _ = w5
                          have hg5 : Gr wr w5 := by rw [← hW5]; exact (Gr.refl wr).alloc _
                          have hU : Blk w5 wr.heap.size 72 #[.int .i64 yj, .int .i64 yb, .int .i64 yf, .int .i64 yt] := by rw [← hW5]; exact heap_alloc_new wr _
                          generalize wr.heap.size = U at hU ⊢
                          have hgq5 := hgq.trans hg5
                          have HZ5 := HZ4.out.keep hgq5
                          have q0 := HZ5.cell 0
                          have q1 := HZ5.cell 1
                          have q2 := HZ5.cell 2
                          have q3 := HZ5.cell 3
                          have p0 := hU.cell 0
                          have p1 := hU.cell 1
                          have p2 := hU.cell 2
                          have p3 := hU.cell 3
                          clear hW5 hU hg5 hgq HZ5 y0 y1 y2 y3
                          by_cases hsame : (i : Int) = yj ∨ xb = yb
                          · have HSAME := Lib.hid hsame
                            by_cases hsj : (i : Int) = yj
                            all_goals
                              first
                              | (have hd : ((i : Int) == yj) = true := by simpa using hsj)
                              | (have hd : ((i : Int) == yj) = false := by simpa using hsj
                                 have hd2 : (xb == yb) = true := by simpa [hsj] using hsame)
                              clear hsame hsj
                              go_wp2_with fail
                              refine (HOV.out _).mono ?_
                              rintro e w6 ⟨rfl, hg6⟩
                              have hgq6 := hgq5.trans hg6
                              clear hg6 q0 q1 q2 q3 p0 p1 p2 p3
                              by_cases hov : 0 < ov
                              · go_wp2_with fail
                                try rw [Exit.noGoto_ret]
                                go_ret
                                exact ⟨false, rfl, no_of (HNOT.out HSAME.out (HAO.out.1 hov)), hgr4.trans hgq6⟩
                              · have HAP2 : Hid (∀ t, t < j + 1 → apS ((i : Int), xb, xf, xt) (slA s t)) := Lib.hid (fun t ht => by
                                  by_cases e : t = j
                                  · rw [e]; exact HAPY.out.2 (fun _ => Classical.byContradiction fun h => hov (HAO.out.2 h))
                                  · exact hAP.out t (by omega))
                                go_wp2_with fail
                                go_roundw
                                case rel => exact ⟨j + 1, by omega, by go_num, HAP2, hgq6⟩
                                case measure => simp [intOf]; omega
                          · have hd : ((i : Int) == yj) = false := by simpa using fun h => hsame (Or.inl h)
                            have hd2 : (xb == yb) = false := by simpa using fun h => hsame (Or.inr h)
                            have HAP2 : Hid (∀ t, t < j + 1 → apS ((i : Int), xb, xf, xt) (slA s t)) := Lib.hid (fun t ht => by
                              by_cases e : t = j
                              · rw [e]; exact HAPY.out.2 (fun h => absurd h hsame)
                              · exact hAP.out t (by omega))
                            clear hsame
                            go_wp2_with fail
                            go_roundw
                            case rel => exact ⟨j + 1, by omega, by go_num, HAP2, hgq5⟩
                            case measure => simp [intOf]; omega
                        · obtain rfl : j = k := by omega
                          have HPW2 : Hid ((s.take (j + 1)).Pairwise apS) := Lib.hid (by
                            rw [HTK.out]
                            refine pair_snoc (fun h => apS_sym h) (0, 0, 0, 0) hPW.out (fun t ht => ?_)
                            have ht2 : t < j := by rw [List.length_take] at ht; omega
                            rw [slA_take ht2 (Nat.le_of_lt HKL.out)]
                            exact hAP.out t ht2)
                          go_wp2_with fail
                          go_roundw
                          case rel => exact ⟨j + 1, by omega, by go_num, HA2, HPW2, Lib.hid (HD4.out.keep hgq), Lib.hid (HG4.out.trans (Gb.of hgq D))⟩
                          case measure => simp [intOf]; omega
      · obtain rfl : k = m := by omega
        have htk : s.take k = s := List.take_of_length_le (by rw [HM.out]; exact Nat.le_refl _)
        rw [htk] at hA hD hPW
        clear htk hG
        have HDR := Lib.hid (fun W (hW : Gr wr W) (j : Nat) (hj : j < n) => (hD.out.keep hW).at hj)
        clear hlt hD
        rename World => W1
        go_wp2_with fail
        go_loopw [12] (fun z wq => ∃ j : Nat, j ≤ n ∧ z = .int .i64 (j : Int) ∧ Hid (∀ i : Nat, i < j → doneS s (i : Int) = (jbA l i).2.2) ∧ Gr W1 wq) (fun z _ => n - (intOf z).toNat)
        case atStart => exact ⟨0, Nat.zero_le _, rfl, Lib.hid (fun i h => by omega), Gr.refl _⟩
        case round =>
          obtain ⟨j, hj, rfl, hdn, hgq⟩ := hrel
          by_cases hlt : j < n
          · have hji : (j : Int) < (n : Int) := by omega
            obtain ⟨b, off, rfl, c0, c1, c2⟩ := Tris_at (HP.out.keep (hgr.trans hgq)) (i := j) (by rw [HN.out]; exact hlt)
            have y0 := HDR.out _ hgq j hlt
            try dsimp only at y0
            have hja : l.getD j (0, 0, 0) = jbA l j := rfl
            rw [hja] at c0 c1 c2
            clear hja
            obtain ⟨u, hu⟩ : ∃ u, doneS s (j : Int) = u := ⟨_, rfl⟩
            obtain ⟨J, hJ⟩ : ∃ J, jbA l j = J := ⟨_, rfl⟩
            have HU := Lib.hid hu
            have HJ := Lib.hid hJ
            rw [hu] at y0
            rw [hJ] at c0 c1 c2
            clear hu hJ
            obtain ⟨ja, jb, jc⟩ := J
            dsimp only at c0 c1 c2
            have j3 : (0 : Int) ≤ (j : Int) := by omega
            by_cases he : u = jc
            · have hd : (u != jc) = false := by simpa using he
              have hd' : (jc != jc) = false := by simp
              have HD2 : Hid (∀ i : Nat, i < j + 1 → doneS s (i : Int) = (jbA l i).2.2) := Lib.hid (fun i hi => by
                by_cases e : i = j
                · rw [e, HU.out, HJ.out]; exact he
                · exact hdn.out i (by omega))
              have HEE := Lib.hid he
              clear he
              go_upto_region 20 with fail
              go_quiet (fail)
              go_wp2_with fail
              go_roundw
              case rel => exact ⟨j + 1, by omega, by go_num, HD2, hgq.drewN _⟩
              case measure => simp [intOf]; omega
            · have hd : (u != jc) = true := by simpa using he
              go_upto_region 20 with fail
              go_quiet (fail)
              go_wp2_with fail
              try rw [Exit.noGoto_ret]
              go_ret
              exact ⟨false, rfl, no_of (fun h => he (by have := h.done j (by rw [HN.out]; exact hlt); rw [HU.out, HJ.out] at this; exact this)), (hgr.trans hgq).drewN _⟩
          · obtain rfl : j = n := by omega
            go_wp2_with fail
            try rw [Exit.noGoto_ret]
            go_ret
            exact ⟨true, rfl, yes_of ⟨by rw [HM.out]; omega, hA.out, hPW.out, fun j hj => hdn.out j (by rw [HN.out] at hj; exact hj)⟩, hgr.trans hgq⟩

end Go.Proofs.Ytfmojiaaoebodaa
