/- Layer 2: the closure that reads the steps of one piece, cut along; every way of it. -/
import Derived.Test.YtcojionipffanabCPiece
namespace Go.Proofs.Ytcojionipffanab
open Go.RowKit
set_option linter.unusedSimpArgs false

set_option maxRecDepth 100000 in
set_option maxHeartbeats 1000000 in
theorem piece_along (d : Nat) (wb : World) (a p b m f : Nat) (PA : Option Addr) (pc : Nat) (bv : Value) (W H : Int) (bs : List Bl) (plan : List St) (ms : List Bl) (v : Value) (w : World) (k : Nat) (hl : plan.length ≤ 8192)
    (ih : PieceUpto d wb a p b m f PA pc bv bs plan) (hZ : Sz W H) (hd : plan.length - k ≤ d + 1) (hms : ms.length ≤ k)
    (hP : Pts wb PA plan) (hk : k < plan.length) (arg : Int) (hs : plan.getD k (0, 0) = (3, arg)) (h1 : 1 ≤ arg) (h2 : arg < H)
    (hS : RSt wb a p b m f (.slice PA plan.length pc) bv (fnPiece a p b m f) k ms v w) :
    Calls Try.prog 75 #[.int .i64 W, .int .i64 H, .pointer (some ⟨a, 0, none⟩), .pointer (some ⟨p, 0, none⟩), .pointer (some ⟨b, 0, none⟩), .pointer (some ⟨m, 0, none⟩), .pointer (some ⟨f, 0, none⟩)] w (RPost wb w a p b m f (.slice PA plan.length pc) bv plan ms (rdP bs W H (plan.drop k))) := by
  obtain ⟨g, off, rfl, s1, s2⟩ := Pts_at (hP.keep hS.old) hk
  rw [hs] at s1 s2
  obtain ⟨⟨hW1, hW2⟩, hH1, hH2⟩ := id hZ
  have hR : Hid (rdP bs W H (plan.drop k) = two2 (rdP bs W arg (plan.drop (k + 1))) (rdP bs W (H - arg))) := Lib.hid (by
    rw [drop_cons hk, hs, rdP_cons]
    simp [h1, h2])
  rw [hR.out]
  have c1 := cell_of_one hS.at_
  have c2 := cell_of_one hS.plan
  obtain ⟨⟨c3, f3⟩, c4, c5⟩ := hS.facts (.int .i64 3) (.int .i64 arg) 56
  have hS2 := hS.step (.cells #[.int .i64 3, .int .i64 arg] 56)
  have c6 := cell_of_one hS2.self
  have HS := Lib.hid hS2
  have hst0 := Lib.hid (hS.stk (.cells #[.int .i64 3, .int .i64 arg] 56) (.int .i64 ((k : Int) + 1)))
  have hsb := Lib.hid (step_block hS (.int .i64 3) (.int .i64 arg))
  have HC : Hid (cutB arg H = true) := Lib.hid (by simp [cutB]; omega)
  have I1 := Lib.hid (fun W' (h : RSt wb a p b m f (.slice (some ⟨g, off, none⟩) plan.length pc) bv (fnPiece a p b m f) (k + 1) ms v W') => ih W arg ms v W' (k + 1) ⟨⟨hW1, hW2⟩, h1, by omega⟩ hk (by omega) (by omega) h)
  have IH := Lib.hid ih
  have HL : Hid (∀ m1 r, rdP bs W arg (plan.drop (k + 1)) = some (m1, r) → r.length ≤ plan.length - (k + 1) ∧ m1.length + r.length ≤ plan.length - (k + 1)) := Lib.hid (fun m1 r e => by
    have := (rdP_made bs _ _ _ _ _ _ (Nat.le_refl _) e).2
    rw [List.length_drop] at this
    omega)
  generalize hQ : rdP bs W arg (plan.drop (k + 1)) = Q at I1 HL ⊢
  have hlk := hl
  generalize hN : plan.length = n at hS hS2 HS I1 HL hk hd hlk c2
  have HN := Lib.hid hN
  clear hS hS2 hs hP ih hQ hN
  unfold fnPiece at c6
  rcases Q with _ | ⟨m1, r1⟩
  · go_enter Try.func75, Try.ntmps75
    go_wp2_with fail
    refine (isCut_any _ _ _ _ HC.out).mono ?_
    rintro e w1 ⟨rfl, rfl⟩
    go_wp2_with fail
    refine (I1.out _ HS.out).mono ?_
    rintro e w1 ⟨rfl, v1, k1, ms1, hk1, hS1, hst1⟩
    have HS1 := Lib.hid hS1
    have HST := Lib.hid hst1
    clear hS1 hst1
    go_wp2_with fail
    go_ret
    exact ⟨rfl, v1, k1, ms1, hk1, HS1.out, hst0.out.trans HST.out⟩
  · obtain ⟨hr1, hr2⟩ := HL.out m1 r1 rfl
    go_enter Try.func75, Try.ntmps75
    go_wp2_with fail
    refine (isCut_any _ _ _ _ HC.out).mono ?_
    rintro e w1 ⟨rfl, rfl⟩
    go_wp2_with fail
    refine (I1.out _ HS.out).mono ?_
    rintro e w1 ⟨rfl, v1, k1, hrk, hk1, hS1, hst1⟩
    have c7 := cell_of_one hS1.self
    unfold fnPiece at c7
    have c8 : w1.cell? ⟨w.heap.size, 1, none⟩ = some (.int .i64 arg) := (hst1 _ _ hsb.out).cell 1
    have hk1n : k1 ≤ n := by have := HN.out; omega
    have hrl : r1.length = n - k1 := by rw [hrk, List.length_drop, HN.out]
    have I2 := Lib.hid (IH.out W (H - arg) (ms ++ m1) v1 w1 k1 ⟨⟨hW1, hW2⟩, by omega, by omega⟩ hk1 (by rw [HN.out]; omega) (by rw [List.length_append]; omega) (by rw [HN.out]; exact hS1))
    have HST := Lib.hid hst1
    have HRK := Lib.hid hrk
    clear hS1 hst1 hrk hrl
    rw [← HRK.out] at I2
    generalize hQ2 : rdP bs W (H - arg) r1 = Q2 at I2
    have HQ2 := Lib.hid hQ2
    clear hQ2
    rw [HN.out] at I2
    have HT : Hid (two2 (some (m1, r1)) (rdP bs W (H - arg)) = andMade m1 Q2) := Lib.hid (by rw [two2_of, HQ2.out])
    go_wp2_with fail
    refine I2.out.mono ?_
    rcases Q2 with _ | ⟨m2, r2⟩
    · rintro e w2 ⟨rfl, v2, k2, ms2, hk2, hS2, hst2⟩
      have HS2 := Lib.hid hS2
      have HST2 := Lib.hid hst2
      clear hS2 hst2
      go_wp2_with fail
      go_ret
      rw [HT.out]
      exact ⟨rfl, v2, k2, ms2, hk2, HS2.out, (hst0.out.trans HST.out).trans HST2.out⟩
    · rintro e w2 ⟨rfl, v2, k2, hr2k, hk2, hS2, hst2⟩
      have HS2 := Lib.hid hS2
      have HST2 := Lib.hid hst2
      have HR2 := Lib.hid hr2k
      clear hS2 hst2 hr2k
      go_wp2_with fail
      go_ret
      rw [HT.out]
      exact ⟨rfl, v2, k2, HR2.out, hk2, by rw [← List.append_assoc]; exact HS2.out, (hst0.out.trans HST.out).trans HST2.out⟩

theorem piece_all (wb : World) (a p b m f : Nat) (PA : Option Addr) (pc : Nat) (BA : Option Addr) (bn bc : Nat) (bs : List Bl) (plan : List St) (hl : plan.length ≤ 8192) (hbn : bs.length = bn)
    (hP : Pts wb PA plan) (hB : Tris wb BA bs) : ∀ d, PieceUpto d wb a p b m f PA pc (.slice BA bn bc) bs plan := by
  have hend : ∀ (W H : Int) (ms : List Bl) (v : Value) (w : World) (k : Nat), k = plan.length → RSt wb a p b m f (.slice PA plan.length pc) (.slice BA bn bc) (fnPiece a p b m f) k ms v w →
    Calls Try.prog 75 #[.int .i64 W, .int .i64 H, .pointer (some ⟨a, 0, none⟩), .pointer (some ⟨p, 0, none⟩), .pointer (some ⟨b, 0, none⟩), .pointer (some ⟨m, 0, none⟩), .pointer (some ⟨f, 0, none⟩)] w (RPost wb w a p b m f (.slice PA plan.length pc) (.slice BA bn bc) plan ms (rdP bs W H (plan.drop k))) := by
    intro W H ms v w k hk hS
    subst hk
    exact piece_end wb a p b m f PA pc _ W H bs plan ms v w _ rfl hS
  intro d
  induction d with
  | zero =>
    intro W H ms v w k hZ hk hd hms hS
    exact hend W H ms v w k (by omega) hS
  | succ d ih =>
    intro W H ms v w k hZ hk hd hms hS
    by_cases he : k = plan.length
    · exact hend W H ms v w k he hS
    · have hk' : k < plan.length := by omega
      obtain ⟨⟨kd, arg⟩, hs⟩ : ∃ s, plan.getD k (0, 0) = s := ⟨_, rfl⟩
      by_cases h0 : kd = 0
      · subst h0; exact piece_waste wb a p b m f PA pc _ W H bs plan ms v w _ k rfl (by omega) hP hk' arg hs hS
      · by_cases h1 : kd = 1
        · subst h1; exact piece_make wb a p b m f PA pc BA bn bc W H bs plan ms v w _ k rfl hl hbn hms hP hB hk' arg hs hS
        · by_cases h2 : kd = 2
          · subst h2
            by_cases hc : 1 ≤ arg ∧ arg < W
            · exact piece_across d wb a p b m f PA pc _ W H bs plan ms v w k hl ih hZ hd hms hP hk' arg hs hc.1 hc.2 hS
            · exact piece_nocut wb a p b m f PA pc _ W H bs plan ms v w _ k rfl hl hP hk' 2 arg hs (Or.inl ⟨rfl, by simp [cutB]; omega⟩) hS
          · by_cases h3 : kd = 3
            · subst h3
              by_cases hc : 1 ≤ arg ∧ arg < H
              · exact piece_along d wb a p b m f PA pc _ W H bs plan ms v w k hl ih hZ hd hms hP hk' arg hs hc.1 hc.2 hS
              · exact piece_nocut wb a p b m f PA pc _ W H bs plan ms v w _ k rfl hl hP hk' 3 arg hs (Or.inr ⟨rfl, by simp [cutB]; omega⟩) hS
            · exact piece_other wb a p b m f PA pc _ W H bs plan ms v w _ k rfl (by omega) hP hk' kd arg hs h0 h1 h2 h3 hS

end Go.Proofs.Ytcojionipffanab
