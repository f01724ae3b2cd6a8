/- Layer 7: the reference's Common and less. -/
import Derived.Test.YtmcefcdnfngndaaFdY
namespace Go.Proofs.Ytmcefcdnfngndaa
open Go.RowKit Go.Shelf
set_option linter.unusedSimpArgs false

theorem drop_at (s : ByteArray) {i m : Nat} (h : i + m < s.size) : ∃ a : m < ((bts s).drop i).length, ((bts s).drop i)[m] = s[i + m] := by
  have a : m < ((bts s).drop i).length := by rw [List.length_drop, bts_len]; omega
  exact ⟨a, by rw [List.getElem_drop]; rfl⟩

set_option maxRecDepth 100000 in
set_option maxHeartbeats 4000000 in
theorem rCommon_any (s t : ByteArray) (i k : Nat) (w : World) (hs : s.size ≤ 4097) (ht : t.size ≤ 4097) (hi : i ≤ s.size) (hk : k ≤ t.size) :
    Calls Try.prog 33 #[.string s, .int .i64 (i : Int), .string t, .int .i64 (k : Int)] w fun e w' => e = .returned (.int .i64 (lcp ((bts s).drop i) ((bts t).drop k) : Int)) ∧ Gr w w' := by
  have HLI : Hid (((bts s).drop i).length = s.size - i) := Lib.hid (by rw [List.length_drop, bts_len])
  have HLK : Hid (((bts t).drop k).length = t.size - k) := Lib.hid (by rw [List.length_drop, bts_len])
  go_enter Try.func33, Try.ntmps33
  go_wp2_with fail
  go_loopw [9] (fun z wr => ∃ m : Nat, i + m ≤ s.size ∧ k + m ≤ t.size ∧ z = .int .i64 (m : Int) ∧ Hid (m ≤ lcp ((bts s).drop i) ((bts t).drop k)) ∧ Gr w wr) (fun z _ => s.size - (intOf z).toNat)
  case atStart => exact ⟨0, by omega, by omega, rfl, Lib.hid (Nat.zero_le _), Gr.refl _⟩
  case round =>
    obtain ⟨m, him, hkm, rfl, hL, hgr⟩ := hrel
    have g1 : IntKind.i64.wrap ((i : Int) + (m : Int)) = ((i + m : Nat) : Int) := by rw [show (i : Int) + (m : Int) = ((i + m : Nat) : Int) by omega]; exact IntWalk.i64_in _ (by omega)
    have g2 : IntKind.i64.wrap ((k : Int) + (m : Int)) = ((k + m : Nat) : Int) := by rw [show (k : Int) + (m : Int) = ((k + m : Nat) : Int) by omega]; exact IntWalk.i64_in _ (by omega)
    by_cases h1 : i + m < s.size ∧ k + m < t.size
    · obtain ⟨h1, h2⟩ := h1
      obtain ⟨b1, e1⟩ := drop_at s h1
      obtain ⟨b2, e2⟩ := drop_at t h2
      by_cases he : s[i + m] = t[k + m]
      · have HL2 : Hid (m + 1 ≤ lcp ((bts s).drop i) ((bts t).drop k)) := Lib.hid (lcp_step hL.out b1 b2 (by rw [e1, e2, he]))
        have d1 : ((s[i + m].toNat : Int) == (t[k + m].toNat : Int)) = true := by rw [he]; exact beq_self_eq_true _
        clear he b1 b2 e1 e2
        have p1 : i + (m + 1) ≤ s.size := by omega
        have p2 : k + (m + 1) ≤ t.size := by omega
        have p3 : m < s.size := by omega
        generalize i + m = x at g1 h1 d1
        generalize k + m = y at g2 h2 d1
        have i1 : (x : Int) < (s.size : Int) := by omega
        have i2 : (y : Int) < (t.size : Int) := by omega
        go_upto_region 2 with fail
        go_quiet (fail)
        go_wp2_with fail
        go_roundw
        case rel => exact ⟨m + 1, p1, p2, by go_num, HL2, hgr.drewN _⟩
        case measure => simp [intOf]; omega
      · have HX : Hid (lcp ((bts s).drop i) ((bts t).drop k) = m) := Lib.hid (lcp_stop hL.out (Or.inr (Or.inr ⟨b1, b2, by rw [e1, e2]; exact he⟩)))
        have d1 : ((s[i + m].toNat : Int) == (t[k + m].toNat : Int)) = false := by
          rw [beq_eq_false_iff_ne]
          intro e
          exact he (UInt8.toNat_inj.1 (by omega))
        clear he b1 b2 e1 e2
        generalize i + m = x at g1 h1 d1
        generalize k + m = y at g2 h2 d1
        have i1 : (x : Int) < (s.size : Int) := by omega
        have i2 : (y : Int) < (t.size : Int) := by omega
        go_upto_region 2 with fail
        go_quiet (fail)
        go_wp2_with fail
        go_ret
        exact ⟨ret_int (by rw [HX.out]), hgr.drewN _⟩
    · have HX : Hid (lcp ((bts s).drop i) ((bts t).drop k) = m) := Lib.hid (lcp_stop hL.out (by
        have q1 := HLI.out
        have q2 := HLK.out
        rcases (show i + m = s.size ∨ k + m = t.size by omega) with e | e
        · exact Or.inl (by omega)
        · exact Or.inr (Or.inl (by omega))))
      by_cases h2 : i + m < s.size
      · have h3 : ¬ k + m < t.size := by omega
        generalize i + m = x at g1 h2
        generalize k + m = y at g2 h3
        have i1 : (x : Int) < (s.size : Int) := by omega
        have i2 : ¬ (y : Int) < (t.size : Int) := by omega
        clear h1
        go_upto_region 2 with fail
        go_quiet (fail)
        go_wp2_with fail
        go_ret
        exact ⟨ret_int (by rw [HX.out]), hgr.drewN _⟩
      · generalize i + m = x at g1 h2
        have i1 : ¬ (x : Int) < (s.size : Int) := by omega
        clear h1
        go_upto_region 2 with fail
        go_quiet (fail)
        go_wp2_with fail
        go_ret
        exact ⟨ret_int (by rw [HX.out]), hgr.drewN _⟩

theorem ltS_at {x y : List UInt8} {n : Nat} (hn : lcp x y = n) : ltS x y = true ↔ n < y.length ∧ (n = x.length ∨ ∃ (a : n < x.length) (b : n < y.length), x[n] < y[n]) := by subst hn; exact ltS_lcp
set_option maxRecDepth 100000 in
set_option maxHeartbeats 4000000 in
theorem rLess_any (s : ByteArray) (i k : Nat) (w : World) (hs : s.size ≤ 4097) (hi : i < s.size) (hk : k < s.size) :
    Calls Try.prog 32 #[.string s, .int .i64 (i : Int), .int .i64 (k : Int)] w fun e w' => e = .returned (.bool (ltS ((bts s).drop i) ((bts s).drop k))) ∧ Gr w w' := by
  have HC := Lib.hid (rCommon_any s s i k w hs hs (by omega) (by omega))
  have hLI : ((bts s).drop i).length = s.size - i := by rw [List.length_drop, bts_len]
  have hLK : ((bts s).drop k).length = s.size - k := by rw [List.length_drop, bts_len]
  have hle := lcp_le ((bts s).drop i) ((bts s).drop k)
  rw [hLI, hLK] at hle
  obtain ⟨n, hn⟩ : ∃ n, lcp ((bts s).drop i) ((bts s).drop k) = n := ⟨_, rfl⟩
  have hlt := ltS_at hn
  rw [hn] at hle HC
  have g1 : IntKind.i64.wrap ((i : Int) + (n : Int)) = ((i + n : Nat) : Int) := by rw [show (i : Int) + (n : Int) = ((i + n : Nat) : Int) by omega]; exact IntWalk.i64_in _ (by omega)
  have g2 : IntKind.i64.wrap ((k : Int) + (n : Int)) = ((k + n : Nat) : Int) := by rw [show (k : Int) + (n : Int) = ((k + n : Nat) : Int) by omega]; exact IntWalk.i64_in _ (by omega)
  by_cases h1 : i + n = s.size
  · have HR : Hid (decide (k < i) = ltS ((bts s).drop i) ((bts s).drop k)) := Lib.hid (by
      rw [Bool.eq_iff_iff, hlt, decide_eq_true_eq]
      constructor
      · intro h; exact ⟨by omega, Or.inl (by omega)⟩
      · rintro ⟨h, -⟩; omega)
    have e1 : (((i + n : Nat) : Int) == (s.size : Int)) = true := beq_iff_eq.2 (by omega)
    clear hlt hn hLI hLK hle
    go_enter Try.func32, Try.ntmps32
    go_wp2_with fail
    refine HC.out.mono ?_
    rintro e w2 ⟨rfl, hg2⟩
    generalize i + n = x at *
    go_wp2_with fail
    go_ret
    exact ⟨ret_bool HR.out, hg2⟩
  · have e1 : (((i + n : Nat) : Int) == (s.size : Int)) = false := beq_eq_false_iff_ne.2 (by omega)
    by_cases h2 : k + n = s.size
    · have HR : Hid (decide (k < i) = ltS ((bts s).drop i) ((bts s).drop k)) := Lib.hid (by
        rw [Bool.eq_iff_iff, hlt, decide_eq_true_eq]
        constructor
        · intro h; omega
        · rintro ⟨h, -⟩; omega)
      have e2 : (((k + n : Nat) : Int) == (s.size : Int)) = true := beq_iff_eq.2 (by omega)
      clear hlt hn hLI hLK hle
      go_enter Try.func32, Try.ntmps32
      go_wp2_with fail
      refine HC.out.mono ?_
      rintro e w2 ⟨rfl, hg2⟩
      generalize i + n = x at *
      generalize k + n = y at *
      go_wp2_with fail
      go_ret
      exact ⟨ret_bool HR.out, hg2⟩
    · have e2 : (((k + n : Nat) : Int) == (s.size : Int)) = false := beq_eq_false_iff_ne.2 (by omega)
      have b1 : i + n < s.size := by omega
      have b2 : k + n < s.size := by omega
      obtain ⟨a1, c1⟩ := drop_at s b1
      obtain ⟨a2, c2⟩ := drop_at s b2
      have HR : Hid (decide (s[i + n].toNat < s[k + n].toNat) = ltS ((bts s).drop i) ((bts s).drop k)) := Lib.hid (by
        rw [Bool.eq_iff_iff, hlt, decide_eq_true_eq]
        constructor
        · intro h; exact ⟨by omega, Or.inr ⟨a1, a2, by rw [c1, c2, UInt8.lt_iff_toNat_lt]; exact h⟩⟩
        · rintro ⟨_, h | ⟨_, _, h⟩⟩
          · omega
          · rw [c1, c2, UInt8.lt_iff_toNat_lt] at h; exact h)
      clear hlt hn hLI hLK hle a1 a2 c1 c2
      go_enter Try.func32, Try.ntmps32
      go_wp2_with fail
      refine HC.out.mono ?_
      rintro e w2 ⟨rfl, hg2⟩
      generalize i + n = x at *
      generalize k + n = y at *
      have i1 : (x : Int) < (s.size : Int) := by omega
      have i2 : (y : Int) < (s.size : Int) := by omega
      go_upto_region 4 with fail
      go_quiet (fail)
      go_wp2_with fail
      go_ret
      exact ⟨ret_bool (by rw [← HR.out]), hg2.drewN _⟩

end Go.Proofs.Ytmcefcdnfngndaa
