/- Layer 7: the reference's Find, the law of Find. -/
import Derived.Test.YtmcefcdnfngndaaFdRa
import Derived.Test.YtmcefcdnfngndaaFdH
import Derived.Test.YtmcefcdnfngndaaFdM1
import Derived.Test.YtmcefcdnfngndaaFdRd
namespace Go.Proofs.Ytmcefcdnfngndaa
open Go.RowKit Go.Shelf
set_option linter.unusedSimpArgs false

/-- The occurrences below k. -/
def occK (T p : List UInt8) (k : Nat) : List Nat := (List.range k).filter fun i => p.isPrefixOf (T.drop i)
theorem occK_succ (T p : List UInt8) (k : Nat) : occK T p (k + 1) = if p.isPrefixOf (T.drop k) = true then occK T p k ++ [k] else occK T p k := by
  unfold occK
  rw [List.range_succ, List.filter_append]
  split
  · rename_i h; simp [h]
  · rename_i h; simp [h]
theorem pre_len {T p : List UInt8} {k : Nat} (h : p.isPrefixOf (T.drop k) = true) : p.length ≤ T.length - k := by
  have h1 := (pre_lcp _ _).1 h
  have h2 := (lcp_le (T.drop k) p).1
  rw [h1, List.length_drop] at h2; exact h2
theorem occK_late {T p : List UInt8} {k : Nat} (h : T.length < k + p.length) : ∀ m, k ≤ m → m ≤ T.length → occK T p m = occK T p k
  | 0, h1, _ => by obtain rfl : k = 0 := by omega
                   rfl
  | m + 1, h1, h2 => by
    rcases Nat.eq_or_lt_of_le h1 with e | e
    · rw [← e]
    · rw [occK_succ, if_neg (fun hp => by have := pre_len hp; omega), occK_late h m (by omega) (by omega)]
theorem occK_len (T p : List UInt8) (k : Nat) : (occK T p k).length ≤ k := by
  unfold occK
  have := List.length_filter_le (fun i => p.isPrefixOf (T.drop i)) (List.range k)
  rwa [List.length_range] at this
theorem piece_eq (s p : ByteArray) {k : Nat} (h : k + p.size ≤ s.size) : ((s.extract k (k + p.size)).toList == p.toList) = (bts p).isPrefixOf ((bts s).drop k) := by
  have h1 := (bts_piece s (a := k) (l := p.size) h).1
  rw [ByteArray.toList_eq, ByteArray.toList_eq]
  show (bts (s.extract k (k + p.size)) == bts p) = _
  rw [Bool.eq_iff_iff, beq_iff_eq, h1, List.isPrefixOf_iff_prefix, List.prefix_iff_eq_take, bts_len]
  exact ⟨fun h => h.symm, fun h => h.symm⟩

set_option maxRecDepth 1000000 in
set_option maxHeartbeats 8000000 in
theorem rFind_any (s p : ByteArray) (n : Nat) (w : World) (hn : s.size = n) (hnb : n ≤ 4096) (hpb : p.size ≤ 9223372036854775807) :
    Calls Try.prog 18 #[.string s, .string p] w fun e w' => ∃ A c, e = .returned (.slice A (occN (bts s) (bts p)) c) ∧ w'.ownsRow w.heap.size 3 1 (.slice A (occN (bts s) (bts p)) c) (occN (bts s) (bts p)) (flatE enc1 (nI (occL (bts s) (bts p)))) ∧ Gr w w' := by
  obtain ⟨i0, hi, hz0, hz1, hz2⟩ := info_parts Try.infoFdI
  have HI := Lib.hid (And.intro hi (And.intro hz0 (And.intro hz1 hz2)))
  have HT : Hid ((bts s).length = n) := Lib.hid (by rw [bts_len]; exact hn)
  have HSZ := Lib.hid hn
  have hsi : (s.size : Int) = (n : Int) := by omega
  obtain ⟨q, hq⟩ : ∃ q, p.size = q := ⟨_, rfl⟩
  have HQ := Lib.hid hq
  have hqi : (p.size : Int) = (q : Int) := by omega
  have HE : Hid (∀ k, n < k + q ∨ n ≤ k → k ≤ n → occK (bts s) (bts p) k = occL (bts s) (bts p)) := Lib.hid (fun k h hk => by
    have hl : occL (bts s) (bts p) = occK (bts s) (bts p) n := by unfold occL occK; rw [HT.out]
    rw [hl]
    rcases h with h | h
    · exact (occK_late (by rw [HT.out, bts_len, HQ.out]; exact h) n hk (by rw [HT.out]; exact Nat.le_refl _)).symm
    · obtain rfl : k = n := by omega
      rfl)
  have hpb2 : q ≤ 9223372036854775807 := by omega
  clear hi hz0 hz1 hz2 hn hq hpb
  go_enter Try.func18, Try.ntmps18
  go_wp2_with fail
  go_loopw [5, 6] (fun v z wr => ∃ (k m : Nat) (B : Option Addr) (d : Nat), k ≤ n ∧ m ≤ k ∧ (k = 0 ∨ k + q ≤ n + 1) ∧ z = .int .i64 (k : Int) ∧ v = .slice B m d ∧ Hid ((occK (bts s) (bts p) k).length = m) ∧ Hid (wr.ownsRow w.heap.size 3 1 (.slice B m d) m (flatE enc1 (nI (occK (bts s) (bts p) k)))) ∧ Gr w wr) (fun _ z _ => n - (intOf z).toNat)
  case atStart => exact ⟨0, 0, none, 0, Nat.zero_le _, Nat.le_refl _, Or.inl rfl, rfl, rfl, Lib.hid rfl, Lib.hid (World.ownsRow_nil _ _ _ _), Gr.refl _⟩
  case round =>
    obtain ⟨k, m, B, d, hk, hmk, hkq, rfl, rfl, hl, hown, hgr⟩ := hrel
    have g1 : IntKind.i64.wrap ((k : Int) + (q : Int)) = ((k + q : Nat) : Int) := by rw [show (k : Int) + (q : Int) = ((k + q : Nat) : Int) by omega]; exact IntWalk.i64_in _ (by omega)
    by_cases hlt : k < n ∧ k + q ≤ n
    · obtain ⟨h1, h2⟩ := hlt
      have HPE := Lib.hid (piece_eq s p (k := k) (by rw [HQ.out, HSZ.out]; exact h2))
      have HSU := Lib.hid (occK_succ (bts s) (bts p) k)
      have hk1 : k + 1 + q ≤ n + 1 := by omega
      obtain ⟨ee, hee⟩ : ∃ e, k + q = e := ⟨_, rfl⟩
      rw [HQ.out, hee] at HPE
      rw [hee] at g1 h2
      have hke : k ≤ ee := by omega
      have hi1 : (k : Int) < (n : Int) := by omega
      have hi2 : (ee : Int) ≤ (n : Int) := by omega
      clear hee
      cases hb : (bts p).isPrefixOf ((bts s).drop k) with
      | true =>
        rw [hb] at HPE HSU
        rw [if_pos rfl] at HSU
        have hcmp := HPE.out
        obtain ⟨hi, hz0, hz1, hz2⟩ := HI.out
        go_wp2_with (at_builtin; refine wpList_append_own _ rfl _ _ 23 rfl w.heap.size 3 i0 _ 1 8 Try.underlying23 hi hz0 hz1 hz2 rfl (by decide) _ _ _ rfl (hown.out.alloc _) ⟨wr.heap.size, 0, none⟩ 1 1 [.int .i64 (k : Int)] rfl rfl ?a1 ?a2 ?a3 ?a4 ?a5 ?_)
        case a1 =>
          intro t x ht
          rw [Addr.add_lit]
          exact alloc_new rfl (by rw [Nat.zero_add]; simpa using ht)
        case a2 => intro x hx; rw [List.mem_singleton] at hx; subst hx; rfl
        case a3 => unfold maxLen; omega
        case a4 => omega
        case a5 => have := hgr.size; simp; omega
        intro v' w3 hown3 hgrow _
        have hal : Gr wr (wr.alloc (.cells #[.int .i64 (k : Int)] 3)) := (Gr.refl _).alloc _
        have ho2 := hown.out.alloc (.cells #[.int .i64 (k : Int)] 3)
        have hg3 : Gr w w3 := Below.grown (hgr.trans hal) hgrow (hgr.trans hal).size (fun t ht => (ho2.lt t ht).1)
        obtain ⟨g3, c3, rfl, -⟩ := owns_shape hown3 (by omega)
        have HO3 : Hid (w3.ownsRow w.heap.size 3 1 (.slice (some ⟨g3, 0, none⟩) (m + 1) c3) (m + 1) (flatE enc1 (nI (occK (bts s) (bts p) (k + 1))))) := Lib.hid (by
          have e : ∀ (a : List Nat) (b : Nat), nI (a ++ [b]) = nI a ++ [(b : Int)] := fun a b => by simp [nI]
          rw [HSU.out, e, flatE_app]; exact hown3)
        have HLN : Hid ((occK (bts s) (bts p) (k + 1)).length = m + 1) := Lib.hid (by rw [HSU.out, List.length_append, List.length_singleton, hl.out])
        clear hown3 hgrow hal ho2 hi hz0 hz1 hz2 hown hcmp
        go_wp2_with fail
        go_roundw
        case rel => exact ⟨k + 1, m + 1, _, _, by omega, by omega, Or.inr hk1, by go_num, rfl, HLN, HO3, hg3⟩
        case measure => simp [intOf]; omega
      | false =>
        rw [hb] at HPE HSU
        rw [if_neg (by simp)] at HSU
        have hcmp := HPE.out
        have HO3 : Hid (wr.ownsRow w.heap.size 3 1 (.slice B m d) m (flatE enc1 (nI (occK (bts s) (bts p) (k + 1))))) := Lib.hid (by rw [HSU.out]; exact hown.out)
        have HLN : Hid ((occK (bts s) (bts p) (k + 1)).length = m) := Lib.hid (by rw [HSU.out]; exact hl.out)
        clear hown
        go_wp2_with fail
        go_roundw
        case rel => exact ⟨k + 1, m, _, _, by omega, by omega, Or.inr hk1, by go_num, rfl, HLN, HO3, hgr⟩
        case measure => simp [intOf]; omega
    · have HEK : Hid (occK (bts s) (bts p) k = occL (bts s) (bts p)) := Lib.hid (HE.out k (by omega) hk)
      have HON : Hid (occN (bts s) (bts p) = m) := Lib.hid (by rw [← occL_len, ← HEK.out, hl.out])
      have HO : Hid (wr.ownsRow w.heap.size 3 1 (.slice B m d) m (flatE enc1 (nI (occL (bts s) (bts p))))) := Lib.hid (by rw [← HEK.out]; exact hown.out)
      clear hown hl HEK HE
      by_cases h1 : k < n
      · have h2 : ¬ k + q ≤ n := by omega
        obtain ⟨ee, hee⟩ : ∃ e, k + q = e := ⟨_, rfl⟩
        rw [hee] at g1 h2
        have hi1 : (k : Int) < (n : Int) := by omega
        have hi2 : ¬ (ee : Int) ≤ (n : Int) := by omega
        clear hee hlt
        go_wp2_with fail
        go_ret
        exact ⟨B, d, by rw [HON.out]; rfl, by rw [HON.out]; exact HO.out, hgr⟩
      · have hi1 : ¬ (k : Int) < (n : Int) := by omega
        clear hlt g1
        go_wp2_with fail
        go_ret
        exact ⟨B, d, by rw [HON.out]; rfl, by rw [HON.out]; exact HO.out, hgr⟩

end Go.Proofs.Ytmcefcdnfngndaa
