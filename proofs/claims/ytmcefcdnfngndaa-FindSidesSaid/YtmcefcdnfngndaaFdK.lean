/- Layer 7: overlaps of neighbours in the order, found from the longest suffix on. -/
import Derived.Test.YtmcefcdnfngndaaFdO
namespace Go.Proofs.Ytmcefcdnfngndaa
open Go.RowKit Go.Shelf
set_option linter.unusedSimpArgs false

/-- In how many bytes the suffix at a place begins as the one before it. -/
def ovL (T : List UInt8) (o : List Nat) (p : Nat) : Nat := if p = 0 then 0 else lcp (T.drop (o.getD (p - 1) 0)) (T.drop (o.getD p 0))
section
variable {T : List UInt8} {o : List Nat}
theorem IsOrd.at_lt (h : IsOrd T o) {a b : Nat} (hab : a < b) (hb : b < o.length) : ltS (T.drop (o.getD a 0)) (T.drop (o.getD b 0)) = true := by
  have := List.pairwise_iff_getElem.1 h.asc a b (by omega) hb hab
  rw [List.getD_eq_getElem?_getD, List.getD_eq_getElem?_getD, List.getElem?_eq_getElem hb, List.getElem?_eq_getElem (show a < o.length by omega)]
  exact this
theorem IsOrd.place (h : IsOrd T o) {i : Nat} (hi : i < T.length) : o.idxOf i < T.length ∧ o.getD (o.idxOf i) 0 = i := by
  have h1 := List.idxOf_lt_length_of_mem (h.mem.2 hi)
  refine ⟨by rw [← h.len]; exact h1, ?_⟩
  rw [List.getD_eq_getElem?_getD, List.getElem?_eq_getElem h1]; simp
theorem IsOrd.getD_lt (h : IsOrd T o) {p : Nat} (hp : p < T.length) : o.getD p 0 < T.length := h.mem.1 (getD_mem (by rw [h.len]; exact hp))
theorem IsOrd.idx_getD (h : IsOrd T o) {p : Nat} (hp : p < T.length) : o.idxOf (o.getD p 0) = p := by
  have hl : p < o.length := by rw [h.len]; exact hp
  rw [List.getD_eq_getElem?_getD, List.getElem?_eq_getElem hl]
  exact h.nodup.idxOf_getElem p hl
theorem IsOrd.lt_place (h : IsOrd T o) {i k : Nat} (hi : i < T.length) (hk : k < T.length) (hl : ltS (T.drop i) (T.drop k) = true) : o.idxOf i < o.idxOf k := by
  obtain ⟨a1, a2⟩ := h.place hi
  obtain ⟨b1, b2⟩ := h.place hk
  rcases Nat.lt_trichotomy (o.idxOf i) (o.idxOf k) with c | c | c
  · exact c
  · rw [← c, a2] at b2; subst b2; rw [ltS_irr] at hl; cases hl
  · have := h.at_lt c (by rw [h.len]; exact a1)
    rw [a2, b2, ltS_as hl] at this; cases this
theorem drop_lt_len {x y : List UInt8} (h : 1 ≤ lcp x y) : 1 ≤ x.length ∧ 1 ≤ y.length := by have := lcp_le x y; omega
/-- Without the first byte two suffixes stand in the same order. -/
theorem ltS_tail {x y : List UInt8} (h : ltS x y = true) (hl : 1 ≤ lcp x y) : ltS (x.drop 1) (y.drop 1) = true := by
  cases x with
  | nil => simp [lcp] at hl
  | cons a x =>
    cases y with
    | nil => simp [lcp] at hl
    | cons b y =>
      simp only [lcp] at hl
      by_cases e : a = b
      · subst e
        rw [ltS_cons] at h
        simpa [u8_irr] using h
      · rw [if_neg e] at hl; omega
theorem kasai (h : IsOrd T o) {i : Nat} (hi1 : i + 1 < T.length) : ovL T o (o.idxOf i) - 1 ≤ ovL T o (o.idxOf (i + 1)) := by
  have hi : i < T.length := by omega
  obtain ⟨p1, p2⟩ := h.place hi
  obtain ⟨q1, q2⟩ := h.place hi1
  by_cases h0 : o.idxOf i = 0
  · unfold ovL; rw [if_pos h0]; omega
  · have e1 : ovL T o (o.idxOf i) = lcp (T.drop (o.getD (o.idxOf i - 1) 0)) (T.drop i) := by unfold ovL; rw [if_neg h0, p2]
    have hj : o.getD (o.idxOf i - 1) 0 < T.length := h.getD_lt (by omega)
    have hlt : ltS (T.drop (o.getD (o.idxOf i - 1) 0)) (T.drop i) = true := by
      have := h.at_lt (a := o.idxOf i - 1) (b := o.idxOf i) (by omega) (by rw [h.len]; exact p1)
      rwa [p2] at this
    generalize o.getD (o.idxOf i - 1) 0 = j at e1 hj hlt
    rw [e1]
    by_cases hl : 1 ≤ lcp (T.drop j) (T.drop i)
    · have hd := lcp_drop (T.drop j) (T.drop i) 1 hl
      have ht := ltS_tail hlt hl
      rw [List.drop_drop, List.drop_drop] at hd ht
      by_cases hjn : j + 1 < T.length
      · have hpl := h.lt_place hjn hi1 ht
        have e2 : ovL T o (o.idxOf (i + 1)) = lcp (T.drop (o.getD (o.idxOf (i + 1) - 1) 0)) (T.drop (i + 1)) := by unfold ovL; rw [if_neg (by omega), q2]
        rw [e2]
        have hkl : o.getD (o.idxOf (i + 1) - 1) 0 < T.length := h.getD_lt (by omega)
        have hks : ltS (T.drop (o.getD (o.idxOf (i + 1) - 1) 0)) (T.drop (i + 1)) = true := by
          have := h.at_lt (a := o.idxOf (i + 1) - 1) (b := o.idxOf (i + 1)) (by omega) (by rw [h.len]; exact q1)
          rwa [q2] at this
        rcases Nat.eq_or_lt_of_le (show o.idxOf (j + 1) ≤ o.idxOf (i + 1) - 1 by omega) with e | e
        · rw [← e, (h.place hjn).2]; omega
        · have hjk : ltS (T.drop (j + 1)) (T.drop (o.getD (o.idxOf (i + 1) - 1) 0)) = true := by
            have := h.at_lt e (by rw [h.len]; omega)
            rwa [(h.place hjn).2] at this
          have := lcp_three hjk hks
          omega
      · have : T.drop (j + 1) = [] := List.drop_eq_nil_of_le (by omega)
        rw [this] at hd
        simp [lcp] at hd
        omega
    · omega
theorem ovL_le (h : IsOrd T o) {i : Nat} (hi : i < T.length) : i + ovL T o (o.idxOf i) ≤ T.length ∧ (0 < o.idxOf i → o.getD (o.idxOf i - 1) 0 + ovL T o (o.idxOf i) ≤ T.length) := by
  obtain ⟨p1, p2⟩ := h.place hi
  by_cases h0 : o.idxOf i = 0
  · unfold ovL; rw [if_pos h0]; omega
  · unfold ovL; rw [if_neg h0, p2]
    have h1 := lcp_le (T.drop (o.getD (o.idxOf i - 1) 0)) (T.drop i)
    rw [List.length_drop, List.length_drop] at h1
    have h2 : o.getD (o.idxOf i - 1) 0 < T.length := h.getD_lt (by omega)
    omega
end

set_option maxRecDepth 1000000 in
set_option maxHeartbeats 16000000 in
theorem overlapsOf_any (s : ByteArray) (A : Option Addr) (n c : Nat) (o : List Nat) (w : World) (hn : s.size = n) (hnb : n ≤ 4096) (hO : IsOrd (bts s) o) (hp : Ints w A (nI o)) :
    Calls Try.prog 29 #[.string s, .slice A n c] w fun e w' => ∃ G, e = .returned (.slice (some ⟨G, 0, none⟩) n n) ∧ w.heap.size ≤ G ∧ FB 3 w' G n (fun i => ((ovL (bts s) o i : Nat) : Int)) ∧ Gr w w' := by
  have hTn : (bts s).length = n := by rw [bts_len]; exact hn
  have HN := Lib.hid hn
  have HT := Lib.hid hTn
  have HO := Lib.hid hO
  have HP := Lib.hid hp
  have HL : Hid (o.length = n) := Lib.hid (by rw [hO.len, hTn])
  have hmk := fun W => mk_icF n (by omega) W
  have hsn1 : (s.size : Int) = (n : Int) := by omega
  clear hn hTn hO hp
  go_enter Try.func29, Try.ntmps29
  go_upto_region 2 with fail
  generalize hW1 : World.alloc w _ = w1
  obtain ⟨R, hR⟩ : ∃ R, w.heap.size = R := ⟨_, rfl⟩
  have hg1 : Gr w w1 := by rw [← hW1]; exact (Gr.refl w).alloc _
  have HR0 : Hid (FB 3 w1 R n (fun _ => 0)) := Lib.hid (by rw [← hW1]; exact FB.made w n hR)
  have HRW : Hid (w.heap.size ≤ R) := Lib.hid (Nat.le_of_eq hR)
  rw [hR]
  clear hW1 hR
  go_wp2_with fail
  go_loopw [17] (fun z wr => ∃ (k : Nat) (F : Nat → Int), k ≤ n ∧ z = .int .i64 (k : Int) ∧ Hid (FB 3 wr R n F) ∧ Hid (∀ t, t < k → F (o.getD t 0) = (t : Int)) ∧ Gr w wr) (fun z _ => n - (intOf z).toNat)
  case atStart => exact ⟨0, _, Nat.zero_le _, rfl, HR0, Lib.hid (fun t ht => by omega), hg1⟩
  case round =>
    clear HR0 hg1
    obtain ⟨k, F, hk, rfl, hF, hI, hgr⟩ := hrel
    by_cases hlt : k < n
    · obtain ⟨b, off, rfl, x0⟩ := Nats_at (HP.out.keep hgr) (i := k) (by rw [HL.out]; exact hlt)
      have hxn : o.getD k 0 < n := by rw [← HT.out]; exact HO.out.getD_lt (by rw [HT.out]; exact hlt)
      have HI2 : Hid (∀ t, t < k + 1 → upF F (o.getD k 0) (k : Int) (o.getD t 0) = (t : Int)) := Lib.hid (fun t ht => by
        by_cases e : t = k
        · rw [e, upF_at]
        · have hne : o.getD t 0 ≠ o.getD k 0 := fun h => by
            have h1 := HO.out.idx_getD (p := t) (by rw [HT.out]; omega)
            have h2 := HO.out.idx_getD (p := k) (by rw [HT.out]; omega)
            rw [h, h2] at h1; omega
          rw [upF_ne _ _ hne]
          exact hI.out t (by omega))
      have hki : (k : Int) < (n : Int) := by omega
      generalize o.getD k 0 = x at x0 hxn HI2
      have hxi : (x : Int) < (n : Int) := by omega
      have r0 := hF.out.at hxn
      have r1 := hF.out.free x
      have HFP := Lib.hid (hF.out.put x (k : Int))
      have HG2 := Lib.hid (Gr.setCell hgr (p := ⟨R, x, none⟩) HRW.out (.int .i64 (k : Int)))
      generalize F x = fx at r0
      clear hF hI
      go_wp2_with fail
      go_roundw
      case rel => exact ⟨k + 1, _, by omega, by go_num, HFP, HI2, HG2.out⟩
      case measure => simp [intOf]; omega
    · obtain rfl : n = k := by omega
      have HPL : Hid (FB 3 wr R n (fun i => ((o.idxOf i : Nat) : Int))) := Lib.hid (hF.out.congr (fun i hi => by
        obtain ⟨h1, h2⟩ := HO.out.place (i := i) (by rw [HT.out]; exact hi)
        have := hI.out (o.idxOf i) (by rw [← HT.out]; exact h1)
        rw [h2] at this
        exact this.symm))
      clear hF hI hlt hk
      go_upto_region 8 with fail
      clear hmk
      generalize hW2 : World.alloc wr _ = w2
      have hg2 : Gr wr w2 := by rw [← hW2]; exact (Gr.refl wr).alloc _
      obtain ⟨V, hV⟩ : ∃ R, wr.heap.size = R := ⟨_, rfl⟩
      have HV0 : Hid (FB 3 w2 V n (fun _ => 0)) := Lib.hid (by rw [← hW2]; exact FB.made wr n hV)
      have HP2 := Lib.hid (HPL.out.keep hg2)
      have HRV : Hid (R ≠ V) := Lib.hid (by have := HPL.out.lt; omega)
      have HVW : Hid (w.heap.size ≤ V) := Lib.hid (by have := hgr.size; omega)
      have hgr2 := hgr.trans hg2
      rw [hV]
      clear hW2 hV hg2 HPL hgr
      go_wp2_with fail
      go_loopw [9, 32] (fun q z wr => ∃ (k h : Nat) (F : Nat → Int), k ≤ n ∧ z = .int .i64 (k : Int) ∧ q = .int .i64 (h : Int) ∧ h ≤ 4096 ∧ Hid (k < n → h ≤ ovL (bts s) o (o.idxOf k)) ∧ Hid (FB 3 wr R n (fun i => ((o.idxOf i : Nat) : Int))) ∧ Hid (FB 3 wr V n F) ∧ Hid (∀ t, t < k → F (o.idxOf t) = ((ovL (bts s) o (o.idxOf t) : Nat) : Int)) ∧ Hid (∀ p, (∀ t, t < k → o.idxOf t ≠ p) → F p = 0) ∧ Gr w wr) (fun _ z _ => n - (intOf z).toNat)
      case atStart => exact ⟨0, 0, _, Nat.zero_le _, rfl, rfl, by omega, Lib.hid (fun _ => Nat.zero_le _), HP2, HV0, Lib.hid (fun t ht => by omega), Lib.hid (fun _ _ => rfl), hgr2⟩
      case round =>
        clear HP2 HV0 hgr2
        obtain ⟨k, h, F, hk, rfl, rfl, hh, hinv, hR, hV, hI, hZ, hgr⟩ := hrel
        by_cases hlt : k < n
        · have hki : (k : Int) < (n : Int) := by omega
          have x0 := hR.out.at hlt
          have hpl := HO.out.place (i := k) (by rw [HT.out]; exact hlt)
          rw [HT.out] at hpl
          have hov := ovL_le HO.out (i := k) (by rw [HT.out]; exact hlt)
          rw [HT.out] at hov
          have hin := hinv.out hlt
          have HKA : Hid (k + 1 < n → ovL (bts s) o (o.idxOf k) - 1 ≤ ovL (bts s) o (o.idxOf (k + 1))) := Lib.hid (fun c => kasai HO.out (by rw [HT.out]; exact c))
          rcases Nat.eq_zero_or_pos (o.idxOf k) with h0 | h0
          · have hl0 : ovL (bts s) o (o.idxOf k) = 0 := by unfold ovL; rw [if_pos h0]
            rw [hl0] at hin
            obtain rfl : h = 0 := by omega
            rw [h0] at x0
            have HI2 : Hid (∀ t, t < k + 1 → F (o.idxOf t) = ((ovL (bts s) o (o.idxOf t) : Nat) : Int)) := Lib.hid (fun t ht => by
              rcases Nat.lt_or_ge t k with e | e
              · exact hI.out t e
              · obtain rfl : t = k := by omega
                rw [hl0]
                refine hZ.out _ (fun t2 h2 e2 => ?_)
                have a1 := (HO.out.place (i := t2) (by rw [HT.out]; omega)).2
                have a2 := hpl.2
                rw [e2, a2] at a1; omega)
            have HZ2 : Hid (∀ p, (∀ t, t < k + 1 → o.idxOf t ≠ p) → F p = 0) := Lib.hid (fun p hp => hZ.out p (fun t ht => hp t (by omega)))
            clear hI hZ hinv hov hpl hin hl0 h0 HKA
            go_wp2_with fail
            go_roundw
            case rel => exact ⟨k + 1, 0, F, by omega, by go_num, rfl, by omega, Lib.hid (fun _ => Nat.zero_le _), hR, hV, HI2, HZ2, hgr⟩
            case measure => simp [intOf]; omega
          · have hjn : o.getD (o.idxOf k - 1) 0 < n := by rw [← HT.out]; exact HO.out.getD_lt (by rw [HT.out]; omega)
            have hle2 := hov.2 h0
            have hov1 := hov.1
            obtain ⟨b, off, rfl, y0⟩ := Nats_at (HP.out.keep hgr) (i := o.idxOf k - 1) (by rw [HL.out]; omega)
            have HLV : Hid (ovL (bts s) o (o.idxOf k) = lcp ((bts s).drop k) ((bts s).drop (o.getD (o.idxOf k - 1) 0))) := Lib.hid (by
              unfold ovL; rw [if_neg (by omega), hpl.2, lcp_comm])
            have HI2 : Hid (∀ t, t < k + 1 → upF F (o.idxOf k) ((ovL (bts s) o (o.idxOf k) : Nat) : Int) (o.idxOf t) = ((ovL (bts s) o (o.idxOf t) : Nat) : Int)) := Lib.hid (fun t ht => by
              by_cases e : o.idxOf t = o.idxOf k
              · rw [e, upF_at]
              · rw [upF_ne _ _ e]
                exact hI.out t (by
                  rcases Nat.lt_or_ge t k with c | c
                  · exact c
                  · obtain rfl : t = k := by omega
                    exact absurd rfl e))
            have HZ2 : Hid (∀ p, (∀ t, t < k + 1 → o.idxOf t ≠ p) → upF F (o.idxOf k) ((ovL (bts s) o (o.idxOf k) : Nat) : Int) p = 0) := Lib.hid (fun p hp => by
              rw [upF_ne _ _ (fun e => hp k (by omega) e.symm)]
              exact hZ.out p (fun t ht => hp t (by omega)))
            have hplt := hpl.1
            generalize o.getD (o.idxOf k - 1) 0 = j at y0 hjn hle2 HLV
            generalize ovL (bts s) o (o.idxOf k) = l at hin hle2 hov1 HLV HI2 HZ2 HKA
            generalize hpk : o.idxOf k = p at x0 h0 y0 hplt HI2 HZ2
            obtain ⟨dd, rfl⟩ : ∃ dd, l = h + dd := ⟨l - h, by omega⟩
            have HCM : Hid (∀ W, Calls Try.prog 43 #[.string (s.extract (k + h) s.size), .string (s.extract (j + h) s.size)] W fun e w' => e = .returned (.int .i64 (dd : Int)) ∧ Gr W w') := Lib.hid (fun W => (common_any (s.extract (k + h) s.size) (s.extract (j + h) s.size) W (by have := bts_len (s.extract (k + h) s.size); rw [bts_drop, List.length_drop, HT.out] at this; omega)).mono (fun e w' ⟨h1, h2⟩ => ⟨by
              rw [h1, bts_drop, bts_drop, ← List.drop_drop, ← List.drop_drop, lcp_drop _ _ _ (by rw [← HLV.out]; omega), ← HLV.out]
              exact ret_int (by omega), h2⟩))
            have hpi : (p : Int) < (n : Int) := by omega
            have hp0 : (0 : Int) < (p : Int) := by omega
            have f1 : IntKind.i64.wrap ((k : Int) + (h : Int)) = (k : Int) + (h : Int) := IntWalk.i64_in _ (by omega)
            have f2 : (0 : Int) ≤ (k : Int) + (h : Int) := by omega
            have f3 : ((k : Int) + (h : Int)).toNat = k + h := by omega
            have f4 : (k : Int) + (h : Int) ≤ (n : Int) := by omega
            have g1 : IntKind.i64.wrap ((j : Int) + (h : Int)) = (j : Int) + (h : Int) := IntWalk.i64_in _ (by omega)
            have g2 : (0 : Int) ≤ (j : Int) + (h : Int) := by omega
            have g3 : ((j : Int) + (h : Int)).toNat = j + h := by omega
            have g4 : (j : Int) + (h : Int) ≤ (n : Int) := by omega
            have p1 : IntKind.i64.wrap ((p : Int) - 1) = (p : Int) - 1 := IntWalk.i64_in _ (by omega)
            have p2 : (0 : Int) ≤ (p : Int) - 1 := by omega
            have p2' : (1 : Int) ≤ (p : Int) := by omega
            have p3 : ((p : Int) - 1).toNat = p - 1 := by omega
            have p4 : (p : Int) - 1 < (n : Int) := by omega
            have q1 : IntKind.i64.wrap ((h : Int) + (dd : Int)) = (h : Int) + (dd : Int) := IntWalk.i64_in _ (by omega)
            have hdr : Gr wr wr.drew := (Gr.refl wr).drew
            clear hI hZ hinv hov hpl
            go_upto_region 13 with fail
            refine wp_region_held_drew (S := (fun W' => Gr wr W' ∧ W'.cell? ⟨b, off + (p - 1), none⟩ = some (.int .i64 (j : Int)))) ?_ ?_ (fun hHeld => ?_)
            · kernel_rfl
            · ((try dsimp only); (first | exact hHeld | exact ⟨hdr, hdr.keep y0⟩ | exact ⟨HGC.out, HGC.out.keep y0⟩))
            refine take_in (i := 0) (v := ?_) (d := (some 39)) rfl rfl ?_ ?_ ?_ ?_ ?_ ?_ ?_ ?_
            rotate_left
            · kernel_rfl
            · kernel_rfl
            · kernel_rfl
            · (intro _ _ _ hq; exact hq)
            · rfl
            · (intro _w hSw; (try dsimp only at hSw); go_simp; try with_reducible rfl)
            · assumption
            try simp only [Act.put, List.setIfInBounds_toArray, List.set_cons_zero, List.set_cons_succ]
            refine take_in (i := 1) (v := ?_) (d := (some 40)) rfl rfl ?_ ?_ ?_ ?_ ?_ ?_ ?_ ?_
            rotate_left
            · kernel_rfl
            · kernel_rfl
            · kernel_rfl
            · (intro _ _ _ hq; exact hq)
            · rfl
            · (intro _w hSw; (try dsimp only at hSw); go_simp; try with_reducible rfl)
            · assumption
            try simp only [Act.put, List.setIfInBounds_toArray, List.set_cons_zero, List.set_cons_succ]
            refine take_in (i := 2) (v := ?_) (d := (some 41)) rfl rfl ?_ ?_ ?_ ?_ ?_ ?_ ?_ ?_
            rotate_left
            · kernel_rfl
            · kernel_rfl
            · kernel_rfl
            · (intro _ _ _ hq; exact hq)
            · rfl
            · (intro _w hSw; (try dsimp only at hSw); go_simp; try with_reducible rfl)
            · assumption
            try simp only [Act.put, List.setIfInBounds_toArray, List.set_cons_zero, List.set_cons_succ]
            refine take_in (i := 3) (v := ?_) (d := (some 42)) rfl rfl ?_ ?_ ?_ ?_ ?_ ?_ ?_ ?_
            rotate_left
            · kernel_rfl
            · kernel_rfl
            · kernel_rfl
            · (intro _ _ _ hq; exact hq)
            · rfl
            · (intro _w hSw; (try dsimp only at hSw); go_simp; try with_reducible rfl)
            · assumption
            try simp only [Act.put, List.setIfInBounds_toArray, List.set_cons_zero, List.set_cons_succ]
            refine take_in (i := 4) (v := ?_) (d := (some 43)) rfl rfl ?_ ?_ ?_ ?_ ?_ ?_ ?_ ?_
            rotate_left
            · kernel_rfl
            · kernel_rfl
            · kernel_rfl
            · (intro _ _ _ hq; exact hq)
            · rfl
            · (intro _w hSw; (try dsimp only at hSw); go_simp; try with_reducible rfl)
            · assumption
            try simp only [Act.put, List.setIfInBounds_toArray, List.set_cons_zero, List.set_cons_succ]
            refine take_in (i := 5) (v := ?_) (d := (some 44)) rfl rfl ?_ ?_ ?_ ?_ ?_ ?_ ?_ ?_
            rotate_left
            · kernel_rfl
            · kernel_rfl
            · kernel_rfl
            · (intro _ _ _ hq; exact hq)
            · rfl
            · (intro _w hSw; (try dsimp only at hSw); go_simp; try with_reducible rfl)
            · assumption
            try simp only [Act.put, List.setIfInBounds_toArray, List.set_cons_zero, List.set_cons_succ]
            refine take_in (i := 6) (v := ?_) (d := (some 45)) rfl rfl ?_ ?_ ?_ ?_ ?_ ?_ ?_ ?_
            rotate_left
            · kernel_rfl
            · kernel_rfl
            · kernel_rfl
            · (intro _ _ _ hq; exact hq)
            · rfl
            · (intro _w hSw; (try dsimp only at hSw); go_simp; try with_reducible rfl)
            · assumption
            try simp only [Act.put, List.setIfInBounds_toArray, List.set_cons_zero, List.set_cons_succ]
            refine take_in (i := 7) (v := ?_) (d := (some 46)) rfl rfl ?_ ?_ ?_ ?_ ?_ ?_ ?_ ?_
            rotate_left
            · kernel_rfl
            · kernel_rfl
            · kernel_rfl
            · (intro _ _ _ hq; exact hq)
            · rfl
            · (intro _w hSw; (try dsimp only at hSw); go_simp; try with_reducible rfl)
            · assumption
            try simp only [Act.put, List.setIfInBounds_toArray, List.set_cons_zero, List.set_cons_succ]
            refine take_in (i := 8) (v := ?_) (d := (some 47)) rfl rfl ?_ ?_ ?_ ?_ ?_ ?_ ?_ ?_
            rotate_left
            · kernel_rfl
            · kernel_rfl
            · kernel_rfl
            · (intro _ _ _ hq; exact hq)
            · rfl
            · (intro _w hSw; (try dsimp only at hSw); go_simp; try with_reducible rfl)
            · assumption
            try simp only [Act.put, List.setIfInBounds_toArray, List.set_cons_zero, List.set_cons_succ]
            refine take_in (i := 9) (v := ?_) (d := (some 48)) rfl rfl ?_ ?_ ?_ ?_ ?_ ?_ ?_ ?_
            rotate_left
            · kernel_rfl
            · kernel_rfl
            · kernel_rfl
            · (intro _ _ _ hq; exact hq)
            · rfl
            · (intro _w hSw; (try dsimp only at hSw); go_simp; try with_reducible rfl)
            · assumption
            try simp only [Act.put, List.setIfInBounds_toArray, List.set_cons_zero, List.set_cons_succ]
            refine take_in (i := 10) (v := ?_) (d := (some 49)) rfl rfl ?_ ?_ ?_ ?_ ?_ ?_ ?_ ?_
            rotate_left
            · kernel_rfl
            · kernel_rfl
            · kernel_rfl
            · (intro _ _ _ hq; exact hq)
            · rfl
            · (intro _w hSw; (try dsimp only at hSw); go_simp; try with_reducible rfl)
            · assumption
            try simp only [Act.put, List.setIfInBounds_toArray, List.set_cons_zero, List.set_cons_succ]
            refine take_in (i := 11) (v := ?_) (d := (some 50)) rfl rfl ?_ ?_ ?_ ?_ ?_ ?_ ?_ ?_
            rotate_left
            · kernel_rfl
            · kernel_rfl
            · kernel_rfl
            · (intro _ _ _ hq; exact hq)
            · rfl
            · (intro _w hSw; (try dsimp only at hSw); go_simp; try with_reducible rfl)
            · assumption
            try simp only [Act.put, List.setIfInBounds_toArray, List.set_cons_zero, List.set_cons_succ]
            refine take_in (i := 12) (v := ?_) (d := (some 51)) rfl rfl ?_ ?_ ?_ ?_ ?_ ?_ ?_ ?_
            rotate_left
            · kernel_rfl
            · kernel_rfl
            · kernel_rfl
            · (intro _ _ _ hq; exact hq)
            · rfl
            · (intro _w hSw; (try dsimp only at hSw); go_simp; try with_reducible rfl)
            · assumption
            try simp only [Act.put, List.setIfInBounds_toArray, List.set_cons_zero, List.set_cons_succ]
            refine take_in (i := 13) (v := ?_) (d := (some 52)) rfl rfl ?_ ?_ ?_ ?_ ?_ ?_ ?_ ?_
            rotate_left
            · kernel_rfl
            · kernel_rfl
            · kernel_rfl
            · (intro _ _ _ hq; exact hq)
            · rfl
            · (intro _w hSw; (try dsimp only at hSw); go_simp; try with_reducible rfl)
            · assumption
            try simp only [Act.put, List.setIfInBounds_toArray, List.set_cons_zero, List.set_cons_succ]
            refine take_in (i := 14) (v := ?_) (d := (some 53)) rfl rfl ?_ ?_ ?_ ?_ ?_ ?_ ?_ ?_
            rotate_left
            · kernel_rfl
            · kernel_rfl
            · kernel_rfl
            · (intro _ _ _ hq; exact hq)
            · rfl
            · (intro _w hSw; (try dsimp only at hSw); go_simp; try with_reducible rfl)
            · assumption
            try simp only [Act.put, List.setIfInBounds_toArray, List.set_cons_zero, List.set_cons_succ]
            refine wpAnyH_ready (rs := [15]) ?_ ?_ ?_
            · kernel_rfl
            · simp
            refine (AllReadyH.cons rfl (fun K hK => ?_) AllReadyH.nil)
            go_simp
            first | (go_at_call 43; ((with_reducible refine (HCM.out _).mono ?_)); rintro e wx ⟨rfl, hgx⟩; have HGC := Lib.hid (hHeld.1.trans hgx); clear hgx)
            refine hK.out _ _ ?_ (fun hHeld => ?_)
            · ((try dsimp only); (first | exact hHeld | exact ⟨hdr, hdr.keep y0⟩ | exact ⟨HGC.out, HGC.out.keep y0⟩))
            clear hK K
            try simp only [Act.put, List.setIfInBounds_toArray, List.set_cons_zero, List.set_cons_succ]
            refine take_in (i := 16) (v := ?_) (d := (some 55)) rfl rfl ?_ ?_ ?_ ?_ ?_ ?_ ?_ ?_
            rotate_left
            · kernel_rfl
            · kernel_rfl
            · kernel_rfl
            · (intro _ _ _ hq; exact hq)
            · rfl
            · (intro _w hSw; (try dsimp only at hSw); go_simp; try with_reducible rfl)
            · assumption
            try simp only [Act.put, List.setIfInBounds_toArray, List.set_cons_zero, List.set_cons_succ]
            refine take_in (i := 17) (v := ?_) (d := (some 9)) rfl rfl ?_ ?_ ?_ ?_ ?_ ?_ ?_ ?_
            rotate_left
            · kernel_rfl
            · kernel_rfl
            · kernel_rfl
            · (intro _ _ _ hq; exact hq)
            · rfl
            · (intro _w hSw; (try dsimp only at hSw); go_simp; try with_reducible rfl)
            · assumption
            try simp only [Act.put, List.setIfInBounds_toArray, List.set_cons_zero, List.set_cons_succ]
            refine wpAnyH_done ?_ ?_ _
            · kernel_rfl
            rotate_left
            have hgr2 := hgr.trans HGC.out
            have HR2 := Lib.hid (hR.out.keep HGC.out)
            have HV2 := Lib.hid (hV.out.keep HGC.out)
            have v0 := HV2.out.at (i := p) hplt
            have v1 := HV2.out.free p
            have HVP := Lib.hid (HV2.out.put p ((h : Int) + (dd : Int)))
            have HRP := Lib.hid (HR2.out.other (p := ⟨V, p, none⟩) HRV.out (.int .i64 ((h : Int) + (dd : Int))))
            have HG2 := Lib.hid (Gr.setCell hgr2 (p := ⟨V, p, none⟩) HVW.out (.int .i64 ((h : Int) + (dd : Int))))
            have m1 : (if (h : Int) + (dd : Int) - 1 < 0 then (0 : Int) else (h : Int) + (dd : Int) - 1) = ((h + dd - 1 : Nat) : Int) := by split <;> omega
            have m2 : max ((h : Int) + (dd : Int) - 1) 0 = ((h + dd - 1 : Nat) : Int) := by omega
            have e9 : ((h + dd : Nat) : Int) = (h : Int) + (dd : Int) := by omega
            rw [e9] at HI2 HZ2
            generalize F p = fp at v0
            clear hR hV HR2 HV2 hHeld HGC f1 f2 f3 f4 g1 g2 g3 g4 p1 p2 p2' p3 p4 q1 HCM hdr y0 x0 e9
            go_wp2_with fail
            go_roundw
            case rel => exact ⟨k + 1, h + dd - 1, _, by omega, by go_num, by first | rfl | (go_num), by omega, Lib.hid (fun c => HKA.out c), HRP, HVP, HI2, HZ2, HG2.out⟩
            case measure => simp [intOf]; omega
        · obtain rfl : n = k := by omega
          have HX : Hid (FB 3 wr V n (fun i => ((ovL (bts s) o i : Nat) : Int))) := Lib.hid (hV.out.congr (fun i hi => by
            have h1 := HO.out.idx_getD (p := i) (by rw [HT.out]; exact hi)
            have h2 := hI.out (o.getD i 0) (by rw [← HT.out]; exact HO.out.getD_lt (by rw [HT.out]; exact hi))
            rw [h1] at h2
            exact h2.symm))
          clear hR hV hI hZ hinv
          go_wp2_with fail
          go_ret
          exact ⟨V, rfl, HVW.out, HX.out, hgr⟩

end Go.Proofs.Ytmcefcdnfngndaa
