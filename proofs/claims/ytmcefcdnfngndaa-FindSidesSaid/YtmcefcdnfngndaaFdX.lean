/- Layer 7: Restore. -/
import Derived.Test.YtmcefcdnfngndaaFdV
namespace Go.Proofs.Ytmcefcdnfngndaa
open Go.RowKit Go.Shelf
set_option linter.unusedSimpArgs false

/-- The rank of the last byte of a rotation. -/
def lastF (T : List UInt8) (m r : Nat) : Nat := if r < m then (T.getD r 0).toNat + 1 else if m < r then (T.getD (r - 1) 0).toNat + 1 else 0
theorem lastF_le (T : List UInt8) (m r : Nat) : lastF T m r ≤ 256 := by
  unfold lastF
  have h1 := (T.getD r 0).toNat_lt
  have h2 := (T.getD (r - 1) 0).toNat_lt
  split
  · omega
  · split <;> omega
/-- The rotations by their last bytes. -/
def nxtL (T : List UInt8) (m : Nat) : List Nat := sortB (lastF T m) (List.range (T.length + 1)) 4097
theorem nxtL_perm (T : List UInt8) (m : Nat) : (nxtL T m).Perm (List.range (T.length + 1)) := sortB_perm _ _ _ (fun x _ => by have := lastF_le T m x; omega)
theorem nxtL_lt (T : List UInt8) (m : Nat) {r : Nat} (hr : r < T.length + 1) : (nxtL T m).getD r 0 < T.length + 1 := by
  have h := getD_mem (l := nxtL T m) (i := r) (by rw [(nxtL_perm T m).length_eq, List.length_range]; exact hr)
  exact List.mem_range.1 ((nxtL_perm T m).mem_iff.1 h)
/-- The text, as far as k bytes, and the rotation where it stands. -/
def resF (T : List UInt8) (m : Nat) : Nat → Option (Nat × List UInt8)
  | 0 => some (m, [])
  | k + 1 => match resF T m k with
    | none => none
    | some (r, bs) => if lastF T m ((nxtL T m).getD r 0) = 0 then none else some ((nxtL T m).getD r 0, bs ++ [UInt8.ofNat (lastF T m ((nxtL T m).getD r 0) - 1)])
theorem resF_none {T : List UInt8} {m a : Nat} (h : resF T m a = none) : ∀ b, a ≤ b → resF T m b = none
  | 0, hb => by obtain rfl : a = 0 := by omega
                exact h
  | b + 1, hb => by
    rcases Nat.eq_or_lt_of_le hb with e | e
    · rw [← e]; exact h
    · simp only [resF]; rw [resF_none h b (by omega)]
theorem resF_some {T : List UInt8} {m : Nat} (hm : m ≤ T.length) : ∀ {k r : Nat} {bs : List UInt8}, resF T m k = some (r, bs) → r < T.length + 1 ∧ bs.length = k
  | 0, r, bs, h => by
    simp only [resF, Option.some.injEq, Prod.mk.injEq] at h
    obtain ⟨rfl, rfl⟩ := h
    exact ⟨by omega, rfl⟩
  | k + 1, r, bs, h => by
    simp only [resF] at h
    cases hk : resF T m k with
    | none => rw [hk] at h; simp at h
    | some p =>
      obtain ⟨r0, b0⟩ := p
      rw [hk] at h
      dsimp only at h
      split at h
      · cases h
      · simp only [Option.some.injEq, Prod.mk.injEq] at h
        obtain ⟨rfl, rfl⟩ := h
        obtain ⟨h1, h2⟩ := resF_some hm hk
        exact ⟨nxtL_lt T m h1, by rw [List.length_append, h2]; rfl⟩
/-- What Restore answers of a mark that may be. -/
def resV (t : ByteArray) (m : Nat) : Value := match resF (bts t) m t.size with
  | none => .tuple #[.string ⟨#[]⟩, .int .i64 70]
  | some (_, bs) => .tuple #[.string ⟨bs.toArray⟩, .int .i64 0]

set_option maxRecDepth 1000000 in
set_option maxHeartbeats 4000000 in
theorem last_any (t : ByteArray) (m r S M : Nat) (w : World) (hn : t.size ≤ 4096) (hm : m ≤ t.size) (hr : r < t.size + 1) (h0 : w.cell? ⟨S, 0, none⟩ = some (.string t)) (h1 : w.cell? ⟨M, 0, none⟩ = some (.int .i64 (m : Int))) :
    Calls Try.prog 54 #[.int .i64 (r : Int), .pointer (some ⟨M, 0, none⟩), .pointer (some ⟨S, 0, none⟩)] w fun e w' => e = .returned (.int .i64 (lastF (bts t) m r : Int)) ∧ Gr w w' := by
  rcases Nat.lt_trichotomy r m with hc | hc | hc
  · have hrs : r < t.size := by omega
    have HE : Hid ((lastF (bts t) m r : Int) = ((t[r].toNat + 1 : Nat) : Int)) := Lib.hid (by unfold lastF; rw [if_pos hc, bts_getD t hrs])
    have hb8 : t[r].toNat ≤ 255 := by have := t[r].toNat_lt; omega
    have hri : (r : Int) < (m : Int) := by omega
    have hrsi : (r : Int) < (t.size : Int) := by omega
    generalize hby : t[r] = by_ at hb8 HE
    go_enter Try.func54, Try.ntmps54
    go_wp2_with fail
    refine (rankOf_any _ _ hb8).mono ?_
    rintro e w2 ⟨rfl, rfl⟩
    go_wp2_with fail
    go_ret
    exact ⟨ret_int (by rw [HE.out]; omega), Gr.refl _⟩
  · have HE : Hid ((lastF (bts t) m r : Int) = 0) := Lib.hid (by unfold lastF; rw [if_neg (by omega), if_neg (by omega)]; rfl)
    subst hc
    go_enter Try.func54, Try.ntmps54
    go_wp2_with fail
    go_ret
    exact ⟨ret_int (by rw [HE.out]), Gr.refl _⟩
  · have hrs : r - 1 < t.size := by omega
    have HE : Hid ((lastF (bts t) m r : Int) = ((t[r - 1].toNat + 1 : Nat) : Int)) := Lib.hid (by unfold lastF; rw [if_neg (by omega), if_pos hc, bts_getD t hrs])
    have hb8 : t[r - 1].toNat ≤ 255 := by have := t[r - 1].toNat_lt; omega
    have hri : ¬ (r : Int) < (m : Int) := by omega
    have hri2 : (m : Int) < (r : Int) := by omega
    have hwr : IntKind.i64.wrap ((r : Int) - 1) = ((r - 1 : Nat) : Int) := by rw [show (r : Int) - 1 = ((r - 1 : Nat) : Int) by omega]; exact IntWalk.i64_in _ (by omega)
    generalize r - 1 = y at hrs HE hb8 hwr
    have hrsi : (y : Int) < (t.size : Int) := by omega
    generalize hby : t[y] = by_ at hb8 HE
    go_enter Try.func54, Try.ntmps54
    go_wp2_with fail
    refine (rankOf_any _ _ hb8).mono ?_
    rintro e w2 ⟨rfl, rfl⟩
    go_wp2_with fail
    go_ret
    exact ⟨ret_int (by rw [HE.out]; omega), Gr.refl _⟩

set_option maxRecDepth 1000000 in
set_option maxHeartbeats 4000000 in
theorem lastOf_any (t : ByteArray) (m : Nat) (w : World) : Calls Try.prog 44 #[.string t, .int .i64 (m : Int)] w fun e w' => ∃ S M, e = .returned (.func (.func 54) #[] #[.pointer (some ⟨M, 0, none⟩), .pointer (some ⟨S, 0, none⟩)]) ∧
    w'.cell? ⟨S, 0, none⟩ = some (.string t) ∧ w'.cell? ⟨M, 0, none⟩ = some (.int .i64 (m : Int)) ∧ Gr w w' := by
  go_enter Try.func44, Try.ntmps44
  go_upto_region 1 with fail
  generalize hW1 : World.alloc _ _ = w1
  have hg1 : Gr w w1 := by rw [← hW1]; exact ((Gr.refl w).alloc _).alloc _
  have c0 : w1.cell? ⟨w.heap.size, 0, none⟩ = some (.string t) := by rw [← hW1]; exact alloc_old (alloc_new rfl rfl)
  have c1 : w1.cell? ⟨w.heap.size + 1, 0, none⟩ = some (.int .i64 (m : Int)) := by
    rw [← hW1]; exact alloc_new (by show _ = (Array.push _ _).size; rw [Array.size_push]) rfl
  clear hW1
  go_wp2_with fail
  go_ret
  exact ⟨_, _, rfl, c0, c1, hg1⟩

set_option maxRecDepth 1000000 in
set_option maxHeartbeats 4000000 in
theorem restore_no (t : ByteArray) (m : Int) (w : World) (h : 4096 < t.size ∨ m < 0 ∨ (t.size : Int) < m) : Calls Try.prog 31 #[.string t, .int .i64 m] w fun e w' => e = .returned (.tuple #[.string ⟨#[]⟩, .int .i64 2]) ∧ Gr w w' := by
  obtain ⟨tb, htb⟩ : ∃ tb, decide (t.size ≤ 4096) = tb := ⟨_, rfl⟩
  have HT := Lib.hid (fun W => isText_any t W tb htb)
  go_enter Try.func31, Try.ntmps31
  go_wp2_with fail
  refine (HT.out w).mono ?_
  rintro e w2 ⟨rfl, rfl⟩
  cases tb with
  | false =>
    clear htb h
    go_wp2_with fail
    refine bodyPost_ret (v := .tuple #[.string ⟨#[]⟩, .int .i64 2]) ?_ ?_ ?_
    · simp [results, Try.results31, go_sem]
    · rfl
    · exact ⟨rfl, Gr.refl _⟩
  | true =>
    have h2 : t.size ≤ 4096 := by simpa using htb
    by_cases h3 : m < 0
    · clear htb h
      go_wp2_with fail
      refine bodyPost_ret (v := .tuple #[.string ⟨#[]⟩, .int .i64 2]) ?_ ?_ ?_
      · simp [results, Try.results31, go_sem]
      · rfl
      · exact ⟨rfl, Gr.refl _⟩
    · have h4 : (t.size : Int) < m := by omega
      clear htb h
      go_wp2_with fail
      refine bodyPost_ret (v := .tuple #[.string ⟨#[]⟩, .int .i64 2]) ?_ ?_ ?_
      · simp [results, Try.results31, go_sem]
      · rfl
      · exact ⟨rfl, Gr.refl _⟩

set_option maxRecDepth 1000000 in
set_option maxHeartbeats 16000000 in
theorem restore_yes (t : ByteArray) (m : Nat) (w : World) (hn : t.size ≤ 4096) (hm : m ≤ t.size) : Calls Try.prog 31 #[.string t, .int .i64 (m : Int)] w fun e w' => e = .returned (resV t m) ∧ Gr w w' := by
  have HT := Lib.hid (fun W => isText_any t W true (decide_eq_true hn))
  have hmk : ∀ W, (Instr.makeSlice 23 (.int .i64 ((t.size : Int) + 1)) (.int .i64 ((t.size : Int) + 1))).run Try.prog W = .ok (.slice (some ⟨W.heap.size, 0, none⟩) (t.size + 1) (t.size + 1)) (W.alloc (.cells (icF (t.size + 1)) 3)) := fun W => mk_icF (t.size + 1) (by omega) W
  have hmi : (m : Int) ≤ (t.size : Int) := by omega
  have hm0 : ¬ (m : Int) < 0 := by omega
  have HTL : Hid ((bts t).length = t.size) := Lib.hid (bts_len t)
  go_enter Try.func31, Try.ntmps31
  go_wp2_with fail
  refine (HT.out w).mono ?_
  rintro e w2 ⟨rfl, rfl⟩
  clear HT
  go_upto_region 4 with fail
  clear hmk
  generalize hW1 : World.alloc w _ = w1
  obtain ⟨R, hR⟩ : ∃ R, w.heap.size = R := ⟨_, rfl⟩
  have hg1 : Gr w w1 := by rw [← hW1]; exact (Gr.refl w).alloc _
  have HR0 : Hid (FB 3 w1 R (t.size + 1) (fun _ => 0)) := Lib.hid (by rw [← hW1]; exact FB.made w (t.size + 1) hR)
  have HRW : Hid (w.heap.size ≤ R) := Lib.hid (Nat.le_of_eq hR)
  rw [hR]
  clear hW1 hR
  obtain ⟨N, hN⟩ : ∃ N, t.size + 1 = N := ⟨_, rfl⟩
  rw [hN] at HR0 ⊢
  go_wp2_with fail
  go_loopw [31] (fun z wr => ∃ (k : Nat) (F : Nat → Int), k ≤ N ∧ z = .int .i64 (k : Int) ∧ Hid (FB 3 wr R N F) ∧ Hid (∀ i, i < k → F i = (i : Int)) ∧ Gr w wr) (fun z _ => N - (intOf z).toNat)
  case atStart => exact ⟨0, _, Nat.zero_le _, rfl, HR0, Lib.hid (fun t ht => by omega), hg1⟩
  case round =>
    clear HR0 hg1
    obtain ⟨k, F, hk, rfl, hF, hI, hgr⟩ := hrel
    by_cases hlt : k < N
    · have hki : (k : Int) < (N : Int) := by omega
      have a0 := hF.out.at hlt
      have a1 := hF.out.free k
      have HFP := Lib.hid (hF.out.put k (k : Int))
      have HFI : Hid (∀ i, i < k + 1 → upF F k (k : Int) i = (i : Int)) := Lib.hid (fun i hi => by
        by_cases e : i = k
        · rw [e, upF_at]
        · rw [upF_ne _ _ e]; exact hI.out i (by omega))
      have HG2 := Lib.hid (Gr.setCell hgr (p := ⟨R, k, none⟩) HRW.out (.int .i64 (k : Int)))
      generalize F k = fk at a0
      clear hF hI hmi hm0
      go_wp2_with fail
      go_roundw
      case rel => exact ⟨k + 1, _, by omega, by go_num, HFP, HFI, HG2.out⟩
      case measure => simp [intOf]; omega
    · obtain rfl : N = k := by omega
      have HP : Hid (Ints wr (some ⟨R, 0, none⟩) (nI (List.range N))) := Lib.hid (hF.out.ints _ (by rw [nI_len, List.length_range]) (fun i hi => by rw [hI.out i hi, nI_at, range_getD hi]))
      have HLO := Lib.hid (lastOf_any t m wr)
      have eg : ∀ args w, (callFunc 54 args).run Try.prog w = .ok (.enter 54 args) w := enters_of Try.func54 (by kernel_rfl) rfl
      clear hF hI hlt hk
      go_wp2_with fail
      refine HLO.out.mono ?_
      rintro e w2 ⟨S, M, rfl, c0, c1, hg2⟩
      have HSO := Lib.hid (sorted_any (some ⟨R, 0, none⟩) N N 54 #[.pointer (some ⟨M, 0, none⟩), .pointer (some ⟨S, 0, none⟩)] (List.range N) (lastF (bts t) m) w2 eg List.length_range (by omega) (HP.out.keep hg2) (fun x hx => ⟨by have := lastF_le (bts t) m x; omega, by have := List.mem_range.1 hx; omega⟩) (fun W hW x hx => last_any t m x S M W hn hm (by have := List.mem_range.1 hx; omega) (hW.keep c0) (hW.keep c1)))
      have hgr2 := hgr.trans hg2
      clear HLO HP hg2 hgr
      go_wp2_with fail
      refine HSO.out.mono ?_
      rintro e w3 ⟨G, rfl, -, hFG, hg3⟩
      have HFG : Hid (FB 3 w3 G N (fun i => (((nxtL (bts t) m).getD i 0 : Nat) : Int))) := Lib.hid (by unfold nxtL; rw [HTL.out, hN]; exact hFG)
      have c03 := hg3.keep c0
      have c13 := hg3.keep c1
      have hgr3 := hgr2.trans hg3
      clear HSO hFG c0 c1 hgr2 hg3 HRW
      go_upto_region 12 with fail
      generalize hW4 : World.alloc w3 _ = w4
      have hg4 : Gr w3 w4 := by rw [← hW4]; exact (Gr.refl w3).alloc _
      have HOT : Hid (w4.ownsRow w3.heap.size 5 1 (.slice (some ⟨w3.heap.size, 0, none⟩) 0 0) 0 []) := Lib.hid (by rw [← hW4]; exact World.ownsRow_lit w3 #[] 0 (Nat.le_refl _) (by unfold maxLen; omega) rfl)
      obtain ⟨i1, ji, jz0, jz1, jz2⟩ := info_parts Try.infoFdB
      have HJ := Lib.hid (And.intro ji (And.intro jz0 (And.intro jz1 jz2)))
      have HC0 := Lib.hid c03
      have HC1 := Lib.hid c13
      have HG3 := Lib.hid hgr3
      have HN := Lib.hid hN
      have HM := Lib.hid hm
      have HLC : Hid (∀ W, Gr w3 W → ∀ r, r < N → Calls Try.prog 54 #[.int .i64 (r : Int), .pointer (some ⟨M, 0, none⟩), .pointer (some ⟨S, 0, none⟩)] W fun e w' => e = .returned (.int .i64 (lastF (bts t) m r : Int)) ∧ Gr W w') := Lib.hid (fun W hW r hr => last_any t m r S M W hn hm (by omega) (hW.keep c03) (hW.keep c13))
      have hNb : N ≤ 4097 := by omega
      have HNT : Hid (N = t.size + 1) := Lib.hid hN.symm
      clear hW4 c03 c13 hgr3 hN hm hmi hm0 ji jz0 jz1 jz2
      go_wp2_with fail
      go_loopw [10, 11, 49] (fun v q z wr => ∃ (k r : Nat) (bs : List UInt8), k ≤ t.size ∧ r < N ∧ z = .int .i64 (k : Int) ∧ q = .int .i64 (r : Int) ∧ Hid (resF (bts t) m k = some (r, bs)) ∧ Hid (bs.length = k) ∧ Hid (wr.ownsRow w3.heap.size 5 1 v k (flatE encB bs)) ∧ Gr w3 wr) (fun _ _ z _ => t.size - (intOf z).toNat)
      case atStart => exact ⟨0, m, [], Nat.zero_le _, by have := HM.out; have := HNT.out; omega, rfl, rfl, Lib.hid rfl, Lib.hid rfl, HOT, hg4⟩
      case round =>
        clear HOT hg4
        obtain ⟨k, r, bs, hk, hr, rfl, rfl, hS, hL, hown, hgr⟩ := hrel
        by_cases hlt : k < t.size
        · have hki : (k : Int) < (t.size : Int) := by omega
          have hri : (r : Int) < (N : Int) := by omega
          have x0 := (HFG.out.keep hgr).at hr
          have hrN : (nxtL (bts t) m).getD r 0 < N := by
            have hNt := HNT.out
            have := nxtL_lt (bts t) m (r := r) (by rw [HTL.out]; omega)
            rw [HTL.out] at this; omega
          have HLC1 := Lib.hid (fun W (hW : Gr w3 W) => HLC.out W hW _ hrN)
          have hle := lastF_le (bts t) m ((nxtL (bts t) m).getD r 0)
          by_cases h0 : lastF (bts t) m ((nxtL (bts t) m).getD r 0) = 0
          · have HE : Hid (resV t m = .tuple #[.string ⟨#[]⟩, .int .i64 70]) := Lib.hid (by
              have h1 : resF (bts t) m (k + 1) = none := by simp only [resF]; rw [hS.out]; dsimp only; rw [if_pos h0]
              unfold resV
              rw [resF_none h1 t.size (by omega)])
            rw [h0] at HLC1
            generalize (nxtL (bts t) m).getD r 0 = r2 at x0 hrN HLC1
            have HA := Lib.hid (HLC1.out wr hgr)
            clear hle h0 HLC1 hS hL hown
            go_wp2_with fail
            go_at_fn 54
            refine HA.out.mono ?_
            rintro e w5 ⟨rfl, hg5⟩
            have hgr5 := HG3.out.trans (hgr.trans hg5)
            clear HA x0 hgr hg5
            go_wp2_with fail
            refine bodyPost_ret (v := .tuple #[.string ⟨#[]⟩, .int .i64 70]) ?_ ?_ ?_
            · simp [results, Try.results31, go_sem]
            · rfl
            · exact ⟨by rw [HE.out], hgr5⟩
          · obtain ⟨x, hx⟩ : ∃ x, lastF (bts t) m ((nxtL (bts t) m).getD r 0) = x + 1 := ⟨_, (Nat.succ_pred h0).symm⟩
            have HE : Hid (resF (bts t) m (k + 1) = some ((nxtL (bts t) m).getD r 0, bs ++ [UInt8.ofNat x])) := Lib.hid (by
              simp only [resF]; rw [hS.out]; dsimp only; rw [if_neg h0, hx]; rfl)
            rw [hx] at hle HLC1
            have hx8 : x ≤ 255 := by omega
            have HU : Hid ((UInt8.ofNat x).toNat = x) := Lib.hid (by rw [UInt8.toNat_ofNat']; omega)
            have hne : (((x + 1 : Nat) : Int) == 0) = false := beq_eq_false_iff_ne.2 (by omega)
            generalize (nxtL (bts t) m).getD r 0 = r2 at x0 hrN HLC1 HE
            have HA := Lib.hid (HLC1.out wr hgr)
            clear hle h0 hS hx
            go_wp2_with fail
            go_at_fn 54
            refine HA.out.mono ?_
            rintro e w5 ⟨rfl, hg5⟩
            have hgr5 := hgr.trans hg5
            have hown5 := Lib.hid (owns_gr hown.out hg5)
            have HA2 := Lib.hid (HLC1.out w5 hgr5)
            clear HA x0 hgr hg5 hown HLC1
            go_wp2_with fail
            go_at_fn 54
            refine HA2.out.mono ?_
            rintro e w6 ⟨rfl, hg6⟩
            have hgr6 := hgr5.trans hg6
            have hown6 := Lib.hid (owns_gr hown5.out hg6)
            clear HA2 hgr5 hg6 hown5
            go_wp2_with fail
            refine (byteOf_any x _ hx8).mono ?_
            rintro e w7 ⟨rfl, rfl⟩
            obtain ⟨ji, jz0, jz1, jz2⟩ := HJ.out
            go_wp2_with (at_builtin; refine wpList_append_own _ rfl _ _ 61 rfl w3.heap.size 5 i1 _ 1 1 Try.underlying61 ji jz0 jz1 jz2 rfl (by decide) _ _ _ rfl (hown6.out.alloc _) ⟨w6.heap.size, 0, none⟩ 1 1 [.int .u8 (x : Int)] rfl rfl ?a1 ?a2 ?a3 ?a4 ?a5 ?_)
            case a1 =>
              intro t x ht
              rw [Addr.add_lit]
              exact alloc_new rfl (by rw [Nat.zero_add]; simpa using ht)
            case a2 => intro x hx; rw [List.mem_singleton] at hx; subst hx; rfl
            case a3 => unfold maxLen; omega
            case a4 => omega
            case a5 => have := hgr6.size; simp; omega
            intro v' w8 hown3 hgrow _
            have hal : Gr w6 (w6.alloc (.cells #[.int .u8 (x : Int)] 5)) := (Gr.refl _).alloc _
            have ho2 := hown6.out.alloc (.cells #[.int .u8 (x : Int)] 5)
            have hg8 : Gr w3 w8 := Below.grown (hgr6.trans hal) hgrow (hgr6.trans hal).size (fun t ht => (ho2.lt t ht).1)
            have HO3 : Hid (w8.ownsRow w3.heap.size 5 1 v' (k + 1) (flatE encB (bs ++ [UInt8.ofNat x]))) := Lib.hid (by rw [flatE_snoc]; unfold encB; rw [HU.out]; exact hown3)
            have HLN : Hid ((bs ++ [UInt8.ofNat x]).length = k + 1) := Lib.hid (by rw [List.length_append, List.length_singleton, hL.out])
            clear hown3 hgrow hal ho2 ji jz0 jz1 jz2 hown6 hgr6
            go_wp2_with fail
            go_roundw
            case rel => exact ⟨k + 1, r2, _, by omega, hrN, by go_num, rfl, HE, HLN, HO3, hg8⟩
            case measure => simp [intOf]; omega
        · obtain rfl : k = t.size := by omega
          have hcv := convB_any _ _ _ _ _ hL.out hown.out
          have HR : Hid (resV t m = .tuple #[.string ⟨bs.toArray⟩, .int .i64 0]) := Lib.hid (by unfold resV; rw [hS.out])
          have hgr5 := HG3.out.trans hgr
          go_wp2_with (simp only [hcv])
          refine bodyPost_ret (v := .tuple #[.string ⟨bs.toArray⟩, .int .i64 0]) ?_ ?_ ?_
          · simp [results, Try.results31, go_sem]
          · rfl
          · exact ⟨by rw [HR.out], hgr5⟩

end Go.Proofs.Ytmcefcdnfngndaa
