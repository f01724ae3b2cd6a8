/- Layer 7: the law's awake, short, ints, mod. -/
import Derived.Test.YtmcefcdnfngndaaFdX
namespace Go.Proofs.Ytmcefcdnfngndaa
open Go.RowKit Go.Shelf
set_option linter.unusedSimpArgs false

def banS : ByteArray := ⟨#[98, 97, 110, 97, 110, 97]⟩
def annS : ByteArray := ⟨#[97, 110, 110, 98, 97, 97]⟩
def banO : List Nat := [5, 3, 1, 0, 4, 2]
theorem ban_ord : IsOrd (bts banS) banO := ⟨by decide, by decide⟩
theorem ban_rep : repV banS banO 6 = .tuple #[.string ⟨#[97, 110, 97]⟩, .int .i64 2, .int .i64 0] := by kernel_rfl
theorem ban_dst : dstN (bts banS) banO 6 = 15 := by decide
theorem ban_tur : turV banS banO 6 = .tuple #[.string ⟨#[97, 110, 110, 98, 97, 97]⟩, .int .i64 4, .int .i64 0] := by kernel_rfl
theorem ann_res : resV annS 4 = .tuple #[.string ⟨#[98, 97, 110, 97, 110, 97]⟩, .int .i64 0] := by kernel_rfl

set_option maxRecDepth 1000000 in
set_option maxHeartbeats 8000000 in
theorem awake_any (w : World) : Calls Try.prog 13 #[] w fun e w' => e = .returned (.bool true) ∧ Gr w w' := by
  have HN := Lib.hid (new_yes banS 6 w rfl (by decide))
  have HTU := Lib.hid (fun W => turn_yes banS 6 W rfl (by decide))
  have HRS := Lib.hid (fun W => restore_yes annS 4 W (by decide) (by decide))
  go_enter Try.func13, Try.ntmps13
  go_wp2_with fail
  refine HN.out.mono ?_
  rintro e w1 ⟨o, G, V, rfl, hX, hg1⟩
  obtain rfl : o = banO := hX.ord.one ban_ord
  have HX := Lib.hid hX
  have HRP := Lib.hid (fun W (hW : Gr w1 W) => repeat_any banS 6 6 6 banO _ _ W (hX.keep hW))
  have HDS := Lib.hid (fun W (hW : Gr w1 W) => distinct_any banS 6 6 6 banO _ _ W (hX.keep hW))
  clear hX HN
  go_upto_region 2 with fail
  generalize hW2 : World.alloc w1 _ = w2
  obtain ⟨X, hXX⟩ : ∃ X, w1.heap.size = X := ⟨_, rfl⟩
  rw [hXX]
  have hg2 : Gr w1 w2 := by rw [← hW2]; exact (Gr.refl _).alloc _
  have HB : Hid (Blk w2 X 25 #[.string banS, .slice (some ⟨G, 0, none⟩) 6 6, .slice (some ⟨V, 0, none⟩) 6 6]) := Lib.hid (by rw [← hW2]; exact Blk.new w1 _ _ hXX)
  clear hW2 hXX
  have HRP2 := Lib.hid (HRP.out w2 hg2)
  rw [ban_rep] at HRP2
  have z0 := HB.out.cell 0
  have z1 := HB.out.cell 1
  have z2 := HB.out.cell 2
  go_wp2_with fail
  refine HRP2.out.mono ?_
  rintro e w3 ⟨rfl, hg3⟩
  have hgr3 := hg2.trans hg3
  have HTU3 := Lib.hid (HTU.out w3)
  clear z0 z1 z2 HRP2 HTU HRP hg2
  go_wp2_with fail
  refine HTU3.out.mono ?_
  rintro e w4 ⟨o', ho', rfl, hg4⟩
  obtain rfl : o' = banO := ho'.one ban_ord
  rw [ban_tur]
  have hgr4 := hgr3.trans hg4
  have hb4 := hg3.trans hg4
  have HRS4 := Lib.hid (HRS.out w4)
  rw [ann_res] at HRS4
  clear HTU3 HRS ho'
  go_wp2_with fail
  refine HRS4.out.mono ?_
  rintro e w5 ⟨rfl, hg5⟩
  have hgr5 := hgr4.trans hg5
  have hb5 := HB.out.keep (hb4.trans hg5)
  have z0 := hb5.cell 0
  have z1 := hb5.cell 1
  have z2 := hb5.cell 2
  have HDS5 := Lib.hid (HDS.out w5 hgr5)
  rw [ban_dst] at HDS5
  clear HRS4 HDS
  go_wp2_with fail
  refine HDS5.out.mono ?_
  rintro e w6 ⟨rfl, hg6⟩
  clear z0 z1 z2 HDS5
  go_wp2_with fail
  go_ret
  exact ⟨rfl, hg1.trans (hgr5.trans hg6)⟩

/-- The first bytes, or one more than the limit. -/
def shortB (s : ByteArray) (m : Nat) : ByteArray := if 4096 < s.size then s.extract 0 4097 else s.extract 0 (min s.size m)
theorem size_take (s : ByteArray) (k : Nat) (h : k ≤ s.size) : (s.extract 0 k).size = k := by rw [ByteArray.size_extract]; omega
theorem shortB_size (s : ByteArray) (m : Nat) : (shortB s m).size ≤ m ∨ (shortB s m).size = 4097 := by
  unfold shortB
  split
  · exact Or.inr (size_take s 4097 (by omega))
  · refine Or.inl ?_
    rw [size_take s _ (Nat.min_le_left _ _)]
    exact Nat.min_le_right _ _
set_option maxRecDepth 100000 in
set_option maxHeartbeats 2000000 in
theorem short_any (s : ByteArray) (m : Nat) (w : World) : Calls Try.prog 9 #[.string s, .int .i64 (m : Int)] w fun e w' => e = .returned (.string (shortB s m)) ∧ w' = w := by
  by_cases h : 4096 < s.size
  · have HE : Hid (shortB s m = s.extract 0 4097) := Lib.hid (by unfold shortB; rw [if_pos h])
    have hi : (4096 : Int) < (s.size : Int) := by omega
    have h1 : 4097 ≤ s.size := by omega
    go_enter Try.func9, Try.ntmps9
    go_wp2_with fail
    go_ret
    exact ⟨by rw [HE.out]; rfl, rfl⟩
  · obtain ⟨k, hk⟩ : ∃ k : Nat, min s.size m = k := ⟨_, rfl⟩
    have HE : Hid (shortB s m = s.extract 0 k) := Lib.hid (by unfold shortB; rw [if_neg h, hk])
    have hmn : min (s.size : Int) (m : Int) = (k : Int) := by omega
    have hi : ¬ (4096 : Int) < (s.size : Int) := by omega
    have h1 : k ≤ s.size := by omega
    have h1i : (k : Int) ≤ (s.size : Int) := by omega
    clear hk
    go_enter Try.func9, Try.ntmps9
    go_wp2_with fail
    go_ret
    exact ⟨by rw [HE.out]; rfl, rfl⟩

set_option maxRecDepth 100000 in
set_option maxHeartbeats 4000000 in
theorem ints_any (A B : Option Addr) (n c m d : Nat) (l r : List Nat) (w : World) (hl : l.length = n) (hr : r.length = m) (hnb : n ≤ 1048576) (hmb : m ≤ 1048576) (hA : Ints w A (nI l)) (hB : Ints w B (nI r)) :
    Calls Try.prog 15 #[.slice A n c, .slice B m d] w fun e w' => e = .returned (.bool (decide (l = r))) ∧ Gr w w' := by
  have HL := Lib.hid hl
  have HR := Lib.hid hr
  have HA := Lib.hid hA
  have HB := Lib.hid hB
  clear hl hr hA hB
  by_cases hnm : n = m
  · subst hnm
    go_enter Try.func15, Try.ntmps15
    go_wp2_with fail
    go_loopw [5] (fun z wr => ∃ k : Nat, k ≤ n ∧ z = .int .i64 (k : Int) ∧ Hid (∀ i, i < k → l.getD i 0 = r.getD i 0) ∧ Gr w wr) (fun z _ => n - (intOf z).toNat)
    case atStart => exact ⟨0, Nat.zero_le _, rfl, Lib.hid (fun i hi => by omega), Gr.refl _⟩
    case round =>
      obtain ⟨k, hk, rfl, hI, hgr⟩ := hrel
      by_cases hlt : k < n
      · obtain ⟨a, ao, rfl, x0⟩ := Nats_at (HA.out.keep hgr) (i := k) (by rw [HL.out]; exact hlt)
        obtain ⟨b, bo, rfl, y0⟩ := Nats_at (HB.out.keep hgr) (i := k) (by rw [HR.out]; exact hlt)
        have hki : (k : Int) < (n : Int) := by omega
        by_cases he : l.getD k 0 = r.getD k 0
        · have HI2 : Hid (∀ i, i < k + 1 → l.getD i 0 = r.getD i 0) := Lib.hid (fun i hi => by
            by_cases e : i = k
            · rw [e]; exact he
            · exact hI.out i (by omega))
          rw [← he] at y0
          generalize l.getD k 0 = x at x0 y0
          clear he hI
          go_upto_region 6 with fail
          go_quiet (fail)
          have hgd := hgr.drewN nq
          clear x0 y0
          go_wp2_with fail
          go_roundw
          case rel => exact ⟨k + 1, by omega, by go_num, HI2, hgd⟩
          case measure => simp [intOf]; omega
        · have HD : Hid (decide (l = r) = false) := Lib.hid (decide_eq_false (fun e => he (by rw [e])))
          have hne : ((l.getD k 0 : Int) == (r.getD k 0 : Int)) = false := beq_eq_false_iff_ne.2 (by omega)
          generalize l.getD k 0 = x at x0 he hne
          generalize r.getD k 0 = y at y0 he hne
          go_upto_region 6 with fail
          go_quiet (fail)
          have hgd := hgr.drewN nq
          clear x0 y0
          go_wp2_with fail
          go_ret
          exact ⟨ret_bool HD.out.symm, hgd⟩
      · obtain rfl : n = k := by omega
        have HD : Hid (decide (l = r) = true) := Lib.hid (decide_eq_true (List.ext_getElem (by rw [HL.out, HR.out]) (fun i h1 h2 => by
          have := hI.out i (by rw [← HL.out]; exact h1)
          rw [List.getD_eq_getElem?_getD, List.getD_eq_getElem?_getD, List.getElem?_eq_getElem h1, List.getElem?_eq_getElem h2] at this
          exact this)))
        go_wp2_with fail
        go_ret
        exact ⟨ret_bool HD.out.symm, hgr⟩
  · have HD : Hid (decide (l = r) = false) := Lib.hid (decide_eq_false (fun e => hnm (by rw [← HL.out, ← HR.out, e])))
    have hne : ((n : Int) == (m : Int)) = false := beq_eq_false_iff_ne.2 (by omega)
    go_enter Try.func15, Try.ntmps15
    go_wp2_with fail
    go_ret
    exact ⟨ret_bool HD.out.symm, Gr.refl _⟩

def modN (x : Int) (n : Nat) : Nat := (wrap64 ((IntKind.u64.wrap x).tmod (n : Int))).toNat
theorem modN_bd (x : Int) (n : Nat) (h : 0 < n ∧ n ≤ 65535) : wrap64 ((IntKind.u64.wrap x).tmod (n : Int)) = (modN x n : Int) ∧ modN x n < n := by
  have h0 : 0 ≤ IntKind.u64.wrap x := by simp [IntKind.wrap, IntKind.bits, IntKind.signed]; omega
  have h1 := Int.tmod_lt_of_pos (IntKind.u64.wrap x) (show (0 : Int) < (n : Int) by omega)
  have h2 := Int.tmod_nonneg (n : Int) h0
  unfold modN
  generalize (IntKind.u64.wrap x).tmod (n : Int) = r at *
  have : wrap64 r = r := by unfold wrap64; omega
  rw [this]; omega
end Go.Proofs.Ytmcefcdnfngndaa
