/- Layer 7: common, rankOf, byteOf, isText; the pair of ranks. -/
import Derived.Test.YtmcefcdnfngndaaFdW
import Derived.StillTailTactics
namespace Go.Proofs.Ytmcefcdnfngndaa
open Go.RowKit
set_option linter.unusedSimpArgs false

set_option maxRecDepth 100000 in
set_option maxHeartbeats 2000000 in
theorem common_any (a b : ByteArray) (w : World) (ha : a.size ≤ 140737488351232) :
    Calls Try.prog 43 #[.string a, .string b] w fun e w' => e = .returned (.int .i64 (lcp (bts a) (bts b) : Int)) ∧ Gr w w' := by
  go_enter Try.func43, Try.ntmps43
  go_wp2_with fail
  go_loopw [5] (fun z wr => ∃ k : Nat, k ≤ a.size ∧ k ≤ b.size ∧ z = .int .i64 (k : Int) ∧ Hid (k ≤ lcp (bts a) (bts b)) ∧ Gr w wr) (fun z _ => a.size - (intOf z).toNat)
  case atStart => exact ⟨0, Nat.zero_le _, Nat.zero_le _, rfl, Lib.hid (Nat.zero_le _), Gr.refl _⟩
  case round =>
    obtain ⟨k, hka, hkb, rfl, hL, hgr⟩ := hrel
    obtain ⟨m, hm, hm1, hm2⟩ : ∃ m : Nat, (if b.size < a.size then (b.size : Int) else (a.size : Int)) = (m : Int) ∧ (m ≤ a.size ∧ m ≤ b.size) ∧ (a.size ≤ m ∨ b.size ≤ m) := ⟨min a.size b.size, by split <;> omega, by omega, by omega⟩
    by_cases h1 : k < a.size ∧ k < b.size
    · obtain ⟨h1, h2⟩ := h1
      have hkm : (k : Int) < (m : Int) := by omega
      have d0 : decide ((k : Int) < (m : Int)) = true := by simpa using hkm
      have i1 : (k : Int) < (a.size : Int) := by omega
      have i2 : (k : Int) < (b.size : Int) := by omega
      by_cases he : a[k] = b[k]
      · have HL2 : Hid (k + 1 ≤ lcp (bts a) (bts b)) := Lib.hid (lcp_step hL.out (by rw [bts_len]; exact h1) (by rw [bts_len]; exact h2) he)
        have d1 : ((a[k].toNat : Int) == (b[k].toNat : Int)) = true := by rw [he]; exact beq_self_eq_true _
        clear he
        go_upto_region 2 with fail
        go_quiet (fail)
        go_wp2_with fail
        go_roundw
        case rel => exact ⟨k + 1, by omega, by omega, by go_num, HL2, hgr.drewN _⟩
        case measure => simp [intOf]; omega
      · have HX : Hid (lcp (bts a) (bts b) = k) := Lib.hid (lcp_stop hL.out (Or.inr (Or.inr ⟨by rw [bts_len]; exact h1, by rw [bts_len]; exact h2, he⟩)))
        have d1 : ((a[k].toNat : Int) == (b[k].toNat : Int)) = false := by
          rw [beq_eq_false_iff_ne]
          intro e
          exact he (UInt8.toNat_inj.1 (by omega))
        clear he
        go_upto_region 2 with fail
        go_quiet (fail)
        go_wp2_with fail
        go_ret
        exact ⟨ret_int (by rw [HX.out]), hgr.drewN _⟩
    · have HX : Hid (lcp (bts a) (bts b) = k) := Lib.hid (lcp_stop hL.out (by
        rcases (show k = a.size ∨ k = b.size by omega) with e | e
        · exact Or.inl (by rw [bts_len]; exact e)
        · exact Or.inr (Or.inl (by rw [bts_len]; exact e))))
      have hkm : ¬ (k : Int) < (m : Int) := by omega
      have d0 : decide ((k : Int) < (m : Int)) = false := by simpa using hkm
      go_upto_region 2 with fail
      go_quiet (fail)
      go_wp2_with fail
      go_ret
      exact ⟨ret_int (by rw [HX.out]), hgr.drewN _⟩

set_option maxRecDepth 100000 in
set_option maxHeartbeats 2000000 in
theorem rankOf_any (x : Nat) (w : World) (hx : x ≤ 255) : Calls Try.prog 37 #[.int .u8 (x : Int)] w fun e w' => e = .returned (.int .i64 ((x + 1 : Nat) : Int)) ∧ w = w' := by
  go_enter Try.func37, Try.ntmps37
  go_wp2_with fail
  go_ret
  exact ⟨ret_int (by omega), rfl⟩
set_option maxRecDepth 100000 in
set_option maxHeartbeats 2000000 in
theorem byteOf_any (x : Nat) (w : World) (hx : x ≤ 255) : Calls Try.prog 45 #[.int .i64 ((x + 1 : Nat) : Int)] w fun e w' => e = .returned (.int .u8 (x : Int)) ∧ w = w' := by
  have h1 : IntKind.i64.wrap (((x + 1 : Nat) : Int) - 1) = (x : Int) := by rw [show ((x + 1 : Nat) : Int) - 1 = x by omega]; exact IntWalk.i64_in _ (by omega)
  go_enter Try.func45, Try.ntmps45
  go_wp2_with fail
  go_ret
  exact ⟨rfl, rfl⟩
set_option maxRecDepth 100000 in
set_option maxHeartbeats 2000000 in
theorem isText_any (s : ByteArray) (w : World) (b : Bool) (hb : decide (s.size ≤ 4096) = b) : Calls Try.prog 27 #[.string s] w fun e w' => e = .returned (.bool b) ∧ w = w' := by
  go_enter Try.func27, Try.ntmps27
  go_wp2_with fail
  go_ret
  exact ⟨ret_bool (by rw [← hb]; exact decide_eq_decide.2 (by omega)), rfl⟩

set_option maxRecDepth 100000 in
set_option maxHeartbeats 4000000 in
theorem pair_any (x n L BL BT BR gr cr : Nat) (s : ByteArray) (r : Nat → Nat) (w : World) (hx : x < n) (hn : s.size = n) (hnb : n ≤ 4096) (hL : 1 ≤ L ∧ L ≤ 8192) (hl : w.cell? ⟨BL, 0, none⟩ = some (.int .i64 (L : Int))) (ht : w.cell? ⟨BT, 0, none⟩ = some (.string s)) (hr : w.cell? ⟨BR, 0, none⟩ = some (.slice (some ⟨gr, 0, none⟩) n cr)) (hF : FB 3 w gr n (fun i => (r i : Int))) :
    Calls Try.prog 38 #[.int .i64 (x : Int), .pointer (some ⟨BL, 0, none⟩), .pointer (some ⟨BT, 0, none⟩), .pointer (some ⟨BR, 0, none⟩)] w fun e w' => e = .returned (.agg #[.int .i64 ((pairR n L r x).1 : Int), .int .i64 ((pairR n L r x).2 : Int)]) ∧ Gr w w' := by
  have HF := Lib.hid hF
  have HN := Lib.hid hn
  have HW0 := Lib.hid ((Gr.refl w).alloc (.cells #[.int .i64 0, .int .i64 0] 63))
  clear hF hn
  go_enter Try.func38, Try.ntmps38
  go_upto_region 1 with fail
  generalize hW1 : World.alloc w _ = w1
  have hg1 : Gr w w1 := by rw [← hW1]; exact (Gr.refl w).alloc _
  have hB : Blk w1 w.heap.size 63 #[.int .i64 0, .int .i64 0] := by rw [← hW1]; exact Blk.new w _ _ rfl
  obtain ⟨Z, hZ⟩ : ∃ Z, w.heap.size = Z := ⟨_, rfl⟩
  have hle : w.heap.size ≤ Z := Nat.le_of_eq hZ
  rw [hZ] at hB ⊢
  have HB := Lib.hid hB
  have HLE := Lib.hid hle
  clear hW1 hB hle hZ
  have hl1 := hg1.keep hl
  have ht1 := hg1.keep ht
  have hr1 := hg1.keep hr
  have HF1 := Lib.hid (HF.out.keep hg1)
  have hsz : s.size ≤ 4096 := by rw [HN.out]; exact hnb
  have HNS := Lib.hid (HN.out)
  clear hl ht hr HF HN
  by_cases hlt : x + L < n
  · have HV : Hid (pairR n L r x = (r x, r (x + L))) := Lib.hid (by unfold pairR; rw [if_pos hlt])
    have c1 := HF1.out.at hx
    have c2 := HF1.out.at hlt
    have hxl : (x : Int) + (L : Int) < (s.size : Int) := by rw [HNS.out]; omega
    have hxi : (x : Int) < (n : Int) := by omega
    have hxl2 : (x : Int) + (L : Int) < (n : Int) := by omega
    have f1 : IntKind.i64.wrap ((x : Int) + (L : Int)) = (x : Int) + (L : Int) := IntWalk.i64_in _ (by omega)
    have f2 : (0 : Int) ≤ (x : Int) + (L : Int) := by omega
    have f3 : ((x : Int) + (L : Int)).toNat = x + L := by omega
    go_upto_region 2 with fail
    go_still_tail 11, (by kernel_rfl)
    change wpList _ _ _ _ _ w1.drew
    have hgd : Gr w1 w1.drew := (Gr.refl w1).drew
    have HBd := Lib.hid (HB.out.keep hgd)
    have hgw := hg1.trans hgd
    generalize w1.drew = wd at HBd hgw ⊢
    have b0 := HBd.out.cell 0
    have b1 := HBd.out.cell 1
    have q0 := HBd.out.free 0
    have q1 := HBd.out.free 1
    have hput := (HBd.out.put 0 (.int .i64 (r x : Int))).put 1 (.int .i64 (r (x + L) : Int))
    have HPUT := Lib.hid (And.intro (hput.cell 0) (hput.cell 1))
    have HG : Hid (Gr w ((wd.setCell ⟨Z, 0, none⟩ (.int .i64 (r x : Int))).setCell ⟨Z, 1, none⟩ (.int .i64 (r (x + L) : Int)))) := Lib.hid (Gr.setCell (Gr.setCell hgw HLE.out _) HLE.out _)
    clear hput hl1 ht1 hr1 c1 c2 f1 f2 f3 hgd hg1
    go_wp2_with fail
    obtain ⟨u0, u1⟩ := HPUT.out
    simp at u0 u1
    refine bodyPost_ret (v := .agg #[.int .i64 (r x : Int), .int .i64 (r (x + L) : Int)]) ?_ ?_ ?_
    · simp [results, Try.results38, go_sem, u0, u1]
    · rfl
    · exact ⟨by rw [HV.out], HG.out⟩
  · have HV : Hid (pairR n L r x = (r x, 0)) := Lib.hid (by unfold pairR; rw [if_neg hlt])
    have c1 := HF1.out.at hx
    have hxl : ¬ (x : Int) + (L : Int) < (s.size : Int) := by rw [HNS.out]; omega
    have hxi : (x : Int) < (n : Int) := by omega
    have f1 : IntKind.i64.wrap ((x : Int) + (L : Int)) = (x : Int) + (L : Int) := IntWalk.i64_in _ (by omega)
    have b0 := HB.out.cell 0
    have b1 := HB.out.cell 1
    have q0 := HB.out.free 0
    have q1 := HB.out.free 1
    have hput := (HB.out.put 0 (.int .i64 (r x : Int))).put 1 (.int .i64 0)
    have HPUT := Lib.hid (And.intro (hput.cell 0) (hput.cell 1))
    have HG : Hid (Gr w ((w1.setCell ⟨Z, 0, none⟩ (.int .i64 (r x : Int))).setCell ⟨Z, 1, none⟩ (.int .i64 0))) := Lib.hid (Gr.setCell (Gr.setCell hg1 HLE.out _) HLE.out _)
    clear hput
    go_wp2_with fail
    obtain ⟨u0, u1⟩ := HPUT.out
    simp at u0 u1
    refine bodyPost_ret (v := .agg #[.int .i64 (r x : Int), .int .i64 0]) ?_ ?_ ?_
    · simp [results, Try.results38, go_sem, u0, u1]
    · rfl
    · exact ⟨by rw [HV.out]; rfl, HG.out⟩

/-- The closures of orderOf that ask the pair for its second and its first number. -/
def PairV (BL BT BR : Nat) : Value := .func (.func 38) #[] #[.pointer (some ⟨BL, 0, none⟩), .pointer (some ⟨BT, 0, none⟩), .pointer (some ⟨BR, 0, none⟩)]
set_option maxRecDepth 100000 in
set_option maxHeartbeats 2000000 in
theorem second_any (x BP BL BT BR : Nat) (p q : Int) (w : World) (hp : w.cell? ⟨BP, 0, none⟩ = some (PairV BL BT BR)) (hc : Calls Try.prog 38 #[.int .i64 (x : Int), .pointer (some ⟨BL, 0, none⟩), .pointer (some ⟨BT, 0, none⟩), .pointer (some ⟨BR, 0, none⟩)] w fun e w' => e = .returned (.agg #[.int .i64 p, .int .i64 q]) ∧ Gr w w') :
    Calls Try.prog 40 #[.int .i64 (x : Int), .pointer (some ⟨BP, 0, none⟩)] w fun e w' => e = .returned (.int .i64 q) ∧ Gr w w' := by
  have HC := Lib.hid hc
  unfold PairV at hp
  have i1 : ∀ w, (Instr.index 63 (.agg #[.int .i64 p, .int .i64 q]) (.int .i64 1)).run Try.prog w = .ok (.int .i64 q) w := fun _ => by kernel_rfl
  clear hc
  go_enter Try.func40, Try.ntmps40
  go_wp2_with fail
  refine HC.out.mono ?_
  rintro e w1 ⟨rfl, hg⟩
  go_wp2_with fail
  go_ret
  exact ⟨rfl, hg⟩
set_option maxRecDepth 100000 in
set_option maxHeartbeats 2000000 in
theorem first_any (x BP BL BT BR : Nat) (p q : Int) (w : World) (hp : w.cell? ⟨BP, 0, none⟩ = some (PairV BL BT BR)) (hc : Calls Try.prog 38 #[.int .i64 (x : Int), .pointer (some ⟨BL, 0, none⟩), .pointer (some ⟨BT, 0, none⟩), .pointer (some ⟨BR, 0, none⟩)] w fun e w' => e = .returned (.agg #[.int .i64 p, .int .i64 q]) ∧ Gr w w') :
    Calls Try.prog 41 #[.int .i64 (x : Int), .pointer (some ⟨BP, 0, none⟩)] w fun e w' => e = .returned (.int .i64 p) ∧ Gr w w' := by
  have HC := Lib.hid hc
  unfold PairV at hp
  have i1 : ∀ w, (Instr.index 63 (.agg #[.int .i64 p, .int .i64 q]) (.int .i64 0)).run Try.prog w = .ok (.int .i64 p) w := fun _ => by kernel_rfl
  clear hc
  go_enter Try.func41, Try.ntmps41
  go_wp2_with fail
  refine HC.out.mono ?_
  rintro e w1 ⟨rfl, hg⟩
  go_wp2_with fail
  go_ret
  exact ⟨rfl, hg⟩

end Go.Proofs.Ytmcefcdnfngndaa
