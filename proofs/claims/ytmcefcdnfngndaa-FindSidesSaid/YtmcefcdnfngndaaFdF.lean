/- Layer 7: slices.Values at a list of ints, occurrences. -/
import Derived.Test.YtmcefcdnfngndaaFdT
import Derived.RangeFuncNested
import Derived.RangeFuncBound
import Derived.RangeFuncCalls
import Derived.RangeFuncLeaves
import Derived.RangeFuncBox
import Derived.Shelf.Abstract
import Derived.Shelf.RegionOpen
import Derived.WalkKit
import Derived.OwnWalkIn
import Derived.TacticsInMore
import Derived.LoopNIn
import Derived.LoopIn
import Derived.Maps.AppendAt
namespace Go.Proofs.Ytmcefcdnfngndaa
open Go.RowKit Go.Shelf
attribute [local go_sem] Oper.semAt_some
set_option linter.unusedSimpArgs false

/-- The ints of a slice, in a block below n₀. -/
def SlI (n₀ : Nat) (W : World) (A : Option Addr) (zs : List Int) : Prop := ∀ k, k < zs.length → ∃ b off, A = some ⟨b, off, none⟩ ∧ b < n₀ ∧ W.cell? ⟨b, off + k, none⟩ = some (.int .i64 (zs[k]?.getD 0))
theorem SlI.below {n₀ : Nat} {V W : World} {A : Option Addr} {zs : List Int} (h : SlI n₀ V A zs) (hb : Below n₀ V W) : SlI n₀ W A zs := fun k hk => by
  obtain ⟨b, off, e, h1, h2⟩ := h k hk
  exact ⟨b, off, e, h1, (hb.cell (p := ⟨b, off + k, none⟩) h1).trans h2⟩
theorem take_more (zs : List Int) {k : Nat} (hk : k < zs.length) : zs.take (k + 1) = zs.take k ++ [zs[k]?.getD 0] := by
  rw [List.take_succ_eq_append_getElem hk, List.getElem?_eq_getElem hk]; rfl

set_option maxRecDepth 1000000 in
set_option maxHeartbeats 4000000 in
/-- The iterator over a slice of ints gives them in their order. -/
theorem iter_stops (n : Nat) (hn : 1 ≤ n) (Bs n₀ : Nat) (A : Option Addr) (cap : Nat) (zs : List Int) (hreach : zs.length ≤ 4097) (w : World) (hBs : Bs < w.heap.size) (hn₀ : n₀ ≤ w.heap.size)
    (hc : w.cell? ⟨Bs, 0, none⟩ = some (.slice A zs.length cap)) (hI : SlI n₀ w A zs) :
    SeqStopsK Fence.wide n Try.prog 55 #[.pointer (some ⟨Bs, 0, none⟩)] (fun x : Int => #[Value.int .i64 x]) (Below n₀) (fun ys => ys = zs) (fun pre => pre <+: zs) zs.length w := fun l J Jx W hW _ _ hY h0 => by
  have hBs2 := (hW.cell (p := ⟨Bs, 0, none⟩) hBs).trans hc
  have hI2 := hI.below (hW.mono hn₀)
  obtain ⟨m, hm⟩ : ∃ m, zs.length = m := ⟨_, rfl⟩
  rw [hm] at hBs2 hY
  have HM := Lib.hid hm
  have hmb : m ≤ 4097 := by omega
  clear hm
  refine callsIn_of_wp Try.func55 rfl trivial ?_ rfl
  simp only [Try.ntmps55, List.size_toArray, List.length_cons, List.length_nil, Nat.reduceAdd, Nat.reduceSub, Array.replicate_succ, Array.replicate_zero, List.push_toArray, List.append_toArray, List.nil_append, List.cons_append]
  gi_wp2
  gi_loopw [7] (fun i wr => ∃ k : Nat, k ≤ m ∧ i = .int .i64 k ∧ J (zs.take k) wr ∧ Below n₀ W wr)
    (fun i _ => m - (intOf i).toNat)
  case atStart => exact ⟨0, Nat.zero_le _, rfl, h0, Below.refl _ _⟩
  case round =>
    obtain ⟨k, hk, rfl, hJs, hnx⟩ := hrel
    by_cases hlt : k < m
    · obtain ⟨b, off, rfl, hb, hcx⟩ := (hI2.below hnx) k (by rw [HM.out]; exact hlt)
      obtain ⟨fn, tmps, assign, body, hy, hR⟩ := hY _ (zs[k]?.getD 0) wr hJs (by have := HM.out; rw [List.length_take]; omega)
      gi_wp2
      refine hR.mono ?_
      rintro e W3 (⟨rfl, hJ3, hk3⟩ | ⟨rfl, hJx3⟩)
      · gi_wp2
        go_roundw
        case rel => exact ⟨k + 1, by omega, by go_num, by rw [take_more zs (by have := HM.out; omega)]; exact hJ3, hnx.trans hk3⟩
        case measure => simp [intOf]; omega
      · gi_wp2
        refine bodyPost_ret (results_none rfl _ _ _) rfl ?_
        exact ⟨⟨_, rfl⟩, .inr ⟨_, by rw [← take_more zs (by have := HM.out; omega)]; exact List.take_prefix _ _, hJx3⟩⟩
    · obtain rfl : k = m := by omega
      gi_wp2
      go_end0
      exact ⟨⟨_, rfl⟩, .inl ⟨_, by have := HM.out; rw [List.take_of_length_le (by omega)], hJs⟩⟩

set_option maxRecDepth 100000 in
set_option maxHeartbeats 2000000 in
theorem values_any (A : Option Addr) (n c : Nat) (w : World) :
    Calls Try.prog 46 #[.slice A n c] w fun e w' => ∃ Bs, e = .returned (.func (.func 55) #[] #[.pointer (some ⟨Bs, 0, none⟩)]) ∧ w'.cell? ⟨Bs, 0, none⟩ = some (.slice A n c) ∧ Bs < w'.heap.size ∧ Gr w w' := by
  go_enter Try.func46, Try.ntmps46
  go_upto_region 1 with fail
  generalize hW1 : World.alloc w _ = w1
  have hg1 : Gr w w1 := by rw [← hW1]; exact (Gr.refl w).alloc _
  have c0 : w1.cell? ⟨w.heap.size, 0, none⟩ = some (.slice A n c) := by rw [← hW1]; exact alloc_new rfl rfl
  have hl : w.heap.size < w1.heap.size := World.block_lt_of_cell? w1 _ c0
  clear hW1
  go_wp2_with fail
  go_ret
  exact ⟨_, rfl, c0, hl, hg1⟩

set_option maxRecDepth 1000000 in
set_option maxHeartbeats 4000000 in
/-- An iterator over the positions where the pattern occurs, in the order of their suffixes. -/
theorem occurrences_any (s p : ByteArray) (n c d : Nat) (o : List Nat) (A B : Option Addr) (w : World) (hX : Idx s n o A c B d w) (n₀ : Nat) (hlow : ∀ b off, A = some ⟨b, off, none⟩ → 0 < n → b < n₀) :
    Calls Try.prog 34 #[.agg #[.string s, .slice A n c, .slice B n d], .string p] w fun e w' => ∃ (Bs fr t : Nat) (A' : Option Addr) (c' : Nat), e = .returned (.func (.func 55) #[] #[.pointer (some ⟨Bs, 0, none⟩)]) ∧
      PlaceP (bts s) o (bts p) fr t ∧ w'.cell? ⟨Bs, 0, none⟩ = some (.slice A' (t - fr) c') ∧ SlI n₀ w' A' (nI ((o.drop fr).take (t - fr))) ∧ Bs < w'.heap.size ∧ Gr w w' := by
  have HX := Lib.hid hX
  have HPL := Lib.hid (fun W (hW : Gr w W) => places_any s p n c d o A B W (hX.keep hW))
  have hnb : n ≤ 4096 := hX.le
  have hAc : n ≤ c := hX.leA
  have hbig : c ≤ 4611686018427387904 := hX.big
  have HLOW := Lib.hid hlow
  clear hX hlow
  go_enter Try.func34, Try.ntmps34
  go_upto_region 1 with fail
  generalize hW1 : World.alloc w _ = w1
  obtain ⟨X, hXX⟩ : ∃ X, w.heap.size = X := ⟨_, rfl⟩
  rw [hXX]
  have hg1 : Gr w w1 := by rw [← hW1]; exact (Gr.refl w).alloc _
  have HBX : Hid (Blk w1 X 25 #[.string s, .slice A n c, .slice B n d]) := Lib.hid (by rw [← hW1]; exact Blk.new w _ _ hXX)
  have z0 := HBX.out.cell 0
  have z1 := HBX.out.cell 1
  have z2 := HBX.out.cell 2
  have HP1 := Lib.hid (HPL.out w1 hg1)
  clear hW1 hXX
  go_wp2_with fail
  refine HP1.out.mono ?_
  rintro e w2 ⟨fr, t, rfl, hP, hg2⟩
  have h1 := hP.le
  have h2 := hP.top
  rw [HX.out.olen] at h2
  have HP := Lib.hid hP
  have hG := hg1.trans hg2
  have hb2 := HBX.out.keep hg2
  clear z0 z1 z2 HP1 HPL hP HBX
  have z1 := hb2.cell 1
  have hi1 : (fr : Int) ≤ (t : Int) := by omega
  have hi2 : (t : Int) ≤ (n : Int) := by omega
  have hi3 : (t : Int) ≤ (c : Int) := by omega
  have hRO := HX.out.ro.keep hG
  have HRO := Lib.hid hRO
  clear hRO hb2
  cases A with
  | none =>
    obtain ⟨hn0, hc0⟩ := HX.out.noA rfl
    subst hn0 hc0
    obtain rfl : t = 0 := by omega
    obtain rfl : fr = 0 := by omega
    go_wp2_with fail
    refine (values_any none 0 0 w2).mono ?_
    rintro e w3 ⟨Bs, rfl, c0, hlt, hg3⟩
    have hG3 := hG.trans hg3
    clear z1
    go_wp2_with fail
    go_ret
    exact ⟨Bs, 0, 0, none, 0, rfl, HP.out, c0, fun k hk => by simp [nI] at hk, hlt, by first | exact hG3 | exact hG3.drewN _⟩
  | some a =>
    obtain ⟨b, off, sp⟩ := a
    obtain rfl : sp = none := HX.out.spA _ rfl
    have HLEN : Hid (((o.drop fr).take (t - fr)).length = t - fr) := Lib.hid (by rw [List.length_take, List.length_drop, HX.out.olen]; omega)
    by_cases hcf : c = fr
    · subst hcf
      have ht0 : t - c = 0 := by omega
      go_wp2_with fail
      refine (values_any (some ⟨b, off, none⟩) 0 0 w2).mono ?_
      rintro e w3 ⟨Bs, rfl, c0, hlt, hg3⟩
      have hG3 := hG.trans hg3
      clear z1
      go_wp2_with fail
      go_ret
      exact ⟨Bs, c, t, some ⟨b, off, none⟩, 0, rfl, HP.out, by rw [ht0]; exact c0, fun k hk => by
        have := HLEN.out
        rw [nI_len] at hk; omega, hlt, by first | exact hG3 | exact hG3.drewN _⟩
    · have hcf2 : ¬ (c : Int) = (fr : Int) := by omega
      go_wp2_with fail
      refine (values_any (some ⟨b, off + fr, none⟩) (t - fr) (c - fr) w2).mono ?_
      rintro e w3 ⟨Bs, rfl, c0, hlt, hg3⟩
      have hG3 := hG.trans hg3
      clear z1
      go_wp2_with fail
      go_ret
      refine ⟨Bs, fr, t, some ⟨b, off + fr, none⟩, c - fr, rfl, HP.out, c0, fun k hk => ?_, hlt, by first | exact hG3 | exact hG3.drewN _⟩
      have hl := HLEN.out
      rw [nI_len, hl] at hk
      have hR3 := HRO.out.keep hg3
      obtain ⟨b', off', e', hc3⟩ := Nats_at hR3 (i := fr + k) (by rw [HX.out.olen]; omega)
      obtain ⟨rfl, rfl⟩ : b = b' ∧ off = off' := by simpa using e'
      refine ⟨b, off + fr, rfl, HLOW.out b off rfl (by omega), ?_⟩
      rw [Nat.add_assoc, hc3]
      have e3 : (nI ((o.drop fr).take (t - fr)))[k]?.getD 0 = ((o.getD (fr + k) 0 : Nat) : Int) := by
        have := nI_at ((o.drop fr).take (t - fr)) k
        rw [List.getD_eq_getElem?_getD] at this
        rw [this, List.getD_eq_getElem?_getD, List.getElem?_take, if_pos hk, List.getElem?_drop, ← List.getD_eq_getElem?_getD]
      rw [e3]

end Go.Proofs.Ytmcefcdnfngndaa
