/- Layer 4: lists of positions and of spans, checked one by one.
Layer 4: areApart, for benches. -/
import Derived.Test.YtfmojiaaoebodaaBnChkM
import Derived.Test.YtfmojiaaoebodaaBnSearch
import Derived.Test.YtfmojiaaoebodaaBnSorted
namespace Go.Proofs.Ytfmojiaaoebodaa
open Go.RowKit
set_option linter.unusedSimpArgs false

/-- A call that says whether something is so. -/
def BoolP (p : Prop) (w : World) (e : Ending) (w' : World) : Prop := ∃ r : Bool, e = .returned (.bool r) ∧ (r = true ↔ p) ∧ Gr w w'
theorem nxtJ_succ (J : List Int) (k : Nat) : nxtJ J (k + 1) = J.getD k 0 + 1 := by simp [nxtJ]
theorem endS_succ (S : List (Int × Int)) (k : Nat) : endS S (k + 1) = (S.getD k (0, 0)).2 := by simp [endS]

set_option maxRecDepth 100000 in
set_option maxHeartbeats 4000000 in
theorem ascending_any (A : Option Addr) (m c N : Nat) (J : List Int) (w : World) (hm : J.length = m) (hb : m ≤ 281474976710656) (hN : N ≤ 281474976710656) (hp : Ints w A J) :
    Calls Try.prog 61 #[.slice A m c, .int .i64 (N : Int)] w (BoolP (AscOk N J) w) := by
  have HN := Lib.hid hm
  have HP := Lib.hid hp
  clear hm hp
  go_enter Try.func61, Try.ntmps61
  go_wp2_with fail
  go_loopw [5, 10] (fun q z wr => ∃ (k : Nat) (L : Int), k ≤ m ∧ z = .int .i64 (k : Int) ∧ q = .int .i64 L ∧ (0 ≤ L ∧ L ≤ 281474976710656) ∧ Hid (nxtJ J k = L) ∧ Hid (∀ i, i < k → okPs N J i) ∧ Gr w wr) (fun _ z _ => m - (intOf z).toNat)
  case atStart => exact ⟨0, 0, Nat.zero_le _, rfl, rfl, ⟨by omega, by omega⟩, Lib.hid rfl, Lib.hid (fun i h => by omega), Gr.refl _⟩
  case round =>
    obtain ⟨k, L, hk, rfl, rfl, ⟨hL0, hL1⟩, hE, hA, hgr⟩ := hrel
    by_cases hlt : k < m
    · obtain ⟨b, off, rfl, c0⟩ := Ints_at (HP.out.keep hgr) (i := k) (by rw [HN.out]; exact hlt)
      have HS := Lib.hid (nxtJ_succ J k)
      have HO : Hid (okPs N J k ↔ L ≤ J.getD k 0 ∧ J.getD k 0 < (N : Int)) := Lib.hid (by unfold okPs; rw [hE.out])
      generalize J.getD k 0 = x at c0 HS HO
      have hki : (k : Int) < (m : Int) := by omega
      by_cases h1 : x < L
      · go_wp2_with fail
        try rw [Exit.noGoto_ret]
        go_ret
        exact ⟨false, rfl, no_of (fun h => by have := HO.out.1 (h k (by rw [HN.out]; exact hlt)); omega), hgr⟩
      · by_cases h2 : (N : Int) ≤ x
        · go_wp2_with fail
          try rw [Exit.noGoto_ret]
          go_ret
          exact ⟨false, rfl, no_of (fun h => by have := HO.out.1 (h k (by rw [HN.out]; exact hlt)); omega), hgr⟩
        · have HA2 : Hid (∀ i, i < k + 1 → okPs N J i) := Lib.hid (fun i hi => by
            by_cases e : i = k
            · rw [e]; exact HO.out.2 ⟨by omega, by omega⟩
            · exact hA.out i (by omega))
          clear HO
          go_wp2_with fail
          go_roundw
          case rel => exact ⟨k + 1, x + 1, by omega, by go_num, rfl, ⟨by omega, by omega⟩, Lib.hid HS.out, HA2, hgr⟩
          case measure => simp [intOf]; omega
    · obtain rfl : k = m := by omega
      go_wp2_with fail
      try rw [Exit.noGoto_ret]
      go_ret
      exact ⟨true, rfl, yes_of (fun i hi => hA.out i (by rw [HN.out] at hi; exact hi)), hgr⟩

set_option maxRecDepth 100000 in
set_option maxHeartbeats 4000000 in
theorem areSpans_any (A : Option Addr) (m c : Nat) (S : List (Int × Int)) (w : World) (hm : S.length = m) (hb : m ≤ 281474976710656) (hp : Pts w A S) :
    Calls Try.prog 62 #[.slice A m c] w (BoolP (SpansOk S) w) := by
  have HN := Lib.hid hm
  have HP := Lib.hid hp
  clear hm hp
  by_cases hbig : 4096 < m
  · have hbi : (4096 : Int) < (m : Int) := by omega
    go_enter Try.func62, Try.ntmps62
    go_wp2_with fail
    go_ret
    exact ⟨false, rfl, no_of (fun h => by have := h.1; rw [HN.out] at this; omega), Gr.refl _⟩
  · have hbi : ¬ (4096 : Int) < (m : Int) := by omega
    go_enter Try.func62, Try.ntmps62
    go_wp2_with fail
    go_loopw [3, 11] (fun q z wr => ∃ (k : Nat) (L : Int), k ≤ m ∧ z = .int .i64 (k : Int) ∧ q = .int .i64 L ∧ Hid (endS S k = L) ∧ Hid (∀ i, i < k → okSp S i) ∧ Gr w wr) (fun _ z _ => m - (intOf z).toNat)
    case atStart => exact ⟨0, 0, Nat.zero_le _, rfl, rfl, Lib.hid rfl, Lib.hid (fun i h => by omega), Gr.refl _⟩
    case round =>
      obtain ⟨k, L, hk, rfl, rfl, hE, hA, hgr⟩ := hrel
      by_cases hlt : k < m
      · obtain ⟨b, off, rfl, c0, c1⟩ := Pts_at (HP.out.keep hgr) (k := k) (by rw [HN.out]; exact hlt)
        have HS := Lib.hid (endS_succ S k)
        have HO : Hid (okSp S k ↔ L ≤ (S.getD k (0, 0)).1 ∧ (S.getD k (0, 0)).1 < (S.getD k (0, 0)).2 ∧ (S.getD k (0, 0)).2 ≤ 1048576) := Lib.hid (by unfold okSp; rw [hE.out])
        generalize S.getD k (0, 0) = p at c0 c1 HS HO
        obtain ⟨x, y⟩ := p
        dsimp only at c0 c1 HS HO
        have hki : (k : Int) < (m : Int) := by omega
        by_cases h1 : x < L
        · go_wp2_with fail
          try rw [Exit.noGoto_ret]
          go_ret
          exact ⟨false, rfl, no_of (fun h => by have := HO.out.1 (h.2 k (by rw [HN.out]; exact hlt)); omega), by (repeat (first | exact Gr.refl _ | assumption | (refine Gr.drew ?_) | (refine Gr.drewN ?_ _) | (refine Gr.alloc ?_ _) | (refine Gr.trans ?_ (by assumption))))⟩
        · by_cases h2 : y ≤ x
          · go_wp2_with fail
            try rw [Exit.noGoto_ret]
            go_ret
            exact ⟨false, rfl, no_of (fun h => by have := HO.out.1 (h.2 k (by rw [HN.out]; exact hlt)); omega), by (repeat (first | exact Gr.refl _ | assumption | (refine Gr.drew ?_) | (refine Gr.drewN ?_ _) | (refine Gr.alloc ?_ _) | (refine Gr.trans ?_ (by assumption))))⟩
          · by_cases h3 : 1048576 < y
            · go_wp2_with fail
              try rw [Exit.noGoto_ret]
              go_ret
              exact ⟨false, rfl, no_of (fun h => by have := HO.out.1 (h.2 k (by rw [HN.out]; exact hlt)); omega), by (repeat (first | exact Gr.refl _ | assumption | (refine Gr.drew ?_) | (refine Gr.drewN ?_ _) | (refine Gr.alloc ?_ _) | (refine Gr.trans ?_ (by assumption))))⟩
            · have HA2 : Hid (∀ i, i < k + 1 → okSp S i) := Lib.hid (fun i hi => by
                by_cases e : i = k
                · rw [e]; exact HO.out.2 ⟨by omega, by omega, by omega⟩
                · exact hA.out i (by omega))
              clear HO
              go_wp2_with fail
              go_roundw
              case rel => exact ⟨k + 1, y, by omega, by go_num, rfl, Lib.hid HS.out, HA2, by (repeat (first | exact Gr.refl _ | assumption | (refine Gr.drew ?_) | (refine Gr.drewN ?_ _) | (refine Gr.alloc ?_ _) | (refine Gr.trans ?_ (by assumption))))⟩
              case measure => simp [intOf]; omega
      · obtain rfl : k = m := by omega
        go_wp2_with fail
        try rw [Exit.noGoto_ret]
        go_ret
        exact ⟨true, rfl, yes_of ⟨by rw [HN.out]; omega, fun i hi => hA.out i (by rw [HN.out] at hi; exact hi)⟩, hgr⟩

/-- The time beside spans, while they are read. -/
theorem besS_snoc (S : List (Int × Int)) (p : Int × Int) (j : Jb) : besS (S ++ [p]) j = besS S j - ovr j.1 j.2.1 p.1 p.2 := by
  unfold besS; rw [lsum_snoc]; omega
theorem besS_nil (j : Jb) : besS [] j = j.2.1 - j.1 := by unfold besS; simp [lsum]
theorem besS_bd {j : Jb} (hj : 0 ≤ j.1 ∧ j.1 < j.2.1 ∧ j.2.1 ≤ 1048576) {S : List (Int × Int)} (h : ∀ p ∈ S, p.1 < p.2) : -1048576 * (S.length : Int) ≤ besS S j ∧ besS S j ≤ 1048576 := by
  have := lsum_bd (f := fun p : Int × Int => ovr j.1 j.2.1 p.1 p.2) (lo := 0) (hi := 1048576) S (fun p hp => ovr_bd hj.1 hj.2.2 (h p hp))
  unfold besS
  omega

set_option maxRecDepth 100000 in
set_option maxHeartbeats 8000000 in
theorem timeBeside_any (j : Jb) (hj : 0 ≤ j.1 ∧ j.1 < j.2.1 ∧ j.2.1 ≤ 1048576) (A : Option Addr) (m c : Nat) (S : List (Int × Int)) (w : World) (hm : S.length = m) (hb : m ≤ 4096) (hS : ∀ p ∈ S, 0 ≤ p.1 ∧ p.1 < p.2 ∧ p.2 ≤ 1048576) (hp : Pts w A S) :
    Calls Try.prog 63 #[.agg #[.int .i64 j.1, .int .i64 j.2.1, .int .i64 j.2.2], .slice A m c] w fun e w' => e = .returned (.int .i64 (besS S j)) ∧ Gr w w' := by
  have HN := Lib.hid hm
  have HP := Lib.hid hp
  have HS := Lib.hid hS
  have HJ := Lib.hid hj
  obtain ⟨x, y, z⟩ := j
  dsimp only at hj ⊢
  obtain ⟨hx0, hxy, hy1⟩ := hj
  clear hm hp hS
  have HB : Hid (∀ k, k ≤ m → -4294967296 ≤ besS (S.take k) (x, y, z) ∧ besS (S.take k) (x, y, z) ≤ 1048576) := Lib.hid (fun k hk => by
    have := besS_bd HJ.out (S := S.take k) (fun p hp => (HS.out p (List.mem_of_mem_take hp)).2.1)
    have h2 : (S.take k).length ≤ 4096 := by rw [List.length_take]; omega
    omega)
  go_enter Try.func63, Try.ntmps63
  go_wp2_with fail
  generalize hW1 : World.alloc w _ = w1
  have hg1 : Gr w w1 := by rw [← hW1]; exact (Gr.refl w).alloc _
  have hJ1 : Blk w1 w.heap.size 48 #[.int .i64 x, .int .i64 y, .int .i64 z] := by rw [← hW1]; exact heap_alloc_new w _
  generalize w.heap.size = D at hJ1 ⊢
  clear hW1
  have j0 := hJ1.cell 0
  have j1 := hJ1.cell 1
  have HJ1 := Lib.hid hJ1
  clear hJ1
  have i0 : IntKind.i64.wrap (y - x) = y - x := IntWalk.i64_in _ (by omega)
  go_wp2_with fail
  clear i0 j0 j1
  go_loopw [5, 15] (fun q z' wr => ∃ (k : Nat) (L : Int), k ≤ m ∧ z' = .int .i64 (k : Int) ∧ q = .int .i64 L ∧ Hid (besS (S.take k) (x, y, z) = L) ∧ Gr w1 wr) (fun _ z' _ => m - (intOf z').toNat)
  case atStart => exact ⟨0, y - x, Nat.zero_le _, rfl, rfl, Lib.hid (by rw [List.take_zero, besS_nil]), Gr.refl _⟩
  case round =>
    obtain ⟨k, L, hk, rfl, rfl, hE, hgr⟩ := hrel
    by_cases hlt : k < m
    · obtain ⟨b, off, rfl, c0, c1⟩ := Pts_at (HP.out.keep (hg1.trans hgr)) (k := k) (by rw [HN.out]; exact hlt)
      have hsn := take_snoc S (0, 0) k (by rw [HN.out]; exact hlt)
      have hbd := HB.out k hk
      have hbd2 := HB.out (k + 1) hlt
      rw [hE.out] at hbd
      rw [hsn, besS_snoc, hE.out] at hbd2
      have HE2 : Hid (besS (S.take (k + 1)) (x, y, z) = L - ovr x y (S.getD k (0, 0)).1 (S.getD k (0, 0)).2) := Lib.hid (by rw [hsn, besS_snoc, hE.out])
      have hpk := HS.out (S.getD k (0, 0)) (List.mem_of_getElem? (getD_of (0, 0) (by rw [HN.out]; exact hlt)))
      clear hsn
      generalize S.getD k (0, 0) = p at c0 c1 HE2 hbd2 hpk
      obtain ⟨u, v⟩ := p
      dsimp only at c0 c1 HE2 hbd2 hpk
      have hki : (k : Int) < (m : Int) := by omega
      have j0 : (wr.alloc (.cells #[.int .i64 u, .int .i64 v] 67)).cell? ⟨D, 0, none⟩ = some (.int .i64 x) := alloc_old ((HJ1.out.keep hgr).cell 0)
      have j1 : (wr.alloc (.cells #[.int .i64 u, .int .i64 v] 67)).cell? ⟨D, 1, none⟩ = some (.int .i64 y) := alloc_old ((HJ1.out.keep hgr).cell 1)
      obtain ⟨mn, hmn⟩ : ∃ q, min v y = q := ⟨_, rfl⟩
      obtain ⟨mx, hmx⟩ : ∃ q, max u x = q := ⟨_, rfl⟩
      obtain ⟨ov, hov⟩ : ∃ q, max 0 (mn - mx) = q := ⟨_, rfl⟩
      have hoe : ovr x y u v = ov := by unfold ovr; omega
      rw [hoe] at hbd2 HE2
      have e1 : (if v < y then v else y) = mn := by omega
      have e1' : (if y < v then y else v) = mn := by omega
      have e2 : (if x < u then u else x) = mx := by omega
      have e2' : (if u < x then x else u) = mx := by omega
      have e3 : (if 0 < mn - mx then mn - mx else 0) = ov := by omega
      have e3' : (if mn - mx < 0 then 0 else mn - mx) = ov := by omega
      have e3s : (if mx < mn then mn - mx else 0) = ov := by omega
      have f1 : IntKind.i64.wrap (mn - mx) = mn - mx := IntWalk.i64_in _ (by omega)
      have f2 : IntKind.i64.wrap (L - ov) = L - ov := IntWalk.i64_in _ (by omega)
      have h0 : 0 ≤ ov := by omega
      clear hoe hpk hbd hbd2
      go_wp2_with fail
      go_roundw
      case rel => exact ⟨k + 1, L - ov, by omega, by go_num, by first | rfl | go_num, HE2, by (repeat (first | exact Gr.refl _ | assumption | (refine Gr.drew ?_) | (refine Gr.drewN ?_ _) | (refine Gr.alloc ?_ _) | (refine Gr.trans ?_ (by assumption))))⟩
      case measure => simp [intOf]; omega
    · obtain rfl : k = m := by omega
      go_wp2_with fail
      try rw [Exit.noGoto_ret]
      go_ret
      refine ⟨ret_int ?_, hg1.trans hgr⟩
      rw [← hE.out, List.take_of_length_le (by rw [HN.out]; exact Nat.le_refl _)]

end Go.Proofs.Ytfmojiaaoebodaa

namespace Go.Proofs.Ytfmojiaaoebodaa
open Go.RowKit Go.Shelf Go.Lib Go.Sort
set_option linter.unusedSimpArgs false

theorem Quads_at {w : World} {A : Option Addr} {s : List Sl} (h : Rd 4 enc4 w A s) {k : Nat} (hk : k < s.length) : ∃ b off, A = some ⟨b, off, none⟩ ∧ w.cell? ⟨b, off + k * 4, none⟩ = some (.int .i64 (slA s k).1) ∧ w.cell? ⟨b, off + k * 4 + 1, none⟩ = some (.int .i64 (slA s k).2.1) ∧ w.cell? ⟨b, off + k * 4 + 2, none⟩ = some (.int .i64 (slA s k).2.2.1) ∧ w.cell? ⟨b, off + k * 4 + 3, none⟩ = some (.int .i64 (slA s k).2.2.2) := by
  obtain ⟨b, off, e, hc⟩ := h k _ (getD_of (0, 0, 0, 0) hk)
  exact ⟨b, off, e, hc 0 _ rfl, hc 1 _ rfl, hc 2 _ rfl, hc 3 _ rfl⟩
theorem ord_of (ow : Sl → Int) {sl : List Sl} (h : sl.Pairwise (fun x y => ltOf (cfS ow) y x = false)) : sl.Pairwise (ordS ow) := h.imp fun {a b} h => by
  rw [ltS] at h
  simp only [decide_eq_false_iff_not] at h
  unfold ordS
  omega

/-- What sorting gives. -/
def SortP (ow : Sl → Int) (s : List Sl) (n : Nat) (w : World) (e : Ending) (w' : World) : Prop :=
  ∃ A c sl, e = .returned (.slice A n c) ∧ List.length sl = n ∧ List.Perm sl s ∧ Rd 4 enc4 w' A sl ∧ sl.Pairwise (ordS ow) ∧ Gr w w'

set_option maxRecDepth 100000 in
theorem cloneS_nil (w : World) : Calls Try.prog 68 #[.slice none 0 0] w fun e w' => e = .returned (.slice none 0 0) ∧ w' = w := by
  have q : ∀ (w : World) (a : Option Addr) (n c n' c' : Nat), (binOp .eql 24 (.slice a n c) (.slice none n' c')).run Try.prog w = .ok (.bool a.isNone) w := fun w a n c n' c' => Lib.run_eql_slice_nil w _ _ a n c n' c' Try.underlying24
  go_enter Try.func68, Try.ntmps68
  go_wp2_with fail
  go_ret
  exact ⟨rfl, rfl⟩

set_option maxRecDepth 100000 in
theorem len64_zero (w : World) : Calls Try.prog 84 #[.int .u64 0] w fun e w' => e = .returned (.int .i64 0) ∧ w' = w := by
  go_enter Try.func84, Try.ntmps84
  go_wp2_with fail
  go_ret
  exact ⟨ret_int (by first | rfl | kernel_rfl), rfl⟩
set_option maxRecDepth 100000 in
theorem len_zero (w : World) : Calls Try.prog 73 #[.int .u64 0] w fun e w' => e = .returned (.int .i64 0) ∧ w' = w := by
  have H := Lib.hid (len64_zero w)
  go_enter Try.func73, Try.ntmps73
  go_wp2_with fail
  refine H.out.mono ?_
  rintro e w' ⟨rfl, rfl⟩
  go_wp2_with fail
  go_ret
  exact ⟨rfl, rfl⟩
set_option maxRecDepth 100000 in
theorem insS_nil (f : Value) (w : World) : Calls Try.prog 85 #[.slice none 0 0, .int .i64 0, .int .i64 0, f] w fun e w' => e = .returned (.tuple #[]) ∧ w' = w := by
  go_enter Try.func85, Try.ntmps85
  go_wp2_with fail
  go_loop [8] (fun z => z = .int .i64 1) (fun _ => 0)
  case atStart => rfl
  case round =>
    subst hrel
    go_wp2_with fail
    try rw [Exit.noGoto_ret]
    first | go_end0 | go_ret
    exact ⟨rfl, rfl⟩
set_option maxRecDepth 100000 in
theorem pdqS_nil (f : Value) (k : Int) (w : World) : Calls Try.prog 74 #[.slice none 0 0, .int .i64 0, .int .i64 0, .int .i64 k, f] w fun e w' => e = .returned (.tuple #[]) ∧ w' = w := by
  have H := Lib.hid (insS_nil f w)
  go_enter Try.func74, Try.ntmps74
  go_wp2_with fail
  go_loop [1, 2] (fun a b => a = .int .i64 0 ∧ b = .int .i64 0) (fun _ _ => 0)
  case atStart => exact ⟨rfl, rfl⟩
  case round =>
    obtain ⟨rfl, rfl⟩ := hrel
    go_wp2_with fail
    refine H.out.mono ?_
    rintro e w' ⟨rfl, rfl⟩
    go_wp2_with fail
    try rw [Exit.noGoto_ret]
    refine bodyPost_ret (v := .tuple #[]) ?_ ?_ ?_
    · simp [results, Try.results74, go_sem]
    · rfl
    · exact ⟨rfl, rfl⟩
set_option maxRecDepth 100000 in
theorem sortS_nil (f : Value) (w : World) : Calls Try.prog 69 #[.slice none 0 0, f] w fun e w' => e = .returned (.tuple #[]) ∧ w' = w := by
  have H := Lib.hid (len_zero w)
  have H2 := Lib.hid (pdqS_nil f 0 w)
  go_enter Try.func69, Try.ntmps69
  go_wp2_with fail
  refine H.out.mono ?_
  rintro e w' ⟨rfl, rfl⟩
  go_wp2_with fail
  refine H2.out.mono ?_
  rintro e w' ⟨rfl, rfl⟩
  go_wp2_with fail
  first | go_end0 | go_ret
  exact ⟨rfl, rfl⟩
set_option maxRecDepth 100000 in
theorem sortedS_nil (f : Value) (w : World) : Calls Try.prog 55 #[.slice none 0 0, f] w fun e w' => e = .returned (.slice none 0 0) ∧ w' = w := by
  have H := Lib.hid (cloneS_nil w)
  have H2 := Lib.hid (sortS_nil f w)
  go_enter Try.func55, Try.ntmps55
  go_wp2_with fail
  refine H.out.mono ?_
  rintro e w' ⟨rfl, rfl⟩
  go_wp2_with fail
  refine H2.out.mono ?_
  rintro e w' ⟨rfl, rfl⟩
  go_wp2_with fail
  go_ret
  exact ⟨rfl, rfl⟩

/-- Sorting by benches, of nothing, too. -/
theorem sorted_bench (A : Option Addr) (n c ob : Nat) (s : List Sl) (w : World) (hn : s.length = n) (hl : n ≤ 4096) (hA : A = none → n = 0 ∧ c = 0) (hsp : ∀ a, A = some a → a.spot = none) (hc : w.cell? ⟨ob, 0, none⟩ = some (.func (.func 57) #[] #[])) (hp : Rd 4 enc4 w A s) :
    Calls Try.prog 55 #[.slice A n c, .func (.func 70) #[] #[.pointer (some ⟨ob, 0, none⟩)]] w (SortP (fun x => x.2.1) s n w) := by
  rcases A with _ | ⟨b, off, sp⟩
  · obtain ⟨rfl, rfl⟩ := hA rfl
    have hs := List.eq_nil_of_length_eq_zero hn
    subst hs
    refine (sortedS_nil _ w).mono ?_
    rintro e w' ⟨rfl, rfl⟩
    exact ⟨_, _, [], rfl, rfl, List.Perm.refl _, Rd_nil _ _, List.Pairwise.nil, Gr.refl _⟩
  · obtain rfl : sp = none := hsp _ rfl
    refine (sortedS_bench b off n c ob s w hn hl hc hp).mono ?_
    rintro e w' ⟨g, c', sl, rfl, h1, h2, h3, h4, -, h5, -⟩
    exact ⟨_, _, sl, rfl, h1, h2, h3, ord_of _ h4, h5⟩

set_option maxRecDepth 100000 in
set_option maxHeartbeats 16000000 in
theorem apart_bench (A : Option Addr) (n c : Nat) (s : List Sl) (w : World) (hn : s.length = n) (hl : n ≤ 4096) (hA : A = none → n = 0 ∧ c = 0) (hsp : ∀ a, A = some a → a.spot = none) (hp : Rd 4 enc4 w A s) (hlen : ∀ x ∈ s, x.2.2.1 < x.2.2.2) :
    Calls Try.prog 59 #[.slice A n c, .func (.func 57) #[] #[]] w (BoolP (ApartOk (fun x => x.2.1) s) w) := by
  have HIO := Lib.hid (inOrder_any 57 w)
  have HSO := Lib.hid (fun (ob : Nat) W (hW : Gr w W) hc => sorted_bench A n c ob s W hn hl hA hsp hc (hp.keep hW))
  have HLN := Lib.hid hlen
  clear hn hA hsp hp hlen
  go_enter Try.func59, Try.ntmps59
  go_wp2_with fail
  refine HIO.out.mono ?_
  rintro e w1 ⟨ob, rfl, hob, -, hg1⟩
  have HS1 := Lib.hid (HSO.out ob w1 hg1 hob)
  clear hob HIO HSO
  go_wp2_with fail
  refine HS1.out.mono ?_
  rintro e w2 ⟨A2, c2, sl, rfl, hsl, hpm, hrd, hord, hg2⟩
  have HL := Lib.hid hsl
  have HR := Lib.hid hrd
  have HIF := Lib.hid (apart_iff hpm hord HLN.out)
  have hg := hg1.trans hg2
  clear HS1 hsl hpm hrd hord hg1 hg2 HLN
  go_wp2_with fail
  go_loopw [6] (fun z wr => ∃ j : Nat, (j + 1 ≤ n ∨ j = 0) ∧ z = .int .i64 ((j : Int) + 1) ∧ Hid (∀ i, i < j → nbO (fun x => x.2.1) (slA sl i) (slA sl (i + 1))) ∧ Gr w2 wr) (fun z _ => n + 1 - (intOf z).toNat)
  case atStart => exact ⟨0, Or.inr rfl, rfl, Lib.hid (fun i h => by omega), Gr.refl _⟩
  case round =>
    obtain ⟨j, hj, rfl, hA, hgr⟩ := hrel
    by_cases hlt : j + 1 < n
    · have hlti : (j : Int) + 1 < (n : Int) := by omega
      obtain ⟨b, off, rfl, x0, x1, x2, x3⟩ := Quads_at (HR.out.keep hgr) (k := j) (by rw [HL.out]; omega)
      obtain ⟨b', off', e, y0, y1, y2, y3⟩ := Quads_at (HR.out.keep hgr) (k := j + 1) (by rw [HL.out]; exact hlt)
      cases e
      obtain ⟨X, hX⟩ : ∃ X, slA sl j = X := ⟨_, rfl⟩
      obtain ⟨Y, hY⟩ : ∃ Y, slA sl (j + 1) = Y := ⟨_, rfl⟩
      have HNB : Hid (nbO (fun x => x.2.1) (slA sl j) (slA sl (j + 1)) ↔ (X.2.1 = Y.2.1 → X.2.2.2 ≤ Y.2.2.1)) := Lib.hid (by rw [hX, hY]; exact Iff.rfl)
      rw [hX] at x0 x1 x2 x3
      rw [hY] at y0 y1 y2 y3
      clear hX hY
      have HBX := Lib.hid (fun W => (benchOf_any X W).mono fun e w' h => And.intro h.1 (Gw.gr h.2))
      have HBY := Lib.hid (fun W => (benchOf_any Y W).mono fun e w' h => And.intro h.1 (Gw.gr h.2))
      obtain ⟨xa, xb, xf, xt⟩ := X
      obtain ⟨ya, yb, yf, yt⟩ := Y
      dsimp only at x0 x1 x2 x3 y0 y1 y2 y3 HNB HBX HBY
      have i1 : IntKind.i64.wrap ((j : Int) + 1 - 1) = (j : Int) := by rw [show (j : Int) + 1 - 1 = (j : Int) by omega]; exact IntWalk.i64_in _ (by omega)
      have i1s : IntKind.i64.wrap (j : Int) = (j : Int) := IntWalk.i64_in _ (by omega)
      have i2 : (0 : Int) ≤ (j : Int) := by omega
      have i3 : (j : Int) < (n : Int) := by omega
      have i4 : (0 : Int) ≤ (j : Int) + 1 := by omega
      have i5 : ((j : Int) + 1).toNat = j + 1 := by omega
      have i6 : IntKind.i64.wrap ((j : Int) + 1 + 1) = (j : Int) + 1 + 1 := IntWalk.i64_in _ (by omega)
      have KS : Hid (∀ W', Gr wr W' → Gr wr W' ∧ W'.cell? ⟨b, off + j * 4, none⟩ = some (.int .i64 xa) ∧ W'.cell? ⟨b, off + j * 4 + 1, none⟩ = some (.int .i64 xb) ∧ W'.cell? ⟨b, off + j * 4 + 2, none⟩ = some (.int .i64 xf) ∧ W'.cell? ⟨b, off + j * 4 + 3, none⟩ = some (.int .i64 xt) ∧ W'.cell? ⟨b, off + (j + 1) * 4, none⟩ = some (.int .i64 ya) ∧ W'.cell? ⟨b, off + (j + 1) * 4 + 1, none⟩ = some (.int .i64 yb) ∧ W'.cell? ⟨b, off + (j + 1) * 4 + 2, none⟩ = some (.int .i64 yf) ∧ W'.cell? ⟨b, off + (j + 1) * 4 + 3, none⟩ = some (.int .i64 yt)) := Lib.hid (fun W' hg => ⟨hg, hg.keep x0, hg.keep x1, hg.keep x2, hg.keep x3, hg.keep y0, hg.keep y1, hg.keep y2, hg.keep y3⟩)
      by_cases he : xb = yb
      · have hd : (xb == yb) = true := by simpa using he
        have HE := Lib.hid he
        clear he
        go_upto_region 5 with fail
        refine wp_region_held_drew (S := (fun W' => Gr wr W' ∧ W'.cell? ⟨b, off + j * 4, none⟩ = some (.int .i64 xa) ∧ W'.cell? ⟨b, off + j * 4 + 1, none⟩ = some (.int .i64 xb) ∧ W'.cell? ⟨b, off + j * 4 + 2, none⟩ = some (.int .i64 xf) ∧ W'.cell? ⟨b, off + j * 4 + 3, none⟩ = some (.int .i64 xt) ∧ W'.cell? ⟨b, off + (j + 1) * 4, none⟩ = some (.int .i64 ya) ∧ W'.cell? ⟨b, off + (j + 1) * 4 + 1, none⟩ = some (.int .i64 yb) ∧ W'.cell? ⟨b, off + (j + 1) * 4 + 2, none⟩ = some (.int .i64 yf) ∧ W'.cell? ⟨b, off + (j + 1) * 4 + 3, none⟩ = some (.int .i64 yt))) ?_ ?_ (fun hHeld => ?_)
        · kernel_rfl
        · ((try dsimp only); (first | exact hHeld | exact KS.out _ (Gr.refl wr).drew | exact KS.out _ HGA.out | exact KS.out _ HGB.out))
        refine take_in (i := 0) (v := ?_) (d := (some 17)) rfl rfl ?_ ?_ ?_ ?_ ?_ ?_ ?_ ?_
        rotate_left
        · kernel_rfl
        · kernel_rfl
        · kernel_rfl
        · (intro _ _ _ hq; exact hq)
        · rfl
        · (intro _w hSw; (try dsimp only at hSw); go_simp; try with_reducible rfl)
        · assumption
        try simp only [Act.put, List.setIfInBounds_toArray, List.set_cons_zero, List.set_cons_succ]
        refine take_in (i := 1) (v := ?_) (d := (some 18)) rfl rfl ?_ ?_ ?_ ?_ ?_ ?_ ?_ ?_
        rotate_left
        · kernel_rfl
        · kernel_rfl
        · kernel_rfl
        · (intro _ _ _ hq; exact hq)
        · rfl
        · (intro _w hSw; (try dsimp only at hSw); go_simp; try with_reducible rfl)
        · assumption
        try simp only [Act.put, List.setIfInBounds_toArray, List.set_cons_zero, List.set_cons_succ]
        refine take_in (i := 2) (v := ?_) (d := (some 19)) rfl rfl ?_ ?_ ?_ ?_ ?_ ?_ ?_ ?_
        rotate_left
        · kernel_rfl
        · kernel_rfl
        · kernel_rfl
        · (intro _ _ _ hq; exact hq)
        · rfl
        · (intro _w hSw; (try dsimp only at hSw); go_simp; try with_reducible rfl)
        · assumption
        try simp only [Act.put, List.setIfInBounds_toArray, List.set_cons_zero, List.set_cons_succ]
        refine take_in (i := 3) (v := ?_) (d := (some 20)) rfl rfl ?_ ?_ ?_ ?_ ?_ ?_ ?_ ?_
        rotate_left
        · kernel_rfl
        · kernel_rfl
        · kernel_rfl
        · (intro _ _ _ hq; exact hq)
        · rfl
        · (intro _w hSw; (try dsimp only at hSw); go_simp; try with_reducible rfl)
        · assumption
        try simp only [Act.put, List.setIfInBounds_toArray, List.set_cons_zero, List.set_cons_succ]
        refine take_in (i := 4) (v := ?_) (d := (some 21)) rfl rfl ?_ ?_ ?_ ?_ ?_ ?_ ?_ ?_
        rotate_left
        · kernel_rfl
        · kernel_rfl
        · kernel_rfl
        · (intro _ _ _ hq; exact hq)
        · rfl
        · (intro _w hSw; (try dsimp only at hSw); go_simp; try with_reducible rfl)
        · assumption
        try simp only [Act.put, List.setIfInBounds_toArray, List.set_cons_zero, List.set_cons_succ]
        refine take_in (i := 5) (v := ?_) (d := (some 22)) rfl rfl ?_ ?_ ?_ ?_ ?_ ?_ ?_ ?_
        rotate_left
        · kernel_rfl
        · kernel_rfl
        · kernel_rfl
        · (intro _ _ _ hq; exact hq)
        · rfl
        · (intro _w hSw; (try dsimp only at hSw); go_simp; try with_reducible rfl)
        · assumption
        try simp only [Act.put, List.setIfInBounds_toArray, List.set_cons_zero, List.set_cons_succ]
        refine take_in (i := 7) (v := ?_) (d := (some 24)) rfl rfl ?_ ?_ ?_ ?_ ?_ ?_ ?_ ?_
        rotate_left
        · kernel_rfl
        · kernel_rfl
        · kernel_rfl
        · (intro _ _ _ hq; exact hq)
        · rfl
        · (intro _w hSw; (try dsimp only at hSw); go_simp; try with_reducible rfl)
        · assumption
        try simp only [Act.put, List.setIfInBounds_toArray, List.set_cons_zero, List.set_cons_succ]
        refine take_in (i := 8) (v := ?_) (d := (some 25)) rfl rfl ?_ ?_ ?_ ?_ ?_ ?_ ?_ ?_
        rotate_left
        · kernel_rfl
        · kernel_rfl
        · kernel_rfl
        · (intro _ _ _ hq; exact hq)
        · rfl
        · (intro _w hSw; (try dsimp only at hSw); go_simp; try with_reducible rfl)
        · assumption
        try simp only [Act.put, List.setIfInBounds_toArray, List.set_cons_zero, List.set_cons_succ]
        refine take_in (i := 9) (v := ?_) (d := (some 26)) rfl rfl ?_ ?_ ?_ ?_ ?_ ?_ ?_ ?_
        rotate_left
        · kernel_rfl
        · kernel_rfl
        · kernel_rfl
        · (intro _ _ _ hq; exact hq)
        · rfl
        · (intro _w hSw; (try dsimp only at hSw); go_simp; try with_reducible rfl)
        · assumption
        try simp only [Act.put, List.setIfInBounds_toArray, List.set_cons_zero, List.set_cons_succ]
        refine take_in (i := 10) (v := ?_) (d := (some 27)) rfl rfl ?_ ?_ ?_ ?_ ?_ ?_ ?_ ?_
        rotate_left
        · kernel_rfl
        · kernel_rfl
        · kernel_rfl
        · (intro _ _ _ hq; exact hq)
        · rfl
        · (intro _w hSw; (try dsimp only at hSw); go_simp; try with_reducible rfl)
        · assumption
        try simp only [Act.put, List.setIfInBounds_toArray, List.set_cons_zero, List.set_cons_succ]
        refine take_in (i := 11) (v := ?_) (d := (some 28)) rfl rfl ?_ ?_ ?_ ?_ ?_ ?_ ?_ ?_
        rotate_left
        · kernel_rfl
        · kernel_rfl
        · kernel_rfl
        · (intro _ _ _ hq; exact hq)
        · rfl
        · (intro _w hSw; (try dsimp only at hSw); go_simp; try with_reducible rfl)
        · assumption
        try simp only [Act.put, List.setIfInBounds_toArray, List.set_cons_zero, List.set_cons_succ]
        refine wpAnyH_ready (rs := [6]) ?_ ?_ ?_
        · kernel_rfl
        · simp
        refine (AllReadyH.cons rfl (fun K hK => ?_) AllReadyH.nil)
        go_simp
        first | (go_at_call 57; (with_reducible refine (HBX.out _).mono ?_); rintro e w3 ⟨rfl, hw3⟩; have HGA := Lib.hid (hHeld.1.trans hw3); clear hw3) | (go_at_call 57; (with_reducible refine (HBY.out _).mono ?_); rintro e w4 ⟨rfl, hw4⟩; have HGB := Lib.hid (hHeld.1.trans hw4); clear hw4)
        refine hK.out _ _ ?_ (fun hHeld => ?_)
        · ((try dsimp only); (first | exact hHeld | exact KS.out _ (Gr.refl wr).drew | exact KS.out _ HGA.out | exact KS.out _ HGB.out))
        clear hK K
        try simp only [Act.put, List.setIfInBounds_toArray, List.set_cons_zero, List.set_cons_succ]
        refine wpAnyH_ready (rs := [12]) ?_ ?_ ?_
        · kernel_rfl
        · simp
        refine (AllReadyH.cons rfl (fun K hK => ?_) AllReadyH.nil)
        go_simp
        first | (go_at_call 57; (with_reducible refine (HBX.out _).mono ?_); rintro e w3 ⟨rfl, hw3⟩; have HGA := Lib.hid (hHeld.1.trans hw3); clear hw3) | (go_at_call 57; (with_reducible refine (HBY.out _).mono ?_); rintro e w4 ⟨rfl, hw4⟩; have HGB := Lib.hid (hHeld.1.trans hw4); clear hw4)
        refine hK.out _ _ ?_ (fun hHeld => ?_)
        · ((try dsimp only); (first | exact hHeld | exact KS.out _ (Gr.refl wr).drew | exact KS.out _ HGA.out | exact KS.out _ HGB.out))
        clear hK K
        try simp only [Act.put, List.setIfInBounds_toArray, List.set_cons_zero, List.set_cons_succ]
        refine take_in (i := 13) (v := ?_) (d := (some 30)) rfl rfl ?_ ?_ ?_ ?_ ?_ ?_ ?_ ?_
        rotate_left
        · kernel_rfl
        · kernel_rfl
        · kernel_rfl
        · (intro _ _ _ hq; exact hq)
        · rfl
        · (intro _w hSw; (try dsimp only at hSw); go_simp; try with_reducible rfl)
        · assumption
        try simp only [Act.put, List.setIfInBounds_toArray, List.set_cons_zero, List.set_cons_succ]
        refine take_in (i := 14) (v := ?_) (d := (some 31)) rfl rfl ?_ ?_ ?_ ?_ ?_ ?_ ?_ ?_
        rotate_left
        · kernel_rfl
        · kernel_rfl
        · kernel_rfl
        · (intro _ _ _ hq; exact hq)
        · rfl
        · (intro _w hSw; (try dsimp only at hSw); go_simp; try with_reducible rfl)
        · assumption
        try simp only [Act.put, List.setIfInBounds_toArray, List.set_cons_zero, List.set_cons_succ]
        refine take_in (i := 15) (v := ?_) (d := (some 32)) rfl rfl ?_ ?_ ?_ ?_ ?_ ?_ ?_ ?_
        rotate_left
        · kernel_rfl
        · kernel_rfl
        · kernel_rfl
        · (intro _ _ _ hq; exact hq)
        · rfl
        · (intro _w hSw; (try dsimp only at hSw); go_simp; try with_reducible rfl)
        · assumption
        try simp only [Act.put, List.setIfInBounds_toArray, List.set_cons_zero, List.set_cons_succ]
        refine take_in (i := 16) (v := ?_) (d := (some 33)) rfl rfl ?_ ?_ ?_ ?_ ?_ ?_ ?_ ?_
        rotate_left
        · kernel_rfl
        · kernel_rfl
        · kernel_rfl
        · (intro _ _ _ hq; exact hq)
        · rfl
        · (intro _w hSw; (try dsimp only at hSw); go_simp; try with_reducible rfl)
        · assumption
        try simp only [Act.put, List.setIfInBounds_toArray, List.set_cons_zero, List.set_cons_succ]
        refine take_in (i := 17) (v := ?_) (d := (some 34)) rfl rfl ?_ ?_ ?_ ?_ ?_ ?_ ?_ ?_
        rotate_left
        · kernel_rfl
        · kernel_rfl
        · kernel_rfl
        · (intro _ _ _ hq; exact hq)
        · rfl
        · (intro _w hSw; (try dsimp only at hSw); go_simp; try with_reducible rfl)
        · assumption
        try simp only [Act.put, List.setIfInBounds_toArray, List.set_cons_zero, List.set_cons_succ]
        refine take_in (i := 18) (v := ?_) (d := (some 35)) rfl rfl ?_ ?_ ?_ ?_ ?_ ?_ ?_ ?_
        rotate_left
        · kernel_rfl
        · kernel_rfl
        · kernel_rfl
        · (intro _ _ _ hq; exact hq)
        · rfl
        · (intro _w hSw; (try dsimp only at hSw); go_simp; try with_reducible rfl)
        · assumption
        try simp only [Act.put, List.setIfInBounds_toArray, List.set_cons_zero, List.set_cons_succ]
        refine take_in (i := 19) (v := ?_) (d := (some 36)) rfl rfl ?_ ?_ ?_ ?_ ?_ ?_ ?_ ?_
        rotate_left
        · kernel_rfl
        · kernel_rfl
        · kernel_rfl
        · (intro _ _ _ hq; exact hq)
        · rfl
        · (intro _w hSw; (try dsimp only at hSw); go_simp; try with_reducible rfl)
        · assumption
        try simp only [Act.put, List.setIfInBounds_toArray, List.set_cons_zero, List.set_cons_succ]
        refine take_in (i := 20) (v := ?_) (d := (some 37)) rfl rfl ?_ ?_ ?_ ?_ ?_ ?_ ?_ ?_
        rotate_left
        · kernel_rfl
        · kernel_rfl
        · kernel_rfl
        · (intro _ _ _ hq; exact hq)
        · rfl
        · (intro _w hSw; (try dsimp only at hSw); go_simp; try with_reducible rfl)
        · assumption
        try simp only [Act.put, List.setIfInBounds_toArray, List.set_cons_zero, List.set_cons_succ]
        refine take_in (i := 21) (v := ?_) (d := (some 38)) rfl rfl ?_ ?_ ?_ ?_ ?_ ?_ ?_ ?_
        rotate_left
        · kernel_rfl
        · kernel_rfl
        · kernel_rfl
        · (intro _ _ _ hq; exact hq)
        · rfl
        · (intro _w hSw; (try dsimp only at hSw); go_simp; try with_reducible rfl)
        · assumption
        try simp only [Act.put, List.setIfInBounds_toArray, List.set_cons_zero, List.set_cons_succ]
        refine take_in (i := 22) (v := ?_) (d := (some 39)) rfl rfl ?_ ?_ ?_ ?_ ?_ ?_ ?_ ?_
        rotate_left
        · kernel_rfl
        · kernel_rfl
        · kernel_rfl
        · (intro _ _ _ hq; exact hq)
        · rfl
        · (intro _w hSw; (try dsimp only at hSw); go_simp; try with_reducible rfl)
        · assumption
        try simp only [Act.put, List.setIfInBounds_toArray, List.set_cons_zero, List.set_cons_succ]
        refine take_in (i := 23) (v := ?_) (d := (some 40)) rfl rfl ?_ ?_ ?_ ?_ ?_ ?_ ?_ ?_
        rotate_left
        · kernel_rfl
        · kernel_rfl
        · kernel_rfl
        · (intro _ _ _ hq; exact hq)
        · rfl
        · (intro _w hSw; (try dsimp only at hSw); go_simp; try with_reducible rfl)
        · assumption
        try simp only [Act.put, List.setIfInBounds_toArray, List.set_cons_zero, List.set_cons_succ]
        refine take_in (i := 24) (v := ?_) (d := (some 41)) rfl rfl ?_ ?_ ?_ ?_ ?_ ?_ ?_ ?_
        rotate_left
        · kernel_rfl
        · kernel_rfl
        · kernel_rfl
        · (intro _ _ _ hq; exact hq)
        · rfl
        · (intro _w hSw; (try dsimp only at hSw); go_simp; try with_reducible rfl)
        · assumption
        try simp only [Act.put, List.setIfInBounds_toArray, List.set_cons_zero, List.set_cons_succ]
        refine take_in (i := 25) (v := ?_) (d := (some 42)) rfl rfl ?_ ?_ ?_ ?_ ?_ ?_ ?_ ?_
        rotate_left
        · kernel_rfl
        · kernel_rfl
        · kernel_rfl
        · (intro _ _ _ hq; exact hq)
        · rfl
        · (intro _w hSw; (try dsimp only at hSw); go_simp; try with_reducible rfl)
        · assumption
        try simp only [Act.put, List.setIfInBounds_toArray, List.set_cons_zero, List.set_cons_succ]
        refine take_in (i := 26) (v := ?_) (d := (some 43)) rfl rfl ?_ ?_ ?_ ?_ ?_ ?_ ?_ ?_
        rotate_left
        · kernel_rfl
        · kernel_rfl
        · kernel_rfl
        · (intro _ _ _ hq; exact hq)
        · rfl
        · (intro _w hSw; (try dsimp only at hSw); go_simp; try with_reducible rfl)
        · assumption
        try simp only [Act.put, List.setIfInBounds_toArray, List.set_cons_zero, List.set_cons_succ]
        refine take_in (i := 27) (v := ?_) (d := (some 44)) rfl rfl ?_ ?_ ?_ ?_ ?_ ?_ ?_ ?_
        rotate_left
        · kernel_rfl
        · kernel_rfl
        · kernel_rfl
        · (intro _ _ _ hq; exact hq)
        · rfl
        · (intro _w hSw; (try dsimp only at hSw); go_simp; try with_reducible rfl)
        · assumption
        try simp only [Act.put, List.setIfInBounds_toArray, List.set_cons_zero, List.set_cons_succ]
        refine wpAnyH_done ?_ ?_ _
        · kernel_rfl
        rotate_left
        all_goals
          have hgf := hHeld.1
          clear hHeld
          by_cases ht : yf < xt
          · go_wp2_with fail
            try rw [Exit.noGoto_ret]
            go_ret
            exact ⟨false, rfl, no_of (fun h => by have := HNB.out.1 (HIF.out.2 h j (by rw [HL.out]; exact hlt)) HE.out; omega), hg.trans (hgr.trans hgf)⟩
          · have HA2 : Hid (∀ i, i < j + 1 → nbO (fun x => x.2.1) (slA sl i) (slA sl (i + 1))) := Lib.hid (fun i hi => by
              by_cases e : i = j
              · rw [e]; exact HNB.out.2 (fun _ => by omega)
              · exact hA.out i (by omega))
            go_wp2_with fail
            go_roundw
            case rel => exact ⟨j + 1, Or.inl (by omega), by go_num, HA2, hgr.trans hgf⟩
            case measure => simp [intOf]; omega
      · have hd : (xb == yb) = false := by simpa using he
        have HA2 : Hid (∀ i, i < j + 1 → nbO (fun x => x.2.1) (slA sl i) (slA sl (i + 1))) := Lib.hid (fun i hi => by
          by_cases e : i = j
          · rw [e]; exact HNB.out.2 (fun h => absurd h he)
          · exact hA.out i (by omega))
        go_upto_region 5 with fail
        refine wp_region_held_drew (S := (fun W' => Gr wr W' ∧ W'.cell? ⟨b, off + j * 4, none⟩ = some (.int .i64 xa) ∧ W'.cell? ⟨b, off + j * 4 + 1, none⟩ = some (.int .i64 xb) ∧ W'.cell? ⟨b, off + j * 4 + 2, none⟩ = some (.int .i64 xf) ∧ W'.cell? ⟨b, off + j * 4 + 3, none⟩ = some (.int .i64 xt) ∧ W'.cell? ⟨b, off + (j + 1) * 4, none⟩ = some (.int .i64 ya) ∧ W'.cell? ⟨b, off + (j + 1) * 4 + 1, none⟩ = some (.int .i64 yb) ∧ W'.cell? ⟨b, off + (j + 1) * 4 + 2, none⟩ = some (.int .i64 yf) ∧ W'.cell? ⟨b, off + (j + 1) * 4 + 3, none⟩ = some (.int .i64 yt))) ?_ ?_ (fun hHeld => ?_)
        · kernel_rfl
        · ((try dsimp only); (first | exact hHeld | exact KS.out _ (Gr.refl wr).drew | exact KS.out _ HGA.out | exact KS.out _ HGB.out))
        refine take_in (i := 0) (v := ?_) (d := (some 17)) rfl rfl ?_ ?_ ?_ ?_ ?_ ?_ ?_ ?_
        rotate_left
        · kernel_rfl
        · kernel_rfl
        · kernel_rfl
        · (intro _ _ _ hq; exact hq)
        · rfl
        · (intro _w hSw; (try dsimp only at hSw); go_simp; try with_reducible rfl)
        · assumption
        try simp only [Act.put, List.setIfInBounds_toArray, List.set_cons_zero, List.set_cons_succ]
        refine take_in (i := 1) (v := ?_) (d := (some 18)) rfl rfl ?_ ?_ ?_ ?_ ?_ ?_ ?_ ?_
        rotate_left
        · kernel_rfl
        · kernel_rfl
        · kernel_rfl
        · (intro _ _ _ hq; exact hq)
        · rfl
        · (intro _w hSw; (try dsimp only at hSw); go_simp; try with_reducible rfl)
        · assumption
        try simp only [Act.put, List.setIfInBounds_toArray, List.set_cons_zero, List.set_cons_succ]
        refine take_in (i := 2) (v := ?_) (d := (some 19)) rfl rfl ?_ ?_ ?_ ?_ ?_ ?_ ?_ ?_
        rotate_left
        · kernel_rfl
        · kernel_rfl
        · kernel_rfl
        · (intro _ _ _ hq; exact hq)
        · rfl
        · (intro _w hSw; (try dsimp only at hSw); go_simp; try with_reducible rfl)
        · assumption
        try simp only [Act.put, List.setIfInBounds_toArray, List.set_cons_zero, List.set_cons_succ]
        refine take_in (i := 3) (v := ?_) (d := (some 20)) rfl rfl ?_ ?_ ?_ ?_ ?_ ?_ ?_ ?_
        rotate_left
        · kernel_rfl
        · kernel_rfl
        · kernel_rfl
        · (intro _ _ _ hq; exact hq)
        · rfl
        · (intro _w hSw; (try dsimp only at hSw); go_simp; try with_reducible rfl)
        · assumption
        try simp only [Act.put, List.setIfInBounds_toArray, List.set_cons_zero, List.set_cons_succ]
        refine take_in (i := 4) (v := ?_) (d := (some 21)) rfl rfl ?_ ?_ ?_ ?_ ?_ ?_ ?_ ?_
        rotate_left
        · kernel_rfl
        · kernel_rfl
        · kernel_rfl
        · (intro _ _ _ hq; exact hq)
        · rfl
        · (intro _w hSw; (try dsimp only at hSw); go_simp; try with_reducible rfl)
        · assumption
        try simp only [Act.put, List.setIfInBounds_toArray, List.set_cons_zero, List.set_cons_succ]
        refine take_in (i := 5) (v := ?_) (d := (some 22)) rfl rfl ?_ ?_ ?_ ?_ ?_ ?_ ?_ ?_
        rotate_left
        · kernel_rfl
        · kernel_rfl
        · kernel_rfl
        · (intro _ _ _ hq; exact hq)
        · rfl
        · (intro _w hSw; (try dsimp only at hSw); go_simp; try with_reducible rfl)
        · assumption
        try simp only [Act.put, List.setIfInBounds_toArray, List.set_cons_zero, List.set_cons_succ]
        refine take_in (i := 7) (v := ?_) (d := (some 24)) rfl rfl ?_ ?_ ?_ ?_ ?_ ?_ ?_ ?_
        rotate_left
        · kernel_rfl
        · kernel_rfl
        · kernel_rfl
        · (intro _ _ _ hq; exact hq)
        · rfl
        · (intro _w hSw; (try dsimp only at hSw); go_simp; try with_reducible rfl)
        · assumption
        try simp only [Act.put, List.setIfInBounds_toArray, List.set_cons_zero, List.set_cons_succ]
        refine take_in (i := 8) (v := ?_) (d := (some 25)) rfl rfl ?_ ?_ ?_ ?_ ?_ ?_ ?_ ?_
        rotate_left
        · kernel_rfl
        · kernel_rfl
        · kernel_rfl
        · (intro _ _ _ hq; exact hq)
        · rfl
        · (intro _w hSw; (try dsimp only at hSw); go_simp; try with_reducible rfl)
        · assumption
        try simp only [Act.put, List.setIfInBounds_toArray, List.set_cons_zero, List.set_cons_succ]
        refine take_in (i := 9) (v := ?_) (d := (some 26)) rfl rfl ?_ ?_ ?_ ?_ ?_ ?_ ?_ ?_
        rotate_left
        · kernel_rfl
        · kernel_rfl
        · kernel_rfl
        · (intro _ _ _ hq; exact hq)
        · rfl
        · (intro _w hSw; (try dsimp only at hSw); go_simp; try with_reducible rfl)
        · assumption
        try simp only [Act.put, List.setIfInBounds_toArray, List.set_cons_zero, List.set_cons_succ]
        refine take_in (i := 10) (v := ?_) (d := (some 27)) rfl rfl ?_ ?_ ?_ ?_ ?_ ?_ ?_ ?_
        rotate_left
        · kernel_rfl
        · kernel_rfl
        · kernel_rfl
        · (intro _ _ _ hq; exact hq)
        · rfl
        · (intro _w hSw; (try dsimp only at hSw); go_simp; try with_reducible rfl)
        · assumption
        try simp only [Act.put, List.setIfInBounds_toArray, List.set_cons_zero, List.set_cons_succ]
        refine take_in (i := 11) (v := ?_) (d := (some 28)) rfl rfl ?_ ?_ ?_ ?_ ?_ ?_ ?_ ?_
        rotate_left
        · kernel_rfl
        · kernel_rfl
        · kernel_rfl
        · (intro _ _ _ hq; exact hq)
        · rfl
        · (intro _w hSw; (try dsimp only at hSw); go_simp; try with_reducible rfl)
        · assumption
        try simp only [Act.put, List.setIfInBounds_toArray, List.set_cons_zero, List.set_cons_succ]
        refine wpAnyH_ready (rs := [6]) ?_ ?_ ?_
        · kernel_rfl
        · simp
        refine (AllReadyH.cons rfl (fun K hK => ?_) AllReadyH.nil)
        go_simp
        first | (go_at_call 57; (with_reducible refine (HBX.out _).mono ?_); rintro e w3 ⟨rfl, hw3⟩; have HGA := Lib.hid (hHeld.1.trans hw3); clear hw3) | (go_at_call 57; (with_reducible refine (HBY.out _).mono ?_); rintro e w4 ⟨rfl, hw4⟩; have HGB := Lib.hid (hHeld.1.trans hw4); clear hw4)
        refine hK.out _ _ ?_ (fun hHeld => ?_)
        · ((try dsimp only); (first | exact hHeld | exact KS.out _ (Gr.refl wr).drew | exact KS.out _ HGA.out | exact KS.out _ HGB.out))
        clear hK K
        try simp only [Act.put, List.setIfInBounds_toArray, List.set_cons_zero, List.set_cons_succ]
        refine wpAnyH_ready (rs := [12]) ?_ ?_ ?_
        · kernel_rfl
        · simp
        refine (AllReadyH.cons rfl (fun K hK => ?_) AllReadyH.nil)
        go_simp
        first | (go_at_call 57; (with_reducible refine (HBX.out _).mono ?_); rintro e w3 ⟨rfl, hw3⟩; have HGA := Lib.hid (hHeld.1.trans hw3); clear hw3) | (go_at_call 57; (with_reducible refine (HBY.out _).mono ?_); rintro e w4 ⟨rfl, hw4⟩; have HGB := Lib.hid (hHeld.1.trans hw4); clear hw4)
        refine hK.out _ _ ?_ (fun hHeld => ?_)
        · ((try dsimp only); (first | exact hHeld | exact KS.out _ (Gr.refl wr).drew | exact KS.out _ HGA.out | exact KS.out _ HGB.out))
        clear hK K
        try simp only [Act.put, List.setIfInBounds_toArray, List.set_cons_zero, List.set_cons_succ]
        refine take_in (i := 13) (v := ?_) (d := (some 30)) rfl rfl ?_ ?_ ?_ ?_ ?_ ?_ ?_ ?_
        rotate_left
        · kernel_rfl
        · kernel_rfl
        · kernel_rfl
        · (intro _ _ _ hq; exact hq)
        · rfl
        · (intro _w hSw; (try dsimp only at hSw); go_simp; try with_reducible rfl)
        · assumption
        try simp only [Act.put, List.setIfInBounds_toArray, List.set_cons_zero, List.set_cons_succ]
        refine take_in (i := 14) (v := ?_) (d := (some 31)) rfl rfl ?_ ?_ ?_ ?_ ?_ ?_ ?_ ?_
        rotate_left
        · kernel_rfl
        · kernel_rfl
        · kernel_rfl
        · (intro _ _ _ hq; exact hq)
        · rfl
        · (intro _w hSw; (try dsimp only at hSw); go_simp; try with_reducible rfl)
        · assumption
        try simp only [Act.put, List.setIfInBounds_toArray, List.set_cons_zero, List.set_cons_succ]
        refine take_un (i := 15) (d := (some 32)) rfl rfl ?_ ?_ ?_ ?_ ?_ ?_ ?_
        · kernel_rfl
        · kernel_rfl
        · kernel_rfl
        · (intro _ _ _ hq; exact hq)
        · rfl
        · assumption
        try simp only [Act.put, List.setIfInBounds_toArray, List.set_cons_zero, List.set_cons_succ]
        refine take_un (i := 16) (d := (some 33)) rfl rfl ?_ ?_ ?_ ?_ ?_ ?_ ?_
        · kernel_rfl
        · kernel_rfl
        · kernel_rfl
        · (intro _ _ _ hq; exact hq)
        · rfl
        · assumption
        try simp only [Act.put, List.setIfInBounds_toArray, List.set_cons_zero, List.set_cons_succ]
        refine take_un (i := 17) (d := (some 34)) rfl rfl ?_ ?_ ?_ ?_ ?_ ?_ ?_
        · kernel_rfl
        · kernel_rfl
        · kernel_rfl
        · (intro _ _ _ hq; exact hq)
        · rfl
        · assumption
        try simp only [Act.put, List.setIfInBounds_toArray, List.set_cons_zero, List.set_cons_succ]
        refine take_un (i := 18) (d := (some 35)) rfl rfl ?_ ?_ ?_ ?_ ?_ ?_ ?_
        · kernel_rfl
        · kernel_rfl
        · kernel_rfl
        · (intro _ _ _ hq; exact hq)
        · rfl
        · assumption
        try simp only [Act.put, List.setIfInBounds_toArray, List.set_cons_zero, List.set_cons_succ]
        refine take_un (i := 19) (d := (some 36)) rfl rfl ?_ ?_ ?_ ?_ ?_ ?_ ?_
        · kernel_rfl
        · kernel_rfl
        · kernel_rfl
        · (intro _ _ _ hq; exact hq)
        · rfl
        · assumption
        try simp only [Act.put, List.setIfInBounds_toArray, List.set_cons_zero, List.set_cons_succ]
        refine take_un (i := 20) (d := (some 37)) rfl rfl ?_ ?_ ?_ ?_ ?_ ?_ ?_
        · kernel_rfl
        · kernel_rfl
        · kernel_rfl
        · (intro _ _ _ hq; exact hq)
        · rfl
        · assumption
        try simp only [Act.put, List.setIfInBounds_toArray, List.set_cons_zero, List.set_cons_succ]
        refine take_un (i := 21) (d := (some 38)) rfl rfl ?_ ?_ ?_ ?_ ?_ ?_ ?_
        · kernel_rfl
        · kernel_rfl
        · kernel_rfl
        · (intro _ _ _ hq; exact hq)
        · rfl
        · assumption
        try simp only [Act.put, List.setIfInBounds_toArray, List.set_cons_zero, List.set_cons_succ]
        refine take_un (i := 22) (d := (some 39)) rfl rfl ?_ ?_ ?_ ?_ ?_ ?_ ?_
        · kernel_rfl
        · kernel_rfl
        · kernel_rfl
        · (intro _ _ _ hq; exact hq)
        · rfl
        · assumption
        try simp only [Act.put, List.setIfInBounds_toArray, List.set_cons_zero, List.set_cons_succ]
        refine take_un (i := 23) (d := (some 40)) rfl rfl ?_ ?_ ?_ ?_ ?_ ?_ ?_
        · kernel_rfl
        · kernel_rfl
        · kernel_rfl
        · (intro _ _ _ hq; exact hq)
        · rfl
        · assumption
        try simp only [Act.put, List.setIfInBounds_toArray, List.set_cons_zero, List.set_cons_succ]
        refine take_un (i := 24) (d := (some 41)) rfl rfl ?_ ?_ ?_ ?_ ?_ ?_ ?_
        · kernel_rfl
        · kernel_rfl
        · kernel_rfl
        · (intro _ _ _ hq; exact hq)
        · rfl
        · assumption
        try simp only [Act.put, List.setIfInBounds_toArray, List.set_cons_zero, List.set_cons_succ]
        refine take_un (i := 25) (d := (some 42)) rfl rfl ?_ ?_ ?_ ?_ ?_ ?_ ?_
        · kernel_rfl
        · kernel_rfl
        · kernel_rfl
        · (intro _ _ _ hq; exact hq)
        · rfl
        · assumption
        try simp only [Act.put, List.setIfInBounds_toArray, List.set_cons_zero, List.set_cons_succ]
        refine take_un (i := 26) (d := (some 43)) rfl rfl ?_ ?_ ?_ ?_ ?_ ?_ ?_
        · kernel_rfl
        · kernel_rfl
        · kernel_rfl
        · (intro _ _ _ hq; exact hq)
        · rfl
        · assumption
        try simp only [Act.put, List.setIfInBounds_toArray, List.set_cons_zero, List.set_cons_succ]
        refine take_in (i := 27) (v := ?_) (d := (some 44)) rfl rfl ?_ ?_ ?_ ?_ ?_ ?_ ?_ ?_
        rotate_left
        · kernel_rfl
        · kernel_rfl
        · kernel_rfl
        · (intro _ _ _ hq; exact hq)
        · rfl
        · (intro _w hSw; (try dsimp only at hSw); go_simp; try with_reducible rfl)
        · assumption
        try simp only [Act.put, List.setIfInBounds_toArray, List.set_cons_zero, List.set_cons_succ]
        refine wpAnyH_done ?_ ?_ _
        · kernel_rfl
        rotate_left
        all_goals
          have hgf := hHeld.1
          clear hHeld
          go_wp2_with fail
          go_roundw
          case rel => exact ⟨j + 1, Or.inl (by omega), by go_num, HA2, hgr.trans hgf⟩
          case measure => simp [intOf]; omega
    · have hlti : ¬ (j : Int) + 1 < (n : Int) := by omega
      go_wp2_with fail
      try rw [Exit.noGoto_ret]
      go_ret
      exact ⟨true, rfl, yes_of (HIF.out.1 (fun k hk => hA.out k (by rw [HL.out] at hk; omega))), hg.trans hgr⟩

end Go.Proofs.Ytfmojiaaoebodaa
