/- Where a point lies. -/
import Derived.Test.YthleajmamkihaaaSimple
namespace Go.Proofs.Ythleajmamkihaaa
open Go.RowKit
set_option linter.unusedSimpArgs false

def rayE (ps : List (Int × Int)) (x y : Int) (i : Nat) : Bool := rayL (ed ps i).1.1 (ed ps i).1.2 (ed ps i).2.1 (ed ps i).2.2 x y
def onE (ps : List (Int × Int)) (x y : Int) (i : Nat) : Bool := touchE (ed ps i) ((x, y), (x, y))
/-- 1 or -1 behind k edges. -/
def plT (ps : List (Int × Int)) (x y : Int) : Nat → Int
  | 0 => -1
  | k + 1 => if rayE ps x y k then -plT ps x y k else plT ps x y k
theorem plT_bd (ps : List (Int × Int)) (x y : Int) : ∀ k, -1 ≤ plT ps x y k ∧ plT ps x y k ≤ 1
  | 0 => by simp [plT]
  | k + 1 => by have := plT_bd ps x y k; unfold plT; split <;> omega
def insideL (ps : List (Int × Int)) (x y : Int) : Int := if (List.range ps.length).any (onE ps x y) then 0 else plT ps x y ps.length

set_option maxRecDepth 100000 in
set_option maxHeartbeats 2000000 in
theorem Inside_yes (A : Option Addr) (n c : Nat) (ps : List (Int × Int)) (x y : Int) (w : World) (hn : ps.length = n) (hl : n ≤ 512) (hp : Pts w A ps) (hs : SimpleP ps) (hv : vld x y = true) :
    Calls Try.prog 7 #[.slice A n c, .agg #[.int .i64 x, .int .i64 y]] w fun e w' => e = .returned (.tuple #[.int .i64 (insideL ps x y), .int .i64 0]) ∧ Gr w w' := by
  have HN := Lib.hid hn
  have HP := Lib.hid hp
  have HS := Lib.hid hs
  have HV := Lib.hid (Cos_of hs.2.2.1)
  have HP0 := Lib.hid hv
  obtain ⟨px, py⟩ : Co x ∧ Co y := (vld_iff x y).1 hv
  clear hn hp hv hs
  go_enter Try.func7, Try.ntmps7
  go_wp2_with fail
  generalize hW : World.alloc w _ = W
  have hgW : Gr w W := by rw [← hW]; exact (Gr.refl _).alloc _
  have b0 : W.cell? ⟨w.heap.size, 0, none⟩ = some (.int .i64 x) := by rw [← hW]; exact alloc_new rfl rfl
  have b1 : W.cell? ⟨w.heap.size, 1, none⟩ = some (.int .i64 y) := by rw [← hW]; exact alloc_new rfl rfl
  clear hW
  refine (Simple_any A n c ps _ HN.out (by omega) (HP.out.keep hgW)).mono ?_
  rintro e w1 ⟨r, rfl, hr, hg1⟩
  obtain rfl : r = true := hr.2 HS.out
  clear hr
  replace b0 := hg1.keep b0
  replace b1 := hg1.keep b1
  replace hgW := hgW.trans hg1
  clear hg1
  go_wp2_with fail
  refine (valid_any x y _ _ HP0.out).mono ?_
  rintro e w2 ⟨rfl, hg2⟩
  replace b0 := hg2.keep b0
  replace b1 := hg2.keep b1
  replace hgW := hgW.trans hg2
  clear hg2
  go_wp2_with fail
  refine (edges_any A n c ps _ HN.out (by omega) (HP.out.keep hgW)).mono ?_
  rintro e w3 ⟨g, rfl, hE, hg3⟩
  replace b0 := hg3.keep b0
  replace b1 := hg3.keep b1
  replace hgW := hgW.trans hg3
  clear hg3
  rw [HN.out]
  have HE := Lib.hid hE
  clear hE HP
  go_wp2_with fail
  go_loopw [6, 20] (fun s i wr => ∃ k : Nat, k ≤ n ∧ i = .int .i64 k ∧ s = .int .i64 (plT ps x y k) ∧ Hid (∀ i, i < k → onE ps x y i = false) ∧ Gr w3 wr) (fun _ i _ => n - (intOf i).toNat)
  case atStart => exact ⟨0, Nat.zero_le _, rfl, rfl, Lib.hid (fun i h => by omega), Gr.refl _⟩
  case round =>
    obtain ⟨k, hk, rfl, rfl, hok, hg⟩ := hrel
    replace b0 := hg.keep b0
    replace b1 := hg.keep b1
    by_cases hlt : k < n
    · obtain ⟨k0, k1, k2, k3⟩ := Eds_at (HE.out.keep hg) (k := k) (by have := HN.out; omega)
      obtain ⟨c1, c2, c3, c4⟩ := ed_co HV.out k
      have HON : Hid (onE ps x y k = touchL (ed ps k).1.1 (ed ps k).1.2 (ed ps k).2.1 (ed ps k).2.2 x y x y) := Lib.hid rfl
      have HRY : Hid (rayE ps x y k = rayL (ed ps k).1.1 (ed ps k).1.2 (ed ps k).2.1 (ed ps k).2.2 x y) := Lib.hid rfl
      have HPL : Hid (plT ps x y (k + 1) = if rayE ps x y k then -plT ps x y k else plT ps x y k) := Lib.hid rfl
      have hpl := plT_bd ps x y k
      generalize plT ps x y k = s at hpl HPL ⊢
      generalize ed ps k = q at k0 k1 k2 k3 c1 c2 c3 c4 HON HRY
      obtain ⟨⟨a, b⟩, a', b'⟩ := q
      dsimp only at k0 k1 k2 k3 c1 c2 c3 c4 HON HRY
      have a0 : ∀ o, (wr.alloc o).cell? ⟨w.heap.size, 0, none⟩ = some (.int .i64 x) := fun o => alloc_old b0
      have a1 : ∀ o, (wr.alloc o).cell? ⟨w.heap.size, 1, none⟩ = some (.int .i64 y) := fun o => alloc_old b1
      go_wp2_with fail
      clear a0 a1
      generalize hW : World.alloc wr _ = W
      obtain ⟨hWg, l0, l1, l2, l3⟩ := box4 hW
      clear hW k0 k1 k2 k3
      replace b0 := hWg.keep b0
      replace b1 := hWg.keep b1
      rcases ht : touchL a b a' b' x y x y with _ | _
      · have HT := Lib.hid ht
        clear ht
        refine (touch_any _ _ _ _ _ _ _ _ _ c1 c2 c3 c4 px py px py _ HT.out).mono ?_
        rintro e w4 ⟨rfl, hb⟩
        replace b0 := hb.keep b0
        replace b1 := hb.keep b1
        replace l0 := hb.keep l0
        replace l1 := hb.keep l1
        replace l2 := hb.keep l2
        replace l3 := hb.keep l3
        rcases hry : rayL a b a' b' x y with _ | _
        all_goals
          have HR := Lib.hid hry
          clear hry
          go_wp2_with fail
          refine (ray_any _ _ _ _ _ _ _ c1 c2 c3 c4 px py _ HR.out).mono ?_
          rintro e w5 ⟨rfl, hb5⟩
          go_wp2_with fail
          go_roundw
          case rel =>
            refine ⟨k + 1, by omega, by go_num, ?_, Lib.hid (fun i hi => by
              rcases Nat.lt_succ_iff_lt_or_eq.1 hi with h | rfl
              · exact hok.out i h
              · rw [HON.out, HT.out]), ((hg.trans hWg).trans hb).trans hb5⟩
            rw [HPL.out, HRY.out, HR.out]
            rfl
          case measure => simp [intOf]; omega
      · have HT := Lib.hid ht
        clear ht
        refine (touch_any _ _ _ _ _ _ _ _ _ c1 c2 c3 c4 px py px py _ HT.out).mono ?_
        rintro e w4 ⟨rfl, hb⟩
        go_wp2_with fail
        go_ret2
        refine ⟨?_, hgW.trans ((hg.trans hWg).trans hb)⟩
        have : insideL ps x y = 0 := by
          unfold insideL
          rw [if_pos (List.any_eq_true.2 ⟨k, by simp [HN.out]; exact hlt, HON.out.trans HT.out⟩)]
        rw [this]; rfl
    · go_wp2_with fail
      go_ret2
      refine ⟨?_, hgW.trans hg⟩
      obtain rfl : k = n := by omega
      have : insideL ps x y = plT ps x y k := by
        unfold insideL
        rw [if_neg (fun h => by
          obtain ⟨i, hi, h2⟩ := List.any_eq_true.1 h
          rw [hok.out i (by simpa [HN.out] using hi)] at h2; cases h2), HN.out]
      rw [this]; rfl

set_option maxHeartbeats 1000000 in
theorem Inside_no (A : Option Addr) (n c : Nat) (ps : List (Int × Int)) (x y : Int) (w : World) (hn : ps.length = n) (hl : n ≤ 281474976710656) (hp : Pts w A ps) (hs : ¬SimpleP ps ∨ vld x y = false) :
    Calls Try.prog 7 #[.slice A n c, .agg #[.int .i64 x, .int .i64 y]] w fun e w' => e = .returned (.tuple #[.int .i64 0, .int .i64 2]) ∧ Gr w w' := by
  have HN := Lib.hid hn
  have HP := Lib.hid hp
  have HS := Lib.hid hs
  clear hn hp hs
  go_enter Try.func7, Try.ntmps7
  go_wp2_with fail
  generalize hW : World.alloc w _ = W
  have hgW : Gr w W := by rw [← hW]; exact (Gr.refl _).alloc _
  have b0 : W.cell? ⟨w.heap.size, 0, none⟩ = some (.int .i64 x) := by rw [← hW]; exact alloc_new rfl rfl
  have b1 : W.cell? ⟨w.heap.size, 1, none⟩ = some (.int .i64 y) := by rw [← hW]; exact alloc_new rfl rfl
  clear hW
  refine (Simple_any A n c ps _ HN.out (by omega) (HP.out.keep hgW)).mono ?_
  rintro e w1 ⟨r, rfl, hr, hg1⟩
  have HR := Lib.hid hr
  clear hr
  replace b0 := hg1.keep b0
  replace b1 := hg1.keep b1
  replace hgW := hgW.trans hg1
  clear hg1
  cases r with
  | false =>
    go_wp2_with fail
    go_ret2
    exact ⟨rfl, hgW⟩
  | true =>
    have HV := Lib.hid (HS.out.resolve_left (fun h => h (HR.out.1 rfl)))
    go_wp2_with fail
    refine (valid_any x y _ _ HV.out).mono ?_
    rintro e w2 ⟨rfl, hg2⟩
    go_wp2_with fail
    go_ret2
    exact ⟨rfl, hgW.trans hg2⟩

end Go.Proofs.Ythleajmamkihaaa
