/- A place (x/d, y/d) in a hull; the place where two edges meet. -/
import Derived.Test.YtpnkpejnahhajaaGreatBu47
namespace Go.Proofs.YtpnkpejnahhajaaGreat
open Go.RowKit
set_option linter.unusedSimpArgs false

def btwT (ax ay bx by_ px py d : Int) : Bool :=
  decide (min ax bx * d ≤ px) && (decide (px ≤ max ax bx * d) && (decide (min ay by_ * d ≤ py) && decide (py ≤ max ay by_ * d)))
/-- The bounds of a place. -/
def Pc (px py d : Int) : Prop := (-4398046511104 ≤ px ∧ px ≤ 4398046511104) ∧ (-4398046511104 ≤ py ∧ py ≤ 4398046511104) ∧ (0 ≤ d ∧ d ≤ 1073741824)

set_option maxRecDepth 100000 in
set_option maxHeartbeats 2000000 in
theorem between_any (ax ay bx by_ px py d : Int) (w : World) (h1 : Co ax) (h2 : Co ay) (h3 : Co bx) (h4 : Co by_) (hp : Pc px py d) :
    Calls Tryz.prog 126 #[.agg #[.int .i64 ax, .int .i64 ay, .int .i64 bx, .int .i64 by_], .agg #[.int .i64 px, .int .i64 py, .int .i64 d]] w fun e w' => e = .returned (.bool (btwT ax ay bx by_ px py d)) ∧ Gr w w' := by
  obtain ⟨⟨p1, p2⟩, ⟨p3, p4⟩, p5, p6⟩ := hp
  unfold Co at *
  have b1 := mul_bd (a := min ax bx) (b := d) (A := 4096) (B := 1073741824) (by omega) (by omega)
  have b2 := mul_bd (a := max ax bx) (b := d) (A := 4096) (B := 1073741824) (by omega) (by omega)
  have b3 := mul_bd (a := min ay by_) (b := d) (A := 4096) (B := 1073741824) (by omega) (by omega)
  have b4 := mul_bd (a := max ay by_) (b := d) (A := 4096) (B := 1073741824) (by omega) (by omega)
  have HB : Hid (btwT ax ay bx by_ px py d = (decide (min ax bx * d ≤ px) && (decide (px ≤ max ax bx * d) && (decide (min ay by_ * d ≤ py) && decide (py ≤ max ay by_ * d))))) := Lib.hid rfl
  generalize btwT ax ay bx by_ px py d = r at HB ⊢
  go_enter Tryz.func126, Tryz.ntmps126
  go_wp2_with fail
  all_goals
    go_ret
    refine ⟨ret_bool ?_, by (repeat (first | exact Gr.refl _ | assumption | (refine Gr.drew ?_) | (refine Gr.drewN ?_ _) | (refine Gr.alloc ?_ _) | (refine Gr.trans ?_ (by assumption))))⟩
    rw [HB.out]
    first | (simp [*]; done) | (simp; omega)

def sideE (q : (Int × Int) × (Int × Int)) (px py d : Int) : Bool := decide ((q.2.1 - q.1.1) * (py - q.1.2 * d) < (q.2.2 - q.1.2) * (px - q.1.1 * d))
def okE (ps : List (Int × Int)) (px py d : Int) (i : Nat) : Bool :=
  !sideE (ed ps i) px py d && (decide (3 ≤ ps.length) || btwT (ed ps i).1.1 (ed ps i).1.2 (ed ps i).2.1 (ed ps i).2.2 px py d)
def holdsL (ps : List (Int × Int)) (px py d : Int) : Bool := (List.range ps.length).all (okE ps px py d)
theorem boxN {w W : World} {t : TypeId} {a0 a1 a2 a3 : Value} {m : Nat} (hW : (w.alloc (.cells #[a0, a1, a2, a3] t)).drewN m = W) :
    Gr w W ∧ W.cell? ⟨w.heap.size, 0, none⟩ = some a0 ∧ W.cell? ⟨w.heap.size, 1, none⟩ = some a1 ∧ W.cell? ⟨w.heap.size, 2, none⟩ = some a2 ∧ W.cell? ⟨w.heap.size, 3, none⟩ = some a3 := by
  subst hW
  have h : ∀ i v, #[a0, a1, a2, a3][i]? = some v → ((w.alloc (.cells #[a0, a1, a2, a3] t)).drewN m).cell? ⟨w.heap.size, i, none⟩ = some v := fun i v hv =>
    ((Gr.refl (w.alloc (.cells #[a0, a1, a2, a3] t))).drewN m).keep (alloc_new rfl hv)
  exact ⟨((Gr.refl _).alloc _).drewN _, h 0 _ rfl, h 1 _ rfl, h 2 _ rfl, h 3 _ rfl⟩
theorem range_all {f : Nat → Bool} {n : Nat} (h : ∀ i, i < n → f i = true) : (List.range n).all f = true := by
  rw [List.all_eq_true]; exact fun i hi => h i (List.mem_range.1 hi)
theorem range_not {f : Nat → Bool} {n i : Nat} (h : i < n) (hf : f i = false) : (List.range n).all f = false := by
  rw [List.all_eq_false]; exact ⟨i, List.mem_range.2 h, by rw [hf]; decide⟩

set_option maxRecDepth 100000 in
set_option maxHeartbeats 4000000 in
theorem holds_any (A : Option Addr) (n c : Nat) (ps : List (Int × Int)) (px py d : Int) (w : World) (hn : ps.length = n) (hl : n ≤ 1048576) (hp : Pts w A ps) (hv : Cos ps) (hP : Pc px py d) :
    Calls Tryz.prog 90 #[.slice A n c, .agg #[.int .i64 px, .int .i64 py, .int .i64 d]] w fun e w' => e = .returned (.bool (holdsL ps px py d)) ∧ Gr w w' := by
  have HN := Lib.hid hn
  have HP := Lib.hid hp
  have HV := Lib.hid hv
  have HPC := Lib.hid hP
  clear hn hp hv hP
  go_enter Tryz.func90, Tryz.ntmps90
  go_wp2_with fail
  generalize hW : World.alloc w _ = W
  have hgW : Gr w W := by rw [← hW]; exact (Gr.refl _).alloc _
  have b0 : W.cell? ⟨w.heap.size, 0, none⟩ = some (.int .i64 px) := by rw [← hW]; exact alloc_new rfl rfl
  have b1 : W.cell? ⟨w.heap.size, 1, none⟩ = some (.int .i64 py) := by rw [← hW]; exact alloc_new rfl rfl
  have b2 : W.cell? ⟨w.heap.size, 2, none⟩ = some (.int .i64 d) := by rw [← hW]; exact alloc_new rfl rfl
  clear hW
  refine (edges_any A n c ps _ HN.out (by omega) (HP.out.keep hgW)).mono ?_
  rintro e w3 ⟨g, rfl, hE, hg3⟩
  replace b0 := hg3.keep b0
  replace b1 := hg3.keep b1
  replace b2 := hg3.keep b2
  replace hgW := hgW.trans hg3
  clear hg3
  rw [HN.out]
  have HE := Lib.hid hE
  clear hE HP
  go_wp2_with fail
  go_loopw [12] (fun i wr => ∃ k : Nat, k ≤ n ∧ i = .int .i64 k ∧ Hid (∀ i, i < k → okE ps px py d i = true) ∧ Gr w3 wr) (fun i _ => n - (intOf i).toNat)
  case atStart => exact ⟨0, Nat.zero_le _, rfl, Lib.hid (fun i h => by omega), Gr.refl _⟩
  case round =>
    obtain ⟨k, hk, rfl, hok, hg⟩ := hrel
    replace b0 := hg.keep b0
    replace b1 := hg.keep b1
    replace b2 := hg.keep b2
    by_cases hlt : k < n
    · obtain ⟨k0, k1, k2, k3⟩ := Eds_at (HE.out.keep hg) (k := k) (by have := HN.out; omega)
      obtain ⟨c1, c2, c3, c4⟩ := ed_co HV.out k
      have HS : Hid (sideE (ed ps k) px py d = decide (((ed ps k).2.1 - (ed ps k).1.1) * (py - (ed ps k).1.2 * d) < ((ed ps k).2.2 - (ed ps k).1.2) * (px - (ed ps k).1.1 * d))) := Lib.hid rfl
      have HO : Hid (okE ps px py d k = (!sideE (ed ps k) px py d && (decide (3 ≤ n) || btwT (ed ps k).1.1 (ed ps k).1.2 (ed ps k).2.1 (ed ps k).2.2 px py d))) := Lib.hid (by rw [← HN.out]; rfl)
      have HNO : Hid (okE ps px py d k = false → holdsL ps px py d = false) := Lib.hid (range_not (by rw [HN.out]; exact hlt))
      generalize ed ps k = q at k0 k1 k2 k3 c1 c2 c3 c4 HS HO
      obtain ⟨⟨x, y⟩, x', y'⟩ := q
      dsimp only at k0 k1 k2 k3 c1 c2 c3 c4 HS HO
      obtain ⟨⟨p1, p2⟩, ⟨p3, p4⟩, p5, p6⟩ := HPC.out
      have C1 := Lib.hid c1
      have C2 := Lib.hid c2
      have C3 := Lib.hid c3
      have C4 := Lib.hid c4
      unfold Co at c1 c2 c3 c4
      have m1 := mul_bd (a := y) (b := d) (A := 4096) (B := 1073741824) c2 (by omega)
      have m2 := mul_bd (a := x) (b := d) (A := 4096) (B := 1073741824) c1 (by omega)
      have m3 := mul_bd (a := x' - x) (b := py - y * d) (A := 8192) (B := 8796093022208) (by omega) (by omega)
      have m4 := mul_bd (a := y' - y) (b := px - x * d) (A := 8192) (B := 8796093022208) (by omega) (by omega)
      have w1 : IntKind.i64.wrap (x' - x) = x' - x := IntWalk.i64_in _ (by omega)
      have w2 : IntKind.i64.wrap (y' - y) = y' - y := IntWalk.i64_in _ (by omega)
      have a0 : ∀ o, (wr.alloc o).cell? ⟨w.heap.size, 0, none⟩ = some (.int .i64 px) := fun o => alloc_old b0
      have a1 : ∀ o, (wr.alloc o).cell? ⟨w.heap.size, 1, none⟩ = some (.int .i64 py) := fun o => alloc_old b1
      have a2 : ∀ o, (wr.alloc o).cell? ⟨w.heap.size, 2, none⟩ = some (.int .i64 d) := fun o => alloc_old b2
      go_wp2_with fail
      go_quiet (fail)
      clear a0 a1 a2 w1 w2 k0 k1 k2 k3
      generalize hW : World.drewN _ _ = W
      obtain ⟨hWg, l0, l1, l2, l3⟩ := boxN hW
      clear hW
      replace b0 := hWg.keep b0
      replace b1 := hWg.keep b1
      replace b2 := hWg.keep b2
      by_cases hside : (x' - x) * (py - y * d) < (y' - y) * (px - x * d)
      · have HF := Lib.hid (HNO.out (by rw [HO.out, HS.out, decide_eq_true hside]; rfl))
        go_wp2_with fail
        go_ret
        exact ⟨ret_bool HF.out.symm, by (repeat (first | exact Gr.refl _ | assumption | (refine Gr.drew ?_) | (refine Gr.drewN ?_ _) | (refine Gr.alloc ?_ _) | (refine Gr.trans ?_ (by assumption))))⟩
      · replace HO : Hid (okE ps px py d k = (decide (3 ≤ n) || btwT x y x' y' px py d)) := Lib.hid (by rw [HO.out, HS.out, decide_eq_false hside]; rfl)
        by_cases h3 : n < 3
        · rcases hb : btwT x y x' y' px py d with _ | _
          · have HB := Lib.hid hb
            have HF := Lib.hid (HNO.out (by rw [HO.out, hb, decide_eq_false (by omega)]; rfl))
            clear hb
            go_wp2_with fail
            refine (between_any x y x' y' px py d _ C1.out C2.out C3.out C4.out HPC.out).mono ?_
            rintro e w5 ⟨rfl, hb5⟩
            rw [HB.out]
            go_wp2_with fail
            go_ret
            exact ⟨ret_bool HF.out.symm, by (repeat (first | exact Gr.refl _ | assumption | (refine Gr.drew ?_) | (refine Gr.drewN ?_ _) | (refine Gr.alloc ?_ _) | (refine Gr.trans ?_ (by assumption))))⟩
          · have HB := Lib.hid hb
            have HT : Hid (okE ps px py d k = true) := Lib.hid (by rw [HO.out, hb, Bool.or_true])
            clear hb
            go_wp2_with fail
            refine (between_any x y x' y' px py d _ C1.out C2.out C3.out C4.out HPC.out).mono ?_
            rintro e w5 ⟨rfl, hb5⟩
            rw [HB.out]
            go_wp2_with fail
            go_roundw
            case rel => exact ⟨k + 1, by omega, by go_num, Lib.hid (fun i hi => by
              rcases Nat.lt_succ_iff_lt_or_eq.1 hi with h | rfl
              · exact hok.out i h
              · exact HT.out), by (repeat (first | exact Gr.refl _ | assumption | (refine Gr.drew ?_) | (refine Gr.drewN ?_ _) | (refine Gr.alloc ?_ _) | (refine Gr.trans ?_ (by assumption))))⟩
            case measure => simp [intOf]; omega
        · have HT : Hid (okE ps px py d k = true) := Lib.hid (by rw [HO.out, decide_eq_true (by omega)]; rfl)
          go_wp2_with fail
          go_roundw
          case rel => exact ⟨k + 1, by omega, by go_num, Lib.hid (fun i hi => by
            rcases Nat.lt_succ_iff_lt_or_eq.1 hi with h | rfl
            · exact hok.out i h
            · exact HT.out), by (repeat (first | exact Gr.refl _ | assumption | (refine Gr.drew ?_) | (refine Gr.drewN ?_ _) | (refine Gr.alloc ?_ _) | (refine Gr.trans ?_ (by assumption))))⟩
          case measure => simp [intOf]; omega
    · go_wp2_with fail
      go_ret
      obtain rfl : k = n := by omega
      exact ⟨ret_bool (by unfold holdsL; rw [HN.out]; exact (range_all hok.out).symm), hgW.trans hg⟩

end Go.Proofs.YtpnkpejnahhajaaGreat
