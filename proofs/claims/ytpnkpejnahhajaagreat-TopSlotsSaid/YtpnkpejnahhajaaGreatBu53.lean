/- Upright rectangles as polygons. Plain mathematics.
The parts of a plan, drawn as rectangles, are separated. Plain mathematics.
Separate, by what it says.
A verdict, tried by the program: its place, its line; Check. -/
import Derived.Test.YtpnkpejnahhajaaGreatBu17
import Derived.Test.YtpnkpejnahhajaaGreatBu40
import Derived.Test.YtpnkpejnahhajaaGreatBu27
import Derived.Test.YtpnkpejnahhajaaGreatBu52
import Derived.Test.YtpnkpejnahhajaaGreatBu50
import Derived.Test.YtpnkpejnahhajaaGreatBu51
namespace Go.Proofs.YtpnkpejnahhajaaGreat
open Go.RowKit

/-- Four corners of an upright rectangle. -/
def rect (a b c d : Int) : List (Int × Int) := [(a, b), (c, b), (c, d), (a, d)]
theorem rect_ed (a b c d : Int) : ed (rect a b c d) 0 = ((a, b), (c, b)) ∧ ed (rect a b c d) 1 = ((c, b), (c, d)) ∧ ed (rect a b c d) 2 = ((c, d), (a, d)) ∧ ed (rect a b c d) 3 = ((a, d), (a, b)) := by
  refine ⟨?_, ?_, ?_, ?_⟩ <;> simp [ed, rect]
theorem sgn_posR {x : Int} (h : 0 < x) : sgn x = 1 := by unfold sgn; rw [if_neg (by omega), if_pos h]
theorem folds_no {ax ay bx by_ cx cy : Int} (h : 0 < crs ax ay bx by_ cx cy) : foldsL ax ay bx by_ cx cy = false := by
  unfold foldsL
  rw [sgn_posR h]
  simp
theorem rect_simple {a b c d : Int} (h1 : a < c) (h2 : b < d) (v1 : vld a b = true) (v2 : vld c d = true) : SimpleP (rect a b c d) := by
  obtain ⟨ca, cb⟩ := (vld_iff _ _).1 v1
  obtain ⟨cc, cd⟩ := (vld_iff _ _).1 v2
  have hp : 0 < (c - a) * (d - b) := Int.mul_pos (by omega) (by omega)
  obtain ⟨e0, e1, e2, e3⟩ := rect_ed a b c d
  have n1 : ¬ c = a := by omega
  have n2 : ¬ d = b := by omega
  have n3 : ¬ a = c := by omega
  have n4 : ¬ b = d := by omega
  refine ⟨by simp [rect], by simp [rect], ?_, ?_, ?_⟩
  · simp only [rect, List.all_cons, List.all_nil, Bool.and_true, Bool.and_eq_true]
    exact ⟨v1, (vld_iff _ _).2 ⟨cc, cb⟩, v2, (vld_iff _ _).2 ⟨ca, cd⟩⟩
  · intro i hi
    have hi' : i < 4 := hi
    have f0 : 0 < crs a b c b c d := by unfold crs; have : (c - a) * (d - b) - (b - b) * (c - a) = (c - a) * (d - b) := by grind
                                        omega
    have f1 : 0 < crs c b c d a d := by unfold crs; have : (c - c) * (d - b) - (d - b) * (a - c) = (c - a) * (d - b) := by grind
                                        omega
    have f2 : 0 < crs c d a d a b := by unfold crs; have : (a - c) * (b - d) - (d - d) * (a - c) = (c - a) * (d - b) := by grind
                                        omega
    have f3 : 0 < crs a d a b c b := by unfold crs; have : (a - a) * (b - d) - (b - d) * (c - a) = (c - a) * (d - b) := by grind
                                        omega
    have hl : (rect a b c d).length = 4 := rfl
    unfold badE
    rw [hl]
    rcases (by omega : i = 0 ∨ i = 1 ∨ i = 2 ∨ i = 3) with rfl | rfl | rfl | rfl
    · rw [show (0 + 1) % 4 = 1 from rfl, e0, e1]
      dsimp only
      rw [folds_no f0]
      simp [n3]
    · rw [show (1 + 1) % 4 = 2 from rfl, e1, e2]
      dsimp only
      rw [folds_no f1]
      simp [n4]
    · rw [show (2 + 1) % 4 = 3 from rfl, e2, e3]
      dsimp only
      rw [folds_no f2]
      simp [n1]
    · rw [show (3 + 1) % 4 = 0 from rfl, e3, e0]
      dsimp only
      rw [folds_no f3]
      simp [n2]
  · rintro ⟨i, j, h3, h4, h5, h6⟩
    have h4' : j < 4 := h4
    have hl : (rect a b c d).length = 4 := rfl
    rw [hl] at h5
    rcases (by omega : (i = 0 ∧ j = 2) ∨ (i = 1 ∧ j = 3)) with ⟨rfl, rfl⟩ | ⟨rfl, rfl⟩
    · rw [e0, e2] at h6
      unfold touchE touchL spansT at h6
      simp only [Bool.and_eq_true, decide_eq_true_eq] at h6
      omega
    · rw [e1, e3] at h6
      unfold touchE touchL spansT at h6
      simp only [Bool.and_eq_true, decide_eq_true_eq] at h6
      omega
end Go.Proofs.YtpnkpejnahhajaaGreat

namespace Go.Proofs.YtpnkpejnahhajaaGreat
open Go.RowKit

theorem cornB_rect (b : Bx) : cornB b = rect (3 * b.x + 1) (3 * b.y + 1) (3 * (b.x + b.w) - 1) (3 * (b.y + b.h) - 1) := rfl
theorem mem_rect {a b c d : Int} {p : Int × Int} (h : p ∈ rect a b c d) : (p.1 = a ∨ p.1 = c) ∧ (p.2 = b ∨ p.2 = d) := by
  simp only [rect, List.mem_cons, List.not_mem_nil, or_false] at h
  rcases h with rfl | rfl | rfl | rfl <;> simp
theorem boxes_sep {a b : Bx} (ha : 1 ≤ a.w ∧ 1 ≤ a.h) (hb : 1 ≤ b.w ∧ 1 ≤ b.h) (h : BxApart a b) : (sepT (cornersL (cornB a)) (cornersL (cornB b))).m = false := by
  rw [cornB_rect, cornB_rect]
  unfold BxApart at h
  rcases h with h | h | h | h
  · refine sep_apart (by simp [rect]) (by simp [rect]) (1, 0) (3 * (a.x + a.w)) (fun p hp => ?_) (fun p hp => ?_) <;>
    · have := mem_rect hp
      unfold pr
      dsimp only
      omega
  · refine sep_apart (by simp [rect]) (by simp [rect]) (-1, 0) (-(3 * (b.x + b.w))) (fun p hp => ?_) (fun p hp => ?_) <;>
    · have := mem_rect hp
      unfold pr
      dsimp only
      omega
  · refine sep_apart (by simp [rect]) (by simp [rect]) (0, 1) (3 * (a.y + a.h)) (fun p hp => ?_) (fun p hp => ?_) <;>
    · have := mem_rect hp
      unfold pr
      dsimp only
      omega
  · refine sep_apart (by simp [rect]) (by simp [rect]) (0, -1) (-(3 * (b.y + b.h))) (fun p hp => ?_) (fun p hp => ?_) <;>
    · have := mem_rect hp
      unfold pr
      dsimp only
      omega
theorem cornB_vld {b : Bx} (h : b.x + b.w ≤ 64 ∧ b.y + b.h ≤ 64) (hw : 1 ≤ b.w ∧ 1 ≤ b.h) : ((cornB b).all fun p => vld p.1 p.2) = true := by
  rw [List.all_eq_true]
  intro p hp
  have := mem_rect (cornB_rect b ▸ hp)
  refine (vld_iff _ _).2 ?_
  omega
theorem cornB_simple {b : Bx} (h : b.x + b.w ≤ 64 ∧ b.y + b.h ≤ 64) (hw : 1 ≤ b.w ∧ 1 ≤ b.h) : SimpleP (cornB b) := by
  rw [cornB_rect]
  refine rect_simple (by omega) (by omega) ?_ ?_ <;>
  · refine (vld_iff _ _).2 ?_
    omega
end Go.Proofs.YtpnkpejnahhajaaGreat

namespace Go.Proofs.YtpnkpejnahhajaaGreat
open Go.RowKit
set_option linter.unusedSimpArgs false

theorem Separate_m (A B : Option Addr) (n c n' c' : Nat) (ps qs : List (Int × Int)) (m : Bool) (w : World) (hn : ps.length = n) (hn' : qs.length = n') (h1 : 1 ≤ n) (h1' : 1 ≤ n') (hl : n ≤ 512) (hl' : n' ≤ 512)
    (hp : Pts w A ps) (hq : Pts w B qs) (hv : (ps.all fun p => vld p.1 p.2) = true) (hv' : (qs.all fun p => vld p.1 p.2) = true) (hm : (sepT (cornersL ps) (cornersL qs)).m = m) :
    Calls Tryz.prog 22 #[.slice A n c, .slice B n' c'] w fun e w' => ∃ x y d u v t, e = .returned (.tuple #[.agg #[.bool m, .int .i64 x, .int .i64 y, .int .i64 d, .int .i64 u, .int .i64 v, .int .i64 t], .int .i64 0]) ∧ sepT (cornersL ps) (cornersL qs) = ⟨m, x, y, d, u, v, t⟩ ∧ Gr w w' := by
  refine (Separate_yes A B n c n' c' ps qs w hn hn' h1 h1' hl hl' hp hq hv hv').mono fun e w' ⟨he, hg⟩ => ?_
  rw [sep_val] at he
  generalize sepT (cornersL ps) (cornersL qs) = T at he hm ⊢
  obtain ⟨m', x, y, d, u, v, t⟩ := T
  dsimp only at hm
  subst hm
  exact ⟨x, y, d, u, v, t, he, rfl, hg⟩
theorem box7a {w W : World} {t : TypeId} {a0 a1 a2 a3 a4 a5 a6 : Value} (hW : w.alloc (.cells #[a0, a1, a2, a3, a4, a5, a6] t) = W) : Gr w W ∧ Blk W w.heap.size t #[a0, a1, a2, a3, a4, a5, a6] := by
  subst hW; exact ⟨(Gr.refl _).alloc _, heap_alloc_new w _⟩

end Go.Proofs.YtpnkpejnahhajaaGreat

namespace Go.Proofs.YtpnkpejnahhajaaGreat
open Go.RowKit
set_option linter.unusedSimpArgs false

theorem box7 {w W : World} {t : TypeId} {a0 a1 a2 a3 a4 a5 a6 : Value} (hW : w.alloc (.cells #[a0, a1, a2, a3, a4, a5, a6] t) = W) :
    Gr w W ∧ Blk W w.heap.size t #[a0, a1, a2, a3, a4, a5, a6] := by
  subst hW; exact ⟨(Gr.refl _).alloc _, heap_alloc_new w _⟩
theorem box3h {w W : World} {t : TypeId} {a b c : Value} (hW : w.alloc (.cells #[a, b, c] t) = W) : Gr w W ∧ W.cell? ⟨w.heap.size, 0, none⟩ = some a ∧ W.cell? ⟨w.heap.size, 1, none⟩ = some b ∧ W.cell? ⟨w.heap.size, 2, none⟩ = some c := by
  subst hW; exact ⟨(Gr.refl _).alloc _, alloc_new rfl rfl, alloc_new rfl rfl, alloc_new rfl rfl⟩

set_option maxRecDepth 100000 in
set_option maxHeartbeats 4000000 in
theorem rightPlace_any (A B : Option Addr) (n c n' c' : Nat) (ps qs : List (Int × Int)) (m : Bool) (x y d u v t : Int) (w : World) (hn : ps.length = n) (hn' : qs.length = n') (hl : n ≤ 1048576) (hl' : n' ≤ 1048576) (hp : Pts w A ps) (hq : Pts w B qs) (hv : Cos ps) (hv' : Cos qs) :
    Calls Tryz.prog 53 #[.slice A n c, .slice B n' c', .agg #[.bool m, .int .i64 x, .int .i64 y, .int .i64 d, .int .i64 u, .int .i64 v, .int .i64 t]] w fun e w' => e = .returned (.bool (rplcL ps qs ⟨m, x, y, d, u, v, t⟩)) ∧ Gr w w' := by
  have HH := Lib.hid (fun W (hW : Gr w W) (hP : Pc x y d) => holds_any A n c ps x y d W hn hl (hp.keep hW) hv hP)
  have HH' := Lib.hid (fun W (hW : Gr w W) (hP : Pc x y d) => holds_any B n' c' qs x y d W hn' hl' (hq.keep hW) hv' hP)
  have HR : Hid (rplcL ps qs ⟨m, x, y, d, u, v, t⟩ = (decide (u = 0 ∧ v = 0 ∧ t = 0 ∧ (1 ≤ d ∧ d ≤ 1073741824) ∧ (-4398046511104 ≤ x ∧ x ≤ 4398046511104) ∧ (-4398046511104 ≤ y ∧ y ≤ 4398046511104)) && (holdsL ps x y d && holdsL qs x y d))) := Lib.hid rfl
  generalize rplcL ps qs ⟨m, x, y, d, u, v, t⟩ = r at HR ⊢
  generalize holdsL ps x y d = b1 at HH HR
  generalize holdsL qs x y d = b2 at HH' HR
  clear hn hn' hl hl' hp hq hv hv'
  go_enter Tryz.func53, Tryz.ntmps53
  go_upto_region 1 with fail
  generalize hW : World.alloc w _ = W
  obtain ⟨hgW, hBk⟩ := box7 hW
  clear hW
  obtain ⟨⟨r0, r1, r2, r3, r4, r5, r6⟩, -⟩ := Blk7 hBk
  clear hBk
  by_cases hok : u = 0 ∧ v = 0 ∧ t = 0 ∧ (1 ≤ d ∧ d ≤ 1073741824) ∧ (-4398046511104 ≤ x ∧ x ≤ 4398046511104) ∧ (-4398046511104 ≤ y ∧ y ≤ 4398046511104)
  · have HRR : Hid (r = (b1 && b2)) := Lib.hid (by rw [HR.out, decide_eq_true hok, Bool.true_and])
    clear HR
    obtain ⟨rfl, rfl, rfl, ⟨d1, d2⟩, ⟨x1, x2⟩, y1, y2⟩ := hok
    have HP : Hid (Pc x y d) := Lib.hid ⟨⟨x1, x2⟩, ⟨y1, y2⟩, by omega, d2⟩
    have e4 : decide (d < 1) = false := by simp; omega
    have e5 : decide (1073741824 < d) = false := by simp; omega
    have e45 : (decide (d < 1) || decide (1073741824 < d)) = false := by rw [e4, e5]; rfl
    go_wp2_with fail
    refine (inRange_any x _ _ (by omega) true (by simp; omega)).mono ?_
    rintro e w1 ⟨rfl, rfl⟩
    go_wp2_with fail
    refine (inRange_any y _ _ (by omega) true (by simp; omega)).mono ?_
    rintro e w1 ⟨rfl, rfl⟩
    go_wp2_with fail
    generalize hW2 : World.alloc W _ = W2
    obtain ⟨hg2, q0, q1, q2⟩ := box3h hW2
    clear hW2
    have hgw2 := hgW.trans hg2
    refine (HH.out _ hgw2 HP.out).mono ?_
    rintro e w2 ⟨rfl, hb⟩
    replace q0 := hb.keep q0
    replace q1 := hb.keep q1
    replace q2 := hb.keep q2
    rcases b1 with _ | _
    · go_wp2_with fail
      go_ret
      exact ⟨ret_bool (by rw [HRR.out]; rfl), hgw2.trans hb⟩
    · go_wp2_with fail
      refine (HH'.out _ (hgw2.trans hb) HP.out).mono ?_
      rintro e w3 ⟨rfl, hb3⟩
      go_wp2_with fail
      go_ret
      exact ⟨ret_bool (by rw [HRR.out]; rfl), (hgw2.trans hb).trans hb3⟩
  · have HRR : Hid (r = false) := Lib.hid (by rw [HR.out, decide_eq_false hok, Bool.false_and])
    clear HR HH HH'
    by_cases h1 : u = 0
    · by_cases h2 : v = 0
      · by_cases h3 : t = 0
        · by_cases h4 : d < 1
          · have e4 : decide (d < 1) = true := by simp; omega
            go_wp2_with fail
            go_ret
            exact ⟨ret_bool HRR.out.symm, hgW⟩
          · have e4 : decide (d < 1) = false := by simp; omega
            by_cases h5 : 1073741824 < d
            · have e5 : decide (1073741824 < d) = true := by simp; omega
              have e45 : (decide (d < 1) || decide (1073741824 < d)) = true := by rw [e4, e5]; rfl
              go_wp2_with fail
              go_ret
              exact ⟨ret_bool HRR.out.symm, hgW⟩
            · have e5 : decide (1073741824 < d) = false := by simp; omega
              have e45 : (decide (d < 1) || decide (1073741824 < d)) = false := by rw [e4, e5]; rfl
              by_cases h6 : -4398046511104 ≤ x ∧ x ≤ 4398046511104
              · have hy : ¬ (-4398046511104 ≤ y ∧ y ≤ 4398046511104) := fun h => hok ⟨h1, h2, h3, ⟨by omega, by omega⟩, h6, h⟩
                clear hok
                go_wp2_with fail
                refine (inRange_any x _ _ (by omega) true (by simp; omega)).mono ?_
                rintro e w1 ⟨rfl, rfl⟩
                go_wp2_with fail
                refine (inRange_any y _ _ (by omega) false (by simp; omega)).mono ?_
                rintro e w1 ⟨rfl, rfl⟩
                go_wp2_with fail
                go_ret
                exact ⟨ret_bool HRR.out.symm, hgW⟩
              · clear hok
                go_wp2_with fail
                refine (inRange_any x _ _ (by omega) false (by simp; omega)).mono ?_
                rintro e w1 ⟨rfl, rfl⟩
                go_wp2_with fail
                go_ret
                exact ⟨ret_bool HRR.out.symm, hgW⟩
        · have e3 : (t != 0) = true := by simpa using h3
          go_wp2_with fail
          go_ret
          exact ⟨ret_bool HRR.out.symm, hgW⟩
      · have e2 : (v != 0) = true := by simpa using h2
        go_wp2_with fail
        go_ret
        exact ⟨ret_bool HRR.out.symm, hgW⟩
    · have e1 : (u != 0) = true := by simpa using h1
      go_wp2_with fail
      go_ret
      exact ⟨ret_bool HRR.out.symm, hgW⟩

set_option maxRecDepth 100000 in
set_option maxHeartbeats 4000000 in
theorem rightLine_any (g n c g' n' c' : Nat) (ps qs : List (Int × Int)) (m : Bool) (x y d u v t : Int) (w : World) (hn : ps.length = n) (hn' : qs.length = n') (h1 : 1 ≤ n) (h1' : 1 ≤ n') (hl : n ≤ 1048576) (hl' : n' ≤ 1048576) (hc : n ≤ c) (hc' : n' ≤ c') (hp : Pts w (some ⟨g, 0, none⟩) ps) (hq : Pts w (some ⟨g', 0, none⟩) qs) (hv : Cos ps) (hv' : Cos qs) :
    Calls Tryz.prog 54 #[.slice (some ⟨g, 0, none⟩) n c, .slice (some ⟨g', 0, none⟩) n' c', .agg #[.bool m, .int .i64 x, .int .i64 y, .int .i64 d, .int .i64 u, .int .i64 v, .int .i64 t]] w fun e w' => e = .returned (.bool (rlineL ps qs ⟨m, x, y, d, u, v, t⟩)) ∧ Gr w w' := by
  have HH := Lib.hid (fun W (hW : Gr w W) (hP : Vc (u, v)) => reach_any g n c ps u v W hn h1 hl hc (hp.keep hW) hv hP)
  have HH' := Lib.hid (fun W (hW : Gr w W) (hP : Vc (u, v)) => reach_any g' n' c' qs u v W hn' h1' hl' hc' (hq.keep hW) hv' hP)
  have HR : Hid (rlineL ps qs ⟨m, x, y, d, u, v, t⟩ = (decide (x = 0 ∧ y = 0 ∧ d = 0 ∧ (-1152921504606846976 ≤ t ∧ t ≤ 1152921504606846976) ∧ (-1073741824 ≤ u ∧ u ≤ 1073741824) ∧ (-1073741824 ≤ v ∧ v ≤ 1073741824)) && (decide (hiL (u, v) ps < t) && decide (t < loL (u, v) qs)))) := Lib.hid rfl
  generalize rlineL ps qs ⟨m, x, y, d, u, v, t⟩ = r at HR ⊢
  generalize hiL (u, v) ps = b1 at HH HR
  generalize loL (u, v) qs = b2 at HH' HR
  clear hn hn' h1 h1' hl hl' hc hc' hp hq hv hv'
  go_enter Tryz.func54, Tryz.ntmps54
  go_upto_region 1 with fail
  generalize hW : World.alloc w _ = W
  obtain ⟨hgW, hBk⟩ := box7 hW
  clear hW
  obtain ⟨⟨r0, r1, r2, r3, r4, r5, r6⟩, -⟩ := Blk7 hBk
  clear hBk
  by_cases hok : x = 0 ∧ y = 0 ∧ d = 0 ∧ (-1152921504606846976 ≤ t ∧ t ≤ 1152921504606846976) ∧ (-1073741824 ≤ u ∧ u ≤ 1073741824) ∧ (-1073741824 ≤ v ∧ v ≤ 1073741824)
  · have HRR : Hid (r = (decide (b1 < t) && decide (t < b2))) := Lib.hid (by rw [HR.out, decide_eq_true hok, Bool.true_and])
    clear HR
    obtain ⟨rfl, rfl, rfl, ⟨t1, t2⟩, ⟨u1, u2⟩, v1, v2⟩ := hok
    have HP : Hid (Vc (u, v)) := Lib.hid ⟨⟨u1, u2⟩, v1, v2⟩
    go_wp2_with fail
    refine (inRange_any t _ _ (by omega) true (by simp; omega)).mono ?_
    rintro e w1 ⟨rfl, rfl⟩
    go_wp2_with fail
    refine (inRange_any u _ _ (by omega) true (by simp; omega)).mono ?_
    rintro e w1 ⟨rfl, rfl⟩
    go_wp2_with fail
    refine (inRange_any v _ _ (by omega) true (by simp; omega)).mono ?_
    rintro e w1 ⟨rfl, rfl⟩
    go_wp2_with fail
    refine (HH.out _ hgW HP.out).mono ?_
    rintro e w2 ⟨rfl, hb⟩
    replace r4 := hb.keep r4
    replace r5 := hb.keep r5
    replace r6 := hb.keep r6
    go_wp2_with fail
    refine (HH'.out _ (hgW.trans hb) HP.out).mono ?_
    rintro e w3 ⟨rfl, hb3⟩
    replace r6 := hb3.keep r6
    by_cases ht : b1 < t
    · go_wp2_with fail
      go_ret
      exact ⟨ret_bool (by rw [HRR.out, decide_eq_true (by omega : b1 < t), Bool.true_and]), (hgW.trans hb).trans hb3⟩
    · go_wp2_with fail
      go_ret
      exact ⟨ret_bool (by rw [HRR.out, decide_eq_false (by omega : ¬ b1 < t), Bool.false_and]), (hgW.trans hb).trans hb3⟩
  · have HRR : Hid (r = false) := Lib.hid (by rw [HR.out, decide_eq_false hok, Bool.false_and])
    clear HR HH HH'
    by_cases h1 : x = 0
    · by_cases h2 : y = 0
      · by_cases h3 : d = 0
        · by_cases h4 : -1152921504606846976 ≤ t ∧ t ≤ 1152921504606846976
          · by_cases h5 : -1073741824 ≤ u ∧ u ≤ 1073741824
            · have hy : ¬ (-1073741824 ≤ v ∧ v ≤ 1073741824) := fun h => hok ⟨h1, h2, h3, h4, h5, h⟩
              clear hok
              go_wp2_with fail
              refine (inRange_any t _ _ (by omega) true (by simp; omega)).mono ?_
              rintro e w1 ⟨rfl, rfl⟩
              go_wp2_with fail
              refine (inRange_any u _ _ (by omega) true (by simp; omega)).mono ?_
              rintro e w1 ⟨rfl, rfl⟩
              go_wp2_with fail
              refine (inRange_any v _ _ (by omega) false (by simp; omega)).mono ?_
              rintro e w1 ⟨rfl, rfl⟩
              go_wp2_with fail
              go_ret
              exact ⟨ret_bool HRR.out.symm, hgW⟩
            · clear hok
              go_wp2_with fail
              refine (inRange_any t _ _ (by omega) true (by simp; omega)).mono ?_
              rintro e w1 ⟨rfl, rfl⟩
              go_wp2_with fail
              refine (inRange_any u _ _ (by omega) false (by simp; omega)).mono ?_
              rintro e w1 ⟨rfl, rfl⟩
              go_wp2_with fail
              go_ret
              exact ⟨ret_bool HRR.out.symm, hgW⟩
          · clear hok
            go_wp2_with fail
            refine (inRange_any t _ _ (by omega) false (by simp; omega)).mono ?_
            rintro e w1 ⟨rfl, rfl⟩
            go_wp2_with fail
            go_ret
            exact ⟨ret_bool HRR.out.symm, hgW⟩
        · have e3 : (d != 0) = true := by simpa using h3
          go_wp2_with fail
          go_ret
          exact ⟨ret_bool HRR.out.symm, hgW⟩
      · have e2 : (y != 0) = true := by simpa using h2
        go_wp2_with fail
        go_ret
        exact ⟨ret_bool HRR.out.symm, hgW⟩
    · have e1 : (x != 0) = true := by simpa using h1
      go_wp2_with fail
      go_ret
      exact ⟨ret_bool HRR.out.symm, hgW⟩

set_option maxRecDepth 100000 in
set_option maxHeartbeats 4000000 in
theorem Check_yes (A B : Option Addr) (n c n' c' : Nat) (ps qs : List (Int × Int)) (m : Bool) (x y d u v t : Int) (w : World) (hn : ps.length = n) (hn' : qs.length = n') (h1 : 1 ≤ n) (h1' : 1 ≤ n') (hl : n ≤ 512) (hl' : n' ≤ 512)
    (hp : Pts w A ps) (hq : Pts w B qs) (hv : (ps.all fun p => vld p.1 p.2) = true) (hv' : (qs.all fun p => vld p.1 p.2) = true) :
    Calls Tryz.prog 23 #[.slice A n c, .slice B n' c', .agg #[.bool m, .int .i64 x, .int .i64 y, .int .i64 d, .int .i64 u, .int .i64 v, .int .i64 t]] w fun e w' =>
      e = .returned (.int .i64 (if checkL (cornersL ps) (cornersL qs) ⟨m, x, y, d, u, v, t⟩ = true then 0 else 10)) ∧ Gr w w' := by
  have HN := Lib.hid hn
  have HN' := Lib.hid hn'
  have HP := Lib.hid hp
  have HQ := Lib.hid hq
  have HV := Lib.hid hv
  have HV' := Lib.hid hv'
  have HL1 := Lib.hid (cornersL_len ps (by omega))
  have HL2 := Lib.hid (cornersL_len qs (by omega))
  have HC1 := Lib.hid (cornersL_co (Cos_of hv))
  have HC2 := Lib.hid (cornersL_co (Cos_of hv'))
  have HT : Hid ((decide (1 ≤ n ∧ n ≤ 512) && ps.all fun p => vld p.1 p.2) = true) := Lib.hid (by rw [hv]; simp; omega)
  have HT' : Hid ((decide (1 ≤ n' ∧ n' ≤ 512) && qs.all fun p => vld p.1 p.2) = true) := Lib.hid (by rw [hv']; simp; omega)
  clear hn hn' hp hq hv hv'
  obtain ⟨K, hK⟩ : ∃ K, (if checkL (cornersL ps) (cornersL qs) ⟨m, x, y, d, u, v, t⟩ = true then (0 : Int) else 10) = K := ⟨_, rfl⟩
  rw [hK]
  have HK := Lib.hid hK.symm
  clear hK
  go_enter Tryz.func23, Tryz.ntmps23
  go_wp2_with fail
  generalize hW : World.alloc w _ = W
  obtain ⟨hgW, hBk⟩ := box7 hW
  clear hW
  have HB := Lib.hid hBk
  clear hBk
  refine (isSet_any A n c ps _ HN.out (by omega) (HP.out.keep hgW) _ HT.out).mono ?_
  rintro e w1 ⟨rfl, hg⟩
  go_wp2_with fail
  refine (isSet_any B n' c' qs _ HN'.out (by omega) (HQ.out.keep (hgW.trans hg)) _ HT'.out).mono ?_
  rintro e w2 ⟨rfl, hb⟩
  replace hg := hg.trans hb
  clear hb
  go_wp2_with fail
  refine (corners_any A n c ps _ HN.out (by omega) (by omega) (HP.out.keep (hgW.trans hg)) (Cos_of HV.out)).mono ?_
  rintro e w3 ⟨g1, c1, rfl, hc1, -, hO1, hb⟩
  replace hg := hg.trans hb
  clear hb
  have HO1 := Lib.hid hO1.pts
  clear hO1
  go_wp2_with fail
  refine (corners_any B n' c' qs _ HN'.out (by omega) (by omega) (HQ.out.keep (hgW.trans hg)) (Cos_of HV'.out)).mono ?_
  rintro e w4 ⟨g2, c2, rfl, hc2, -, hO2, hb⟩
  replace hg := hg.trans hb
  have HO1 := Lib.hid (HO1.out.keep hb)
  have HO2 := Lib.hid hO2.pts
  clear hO2 hb
  obtain ⟨m1, hm1⟩ : ∃ m, (cornersL ps).length = m := ⟨_, rfl⟩
  obtain ⟨m2, hm2⟩ : ∃ m, (cornersL qs).length = m := ⟨_, rfl⟩
  have hlm1 : 1 ≤ m1 ∧ m1 ≤ 1024 := by have := HL1.out; have := HN.out; omega
  have hlm2 : 1 ≤ m2 ∧ m2 ≤ 1024 := by have := HL2.out; have := HN'.out; omega
  rw [hm1] at hc1 ⊢
  rw [hm2] at hc2 ⊢
  generalize cornersL ps = H1 at hm1 HO1 HC1 HK ⊢
  generalize cornersL qs = H2 at hm2 HO2 HC2 HK ⊢
  have HM1 := Lib.hid hm1
  have HM2 := Lib.hid hm2
  clear hm1 hm2 HL1 HL2 HT HT' HV HV' HP HQ
  obtain ⟨⟨r0, r1, r2, r3, r4, r5, r6⟩, -⟩ := Blk7 (HB.out.keep hg)
  rcases m with _ | _
  · replace HK : Hid (K = if rlineL H1 H2 ⟨false, x, y, d, u, v, t⟩ = true then 0 else 10) := Lib.hid HK.out
    go_wp2_with fail
    refine (rightLine_any g1 m1 c1 g2 m2 c2 H1 H2 false x y d u v t _ HM1.out HM2.out (by omega) (by omega) (by omega) (by omega) hc1 hc2 HO1.out HO2.out HC1.out HC2.out).mono ?_
    rintro e w5 ⟨rfl, hb⟩
    generalize rlineL H1 H2 ⟨false, x, y, d, u, v, t⟩ = r at HK ⊢
    rcases r with _ | _
    all_goals
      go_wp2_with fail
      go_ret
      exact ⟨ret_int (by rw [HK.out]; simp), (hgW.trans hg).trans hb⟩
  · replace HK : Hid (K = if rplcL H1 H2 ⟨true, x, y, d, u, v, t⟩ = true then 0 else 10) := Lib.hid HK.out
    go_wp2_with fail
    refine (rightPlace_any _ _ m1 c1 m2 c2 H1 H2 true x y d u v t _ HM1.out HM2.out (by omega) (by omega) HO1.out HO2.out HC1.out HC2.out).mono ?_
    rintro e w5 ⟨rfl, hb⟩
    replace r0 := hb.keep r0
    generalize rplcL H1 H2 ⟨true, x, y, d, u, v, t⟩ = r at HK ⊢
    rcases r with _ | _
    all_goals
      go_wp2_with fail
      go_ret
      exact ⟨ret_int (by rw [HK.out]; simp), (hgW.trans hg).trans hb⟩

end Go.Proofs.YtpnkpejnahhajaaGreat
