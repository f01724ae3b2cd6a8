/- Layer 2: sides, blanks and tasks, as the program and as the reference say them.
Layer 2: the state of a reader of plans. -/
import Derived.Test.YtpnkpejnahhajaaGreatBc0
import Derived.Test.YtpnkpejnahhajaaGreatBc13
namespace Go.Proofs.YtpnkpejnahhajaaGreat
open Go.RowKit
set_option linter.unusedSimpArgs false

theorem isSide_any (n : Int) (w : World) (r : Bool) (hr : sideB n = r) : Calls Tryz.prog 59 #[.int .i64 n] w fun e w' => e = .returned (.bool r) ∧ w = w' := by
  subst hr
  go_enter Tryz.func59, Tryz.ntmps59
  go_wp2
  · have h : 1 ≤ n := by assumption
    go_ret
    exact ⟨ret_bool (by simp [sideB, h]), rfl⟩
  · have h : n < 1 := by assumption
    go_ret
    exact ⟨ret_bool (by simp [sideB]; omega), rfl⟩
def cutB (a n : Int) : Bool := decide (1 ≤ a) && decide (a < n)
theorem isCut_any (a n : Int) (w : World) (r : Bool) (hr : cutB a n = r) : Calls Tryz.prog 112 #[.int .i64 a, .int .i64 n] w fun e w' => e = .returned (.bool r) ∧ w = w' := by
  subst hr
  go_enter Tryz.func112, Tryz.ntmps112
  go_wp2
  · have h : 1 ≤ a := by assumption
    go_ret
    exact ⟨ret_bool (by simp [cutB, h]), rfl⟩
  · have h : a < 1 := by assumption
    go_ret
    exact ⟨ret_bool (by simp [cutB]; omega), rfl⟩
theorem fits_any (b : Bl) (w0 h : Int) (w : World) (r : Bool) (hr : fitsB b w0 h = r) : Calls Tryz.prog 98 #[.agg #[.int .i64 b.1, .int .i64 b.2.1, .int .i64 b.2.2], .int .i64 w0, .int .i64 h] w fun e w' => e = .returned (.bool r) ∧ Gr w w' := by
  subst hr
  obtain ⟨x, y, v⟩ := b
  dsimp only
  go_enter Tryz.func98, Tryz.ntmps98
  go_wp2
  · have h : x ≤ w0 := by assumption
    go_ret
    exact ⟨ret_bool (by simp [fitsB, h]), (Gr.refl _).alloc _⟩
  · have h : w0 < x := by assumption
    go_ret
    exact ⟨ret_bool (by simp [fitsB]; omega), (Gr.refl _).alloc _⟩
theorem bl_getD (bs : List Bl) (k : Nat) : bs.getD k (0, 0, 0) = bl bs k := rfl
set_option maxHeartbeats 2000000 in
theorem isTask_any (W0 H0 : Int) (A : Option Addr) (n c : Nat) (bs : List Bl) (w : World) (hn : bs.length = n) (hl : n ≤ 281474976710656) (hp : Tris w A bs) (r : Bool) (hr : taskB W0 H0 bs = r) :
    Calls Tryz.prog 28 #[.int .i64 W0, .int .i64 H0, .slice A n c] w fun e w' => e = .returned (.bool r) ∧ Gr w w' := by
  rcases hw : sideB W0 with _ | _
  · obtain rfl : r = false := by rw [← hr]; simp [taskB, hw]
    have HS := Lib.hid hw
    clear hr hw hn hp
    go_enter Tryz.func28, Tryz.ntmps28
    go_wp2_with fail
    refine (isSide_any _ _ _ HS.out).mono ?_
    rintro e w1 ⟨rfl, rfl⟩
    go_wp2_with fail
    go_ret
    exact ⟨rfl, by (repeat (first | exact Gr.refl _ | assumption | (refine Gr.drew ?_) | (refine Gr.drewN ?_ _) | (refine Gr.alloc ?_ _) | (refine Gr.trans ?_ (by assumption))))⟩
  · rcases hh : sideB H0 with _ | _
    · obtain rfl : r = false := by rw [← hr]; simp [taskB, hh]
      have HS := Lib.hid hw
      have HS2 := Lib.hid hh
      clear hr hw hn hp hh
      go_enter Tryz.func28, Tryz.ntmps28
      go_wp2_with fail
      refine (isSide_any _ _ _ HS.out).mono ?_
      rintro e w1 ⟨rfl, rfl⟩
      go_wp2_with fail
      refine (isSide_any _ _ _ HS2.out).mono ?_
      rintro e w1 ⟨rfl, rfl⟩
      go_wp2_with fail
      go_ret
      exact ⟨rfl, by (repeat (first | exact Gr.refl _ | assumption | (refine Gr.drew ?_) | (refine Gr.drewN ?_ _) | (refine Gr.alloc ?_ _) | (refine Gr.trans ?_ (by assumption))))⟩
    · by_cases h16 : n ≤ 16
      · have HR : Hid (bs.all blB = r) := Lib.hid (by rw [← hr]; unfold taskB; rw [hw, hh, hn]; simp [h16])
        have HS := Lib.hid hw
        have HS2 := Lib.hid hh
        have HN := Lib.hid hn
        have HP := Lib.hid hp
        clear hr hw hh hn hp
        go_enter Tryz.func28, Tryz.ntmps28
        go_wp2_with fail
        refine (isSide_any _ _ _ HS.out).mono ?_
        rintro e w1 ⟨rfl, rfl⟩
        go_wp2_with fail
        refine (isSide_any _ _ _ HS2.out).mono ?_
        rintro e w1 ⟨rfl, rfl⟩
        go_wp2_with fail
        go_loopw [24] (fun i wr => ∃ k : Nat, k ≤ n ∧ i = .int .i64 k ∧ Hid ((bs.take k).all blB = true) ∧ Gr w wr) (fun i _ => n - (intOf i).toNat)
        case atStart => exact ⟨0, Nat.zero_le _, rfl, Lib.hid (by simp), by (repeat (first | exact Gr.refl _ | assumption | (refine Gr.drew ?_) | (refine Gr.drewN ?_ _) | (refine Gr.alloc ?_ _) | (refine Gr.trans ?_ (by assumption))))⟩
        case round =>
          obtain ⟨k, hk, rfl, hall, hg⟩ := hrel
          by_cases hlt : k < n
          · have hkl : k < bs.length := by have := HN.out; omega
            obtain ⟨b, off, rfl, h0, h1, h2⟩ := Tris_at (HP.out.keep hg) hkl
            have HALL : blB (bs.getD k (0, 0, 0)) = false → Hid (bs.all blB = false) := fun h => Lib.hid (all_false blB bs (0, 0, 0) k hkl h)
            have HNEXT : blB (bs.getD k (0, 0, 0)) = true → Hid ((bs.take (k + 1)).all blB = true) := fun h => Lib.hid (by rw [all_take_succ _ _ (0, 0, 0) _ hkl, hall.out, h]; rfl)
            generalize bs.getD k (0, 0, 0) = q at h0 h1 h2 HALL HNEXT
            obtain ⟨x, y, v⟩ := q
            dsimp only at h0 h1 h2
            rcases e1 : sideB x with _ | _
            · have HF : Hid (r = false) := Lib.hid (by rw [← HR.out]; exact (HALL (by simp [blB, e1])).out)
              have E1 := Lib.hid e1
              clear e1 HALL HNEXT
              go_wp2_with fail
              refine (isSide_any _ _ _ E1.out).mono ?_
              rintro e w1 ⟨rfl, rfl⟩
              go_wp2_with fail
              go_ret
              exact ⟨ret_bool HF.out.symm, by (repeat (first | exact Gr.refl _ | assumption | (refine Gr.drew ?_) | (refine Gr.drewN ?_ _) | (refine Gr.alloc ?_ _) | (refine Gr.trans ?_ (by assumption))))⟩
            · rcases e2 : sideB y with _ | _
              · have HF : Hid (r = false) := Lib.hid (by rw [← HR.out]; exact (HALL (by simp [blB, e2])).out)
                have E1 := Lib.hid e1
                have E2 := Lib.hid e2
                clear e1 e2 HALL HNEXT
                go_wp2_with fail
                refine (isSide_any _ _ _ E1.out).mono ?_
                rintro e w1 ⟨rfl, rfl⟩
                go_wp2_with fail
                refine (isSide_any _ _ _ E2.out).mono ?_
                rintro e w1 ⟨rfl, rfl⟩
                go_wp2_with fail
                go_ret
                exact ⟨ret_bool HF.out.symm, by (repeat (first | exact Gr.refl _ | assumption | (refine Gr.drew ?_) | (refine Gr.drewN ?_ _) | (refine Gr.alloc ?_ _) | (refine Gr.trans ?_ (by assumption))))⟩
              · by_cases hv : 0 ≤ v ∧ v ≤ 1048576
                · have HX : Hid ((bs.take (k + 1)).all blB = true) := HNEXT (by simp [blB, e1, e2, hv])
                  obtain ⟨v1, v2⟩ := hv
                  have E1 := Lib.hid e1
                  have E2 := Lib.hid e2
                  clear e1 e2 HALL HNEXT
                  go_wp2_with fail
                  refine (isSide_any _ _ _ E1.out).mono ?_
                  rintro e w1 ⟨rfl, rfl⟩
                  go_wp2_with fail
                  refine (isSide_any _ _ _ E2.out).mono ?_
                  rintro e w1 ⟨rfl, rfl⟩
                  go_wp2_with fail
                  go_roundw
                  case rel => exact ⟨k + 1, by omega, by go_num, HX, by (repeat (first | exact Gr.refl _ | assumption | (refine Gr.drew ?_) | (refine Gr.drewN ?_ _) | (refine Gr.alloc ?_ _) | (refine Gr.trans ?_ (by assumption))))⟩
                  case measure => simp [intOf]; omega
                · have HF : Hid (r = false) := Lib.hid (by rw [← HR.out]; exact (HALL (by simp [blB]; omega)).out)
                  have E1 := Lib.hid e1
                  have E2 := Lib.hid e2
                  clear e1 e2 HALL HNEXT
                  by_cases v1 : 0 ≤ v
                  · have v2 : 1048576 < v := by omega
                    go_wp2_with fail
                    refine (isSide_any _ _ _ E1.out).mono ?_
                    rintro e w1 ⟨rfl, rfl⟩
                    go_wp2_with fail
                    refine (isSide_any _ _ _ E2.out).mono ?_
                    rintro e w1 ⟨rfl, rfl⟩
                    go_wp2_with fail
                    go_ret
                    exact ⟨ret_bool HF.out.symm, by (repeat (first | exact Gr.refl _ | assumption | (refine Gr.drew ?_) | (refine Gr.drewN ?_ _) | (refine Gr.alloc ?_ _) | (refine Gr.trans ?_ (by assumption))))⟩
                  · have v2 : v < 0 := by omega
                    clear hv
                    go_wp2_with fail
                    refine (isSide_any _ _ _ E1.out).mono ?_
                    rintro e w1 ⟨rfl, rfl⟩
                    go_wp2_with fail
                    refine (isSide_any _ _ _ E2.out).mono ?_
                    rintro e w1 ⟨rfl, rfl⟩
                    go_wp2_with fail
                    go_ret
                    exact ⟨ret_bool HF.out.symm, by (repeat (first | exact Gr.refl _ | assumption | (refine Gr.drew ?_) | (refine Gr.drewN ?_ _) | (refine Gr.alloc ?_ _) | (refine Gr.trans ?_ (by assumption))))⟩
          · go_wp2_with fail
            go_ret
            exact ⟨ret_bool (by have h := hall.out; rw [List.take_of_length_le (by have := HN.out; omega)] at h; rw [← HR.out]; exact h.symm), hg⟩
      · obtain rfl : r = false := by rw [← hr]; unfold taskB; rw [hn]; simp [h16]
        have h17 : 16 < n := by omega
        have HS := Lib.hid hw
        have HS2 := Lib.hid hh
        clear hr hw hh hn hp h16
        go_enter Tryz.func28, Tryz.ntmps28
        go_wp2_with fail
        refine (isSide_any _ _ _ HS.out).mono ?_
        rintro e w1 ⟨rfl, rfl⟩
        go_wp2_with fail
        refine (isSide_any _ _ _ HS2.out).mono ?_
        rintro e w1 ⟨rfl, rfl⟩
        go_wp2_with fail
        go_ret
        exact ⟨rfl, by (repeat (first | exact Gr.refl _ | assumption | (refine Gr.drew ?_) | (refine Gr.drewN ?_ _) | (refine Gr.alloc ?_ _) | (refine Gr.trans ?_ (by assumption))))⟩

end Go.Proofs.YtpnkpejnahhajaaGreat

namespace Go.Proofs.YtpnkpejnahhajaaGreat
open Go.RowKit
set_option linter.unusedSimpArgs false

/-- What the reader of a plan has: the place (a), the plan (p), the blanks (b), what was made (m), itself (f). -/
structure RSt (wb : World) (a p b m f : Nat) (pv bv fv : Value) (k : Nat) (ms : List Bl) (v : Value) (w : World) : Prop where
  at_ : Blk w a 3 #[.int .i64 (k : Int)]
  plan : Blk w p 55 #[pv]
  blanks : Blk w b 43 #[bv]
  made : Blk w m 43 #[v]
  self : Blk w f 122 #[fv]
  row : w.ownsRow wb.heap.size 50 3 v ms.length (flatE enc3 ms)
  old : Gr wb w
  la : wb.heap.size ≤ a
  lm : wb.heap.size ≤ m
  ne : b ≠ m

/-- One step is taken: a block with it, and the place. -/
theorem RSt.step {wb : World} {a p b m f : Nat} {pv bv fv : Value} {k : Nat} {ms : List Bl} {v : Value} {w : World} (h : RSt wb a p b m f pv bv fv k ms v w) (o : Obj) :
    RSt wb a p b m f pv bv fv (k + 1) ms v ((w.alloc o).setCell ⟨a, 0, none⟩ (.int .i64 ((k : Int) + 1))) := by
  have hx := (h.at_.alloc o).put 0 (.int .i64 ((k : Int) + 1))
  refine ⟨?_, ?_, ?_, ?_, ?_, ?_, ?_, h.la, h.lm, h.ne⟩
  · exact hx
  · exact (h.plan.alloc o).other (h.plan.differ h.at_ (by decide)) _
  · exact (h.blanks.alloc o).other (h.blanks.differ h.at_ (by decide)) _
  · exact (h.made.alloc o).other (h.made.differ h.at_ (by decide)) _
  · exact (h.self.alloc o).other (h.self.differ h.at_ (by decide)) _
  · have h1 : (w.alloc o).ownsRow wb.heap.size 50 3 v ms.length (flatE enc3 ms) := h.row.alloc _
    exact ownsRow_setCell_other h1 (fun e => (h.at_.alloc o).apart h1 (by decide) e.symm) _
  · exact (h.old.alloc o).setCell h.la _

theorem RSt.facts {wb : World} {a p b m f : Nat} {pv bv fv : Value} {k : Nat} {ms : List Bl} {v : Value} {w : World} (h : RSt wb a p b m f pv bv fv k ms v w) (x y : Value) (t : TypeId) :
    ((w.alloc (.cells #[x, y] t)).cell? ⟨a, 0, none⟩ = some (.int .i64 (k : Int)) ∧ (w.alloc (.cells #[x, y] t)).frozen? ⟨a, 0, none⟩ = false) ∧
    ((w.alloc (.cells #[x, y] t)).setCell ⟨a, 0, none⟩ (.int .i64 ((k : Int) + 1))).cell? ⟨w.heap.size, 0, none⟩ = some x ∧
    ((w.alloc (.cells #[x, y] t)).setCell ⟨a, 0, none⟩ (.int .i64 ((k : Int) + 1))).cell? ⟨w.heap.size, 1, none⟩ = some y := by
  have hne : (⟨a, 0, none⟩ : Addr).block ≠ w.heap.size := fun e => by have := h.at_.lt; dsimp only at e; omega
  have hn : ∀ i, (⟨a, 0, none⟩ : Addr) ≠ ⟨w.heap.size, i, none⟩ := fun i e => hne (congrArg Addr.block e)
  refine ⟨⟨(h.at_.alloc _).cell 0, (h.at_.alloc _).free 0⟩, ?_, ?_⟩
  · rw [World.cell?_setCell_other _ _ _ _ (hn 0)]; exact alloc_new rfl rfl
  · rw [World.cell?_setCell_other _ _ _ _ (hn 1)]; exact alloc_new rfl rfl

theorem RSt.keep {wb : World} {a p b m f : Nat} {pv bv fv : Value} {k : Nat} {ms : List Bl} {v : Value} {w w1 : World} (h : RSt wb a p b m f pv bv fv k ms v w) (hg : Gr w w1) : RSt wb a p b m f pv bv fv k ms v w1 :=
  ⟨h.at_.keep hg, h.plan.keep hg, h.blanks.keep hg, h.made.keep hg, h.self.keep hg, owns_gr h.row hg, h.old.trans hg, h.la, h.lm, h.ne⟩

/-- A blank more: what an append and the store of its result leave. -/
theorem RSt.more {wb : World} {a p b m f : Nat} {pv bv fv : Value} {k : Nat} {ms : List Bl} {v : Value} {w : World} (h : RSt wb a p b m f pv bv fv k ms v w) {w2 : World} {v' : Value} {x : Bl}
    (hown : w2.ownsRow wb.heap.size 50 3 v' (ms.length + 1) (flatE enc3 ms ++ enc3 x)) (hgrow : w.grownBy w2 v.ownBlock) :
    RSt wb a p b m f pv bv fv k (ms ++ [x]) v' (w2.setCell ⟨m, 0, none⟩ v') := by
  have hm := h.made.grown hgrow (h.made.apart h.row (by decide))
  have hr : w2.ownsRow wb.heap.size 50 3 v' (ms ++ [x]).length (flatE enc3 (ms ++ [x])) := by rw [flatE_snoc, List.length_append]; exact hown
  refine ⟨?_, ?_, ?_, ?_, ?_, ?_, ?_, h.la, h.lm, h.ne⟩
  · exact (h.at_.grown hgrow (h.at_.apart h.row (by decide))).other (h.at_.differ h.made (by decide)) _
  · exact (h.plan.grown hgrow (h.plan.apart h.row (by decide))).other (h.plan.differ h.made (by decide)) _
  · exact (h.blanks.grown hgrow (h.blanks.apart h.row (by decide))).other h.ne _
  · exact hm.put 0 v'
  · exact (h.self.grown hgrow (h.self.apart h.row (by decide))).other (h.self.differ h.made (by decide)) _
  · exact ownsRow_setCell_other hr (fun e => hm.apart hr (by decide) e.symm) _
  · exact Gr.setCell (Below.grown h.old hgrow h.old.size (fun t ht => (h.row.lt t ht).1)) h.lm _

/-- The steps that lie in blocks of their own have not turned. -/
def StK (w w' : World) : Prop := ∀ g cs, Blk w g 61 cs → Blk w' g 61 cs
theorem StK.refl (w : World) : StK w w := fun _ _ h => h
theorem StK.trans {a b c : World} (h : StK a b) (k : StK b c) : StK a c := fun g cs x => k g cs (h g cs x)
theorem StK.of {w w' : World} (h : Gr w w') : StK w w' := fun _ _ x => x.keep h
theorem RSt.stk {wb : World} {a p b m f : Nat} {pv bv fv : Value} {k : Nat} {ms : List Bl} {v : Value} {w : World} (h : RSt wb a p b m f pv bv fv k ms v w) (o : Obj) (u : Value) : StK w ((w.alloc o).setCell ⟨a, 0, none⟩ u) :=
  fun _ _ x => (x.alloc o).other (x.differ h.at_ (by decide)) _
theorem RSt.stk_more {wb : World} {a p b m f : Nat} {pv bv fv : Value} {k : Nat} {ms : List Bl} {v : Value} {w : World} (h : RSt wb a p b m f pv bv fv k ms v w) {w2 : World} (hgrow : w.grownBy w2 v.ownBlock) (u : Value) : StK w (w2.setCell ⟨m, 0, none⟩ u) :=
  fun _ _ x => (x.grown hgrow (x.apart h.row (by decide))).other (x.differ h.made (by decide)) _

end Go.Proofs.YtpnkpejnahhajaaGreat
