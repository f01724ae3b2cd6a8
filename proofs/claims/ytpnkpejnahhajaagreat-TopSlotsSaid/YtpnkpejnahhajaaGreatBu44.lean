/- The library's Concat of two slices of points.
The corners of a hull, as the program finds them. -/
import Derived.Test.YtpnkpejnahhajaaGreatBu42
import Derived.Test.YtpnkpejnahhajaaGreatShelf
import Derived.Test.YtpnkpejnahhajaaGreatBu40
import Derived.Test.YtpnkpejnahhajaaGreatBu41
import Derived.Test.YtpnkpejnahhajaaGreatBu43
namespace Go.Proofs.YtpnkpejnahhajaaGreat
open Go.RowKit
set_option linter.unusedSimpArgs false

def ConcatPost (ps qs : List (Int × Int)) (w : World) (e : Ending) (w' : World) : Prop :=
  ∃ g c, e = .returned (.slice (some ⟨g, 0, none⟩) (ps.length + qs.length) c) ∧ ps.length + qs.length ≤ c ∧ w.heap.size ≤ g ∧ Own w' g 0 (ps ++ qs) ∧ Gr w w'

theorem zeros_size (z : Array Value) (n : Nat) : (Builtin.zeroCells z n).size = n * z.size := by simp [Builtin.zeroCells]

theorem grow_any (n : Nat) (w : World) (h0 : 1 ≤ n) (hl : n ≤ 4096) :
    Calls Tryz.prog 125 #[.slice none 0 0, .int .i64 n] w fun e w' => ∃ c, e = .returned (.slice (some ⟨w.heap.size, 0, none⟩) 0 c) ∧ w'.ownsRow w.heap.size 108 2 (.slice (some ⟨w.heap.size, 0, none⟩) 0 c) 0 [] ∧ Gr w w' := by
  obtain ⟨i0, hi, hz0, hz1, hz2⟩ := info_parts Tryz.info23
  have h := Any8.slices_Grow_grow Try.growPts i0 (.agg #[.int .i64 0, .int .i64 0]) hi hz0 (by rw [hz1]; decide) none 0 0 n [] w (Nat.le_refl _) (by omega) (by rw [hz2]; omega) (by omega) (by simp) (fun _ => rfl) (fun a h => by cases h)
  change Calls Tryz.prog 125 _ _ _ at h
  refine h.mono ?_
  rintro e w' ⟨rfl, rfl⟩
  refine ⟨_, rfl, ?_, (Gr.refl w).drew.alloc _⟩
  have hc := grownCap_ge w (0 + n) 0 (Try.growPts_ren.t 25)
  have hm := grownCap_le_maxLen w (0 + n) 0 (Try.growPts_ren.t 25) (by unfold maxLen; omega)
  rw [Nat.zero_add] at hc
  refine World.ownsRow_made w.drew _ _ (Nat.le_refl _) hm ?_
  have e2 : (Value.agg #[Value.int .i64 0, Value.int .i64 0]).cells.size = 2 := rfl
  change (([] : List Value).toArray ++ Builtin.zeroCells _ _ ++ Builtin.zeroCells _ _).size = _
  rw [Array.size_append, Array.size_append, zeros_size, zeros_size, e2]
  simp
  omega

set_option maxRecDepth 100000 in
set_option maxHeartbeats 2000000 in
theorem concat_any (h b1 o1 b2 o2 n1 n2 c1 c2 : Nat) (ps qs : List (Int × Int)) (w : World) (hn1 : ps.length = n1) (hn2 : qs.length = n2) (h1 : 1 ≤ n1) (hl1 : n1 ≤ 1024) (hl2 : n2 ≤ 1024)
    (k1 : w.cell? ⟨h, 0, none⟩ = some (.slice (some ⟨b1, o1, none⟩) n1 c1)) (k2 : w.cell? ⟨h, 1, none⟩ = some (.slice (some ⟨b2, o2, none⟩) n2 c2)) (hp : Pts w (some ⟨b1, o1, none⟩) ps) (hq : Pts w (some ⟨b2, o2, none⟩) qs) :
    Calls Tryz.prog 87 #[.slice (some ⟨h, 0, none⟩) 2 2] w (ConcatPost ps qs w) := by
  obtain ⟨i0, hi, hz0, hz1, hz2⟩ := info_parts Tryz.info23
  have HI := Lib.hid (And.intro hi (And.intro hz0 (And.intro hz1 hz2)))
  have HP := Lib.hid hp
  have HQ := Lib.hid hq
  have HN1 := Lib.hid hn1
  have HN2 := Lib.hid hn2
  clear hp hq hn1 hn2 hi hz0 hz1 hz2
  go_enter Tryz.func87, Tryz.ntmps87
  go_wp2_with fail
  go_loop [3, 11] (fun s i => (i = .int .i64 0 ∧ s = .int .i64 0) ∨ (i = .int .i64 1 ∧ s = .int .i64 n1) ∨ (i = .int .i64 2 ∧ s = .int .i64 ((n1 : Int) + (n2 : Int)))) (fun _ i => 2 - (intOf i).toNat)
  case atStart => exact Or.inl ⟨rfl, rfl⟩
  case round =>
    rcases hrel with ⟨rfl, rfl⟩ | ⟨rfl, rfl⟩ | ⟨rfl, rfl⟩
    · go_wp2_with fail
      go_round
      case rel => exact Or.inr (Or.inl ⟨rfl, rfl⟩)
      case measure => simp [intOf]
    · go_wp2_with fail
      go_round
      case rel => exact Or.inr (Or.inr ⟨rfl, rfl⟩)
      case measure => simp [intOf]
    · have hs : ((n1 : Int) + (n2 : Int)) = ((n1 + n2 : Nat) : Int) := by push_cast; rfl
      rw [hs]
      clear hs
      go_wp2_with fail
      refine (grow_any (n1 + n2) _ (by omega) (by omega)).mono ?_
      rintro e w1 ⟨cg, rfl, hown, hg⟩
      have HO := Lib.hid hown
      clear hown
      go_wp2_with fail
      go_loopw [6, 27] (fun v i wr => (Gr w wr ∧ i = .int .i64 0 ∧ v = .slice (some ⟨w.heap.size, 0, none⟩) 0 cg ∧ wr.ownsRow w.heap.size 108 2 v 0 []) ∨ (Gr w wr ∧ i = .int .i64 1 ∧ wr.ownsRow w.heap.size 108 2 v n1 (flat2 ps)) ∨ (Gr w wr ∧ i = .int .i64 2 ∧ wr.ownsRow w.heap.size 108 2 v (n1 + n2) (flat2 ps ++ flat2 qs))) (fun _ i _ => 2 - (intOf i).toNat)
      case atStart => exact Or.inl ⟨hg, rfl, rfl, HO.out⟩
      case round =>
        rcases hrel with ⟨hgr, rfl, rfl, hown⟩ | ⟨hgr, rfl, hown⟩ | ⟨hgr, rfl, hown⟩
        · have j1 := hgr.keep k1
          obtain ⟨hi, hz0, hz1, hz2⟩ := HI.out
          go_wp2_with (at_builtin; refine wpList_append_own _ rfl _ _ 70 rfl w.heap.size 108 i0 _ 2 16 Tryz.underlying70 hi hz0 hz1 hz2 rfl (by decide) _ _ _ rfl hown ⟨b1, o1, none⟩ n1 c1 (flat2 ps) rfl ?a1 ?a2 ?a3 ?a4 ?a5 ?a6 ?_)
          case a1 => rw [flat2_len, HN1.out]
          case a2 =>
            intro j u hj
            rw [Addr.add_lit]
            exact flat2_cells (HP.out.keep hgr) j u hj
          case a3 => exact flat2_one ps
          case a4 => unfold maxLen; omega
          case a5 => omega
          case a6 => exact hgr.size
          intro v' w2 hown' hgrow _
          have hg2 : Gr w w2 := Below.grown hgr hgrow hgr.size (by intro k hk; simp [Value.ownBlock] at hk; omega)
          have HO2 : Hid (w2.ownsRow w.heap.size 108 2 v' n1 (flat2 ps)) := Lib.hid (by simpa using hown')
          clear hown' hgrow hown hi hz0 hz1 hz2 j1
          go_wp2_with fail
          go_roundw
          case rel => exact Or.inr (Or.inl ⟨hg2, rfl, HO2.out⟩)
          case measure => simp [intOf]
        · have j2 := hgr.keep k2
          obtain ⟨hi, hz0, hz1, hz2⟩ := HI.out
          obtain ⟨gv, cv, hvv⟩ : ∃ gv cv, u6 = .slice (some ⟨gv, 0, none⟩) n1 cv := by
            rcases hown.2 with ⟨_, hz⟩ | ⟨gv, cv, _, hv, _⟩
            · omega
            · exact ⟨gv, cv, hv⟩
          subst hvv
          go_wp2_with (at_builtin; refine wpList_append_own _ rfl _ _ 70 rfl w.heap.size 108 i0 _ 2 16 Tryz.underlying70 hi hz0 hz1 hz2 rfl (by decide) _ _ _ rfl hown ⟨b2, o2, none⟩ n2 c2 (flat2 qs) rfl ?b1 ?b2 ?b3 ?b4 ?b5 ?b6 ?_)
          case b1 => rw [flat2_len, HN2.out]
          case b2 =>
            intro j u hj
            rw [Addr.add_lit]
            exact flat2_cells (HQ.out.keep hgr) j u hj
          case b3 => exact flat2_one qs
          case b4 => unfold maxLen; omega
          case b5 => omega
          case b6 => exact hgr.size
          intro v' w2 hown' hgrow _
          have hg2 : Gr w w2 := Below.grown hgr hgrow hgr.size (fun k hk => (hown.lt k hk).1)
          have HO2 := Lib.hid hown'
          clear hown' hgrow hown hi hz0 hz1 hz2 j2
          go_wp2_with fail
          go_roundw
          case rel => exact Or.inr (Or.inr ⟨hg2, rfl, HO2.out⟩)
          case measure => simp [intOf]
        · go_wp2_with fail
          go_ret
          rcases hown.2 with ⟨_, hz⟩ | ⟨gv, cv, cur, rfl, hgv, _, hnc, _⟩
          · omega
          · have e : flat2 ps ++ flat2 qs = flat2 (ps ++ qs) := by unfold flat2; rw [List.flatMap_append]
            rw [e] at hown
            refine ⟨gv, cv, by rw [HN1.out, HN2.out]; rfl, by rw [HN1.out, HN2.out]; exact hnc, hgv, Own_of (by rw [List.length_append, HN1.out, HN2.out]) hown, hgr⟩

end Go.Proofs.YtpnkpejnahhajaaGreat

namespace Go.Proofs.YtpnkpejnahhajaaGreat
open Go.RowKit Go.Sort
set_option linter.unusedSimpArgs false

theorem holdsK_of {w : World} {g off : Nat} {ps : List (Int × Int)} (h : Own w g off ps) : HoldsK enc2 2 w g off ps.toArray := fun j hj => by
  have hj' : j < ps.length * 2 := by simpa using hj
  obtain ⟨⟨h1, h2⟩, h3, h4⟩ := h (j / 2) (by omega)
  have e : (flatK enc2 2 ps.toArray)[j]! = (enc2 (ps.getD (j / 2) (0, 0)))[j % 2]! := by
    rw [get_flatK _ _ _ _ (by simpa using hj')]
    congr 2
    rw [getElem!_pos _ _ (by simp; omega), List.getD_eq_getElem?_getD, List.getElem?_eq_getElem (by omega)]
    simp
  rw [e]
  rcases Nat.mod_two_eq_zero_or_one j with hm | hm
  · rw [hm, show off + j = off + j / 2 * 2 by omega]; exact ⟨h1, h3⟩
  · rw [hm, show off + j = off + j / 2 * 2 + 1 by omega]; exact ⟨h2, h4⟩
theorem own_of_holdsK {w : World} {g off : Nat} {ps : List (Int × Int)} (h : HoldsK enc2 2 w g off ps.toArray) : Own w g off ps := fun i hi => by
  have e : ∀ t, t < 2 → (flatK enc2 2 ps.toArray)[i * 2 + t]! = (enc2 (ps.getD i (0, 0)))[t]! := fun t ht => by
    rw [get_flatK _ _ _ _ (by simp; omega), show (i * 2 + t) / 2 = i by omega, show (i * 2 + t) % 2 = t by omega]
    congr 2
    rw [getElem!_pos _ _ (by simpa using hi), List.getD_eq_getElem?_getD, List.getElem?_eq_getElem hi]
    simp
  obtain ⟨a0, b0⟩ := h (i * 2) (by simp; omega)
  obtain ⟨a1, b1⟩ := h (i * 2 + 1) (by simp; omega)
  have e0 := e 0 (by omega)
  have e1 := e 1 (by omega)
  simp only [Nat.add_zero] at e0
  simp only [id_eq] at a0 a1
  rw [e0] at a0
  rw [e1] at a1
  exact ⟨⟨a0, a1⟩, b0, b1⟩
theorem gb_sortWorld (w : World) (g off n : Nat) (d : Array (Int × Int)) (os : Array Obj) : Gb g w (sortWorldK enc2 2 w g off n d os) := by
  refine ⟨rfl, rfl, rfl, ?_, fun i hi hn => ?_⟩
  · show w.heap.size ≤ ((w.heap.modify g _) ++ os).size
    simp
  · show ((w.heap.modify g _) ++ os)[i]? = w.heap[i]?
    rw [Array.getElem?_append_left (by simpa using hi), Array.getElem?_modify, if_neg (fun e => hn (by rw [e]))]
theorem own_sortWorld {w : World} {g off : Nat} {ps qs : List (Int × Int)} (h : Own w g off ps) (hl : qs.length = ps.length) (hg : g < w.heap.size) (n : Nat) (os : Array Obj) : Own (sortWorldK enc2 2 w g off n qs.toArray os) g off qs := by
  have h1 : HoldsK enc2 2 (Sort.ahead w n) g off ps.toArray := holdsK_of h
  have h2 := holds_putRow id (Sort.ahead w n) g off _ (flatK enc2 2 qs.toArray) h1 (by simp [hl])
  exact own_of_holdsK (holds_grow id _ os g off _ (by show g < (Array.modify _ _ _).size; simpa using hg) h2)

def srtL (ps : List (Int × Int)) : List (Int × Int) := ps.mergeSort fun x y => !(ltOf cfP y x)
theorem ltP (p q : Int × Int) : ltOf cfP p q = decide (p.1 < q.1 ∨ (p.1 = q.1 ∧ p.2 < q.2)) := by
  unfold ltOf cfP
  congr 1
  apply propext
  unfold sgn
  constructor
  · intro h; split at h <;> (repeat' split at h) <;> omega
  · intro h; split <;> (repeat' split) <;> omega
theorem swoP : SWO (ltOf cfP) where
  irrefl x := by rw [ltP]; simp
  trans x y z h1 h2 := by rw [ltP] at *; simp only [decide_eq_true_eq] at *; omega
  ntrans x y z h1 h2 := by rw [ltP] at *; simp only [decide_eq_false_iff_not] at *; omega

theorem sort_any (g c : Nat) (ps : List (Int × Int)) (w : World) (hl : ps.length ≤ 512) (hO : Own w g 0 ps) (hg : g < w.heap.size) :
    Calls Tryz.prog 82 #[.slice (some ⟨g, 0, none⟩) ps.length c, .func (.func 83) #[] #[]] w fun e w' => e = .returned (.tuple #[]) ∧ Own w' g 0 (srtL ps) ∧ Gb g w w' := by
  have eg : ∀ args w, (callFunc 83 args).run Tryz.prog w = .ok (.enter 83 args) w := enters_of Tryz.func83 (by kernel_rfl) rfl
  have aE : ∀ w, (isAgg (Try.sortPts_ren.t 24)).run Tryz.prog w = .ok true w := fun w => by kernel_rfl
  have zE : ∀ w, (Go.sizeOf (Try.sortPts_ren.t 24)).run Tryz.prog w = .ok 2 w := fun w => by kernel_rfl
  have h := AnyQ.slices_SortFunc_total Try.sortPts 2 aE zE enc2 (fun _ => rfl) (fun x v hv => by simp [enc2] at hv; rcases hv with rfl | rfl <;> rfl) cfP swoP 83 #[] g 0 c ps.toArray w eg
    (fun _ _ _ _ x y => compare_any x y _) (holdsK_of hO) hg (by simp; omega) (fun x y h1 h2 => by
      rw [ltP] at h1 h2
      simp only [decide_eq_false_iff_not] at h1 h2
      exact Prod.ext (by omega) (by omega))
  change Calls Tryz.prog 82 _ _ _ at h
  have e : ps.toArray.size = ps.length := by simp
  rw [e] at h
  refine h.mono ?_
  rintro e w' ⟨rfl, n, os, rfl⟩
  exact ⟨rfl, own_sortWorld hO (List.length_mergeSort _) hg n os, gb_sortWorld _ _ _ _ _ _⟩

theorem reverse_any (g c : Nat) (ps : List (Int × Int)) (w : World) (hl : ps.length ≤ 512) (hO : Own w g 0 ps) (hg : g < w.heap.size) :
    Calls Tryz.prog 86 #[.slice (some ⟨g, 0, none⟩) ps.length c] w fun e w' => e = .returned (.tuple #[]) ∧ Own w' g 0 ps.reverse ∧ Gb g w w' := by
  have aE : ∀ w, (isAgg (Try.revPts_ren.t 23)).run Tryz.prog w = .ok true w := fun w => by kernel_rfl
  have zE : ∀ w, (Go.sizeOf (Try.revPts_ren.t 23)).run Tryz.prog w = .ok 2 w := fun w => by kernel_rfl
  have h := AnyQ.slices_Reverse Try.revPts 2 aE zE enc2 (fun _ => rfl) (fun x v hv => by simp [enc2] at hv; rcases hv with rfl | rfl <;> rfl) g 0 c ps.toArray w (holdsK_of hO) (by simp; omega)
  change Calls Tryz.prog 86 _ _ _ at h
  have e : ps.toArray.size = ps.length := by simp
  rw [e] at h
  refine h.mono ?_
  rintro e w' ⟨rfl, n, rfl⟩
  have e2 : ps.toArray.reverse = ps.reverse.toArray := by simp
  rw [e2]
  have e3 : ∀ d : Array (Int × Int), putRowK enc2 2 (Sort.ahead w n) g 0 d = sortWorldK enc2 2 w g 0 n d #[] := fun d => by unfold sortWorldK; rw [grow_empty]
  rw [e3]
  exact ⟨rfl, own_sortWorld hO (by simp) hg n #[], gb_sortWorld _ _ _ _ _ _⟩

end Go.Proofs.YtpnkpejnahhajaaGreat
