/- The library's Concat of two slices of points. -/
import Derived.Test.YthleajmamkihaaaClone
import Derived.Test.YthleajmamkihaaaShelf
namespace Go.Proofs.Ythleajmamkihaaa
open Go.RowKit
set_option linter.unusedSimpArgs false

def ConcatPost (ps qs : List (Int × Int)) (w : World) (e : Ending) (w' : World) : Prop :=
  ∃ g c, e = .returned (.slice (some ⟨g, 0, none⟩) (ps.length + qs.length) c) ∧ ps.length + qs.length ≤ c ∧ w.heap.size ≤ g ∧ Own w' g 0 (ps ++ qs) ∧ Gr w w'

theorem zeros_size (z : Array Value) (n : Nat) : (Builtin.zeroCells z n).size = n * z.size := by simp [Builtin.zeroCells]

theorem grow_any (n : Nat) (w : World) (h0 : 1 ≤ n) (hl : n ≤ 4096) :
    Calls Try.prog 68 #[.slice none 0 0, .int .i64 n] w fun e w' => ∃ c, e = .returned (.slice (some ⟨w.heap.size, 0, none⟩) 0 c) ∧ w'.ownsRow w.heap.size 30 2 (.slice (some ⟨w.heap.size, 0, none⟩) 0 c) 0 [] ∧ Gr w w' := by
  obtain ⟨i0, hi, hz0, hz1, hz2⟩ := info_parts Try.info23
  have h := Any8.slices_Grow_grow Try.growPts i0 (.agg #[.int .i64 0, .int .i64 0]) hi hz0 (by rw [hz1]; decide) none 0 0 n [] w (Nat.le_refl _) (by omega) (by rw [hz2]; omega) (by omega) (by simp) (fun _ => rfl) (fun a h => by cases h)
  change Calls Try.prog 68 _ _ _ at h
  refine h.mono ?_
  rintro e w' ⟨rfl, rfl⟩
  refine ⟨_, rfl, ?_, (Gr.refl w).drew.alloc _⟩
  have hc := grownCap_ge w (0 + n) 0 (Try.growPts_ren.t 25)
  have hm := grownCap_le_maxLen w (0 + n) 0 (Try.growPts_ren.t 25) (by unfold maxLen; omega)
  rw [Nat.zero_add] at hc
  refine World.ownsRow_made w.drew _ _ (Nat.le_refl _) hm ?_
  have e2 : (Value.agg #[Value.int .i64 0, Value.int .i64 0]).cells.size = 2 := rfl
  change (([] : List Value).toArray ++ Builtin.zeroCells _ _ ++ Builtin.zeroCells _ _).size = _
  rw [Array.size_append, Array.size_append, zeros_size, zeros_size, e2]
  simp
  omega

set_option maxRecDepth 100000 in
set_option maxHeartbeats 2000000 in
theorem concat_any (h b1 o1 b2 o2 n1 n2 c1 c2 : Nat) (ps qs : List (Int × Int)) (w : World) (hn1 : ps.length = n1) (hn2 : qs.length = n2) (h1 : 1 ≤ n1) (hl1 : n1 ≤ 1024) (hl2 : n2 ≤ 1024)
    (k1 : w.cell? ⟨h, 0, none⟩ = some (.slice (some ⟨b1, o1, none⟩) n1 c1)) (k2 : w.cell? ⟨h, 1, none⟩ = some (.slice (some ⟨b2, o2, none⟩) n2 c2)) (hp : Pts w (some ⟨b1, o1, none⟩) ps) (hq : Pts w (some ⟨b2, o2, none⟩) qs) :
    Calls Try.prog 59 #[.slice (some ⟨h, 0, none⟩) 2 2] w (ConcatPost ps qs w) := by
  obtain ⟨i0, hi, hz0, hz1, hz2⟩ := info_parts Try.info23
  have HI := Lib.hid (And.intro hi (And.intro hz0 (And.intro hz1 hz2)))
  have HP := Lib.hid hp
  have HQ := Lib.hid hq
  have HN1 := Lib.hid hn1
  have HN2 := Lib.hid hn2
  clear hp hq hn1 hn2 hi hz0 hz1 hz2
  go_enter Try.func59, Try.ntmps59
  go_wp2_with fail
  go_loop [3, 11] (fun s i => (i = .int .i64 0 ∧ s = .int .i64 0) ∨ (i = .int .i64 1 ∧ s = .int .i64 n1) ∨ (i = .int .i64 2 ∧ s = .int .i64 ((n1 : Int) + (n2 : Int)))) (fun _ i => 2 - (intOf i).toNat)
  case atStart => exact Or.inl ⟨rfl, rfl⟩
  case round =>
    rcases hrel with ⟨rfl, rfl⟩ | ⟨rfl, rfl⟩ | ⟨rfl, rfl⟩
    · go_wp2_with fail
      go_round
      case rel => exact Or.inr (Or.inl ⟨rfl, rfl⟩)
      case measure => simp [intOf]
    · go_wp2_with fail
      go_round
      case rel => exact Or.inr (Or.inr ⟨rfl, rfl⟩)
      case measure => simp [intOf]
    · have hs : ((n1 : Int) + (n2 : Int)) = ((n1 + n2 : Nat) : Int) := by push_cast; rfl
      rw [hs]
      clear hs
      go_wp2_with fail
      refine (grow_any (n1 + n2) _ (by omega) (by omega)).mono ?_
      rintro e w1 ⟨cg, rfl, hown, hg⟩
      have HO := Lib.hid hown
      clear hown
      go_wp2_with fail
      go_loopw [6, 27] (fun v i wr => (Gr w wr ∧ i = .int .i64 0 ∧ v = .slice (some ⟨w.heap.size, 0, none⟩) 0 cg ∧ wr.ownsRow w.heap.size 30 2 v 0 []) ∨ (Gr w wr ∧ i = .int .i64 1 ∧ wr.ownsRow w.heap.size 30 2 v n1 (flat2 ps)) ∨ (Gr w wr ∧ i = .int .i64 2 ∧ wr.ownsRow w.heap.size 30 2 v (n1 + n2) (flat2 ps ++ flat2 qs))) (fun _ i _ => 2 - (intOf i).toNat)
      case atStart => exact Or.inl ⟨hg, rfl, rfl, HO.out⟩
      case round =>
        rcases hrel with ⟨hgr, rfl, rfl, hown⟩ | ⟨hgr, rfl, hown⟩ | ⟨hgr, rfl, hown⟩
        · have j1 := hgr.keep k1
          obtain ⟨hi, hz0, hz1, hz2⟩ := HI.out
          go_wp2_with (at_builtin; refine wpList_append_own _ rfl _ _ 31 rfl w.heap.size 30 i0 _ 2 16 Try.underlying31 hi hz0 hz1 hz2 rfl (by decide) _ _ _ rfl hown ⟨b1, o1, none⟩ n1 c1 (flat2 ps) rfl ?a1 ?a2 ?a3 ?a4 ?a5 ?a6 ?_)
          case a1 => rw [flat2_len, HN1.out]
          case a2 =>
            intro j u hj
            rw [Addr.add_lit]
            exact flat2_cells (HP.out.keep hgr) j u hj
          case a3 => exact flat2_one ps
          case a4 => unfold maxLen; omega
          case a5 => omega
          case a6 => exact hgr.size
          intro v' w2 hown' hgrow _
          have hg2 : Gr w w2 := Below.grown hgr hgrow hgr.size (by intro k hk; simp [Value.ownBlock] at hk; omega)
          have HO2 : Hid (w2.ownsRow w.heap.size 30 2 v' n1 (flat2 ps)) := Lib.hid (by simpa using hown')
          clear hown' hgrow hown hi hz0 hz1 hz2 j1
          go_wp2_with fail
          go_roundw
          case rel => exact Or.inr (Or.inl ⟨hg2, rfl, HO2.out⟩)
          case measure => simp [intOf]
        · have j2 := hgr.keep k2
          obtain ⟨hi, hz0, hz1, hz2⟩ := HI.out
          obtain ⟨gv, cv, hvv⟩ : ∃ gv cv, u6 = .slice (some ⟨gv, 0, none⟩) n1 cv := by
            rcases hown.2 with ⟨_, hz⟩ | ⟨gv, cv, _, hv, _⟩
            · omega
            · exact ⟨gv, cv, hv⟩
          subst hvv
          go_wp2_with (at_builtin; refine wpList_append_own _ rfl _ _ 31 rfl w.heap.size 30 i0 _ 2 16 Try.underlying31 hi hz0 hz1 hz2 rfl (by decide) _ _ _ rfl hown ⟨b2, o2, none⟩ n2 c2 (flat2 qs) rfl ?b1 ?b2 ?b3 ?b4 ?b5 ?b6 ?_)
          case b1 => rw [flat2_len, HN2.out]
          case b2 =>
            intro j u hj
            rw [Addr.add_lit]
            exact flat2_cells (HQ.out.keep hgr) j u hj
          case b3 => exact flat2_one qs
          case b4 => unfold maxLen; omega
          case b5 => omega
          case b6 => exact hgr.size
          intro v' w2 hown' hgrow _
          have hg2 : Gr w w2 := Below.grown hgr hgrow hgr.size (fun k hk => (hown.lt k hk).1)
          have HO2 := Lib.hid hown'
          clear hown' hgrow hown hi hz0 hz1 hz2 j2
          go_wp2_with fail
          go_roundw
          case rel => exact Or.inr (Or.inr ⟨hg2, rfl, HO2.out⟩)
          case measure => simp [intOf]
        · go_wp2_with fail
          go_ret
          rcases hown.2 with ⟨_, hz⟩ | ⟨gv, cv, cur, rfl, hgv, _, hnc, _⟩
          · omega
          · have e : flat2 ps ++ flat2 qs = flat2 (ps ++ qs) := by unfold flat2; rw [List.flatMap_append]
            rw [e] at hown
            refine ⟨gv, cv, by rw [HN1.out, HN2.out]; rfl, by rw [HN1.out, HN2.out]; exact hnc, hgv, Own_of (by rw [List.length_append, HN1.out, HN2.out]) hown, hgr⟩

end Go.Proofs.Ythleajmamkihaaa
