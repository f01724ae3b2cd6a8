/- The edges of a list of points. -/
import Derived.Test.YtjkdjfagaakijaaPts
import Derived.RegionTactic
import Derived.BigRegion
import Derived.ChangeAlike
namespace Go.Proofs.Ytjkdjfagaakijaa
open Go.RowKit

def ed (ps : List (Int × Int)) (i : Nat) : (Int × Int) × (Int × Int) := (ps.getD i (0, 0), ps.getD ((i + 1) % ps.length) (0, 0))
def edgesL (ps : List (Int × Int)) : List ((Int × Int) × (Int × Int)) := (List.range ps.length).map (ed ps)
def enc4 (e : (Int × Int) × (Int × Int)) : List Value := [.int .i64 e.1.1, .int .i64 e.1.2, .int .i64 e.2.1, .int .i64 e.2.2]
abbrev Eds := Rd 4 enc4

def EdgesPost (ps : List (Int × Int)) (w : World) (e : Ending) (w' : World) : Prop :=
  ∃ g, e = .returned (.slice (some ⟨g, 0, none⟩) ps.length ps.length) ∧ Eds w' (some ⟨g, 0, none⟩) (edgesL ps) ∧ Gr w w'

def EdgesPost2 (ps : List (Int × Int)) (w : World) (e : Ending) (w' : World) : Prop :=
  ∃ g cs, e = .returned (.slice (some ⟨g, 0, none⟩) ps.length ps.length) ∧ Eds w' (some ⟨g, 0, none⟩) (edgesL ps) ∧ Gr w w' ∧ Blk w' g 72 cs

theorem Try.info64 : (Try.prog.info? 72).map (fun i => (i.zero, i.size, i.bytes)) = some (some (.agg #[.int .i64 0, .int .i64 0, .int .i64 0, .int .i64 0]), 4, 32) := by kernel_rfl

theorem mk_edges (n : Nat) (hl : n ≤ 1048576) (w : World) : (Instr.makeSlice 69 (.int .i64 (n : Int)) (.int .i64 (n : Int))).run Try.prog w =
    .ok (.slice (some ⟨w.heap.size, 0, none⟩) n n) (w.alloc (.cells (madeCells #[.int .i64 0, .int .i64 0, .int .i64 0, .int .i64 0] (n * 4)) 72)) := by
  obtain ⟨i0, hi, hz0, hz1, hz2⟩ := info_parts Try.info64
  have h := run_make (P := Try.prog) w 69 72 i0 _ Try.underlying69 hi hz0 .i64 .i64 (n : Int) (n : Int) (by omega) (by omega) (by rw [hz2]; omega) (by omega)
  rw [hz1] at h
  simp only [Int.toNat_natCast] at h
  exact h

theorem put4 {ps : List (Int × Int)} {cs : Array Value} {k : Nat} {x y x' y' : Int} (hdone : ∀ i, i < k → ∀ j v, (enc4 (ed ps i))[j]? = some v → cs[i * 4 + j]? = some v) (hs : k * 4 + 3 < cs.size)
    (hq : ed ps k = ((x, y), (x', y'))) {i j : Nat} {v : Value} (hi : i < k + 1) (hv : (enc4 (ed ps i))[j]? = some v) :
    ((((cs.setIfInBounds (k * 4) (.int .i64 x)).setIfInBounds (k * 4 + 1) (.int .i64 y)).setIfInBounds (k * 4 + 2) (.int .i64 x')).setIfInBounds (k * 4 + 3) (.int .i64 y'))[i * 4 + j]? = some v := by
  have hj : j < 4 := by have := (List.getElem?_eq_some_iff.1 hv).1; simpa [enc4] using this
  by_cases e : i = k
  · subst e
    rw [hq] at hv
    match j, hj with
    | 0, _ => simp [enc4] at hv; subst hv; simp [Array.getElem?_setIfInBounds]; omega
    | 1, _ => simp [enc4] at hv; subst hv; simp [Array.getElem?_setIfInBounds]; omega
    | 2, _ => simp [enc4] at hv; subst hv; simp [Array.getElem?_setIfInBounds]; omega
    | 3, _ => simp [enc4] at hv; subst hv; simp [Array.getElem?_setIfInBounds]; omega
  · rw [Array.getElem?_setIfInBounds_ne (by omega), Array.getElem?_setIfInBounds_ne (by omega), Array.getElem?_setIfInBounds_ne (by omega), Array.getElem?_setIfInBounds_ne (by omega)]
    exact hdone i (by omega) j v hv

set_option maxHeartbeats 1000000 in
theorem edges_any2 (A : Option Addr) (n c : Nat) (ps : List (Int × Int)) (w : World) (hn : ps.length = n) (hl : n ≤ 1048576) (hp : Pts w A ps) :
    Calls Try.prog 50 #[.slice A n c] w (EdgesPost2 ps w) := by
  have HN := Lib.hid hn
  clear hn
  have HP := Lib.hid hp
  clear hp
  have hmk := fun w => mk_edges n hl w
  go_enter Try.func50, Try.ntmps50
  go_wp2_with fail
  generalize hg0 : w.heap.size = g
  have HG0 := Lib.hid hg0
  have hB0 : Blk (w.alloc (.cells (madeCells #[.int .i64 0, .int .i64 0, .int .i64 0, .int .i64 0] (n * 4)) 72)) g 72 (madeCells #[.int .i64 0, .int .i64 0, .int .i64 0, .int .i64 0] (n * 4)) := by
    rw [← hg0]; exact heap_alloc_new w _
  clear hg0
  go_loopw [11] (fun i wr => ∃ (k : Nat) (cs : Array Value), k ≤ n ∧ i = .int .i64 k ∧ Hid (cs.size = n * 4) ∧ Blk wr g 72 cs ∧ Hid (∀ i, i < k → ∀ j v, (enc4 (ed ps i))[j]? = some v → cs[i * 4 + j]? = some v) ∧ Gr w wr) (fun i _ => n - (intOf i).toNat)
  case atStart => exact ⟨0, _, Nat.zero_le _, rfl, Lib.hid (size_madeCells _ _), hB0, Lib.hid (fun i h => absurd h (by omega)), (Gr.refl _).alloc _⟩
  case round =>
    clear hB0
    obtain ⟨k, cs, hk, rfl, hsz, hB, hdone, hg⟩ := hrel
    by_cases hlt : k < n
    · obtain ⟨b, off, rfl, hx, hy⟩ := Pts_at (HP.out.keep hg) (k := k) (by have := HN.out; omega)
      obtain ⟨m, hm⟩ : ∃ m, (k + 1) % n = m := ⟨_, rfl⟩
      have hmn : m < n := by rw [← hm]; exact Nat.mod_lt _ (by omega)
      have em : ((k : Int) + 1) % (n : Int) = (m : Int) := by rw [← hm]; push_cast; rfl
      obtain ⟨b', off', e', hx', hy'⟩ := Pts_at (HP.out.keep hg) (k := m) (by have := HN.out; omega)
      obtain ⟨rfl, rfl⟩ : b = b' ∧ off = off' := by simpa using e'
      clear e'
      have HQ : Hid (ed ps k = (ps.getD k (0, 0), ps.getD m (0, 0))) := Lib.hid (by unfold ed; rw [HN.out, hm])
      clear hm
      generalize ps.getD k (0, 0) = q at hx hy HQ
      generalize ps.getD m (0, 0) = q' at hx' hy' HQ
      obtain ⟨x, y⟩ := q
      obtain ⟨x', y'⟩ := q'
      go_wp2_with fail
      generalize hW : World.alloc wr _ = W
      have hgW : Gr wr W := by rw [← hW]; exact (Gr.refl _).alloc _
      have hb0 : W.cell? ⟨wr.heap.size, 0, none⟩ = some (.int .i64 x) := by rw [← hW]; exact alloc_new rfl rfl
      have hb1 : W.cell? ⟨wr.heap.size, 1, none⟩ = some (.int .i64 y) := by rw [← hW]; exact alloc_new rfl rfl
      clear hW
      replace hx := hgW.keep hx
      replace hy := hgW.keep hy
      replace hx' := hgW.keep hx'
      replace hy' := hgW.keep hy'
      replace hB := hB.keep hgW
      replace hg := hg.trans hgW
      have hsz' : k * 4 + 3 < cs.size := by have := hsz.out; omega
      have c0 : W.cell? ⟨g, k * 4, none⟩ = some (cs[k * 4]'(by omega)) := by rw [hB.cell]; exact Array.getElem?_eq_getElem _
      have c1 : W.cell? ⟨g, k * 4 + 1, none⟩ = some (cs[k * 4 + 1]'(by omega)) := by rw [hB.cell]; exact Array.getElem?_eq_getElem _
      have c2 : W.cell? ⟨g, k * 4 + 2, none⟩ = some (cs[k * 4 + 2]'(by omega)) := by rw [hB.cell]; exact Array.getElem?_eq_getElem _
      have c3 : W.cell? ⟨g, k * 4 + 3, none⟩ = some (cs[k * 4 + 3]'(by omega)) := by rw [hB.cell]; exact Array.getElem?_eq_getElem _
      have f0 := hB.free (k * 4)
      have f1 := hB.free (k * 4 + 1)
      have f2 := hB.free (k * 4 + 2)
      have f3 := hB.free (k * 4 + 3)
      clear hgW
      go_region
      go_wp2_with fail
      go_roundw
      case rel =>
        refine ⟨k + 1, _, by omega, by go_num, ?_, (((hB.put (k * 4) _).put (k * 4 + 1) _).put (k * 4 + 2) _).put (k * 4 + 3) _, ?_, ?_⟩
        · exact Lib.hid (by simp [hsz.out])
        · exact Lib.hid (fun i hi j v hv => put4 hdone.out hsz' HQ.out hi hv)
        · have hgl : w.heap.size ≤ g := by rw [HG0.out]; exact Nat.le_refl _
          exact ((((hg.drew.setCell hgl _).setCell hgl _).setCell hgl _).setCell hgl _)
      case measure => simp [intOf]; omega
    · go_wp2_with fail
      go_ret
      obtain rfl : k = n := by omega
      have hn := HN.out
      refine ⟨g, cs, by (rw [hn]; rfl), ?_, hg, hB⟩
      intro i x hx
      have hi : i < (edgesL ps).length := (List.getElem?_eq_some_iff.1 hx).1
      have hik : i < k := by simpa [edgesL, hn] using hi
      refine ⟨g, 0, rfl, fun j v hv => ?_⟩
      have hx' : x = ed ps i := by
        have := hx
        simp [edgesL, hn, hik] at this
        exact this.symm
      subst hx'
      rw [Nat.zero_add, hB.cell]
      exact hdone.out i hik j v hv

theorem edges_any (A : Option Addr) (n c : Nat) (ps : List (Int × Int)) (w : World) (hn : ps.length = n) (hl : n ≤ 1048576) (hp : Pts w A ps) :
    Calls Try.prog 50 #[.slice A n c] w (EdgesPost ps w) :=
  (edges_any2 A n c ps w hn hl hp).mono fun _ _ ⟨g, _, he, hE, hg, _⟩ => ⟨g, he, hE, hg⟩

end Go.Proofs.Ytjkdjfagaakijaa
