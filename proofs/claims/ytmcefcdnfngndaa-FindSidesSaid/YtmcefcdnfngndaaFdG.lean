/- Layer 7: Find. -/
import Derived.Test.YtmcefcdnfngndaaFdF
import Derived.Test.YtmcefcdnfngndaaFdZ
import Derived.Lib.OwnBridge
namespace Go.Proofs.Ytmcefcdnfngndaa
open Go.RowKit Go.Shelf
attribute [local go_sem] Oper.semAt_some
set_option linter.unusedSimpArgs false

/-- Where the pattern occurs. -/
def occL (T p : List UInt8) : List Nat := (List.range T.length).filter fun i => p.isPrefixOf (T.drop i)
theorem occL_len (T p : List UInt8) : (occL T p).length = occN T p := by unfold occL occN; rw [List.countP_eq_length_filter]
theorem occL_mem {T p : List UInt8} {i : Nat} : i ∈ occL T p ↔ i < T.length ∧ p.isPrefixOf (T.drop i) = true := by unfold occL; rw [List.mem_filter, List.mem_range]
theorem occL_asc (T p : List UInt8) : (occL T p).Pairwise (· < ·) := List.Pairwise.sublist List.filter_sublist List.pairwise_lt_range
theorem place_perm {T p : List UInt8} {o : List Nat} {fr t : Nat} (hO : IsOrd T o) (h : PlaceP T o p fr t) : ((o.drop fr).take (t - fr)).Perm (occL T p) := by
  have h1 : ((o.drop fr).take (t - fr)).Nodup := hO.nodup.sublist ((List.take_sublist _ _).trans (List.drop_sublist _ _))
  have h2 : (occL T p).Nodup := List.Pairwise.sublist List.filter_sublist List.nodup_range
  rw [List.perm_ext_iff_of_nodup h1 h2]
  intro a
  rw [occL_mem]
  have htop := h.top
  have hle := h.le
  constructor
  · intro ha
    obtain ⟨k, hk, rfl⟩ := List.mem_iff_getElem.1 ha
    rw [List.length_take, List.length_drop] at hk
    have e : ((o.drop fr).take (t - fr))[k]'(by rw [List.length_take, List.length_drop]; exact hk) = o.getD (fr + k) 0 := by
      rw [List.getElem_take, List.getElem_drop, List.getD_eq_getElem?_getD, List.getElem?_eq_getElem (by omega)]; rfl
    rw [e]
    refine ⟨hO.getD_lt (by rw [← hO.len]; omega), (h.iff (fr + k) (by omega)).2 (by omega)⟩
  · rintro ⟨ha, hp⟩
    obtain ⟨q1, q2⟩ := hO.place ha
    have hq : o.idxOf a < o.length := by rw [hO.len]; exact q1
    have := (h.iff (o.idxOf a) hq).1 (by rw [q2]; exact hp)
    refine List.mem_iff_getElem.2 ⟨o.idxOf a - fr, by rw [List.length_take, List.length_drop]; omega, ?_⟩
    rw [List.getElem_take, List.getElem_drop]
    have e : o.getD (o.idxOf a) 0 = o[fr + (o.idxOf a - fr)]'(by omega) := by
      rw [List.getD_eq_getElem?_getD, List.getElem?_eq_getElem hq]
      simp only [Option.getD_some]
      congr 1
      omega
    rw [← e, q2]
theorem sorted_occ {T p : List UInt8} {l : List Nat} (h : l.Perm (occL T p)) : (nI l).mergeSort (fun x y => decide (x ≤ y)) = nI (occL T p) := by
  have h1 : ((nI l).mergeSort (fun x y => decide (x ≤ y))).Perm (nI (occL T p)) := (List.mergeSort_perm _ _).trans (h.map _)
  have h2 : ((nI l).mergeSort (fun x y => decide (x ≤ y))).Pairwise (fun a b => (decide (a ≤ b)) = true) := List.pairwise_mergeSort (fun a b c h1 h2 => by simp at *; omega) (fun a b => by simp; omega) _
  have h3 : (nI (occL T p)).Pairwise (fun a b => (decide (a ≤ b)) = true) := by
    unfold nI
    rw [List.pairwise_map]
    exact (occL_asc T p).imp (fun h => by simp; omega)
  exact h1.eq_of_pairwise (fun a b _ _ h1 h2 => by simp at *; omega) h2 h3

/-- A list of the call's own, sorted. -/
theorem sort_any (base : Nat) (v : Value) (n : Nat) (zs : List Int) (w : World) (hn : zs.length = n) (hnb : n ≤ 4097) (h : w.ownsRow base 3 1 v n (zs.map (Value.int .i64))) (hbase : base ≤ w.heap.size) :
    Calls Try.prog 35 #[v] w fun e w' => e = .returned (.tuple #[]) ∧ w'.ownsRow base 3 1 v n ((zs.mergeSort (fun x y => decide (x ≤ y))).map (Value.int .i64)) ∧ Below base w w' ∧ ∀ (D : Nat) (o : Obj), w.heap[D]? = some o → v.ownBlock ≠ some D → w'.heap[D]? = some o := by
  rcases Nat.eq_zero_or_pos n with h0 | h0
  · subst h0
    have hz : zs = [] := List.eq_nil_of_length_eq_zero hn
    subst hz
    obtain ⟨A, c, rfl⟩ : ∃ A c, v = .slice A 0 c := by
      rcases h.2 with ⟨rfl, _⟩ | ⟨g, cap, cur, rfl, _⟩
      · exact ⟨none, 0, rfl⟩
      · exact ⟨_, _, rfl⟩
    refine (Any.slices_Sort_int_none Try.fSort A c w).mono ?_
    rintro e w' ⟨rfl, rfl⟩
    exact ⟨rfl, by simpa using h, Below.refl _ _, fun D o hD _ => hD⟩
  · have hv : v ≠ .slice none 0 0 := fun e => by
      subst e
      rcases h.2 with ⟨_, hz⟩ | ⟨g, cap, cur, hc, _⟩
      · omega
      · cases hc
    obtain ⟨g, cap, rfl, hb, hlt, h1, h2, h3, hH⟩ := Lib.holds_of_ownsRow h hv
    subst hn
    refine (Any.slices_Sort_int Try.fSort g 0 cap zs w hH hlt (by omega)).mono ?_
    rintro e w' ⟨rfl, q, os, rfl⟩
    have hp := Lib.ownsRow_putRow (q := q) (ys := zs.mergeSort (fun x y => decide (x ≤ y))) (k := zs.length) h (List.length_mergeSort _) (Nat.le_refl _)
    rw [List.take_of_length_le (by rw [List.length_mergeSort]; exact Nat.le_refl _)] at hp
    have hbl := Lib.below_putRow (q := q) (d := (zs.mergeSort (fun x y => decide (x ≤ y))).toArray) (enc := Value.int .i64) (Below.refl base w) hb
    have hgr := grx_grow (Sort.putRow (Value.int .i64) (Sort.ahead w q) g 0 (zs.mergeSort (fun x y => decide (x ≤ y))).toArray) os
    refine ⟨rfl, owns_gr hp hgr, hbl.trans (hgr.mono (Nat.le_trans hbase hbl.size)), fun D o hD ho => ?_⟩
    have hgD : g ≠ D := fun e => ho (by rw [e]; rfl)
    have hDl : D < (Sort.putRow (Value.int .i64) (Sort.ahead w q) g 0 (zs.mergeSort (fun x y => decide (x ≤ y))).toArray).heap.size := by
      have := (Array.getElem?_eq_some_iff.1 hD).1
      have := hbl.size
      simpa [Sort.putRow, Sort.mapBlock, Sort.ahead] using (Array.getElem?_eq_some_iff.1 hD).1
    rw [hgr.block D hDl, ← hD]
    simp [Sort.putRow, Sort.mapBlock, Sort.ahead, Array.getElem?_modify, hgD]

theorem own_not {w : World} {base n size : Nat} {t : TypeId} {v : Value} {xs : List Value} (h : w.ownsRow base t size v n xs) {D : Nat} {o : Obj} (hD : w.heap[D]? = some o) (ho : ∀ cs, o ≠ .cells cs t (0, 0)) : v.ownBlock ≠ some D := fun e => by
  rcases h.2 with ⟨rfl, _⟩ | ⟨g, cap, cur, rfl, _, hg, _⟩
  · cases e
  · obtain rfl : g = D := by simpa [Value.ownBlock] using e
    rw [hD] at hg
    injection hg with hg
    exact ho _ hg

end Go.Proofs.Ytmcefcdnfngndaa
