/- Layer 3: append([]byte(s), make([]byte, p)...). -/
import Derived.Test.YtbkbgcapkhelhaaLIns
import Derived.Test.YtbkbgcapkhelhaaLIs
namespace Go.Proofs.Ytbkbgcapkhelhaa
open Go.RowKit
set_option linter.unusedSimpArgs false

theorem zero_at {k j : Nat} (h : j < k) : (Builtin.zeroCells (Value.int .u8 0).cells k)[j]? = some (.int .u8 0) := by
  simp [Builtin.zeroCells, Value.cells, h, Nat.mod_one]
theorem zero_size (k : Nat) : (Builtin.zeroCells (Value.int .u8 0).cells k).size = k := by simp [Builtin.zeroCells, Value.cells]
theorem bytes_at {s : ByteArray} {w : World} {cap : Nat} {fr : Nat × Nat} {i : Nat} (hi : i < s.size) : (w.alloc (.cells (bytesRow s cap) 5 fr)).cell? ⟨w.heap.size, i, none⟩ = some (.int .u8 (((gs s).getD i g0).v : Int)) := by
  obtain ⟨b, o, e, h⟩ := Byts_at (bytes_rd s w cap fr) (show i < (gs s).length by rw [gs_len]; exact hi)
  obtain ⟨rfl, rfl⟩ : w.heap.size = b ∧ 0 = o := by simpa using e
  simpa using h
theorem bytesRow_size (s : ByteArray) (cap : Nat) (h : s.size ≤ cap) : (bytesRow s cap).size = cap := by
  have : s.data.size ≤ cap := h
  simp [bytesRow]
  show s.data.size + (cap - s.data.size) = cap
  omega
theorem bytes_there {s : ByteArray} {w : World} {cap i : Nat} (hc : s.size ≤ cap) (hi : i < cap) {fr : Nat × Nat} : ((w.alloc (.cells (bytesRow s cap) 5 fr)).cell? ⟨w.heap.size, i, none⟩).isSome = true := by
  rw [cell_of_row _ _ i (bytesRow s cap) _ fr (heap_alloc_new w _), Array.getElem?_eq_getElem (by rw [bytesRow_size s cap hc]; exact hi)]
  rfl
theorem bytes_free {s : ByteArray} {w : World} {cap i : Nat} (hc : s.size ≤ cap) (hi : i < cap) : (w.alloc (.cells (bytesRow s cap) 5 ((bytesRow s cap).size, (bytesRow s cap).size + 1))).frozen? ⟨w.heap.size, i, none⟩ = false := by
  rw [bytesRow_size s cap hc]
  unfold World.frozen?
  rw [heap_alloc_new]
  simp
  omega
theorem gs_zeros {s : ByteArray} {p i : Nat} (h : s.size ≤ i) : ((gs s ++ List.replicate p g0).getD i g0) = g0 := by
  rw [List.getD_eq_getElem?_getD, List.getElem?_append_right (by rw [gs_len]; exact h), List.getElem?_replicate]
  split <;> rfl
theorem gs_front {s : ByteArray} {p i : Nat} (h : i < s.size) : ((gs s ++ List.replicate p g0).getD i g0) = (gs s).getD i g0 := by
  rw [List.getD_eq_getElem?_getD, List.getElem?_append_left (by rw [gs_len]; exact h), List.getD_eq_getElem?_getD]
set_option maxHeartbeats 1000000 in
theorem app_zeros (s : ByteArray) (p cap : Nat) (w : World) (hs : s.size ≤ 300) (hp : p ≤ 64) (hc : s.size ≤ cap) :
    ∃ g c w', (∀ ty, (Builtin.append_ #[40, 3] ty #[.slice (some ⟨w.heap.size, 0, none⟩) s.size cap, .int .i64 (p : Int)]).run Try.prog (w.alloc (.cells (bytesRow s cap) 5 ((bytesRow s cap).size, (bytesRow s cap).size + 1))) = .ok (.slice (some ⟨g, 0, none⟩) (s.size + p) c) w') ∧
      Row w' g 0 (gs s ++ List.replicate p g0) ∧ Gr w w' ∧ w.heap.size ≤ g ∧ s.size + p ≤ c := by
  obtain ⟨i0, hi0, hz0, hzs, hzb⟩ := info_parts Try.infoByte
  have hold : ∀ i (hi : i < s.size), (w.alloc (.cells (bytesRow s cap) 5 ((bytesRow s cap).size, (bytesRow s cap).size + 1))).cell? ⟨w.heap.size, i, none⟩ = some (.int .u8 (((gs s).getD i g0).v : Int)) := fun i hi => bytes_at hi
  have hthere : ∀ i (hi : i < cap), ((w.alloc (.cells (bytesRow s cap) 5 ((bytesRow s cap).size, (bytesRow s cap).size + 1))).cell? ⟨w.heap.size, i, none⟩).isSome = true := fun i hi => bytes_there hc hi
  have hfree : ∀ i (hi : i < cap), (w.alloc (.cells (bytesRow s cap) 5 ((bytesRow s cap).size, (bytesRow s cap).size + 1))).frozen? ⟨w.heap.size, i, none⟩ = false := fun i hi => bytes_free hc hi
  have hgr : Gr w (w.alloc (.cells (bytesRow s cap) 5 ((bytesRow s cap).size, (bytesRow s cap).size + 1))) := (Gr.refl w).alloc _
  have hsz : (w.alloc (.cells (bytesRow s cap) 5 ((bytesRow s cap).size, (bytesRow s cap).size + 1))).heap.size = w.heap.size + 1 := by simp
  generalize w.alloc _ = wb at hold hthere hfree hgr hsz ⊢
  obtain ⟨g, hg⟩ : ∃ g, w.heap.size = g := ⟨_, rfl⟩
  rw [hg] at hold hthere hfree hsz ⊢
  have hw : IntKind.i64.wrap (p : Int) = p := IntWalk.i64_in _ (by omega)
  by_cases hroom : s.size + p ≤ cap
  · refine ⟨g, cap, wb.setCells g s.size (List.replicate p (.int .u8 0)), fun ty => ?_, fun i hi => ?_, ?_, by omega, hroom⟩
    · have hst := run_storeCells_cells (P := Try.prog) g s.size (List.replicate p (.int .u8 0)) 0 wb (by intro j hj; rw [Nat.add_zero]; exact hthere _ (by simp at hj; omega)) (by intro j hj; rw [Nat.add_zero]; exact hfree _ (by simp at hj; omega)) (fun v hv => by rw [(List.mem_replicate.1 hv).2]; rfl)
      have hz : (Builtin.zeroCells (Value.int .u8 0).cells p).toList = List.replicate p (.int .u8 0) := by
        refine List.ext_getElem? fun j => ?_
        rw [Array.getElem?_toList, List.getElem?_replicate]
        split
        · rename_i h; exact zero_at h
        · rename_i h; exact Array.getElem?_eq_none (by rw [zero_size]; omega)
      have hneg : ¬ ((p : Int) < 0) := by omega
      have hbig : ¬ (281474976710656 < (p : Int)) := by omega
      by_cases hp0 : p = 0
      · subst hp0
        have hw0 : IntKind.i64.wrap 0 = 0 := IntWalk.i64_in _ (by omega)
        simp [hw0, Builtin.append_, run_underlying Try.underlying40, run_underlying Try.underlying3, sizeOf, typeInfo, zeroValue, hi0, hz0, hzs, hzb, asInt, asIntOf, hroom, hc, Addr.add_lit, storeCells, World.setCells]
      · simp [Builtin.append_, run_underlying Try.underlying40, run_underlying Try.underlying3, sizeOf, typeInfo, zeroValue, hi0, hz0, hzs, hzb, asInt, asIntOf, hw, hroom, hneg, hbig, hp0, Addr.add_lit, hz, hst]
    · have hi' : i < s.size + p := by simpa [gs_len] using hi
      rw [frozen_many, Nat.zero_add]
      refine ⟨?_, hfree i (by omega)⟩
      by_cases hlt : i < s.size
      · rw [World.cell?_setCells_out _ _ _ _ _ (fun _ _ => Or.inl hlt), gs_front hlt]; exact hold i hlt
      · obtain ⟨j, rfl⟩ : ∃ j, i = s.size + j := ⟨i - s.size, by omega⟩
        rw [World.cell?_setCells_in g _ s.size _ (fun j hj => hthere _ (by simp at hj; omega)) j (by simp; omega), gs_zeros (by omega)]
        simp [g0]
    · exact Gb.gr hgr ((Gb.refl _ _).many _ _) (by omega)
  · have hold' : (Builtin.firstCells i0.size s.size (.slice (some ⟨g, 0, none⟩) s.size cap)).run Try.prog wb.drew = .ok (bys (gs s)).toArray wb.drew := by
      rw [hzs]
      exact run_firstCells_some wb.drew 1 s.size ⟨g, 0, none⟩ s.size cap (bys (gs s)) (by rw [bys_len, gs_len]; omega) (fun j v hj => by
        obtain ⟨q1, rfl⟩ := bys_get hj
        rw [Addr.add_lit, Nat.zero_add]
        exact hold j (by rwa [gs_len] at q1))
    have h := fun ty => Lib.run_append_grow_zeros wb 40 3 ty 5 i0 _ .i64 .i64 Try.underlying40 Try.underlying3 hi0 hz0 (some ⟨g, 0, none⟩) s.size cap (bys (gs s)) hold' p (by omega) (by omega) (by omega) (by omega) (by rw [hzb]; omega) (by rw [hzb]; exact growslice_fits (by omega) (by omega))
    refine ⟨wb.heap.size, grownCap wb (s.size + p) cap 5, _, h, ?_, ?_, by omega, grownCap_ge _ _ _ _⟩
    · refine Row.of_cells (c := (((bys (gs s)).toArray ++ Builtin.zeroCells (Value.int .u8 0).cells p ++ Builtin.zeroCells (Value.int .u8 0).cells (grownCap wb (s.size + p) cap 5 - (s.size + p)))).size) (Room.new wb.drew _ rfl) fun i hi => alloc_new rfl ?_
      have hi' : i < s.size + p := by simpa [gs_len] using hi
      have hbl : (bys (gs s)).toArray.size = s.size := by simp [bys_len, gs_len]
      rw [Array.getElem?_append_left (by rw [Array.size_append, hbl, zero_size]; omega)]
      by_cases hlt : i < s.size
      · rw [Array.getElem?_append_left (by omega), gs_front hlt, List.getElem?_toArray, List.getElem?_eq_getElem (by rw [bys_len, gs_len]; exact hlt), bys_at]
      · rw [Array.getElem?_append_right (by omega), gs_zeros (by omega), zero_at (by omega)]; rfl
    · exact hgr.drew.alloc _
end Go.Proofs.Ytbkbgcapkhelhaa
