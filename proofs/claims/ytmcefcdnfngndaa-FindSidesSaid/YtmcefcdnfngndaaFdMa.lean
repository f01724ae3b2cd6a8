/- Layer 7: a block of bools, and what a walk along the order finds of a pattern's places. -/
import Derived.Test.YtmcefcdnfngndaaFdRe
import Derived.Test.YtmcefcdnfngndaaFdZ
import Derived.Test.YtmcefcdnfngndaaFdLc
namespace Go.Proofs.Ytmcefcdnfngndaa
open Go.RowKit Go.Shelf
set_option linter.unusedSimpArgs false

theorem Try.infoFdO : (Try.prog.info? 4).map (fun i => (i.zero, i.size, i.bytes)) = some (some (.bool false), 1, 1) := by kernel_rfl
/-- A block of bools whose first n cells are these. -/
def SB (w : World) (g n : Nat) (f : Nat → Bool) : Prop := ∃ cs : Array Value, Blk w g 4 cs ∧ ∀ i, i < n → cs[i]? = some (.bool (f i))
section
variable {w w' : World} {g n : Nat} {f : Nat → Bool}
theorem SB.at (h : SB w g n f) {i : Nat} (hi : i < n) : w.cell? ⟨g, i, none⟩ = some (.bool (f i)) := by
  obtain ⟨cs, h1, h2⟩ := h
  exact (h1.cell i).trans (h2 i hi)
theorem SB.free (h : SB w g n f) (i : Nat) : w.frozen? ⟨g, i, none⟩ = false := by
  obtain ⟨cs, h1, h2⟩ := h
  exact h1.free i
theorem SB.keep (h : SB w g n f) (hg : Gr w w') : SB w' g n f := by
  obtain ⟨cs, h1, h2⟩ := h
  exact ⟨cs, h1.keep hg, h2⟩
theorem SB.put (h : SB w g n f) (i : Nat) {f' : Nat → Bool} (hf : ∀ k, k < n → f' k = if k = i then true else f k) : SB (w.setCell ⟨g, i, none⟩ (.bool true)) g n f' := by
  obtain ⟨cs, h1, h2⟩ := h
  refine ⟨_, h1.put i _, fun k hk => ?_⟩
  rw [Array.getElem?_setIfInBounds, hf k hk]
  have hk2 := h2 k hk
  have hs : k < cs.size := (Array.getElem?_eq_some_iff.1 hk2).1
  by_cases e : i = k
  · subst e; rw [if_pos rfl, if_pos hs, if_pos rfl]
  · rw [if_neg e, if_neg (Ne.symm e)]; exact hk2
end
def boF (n : Nat) : Array Value := ⟨(List.range n).map fun _ => .bool false⟩
theorem made_boF (n : Nat) : madeCells #[Value.bool false] (n * 1) = boF n := by
  have hs : (madeCells #[Value.bool false] (n * 1)).size = n := by have := size_madeCells #[Value.bool false] (n * 1); simpa using this
  apply Array.ext
  · rw [hs]; simp [boF]
  · intro i h1 h2
    simp [madeCells, boF, Nat.mod_one]
theorem mk_boF (n : Nat) (hl : n ≤ 4096) (w : World) : (Instr.makeSlice 47 (.int .i64 (n : Int)) (.int .i64 (n : Int))).run Try.prog w =
    .ok (.slice (some ⟨w.heap.size, 0, none⟩) n n) (w.alloc (.cells (boF n) 4)) := by
  obtain ⟨i0, hi, hz0, hz1, hz2⟩ := info_parts Try.infoFdO
  have h := run_make (P := Try.prog) w 47 4 i0 _ Try.underlying47 hi hz0 .i64 .i64 (n : Int) (n : Int) (by omega) (by omega) (by rw [hz2]; omega) (by omega)
  rw [hz1] at h
  simp only [Int.toNat_natCast] at h
  rw [h, show (Value.bool false).cells = #[Value.bool false] from rfl, made_boF]
theorem SB.new {w : World} {g n : Nat} (h : Blk w g 4 (boF n)) : SB w g n (fun _ => false) := ⟨_, h, fun i hi => by simp [boF, hi]⟩
def rnF (fr t k : Nat) : Nat := if fr < k ∧ fr < t then 1 else 0
def cnF (fr t k : Nat) : Nat := min k t - fr
theorem IsOrd.places {T : List UInt8} {o : List Nat} (h : IsOrd T o) (p : List UInt8) : ∃ fr t, PlaceP T o p fr t := ⟨_, _, (places_of p h.asc rfl rfl).1⟩
/-- What the walk has seen. -/
def seenF (o : List Nat) (k : Nat) : Nat → Bool := fun x => decide (x ∈ o.take k)
theorem seenF_step {o : List Nat} {k : Nat} (hk : k < o.length) (x : Nat) : seenF o (k + 1) x = if x = o.getD k 0 then true else seenF o k x := by
  unfold seenF
  have e : o.take (k + 1) = o.take k ++ [o.getD k 0] := by
    rw [List.take_add_one, List.getD_eq_getElem?_getD, List.getElem?_eq_getElem hk]; rfl
  rw [e]
  by_cases h : x = o.getD k 0
  · simp [h]
  · simp [h, Bool.or_comm, ← List.getD_eq_getElem?_getD]
theorem seenF_new {o : List Nat} {k : Nat} (hd : o.Nodup) (hk : k < o.length) : seenF o k (o.getD k 0) = false := by
  unfold seenF
  rw [decide_eq_false_iff_not]
  intro hm
  obtain ⟨i, hi, e⟩ := List.getElem_of_mem hm
  rw [List.length_take] at hi
  rw [List.getElem_take, List.getD_eq_getElem?_getD, List.getElem?_eq_getElem hk] at e
  have := (List.getElem_inj hd).1 e
  omega

end Go.Proofs.Ytmcefcdnfngndaa
