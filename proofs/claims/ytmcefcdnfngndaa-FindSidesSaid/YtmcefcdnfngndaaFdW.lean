/- Layer 7: blocks of numbers, positions as ints, strings as lists of bytes: what every text of find uses. -/
import Derived.Test.YtmcefcdnfngndaaBase
import Derived.Test.YtmcefcdnfngndaaHeld
import Derived.Test.YtmcefcdnfngndaaFdB
import Derived.Deep.CutRange
import Derived.Shelf.Abstract
namespace Go.Proofs.Ytmcefcdnfngndaa
open Go.RowKit
set_option linter.unusedSimpArgs false

theorem Try.infoFdI : (Try.prog.info? 3).map (fun i => (i.zero, i.size, i.bytes)) = some (some (.int .i64 0), 1, 8) := by kernel_rfl
/-- One entry of a row is set. -/
def upF (f : Nat → Int) (k : Nat) (v : Int) : Nat → Int := fun s => if s = k then v else f s
theorem upF_at (f : Nat → Int) (k : Nat) (v : Int) : upF f k v k = v := if_pos rfl
theorem upF_ne (f : Nat → Int) {k s : Nat} (v : Int) (h : s ≠ k) : upF f k v s = f s := if_neg h
/-- A block of type t whose first n cells are these numbers. -/
def FB (t : TypeId) (w : World) (g n : Nat) (f : Nat → Int) : Prop := ∃ cs : Array Value, Blk w g t cs ∧ ∀ i, i < n → cs[i]? = some (.int .i64 (f i))
section
variable {t : TypeId} {w w' : World} {g n : Nat} {f : Nat → Int}
theorem FB.keep (h : FB t w g n f) (hg : Gr w w') : FB t w' g n f := by
  obtain ⟨cs, h1, h2⟩ := h
  exact ⟨cs, h1.keep hg, h2⟩
theorem FB.at (h : FB t w g n f) {i : Nat} (hi : i < n) : w.cell? ⟨g, i, none⟩ = some (.int .i64 (f i)) := by
  obtain ⟨cs, h1, h2⟩ := h
  exact (h1.cell i).trans (h2 i hi)
theorem FB.free (h : FB t w g n f) (i : Nat) : w.frozen? ⟨g, i, none⟩ = false := by
  obtain ⟨cs, h1, h2⟩ := h
  exact h1.free i
theorem FB.lt (h : FB t w g n f) : g < w.heap.size := by
  obtain ⟨cs, h1, _⟩ := h
  exact h1.lt
theorem FB.other (h : FB t w g n f) {p : Addr} (hne : g ≠ p.block) (u : Value) : FB t (w.setCell p u) g n f := by
  obtain ⟨cs, h1, h2⟩ := h
  exact ⟨cs, h1.other hne u, h2⟩
theorem FB.put (h : FB t w g n f) (i : Nat) (v : Int) : FB t (w.setCell ⟨g, i, none⟩ (.int .i64 v)) g n (upF f i v) := by
  obtain ⟨cs, h1, h2⟩ := h
  refine ⟨_, h1.put i _, fun k hk => ?_⟩
  rw [Array.getElem?_setIfInBounds]
  have hk2 := h2 k hk
  have hs : k < cs.size := (Array.getElem?_eq_some_iff.1 hk2).1
  by_cases e : i = k
  · subst e; rw [if_pos rfl, if_pos hs, upF_at]
  · rw [if_neg e, upF_ne _ _ (Ne.symm e)]; exact hk2
theorem FB.congr {f' : Nat → Int} (h : FB t w g n f) (he : ∀ i, i < n → f' i = f i) : FB t w g n f' := by
  obtain ⟨cs, h1, h2⟩ := h
  exact ⟨cs, h1, fun i hi => by rw [he i hi]; exact h2 i hi⟩
theorem FB.differ {t' : TypeId} {g' n' : Nat} {f' : Nat → Int} (h : FB t w g n f) (h' : FB t' w g' n' f') (hne : t ≠ t') : g ≠ g' := by
  obtain ⟨cs, h1, _⟩ := h
  obtain ⟨cs', h2, _⟩ := h'
  exact h1.differ h2 hne
end
def icF (n : Nat) : Array Value := ⟨(List.range n).map fun _ => .int .i64 0⟩
theorem made_icF (n : Nat) : madeCells #[Value.int .i64 0] (n * 1) = icF n := by
  have hs : (madeCells #[Value.int .i64 0] (n * 1)).size = n := by have := size_madeCells #[Value.int .i64 0] (n * 1); simpa using this
  apply Array.ext
  · rw [hs]; simp [icF]
  · intro i h1 h2
    simp [madeCells, icF, Nat.mod_one]
theorem mk_icF (n : Nat) (hl : n ≤ 1048576) (w : World) : (Instr.makeSlice 23 (.int .i64 (n : Int)) (.int .i64 (n : Int))).run Try.prog w =
    .ok (.slice (some ⟨w.heap.size, 0, none⟩) n n) (w.alloc (.cells (icF n) 3)) := by
  obtain ⟨i0, hi, hz0, hz1, hz2⟩ := info_parts Try.infoFdI
  have h := run_make (P := Try.prog) w 23 3 i0 _ Try.underlying23 hi hz0 .i64 .i64 (n : Int) (n : Int) (by omega) (by omega) (by rw [hz2]; omega) (by omega)
  rw [hz1] at h
  simp only [Int.toNat_natCast] at h
  rw [h, show (Value.int IntKind.i64 0).cells = #[Value.int .i64 0] from rfl, made_icF]
theorem FB.made (w : World) (n : Nat) {g : Nat} (hg : w.heap.size = g) : FB 3 (w.alloc (.cells (icF n) 3)) g n (fun _ => 0) :=
  ⟨_, Blk.new w _ _ hg, fun i hi => by simp [icF, hi]⟩
/-- Positions as ints. -/
def nI (l : List Nat) : List Int := l.map fun v : Nat => (v : Int)
theorem nI_len (l : List Nat) : (nI l).length = l.length := by simp [nI]
theorem nI_at (l : List Nat) (i : Nat) : (nI l).getD i 0 = ((l.getD i 0 : Nat) : Int) := by
  unfold nI
  rw [List.getD_eq_getElem?_getD, List.getD_eq_getElem?_getD, List.getElem?_map]
  cases l[i]? <;> rfl
theorem FB.ints {w : World} {g n : Nat} {f : Nat → Int} (h : FB 3 w g n f) (l : List Int) (hl : l.length = n) (he : ∀ i, i < n → f i = l.getD i 0) : Ints w (some ⟨g, 0, none⟩) l := fun i x hx => by
  have hi : i < l.length := (List.getElem?_eq_some_iff.1 hx).1
  refine ⟨g, 0, rfl, fun j v hv => ?_⟩
  have hj : j = 0 := by have := (List.getElem?_eq_some_iff.1 hv).1; simp [enc1] at this; omega
  subst hj
  have hv2 : v = .int .i64 x := by simpa [enc1] using hv.symm
  subst hv2
  rw [show 0 + i * 1 + 0 = i by omega, h.at (by omega), he i (by omega), List.getD_eq_getElem?_getD, hx]; rfl
theorem Nats_at {w : World} {A : Option Addr} {l : List Nat} (h : Ints w A (nI l)) {i : Nat} (hi : i < l.length) : ∃ b off, A = some ⟨b, off, none⟩ ∧ w.cell? ⟨b, off + i, none⟩ = some (.int .i64 ((l.getD i 0 : Nat) : Int)) := by
  obtain ⟨b, off, e, hc⟩ := Ints_at h (i := i) (by rw [nI_len]; exact hi)
  exact ⟨b, off, e, by rw [hc, nI_at]⟩
theorem getD_mem {l : List Nat} {i : Nat} (hi : i < l.length) : l.getD i 0 ∈ l := by
  rw [List.getD_eq_getElem?_getD, List.getElem?_eq_getElem hi]; exact List.getElem_mem _
/-- The bytes of a string. -/
def bts (s : ByteArray) : List UInt8 := s.data.toList
theorem bts_len (s : ByteArray) : (bts s).length = s.size := Array.length_toList
theorem bts_at (s : ByteArray) {i : Nat} (h : i < s.size) : (bts s)[i]'(by rw [bts_len]; exact h) = s[i] := rfl
theorem bts_drop (s : ByteArray) (k : Nat) : bts (s.extract k s.size) = (bts s).drop k := by
  unfold bts
  rw [ByteArray.data_extract, Array.toList_extract, List.extract_eq_take_drop]
  apply List.take_of_length_le
  rw [List.length_drop]
  have := bts_len s
  unfold bts at this
  omega
theorem bts_slice (s : ByteArray) (i j : Nat) : bts (s.extract i j) = ((bts s).take j).drop i := by
  unfold bts
  rw [ByteArray.data_extract, Array.toList_extract, List.extract_eq_take_drop, List.drop_take]
theorem bts_inj {a b : ByteArray} (h : bts a = bts b) : a = b := by
  cases a; cases b
  congr 1
  exact Array.toList_inj.1 h
theorem less_lt : ∀ a b : List UInt8, Op.bytesLess a b = ltS a b
  | [], [] => rfl
  | [], _ :: _ => rfl
  | _ :: _, [] => rfl
  | a :: x, b :: y => by simp only [Op.bytesLess, ltS, less_lt x y]

end Go.Proofs.Ytmcefcdnfngndaa
