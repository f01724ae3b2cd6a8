/- Layer 3: a word with some bytes changed.
The law LabelMends as a walk. -/
import Derived.Test.YtpnkpejnahhajaaGreatBc11
import Derived.Deep.RegionLaw
namespace Go.Proofs.YtpnkpejnahhajaaGreat
open Go.RowKit
set_option linter.unusedSimpArgs false

/-- A change: a number and a byte. -/
def encC (c : Int × G) : List Value := [.int .i64 c.1, .int .u8 (c.2.v : Int)]
abbrev Chgs := Rd 2 encC
theorem Chgs_at {w : World} {A : Option Addr} {cs : List (Int × G)} (h : Chgs w A cs) {k : Nat} (hk : k < cs.length) :
    ∃ b off, A = some ⟨b, off, none⟩ ∧ w.cell? ⟨b, off + k * 2, none⟩ = some (.int .i64 (cs.getD k (0, g0)).1) ∧ w.cell? ⟨b, off + k * 2 + 1, none⟩ = some (.int .u8 ((cs.getD k (0, g0)).2.v : Int)) := by
  obtain ⟨b, off, e, hc⟩ := h k _ (getD_of (0, g0) hk)
  exact ⟨b, off, e, hc 0 _ rfl, hc 1 _ rfl⟩

/-- What the law's helper spoilt has done to ws: bs, and the positions at which it did. -/
structure Spoil (ws bs : List G) (at_ : List Nat) (most : Nat) (cs : List (Int × G)) : Prop where
  len : bs.length = ws.length
  few : at_.length ≤ most
  nodup : at_.Nodup
  ins : ∀ i ∈ at_, i < ws.length
  dif : ∀ i, i < ws.length → difB ws bs i = at_.contains i
  src : ∀ i ∈ at_, ∃ c ∈ cs, i = modP c.1 ws.length
theorem Spoil.start (ws : List G) (most : Nat) : Spoil ws ws [] most [] := ⟨rfl, Nat.zero_le _, List.nodup_nil, fun i h => by simp at h, fun i _ => by unfold difB; simp, fun i h => by simp at h⟩
theorem Spoil.skip {ws bs : List G} {at_ : List Nat} {most : Nat} {cs : List (Int × G)} (h : Spoil ws bs at_ most cs) (c : Int × G) : Spoil ws bs at_ most (cs ++ [c]) :=
  ⟨h.len, h.few, h.nodup, h.ins, h.dif, fun i hi => by obtain ⟨c', h1, h2⟩ := h.src i hi; exact ⟨c', List.mem_append_left _ h1, h2⟩⟩
theorem gadd_ne {x y : G} (h : y ≠ g0) : x + y ≠ x := fun e => h (by
  have : x + (x + y) = x + x := by rw [e]
  rwa [gadd_back, gadd_self] at this)
theorem Spoil.step {ws bs : List G} {at_ : List Nat} {most : Nat} {cs : List (Int × G)} (h : Spoil ws bs at_ most cs) {c : Int × G} (hk : modP c.1 ws.length < ws.length) (hn : at_.contains (modP c.1 ws.length) = false) (hm : at_.length < most) (hc : c.2 ≠ g0) :
    Spoil ws (bs.set (modP c.1 ws.length) (bs.getD (modP c.1 ws.length) g0 + c.2)) (at_ ++ [modP c.1 ws.length]) most (cs ++ [c]) := by
  have hsrc : ∀ i ∈ at_ ++ [modP c.1 ws.length], ∃ c' ∈ cs ++ [c], i = modP c'.1 ws.length := fun i hi => by
    rcases List.mem_append.1 hi with hi | hi
    · obtain ⟨c', h1, h2⟩ := h.src i hi; exact ⟨c', List.mem_append_left _ h1, h2⟩
    · rw [List.mem_singleton] at hi; exact ⟨c, List.mem_append_right _ (List.mem_singleton.2 rfl), hi⟩
  have hnm : modP c.1 ws.length ∉ at_ := by
    rw [List.contains_eq_mem, decide_eq_false_iff_not] at hn; exact hn
  generalize modP c.1 ws.length = k at hk hn hsrc hnm
  have hbk : bs.getD k g0 = ws.getD k g0 := by
    have := h.dif k hk
    rw [hn] at this
    unfold difB at this
    simpa using this
  refine ⟨by rw [List.length_set]; exact h.len, by rw [List.length_append]; simp; omega, ?_, ?_, ?_, hsrc⟩
  · rw [List.nodup_append]
    refine ⟨h.nodup, by simp, fun a ha b hb e => ?_⟩
    rw [List.mem_singleton] at hb
    subst hb; subst e
    exact hnm ha
  · intro i hi
    rcases List.mem_append.1 hi with hi | hi
    · exact h.ins i hi
    · rw [List.mem_singleton] at hi; rw [hi]; exact hk
  · intro i hi
    have hc1 : (at_ ++ [k]).contains i = (at_.contains i || decide (i = k)) := by
      rw [Bool.eq_iff_iff]; simp [List.contains_eq_mem]
    unfold difB
    rw [getD_set _ _ _ _ (by rw [h.len]; exact hk), hc1]
    by_cases e : k = i
    · subst e
      rw [if_pos rfl, hbk, decide_eq_false (gadd_ne hc)]
      simp
    · rw [if_neg e, show decide (i = k) = false from decide_eq_false (fun h => e h.symm), Bool.or_false]
      exact h.dif i hi

def SpoilPost (ws : List G) (most : Nat) (cs : List (Int × G)) (w : World) (e : Ending) (w' : World) : Prop :=
  ∃ bs at_ B m c, e = .returned (.tuple #[.string (txt bs), .slice B m c]) ∧ at_.length = m ∧ Ints w' B (nats at_) ∧ Spoil ws bs at_ most cs ∧ (B = none → c = 0) ∧ Gr w w'

/-- A row of bytes that []byte of a string has made. -/
theorem conv_row (s : ByteArray) (w : World) (cap : Nat) (hc : s.size ≤ cap) : Row (w.alloc (.cells (bytesRow s cap) 5 ((bytesRow s cap).size, (bytesRow s cap).size + 1))) w.heap.size 0 (gs s) := fun i hi => by
  rw [Nat.zero_add]
  rw [gs_len] at hi
  exact ⟨bytes_at hi, bytes_free hc (by omega)⟩
theorem Row.grown {w w' : World} {g off : Nat} {xs : List G} {row : Option Nat} (h : Row w g off xs) (hg : w.grownBy w' row) (hne : some g ≠ row) : Row w' g off xs := fun i hi => by
  obtain ⟨h1, h2⟩ := h i hi
  have hb : g < w.heap.size := World.block_lt_of_cell? w _ h1
  have hbl := hg.block g hb hne
  exact ⟨(World.cell?_of_block hbl).trans h1, (World.frozen?_of_block hbl).trans h2⟩
theorem Gb.grown {D : Nat} {wa wn w2 : World} {row : Option Nat} (h : Gb D wa wn) (hg : wn.grownBy w2 row) (hr : ∀ k, row = some k → wa.heap.size ≤ k) : Gb D wa w2 :=
  ⟨hg.os.trans h.os, hg.tape.trans h.tape, hg.output.trans h.output, Nat.le_trans h.size hg.size, fun i hi hn => (hg.block i (Nat.lt_of_lt_of_le hi h.size) (fun e => by have := hr i e.symm; omega)).trans (h.block i hi hn)⟩
end Go.Proofs.YtpnkpejnahhajaaGreat

namespace Go.Proofs.YtpnkpejnahhajaaGreat
open Go.RowKit
set_option linter.unusedSimpArgs false

theorem dec_near {s : ByteArray} {p : Nat} {is : List Nat} {cs : List G} (hs : s.size ≤ 255) (hc : cs.length = s.size) (hB : isB cs p = true) (hnear : 2 * cnt (errB (gs s) cs (lostB is)) s.size + cnt (lostB is) s.size ≤ p) :
    decL s p is = cs ∧ decB s p is = true ∧ decN s p is = cnt (difB (gs s) cs) s.size := by
  have h1 : decL s p is = cs := mend_near hs (gs_len s) hc hB rfl hnear
  refine ⟨h1, ?_, ?_⟩
  · unfold decB; rw [h1]; exact cmp_near hB hnear
  · unfold decN; rw [h1]
theorem dec_take {t : ByteArray} {q : Nat} : txt ((gs (encL t q)).take t.size) = t := by
  rw [gs_enc, ← gs_len t, codeL_take, txt_gs]
end Go.Proofs.YtpnkpejnahhajaaGreat
