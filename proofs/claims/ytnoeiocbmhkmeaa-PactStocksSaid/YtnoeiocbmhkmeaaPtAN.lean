/- Layer 5: the law's copies of lists; a net without sites. -/
import Derived.Test.YtnoeiocbmhkmeaaPtAM
import Derived.Test.YtnoeiocbmhkmeaaCopyL
namespace Go.Proofs.Ytnoeiocbmhkmeaa
open Go.RowKit
set_option linter.unusedSimpArgs false

theorem Try.infoPtI : (Try.prog.info? 3).map (fun i => (i.zero, i.size, i.bytes)) = some (some (.int .i64 0), 1, 8) := by kernel_rfl
theorem enc1p_len (p : Int) : (enc1 p).length = 1 := rfl
theorem enc1p_one (p : Int) : ∀ u ∈ enc1 p, u.oneCell' = true := by intro u hu; simp [enc1] at hu; subst hu; rfl
set_option maxRecDepth 100000 in
set_option maxHeartbeats 2000000 in
theorem parts_any (A : Option Addr) (n c : Nat) (l : List Mv) (w : World) (hn : l.length = n) (hc : n ≤ c) (hm : c ≤ 9223372036854775807) (h0 : A = none → c = 0) (hp : Pts w A l) :
    Calls Try.prog 16 #[.slice A n c] w fun e w' => ∃ A' c', e = .returned (.slice A' (min n 9) c') ∧ CopyP enc2 2 (l.take 9) (min n 9) w A' c' w' := by
  obtain ⟨i0, hi, hz0, hz1, hz2⟩ := info_parts Try.infoPtM
  obtain ⟨k, hk⟩ : ∃ k, min n 9 = k := ⟨_, rfl⟩
  rw [hk]
  have HK : Hid ((l.take 9).length = k) := Lib.hid (by rw [List.length_take, hn]; omega)
  have HP : Hid (Pts w A (l.take 9)) := Lib.hid (Rd_take hp 9)
  have HA : Hid (A = none → k = 0 ∧ c = 0) := Lib.hid (fun e => by have := h0 e; omega)
  have hk9 : k ≤ 9 := by omega
  have hkc : (k : Int) ≤ (c : Int) := by omega
  have hkc' : k ≤ c := by omega
  have e1 : (if (9 : Int) < (n : Int) then (9 : Int) else (n : Int)) = (k : Int) := by split <;> omega
  have e2 : (if (n : Int) < (9 : Int) then (n : Int) else (9 : Int)) = (k : Int) := by split <;> omega
  have e3 : min (n : Int) (9 : Int) = (k : Int) := by omega
  have hk0 : (0 : Int) ≤ (k : Int) := by omega
  clear hn hp h0 hk
  go_enter Try.func16, Try.ntmps16
  go_wp2_with (at_builtin; refine wpList_copy (by rfl) (.tmp 4) (.tmp 9) 38 (by rfl) 66 i0 _ 16 Try.underlying38 hi hz0 hz1 hz2 rfl (by decide) enc2p_len enc2p_one A k c (l.take 9) (by rfl) (by rfl) HA.out HK.out HP.out (by unfold maxLen; omega) (by omega) ?_)
  intro A' c' w' hcp
  have HC := Lib.hid hcp
  clear hcp
  go_wp2_with fail
  go_ret
  exact ⟨A', c', rfl, HC.out⟩
set_option maxRecDepth 100000 in
set_option maxHeartbeats 2000000 in
theorem stocks_any (A : Option Addr) (n c : Nat) (l : List Int) (w : World) (hn : l.length = n) (hc : n ≤ c) (hm : c ≤ 9223372036854775807) (h0 : A = none → c = 0) (hp : Ints w A l) :
    Calls Try.prog 9 #[.slice A n c] w fun e w' => ∃ A' c', e = .returned (.slice A' (min n 9) c') ∧ CopyP enc1 1 (l.take 9) (min n 9) w A' c' w' := by
  obtain ⟨i0, hi, hz0, hz1, hz2⟩ := info_parts Try.infoPtI
  obtain ⟨k, hk⟩ : ∃ k, min n 9 = k := ⟨_, rfl⟩
  rw [hk]
  have HK : Hid ((l.take 9).length = k) := Lib.hid (by rw [List.length_take, hn]; omega)
  have HP : Hid (Ints w A (l.take 9)) := Lib.hid (Rd_take hp 9)
  have HA : Hid (A = none → k = 0 ∧ c = 0) := Lib.hid (fun e => by have := h0 e; omega)
  have hk9 : k ≤ 9 := by omega
  have hkc : (k : Int) ≤ (c : Int) := by omega
  have hkc' : k ≤ c := by omega
  have e1 : (if (9 : Int) < (n : Int) then (9 : Int) else (n : Int)) = (k : Int) := by split <;> omega
  have e2 : (if (n : Int) < (9 : Int) then (n : Int) else (9 : Int)) = (k : Int) := by split <;> omega
  have e3 : min (n : Int) (9 : Int) = (k : Int) := by omega
  have hk0 : (0 : Int) ≤ (k : Int) := by omega
  clear hn hp h0 hk
  go_enter Try.func9, Try.ntmps9
  go_wp2_with (at_builtin; refine wpList_copy (by rfl) (.tmp 4) (.tmp 9) 22 (by rfl) 3 i0 _ 8 Try.underlying22 hi hz0 hz1 hz2 rfl (by decide) enc1p_len enc1p_one A k c (l.take 9) (by rfl) (by rfl) HA.out HK.out HP.out (by unfold maxLen; omega) (by omega) ?_)
  intro A' c' w' hcp
  have HC := Lib.hid hcp
  clear hcp
  go_wp2_with fail
  go_ret
  exact ⟨A', c', rfl, HC.out⟩
/-- A net without sites. -/
def zeroN (p : Nat) : Nx := ⟨[], [], 0, p, .slice none 0 0, .slice none 0 0⟩
theorem zeroN_of {w : World} {p : Nat} (h : Blk w p 43 #[.slice none 0 0, .slice none 0 0, .int .i64 0]) {B : Nat} (hB : B ≤ p) : NetR B w (zeroN p) := by
  have hlt := h.lt
  refine ⟨?_, World.ownsRow_nil _ _ _ _, World.ownsRow_nil _ _ _ _, Or.inl rfl, fun it _ => ⟨by simp [zeroN, Value.ownBlock], by simp [zeroN, Value.ownBlock]⟩, by omega⟩
  show Its B w [(p, .cells 43 #[.slice none 0 0, .slice none 0 0, .int .i64 0])]
  exact Its.one h hB
theorem zero_ref (p : Nat) (i tx : Int) : refS (zeroN p) i = 1 ∧ refL (zeroN p) i = 1 ∧ refD (zeroN p) i = 1 ∧ stockN (zeroN p) i = 0 ∧ upN (zeroN p) i = false ∧ outN (zeroN p) i tx = 0 := ⟨rfl, rfl, rfl, rfl, rfl, rfl⟩
theorem zero_own (p : Nat) : ownB (zeroN p) = [p] := rfl
theorem cell_lt5 {w : World} {x : Addr} {v : Value} (h : w.cell? x = some v) : x.block < w.heap.size := by
  unfold World.cell? at h
  split at h
  · rename_i hb
    exact (Array.getElem?_eq_some_iff.1 hb).1
  · cases h
/-- A copy is none of a net's blocks. -/
theorem CopyP.away {xs : List Mv} {k : Nat} {w w' : World} {A : Option Addr} {c : Nat} (h : CopyP enc2 2 xs k w A c w') {S : List Nat} (hS : ∀ g ∈ S, g < w.heap.size) : ∀ W, Ch S w' W → Pts W A xs := fun W hW => by
  cases A with
  | none =>
    have hr := h.rd
    intro i x hx
    obtain ⟨b, off, e, -⟩ := hr i x hx
    cases e
  | some a =>
    obtain ⟨b, off, sp⟩ := a
    have h1 := h.new _ rfl
    have h2 : sp = none := h.spot _ rfl
    subst h2
    dsimp only at h1
    intro i x hx
    obtain ⟨b', off', e, hc⟩ := h.rd i x hx
    injection e with e
    injection e with e1 e2
    refine ⟨b', off', by rw [e1, e2], fun j v hv => ?_⟩
    have h3 := hc j v hv
    have hlt : b' < w'.heap.size := cell_lt5 h3
    exact (World.cell?_of_block (hW.block b' hlt (fun hm => by have := hS b' hm; omega))).trans h3

end Go.Proofs.Ytnoeiocbmhkmeaa
