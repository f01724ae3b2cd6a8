/- Layer 3: label.Encode. -/
import Derived.Test.YtbkbgcapkhelhaaLChk
namespace Go.Proofs.Ytbkbgcapkhelhaa
open Go.RowKit
set_option linter.unusedSimpArgs false

def u8 (x : G) : UInt8 := UInt8.ofNat x.v
theorem u8_nat (x : G) : (u8 x).toNat = x.v := by
  have := x.lt
  unfold u8
  rw [UInt8.toNat_ofNat']
  omega
def txt (xs : List G) : ByteArray := ⟨(xs.map u8).toArray⟩
theorem txt_size (xs : List G) : (txt xs).size = xs.length := by simp [txt, ByteArray.size]
theorem back_any (A : Option Addr) (n c : Nat) (xs : List G) (hn : xs.length = n) (w : World) (hA : Byts w A xs) : (convert 40 9 (.slice A n c)).run Try.prog w = .ok (.string (txt xs)) w := by
  cases xs with
  | nil =>
    obtain rfl : n = 0 := by simpa using hn.symm
    cases A with
    | none =>
      rw [run_convert_bytes_string w 40 9 5 none 0 c Try.underlying40 Try.underlying5 Try.underlying9]
      rfl
    | some a => exact run_convert_bytes_back (P := Try.prog) w 40 9 5 a c [] Try.underlying40 Try.underlying5 Try.underlying9 (fun j hj => by simp at hj)
  | cons x r =>
    obtain ⟨b, o, rfl, c0⟩ := Byts_at hA (i := 0) (by simp)
    have h := run_convert_bytes_back (P := Try.prog) w 40 9 5 ⟨b, o, none⟩ c ((x :: r).map u8) Try.underlying40 Try.underlying5 Try.underlying9 (fun j hj => by
      have hj' : j < (x :: r).length := by simpa using hj
      obtain ⟨b', o', e, cj⟩ := Byts_at hA hj'
      obtain ⟨rfl, rfl⟩ : b = b' ∧ o = o' := by simpa using e
      rw [Addr.add_lit, cj, List.getElem_map, u8_nat, List.getD_eq_getElem?_getD, List.getElem?_eq_getElem hj']
      rfl)
    rw [List.length_map, hn] at h
    exact h
def encL (s : ByteArray) (p : Nat) : ByteArray := s ++ txt (chkL (gs s) p)
theorem chkL_len (s : List G) (p : Nat) : (chkL s p).length = p := by
  unfold chkL; rw [List.length_drop, dvL_len, List.length_append, List.length_replicate]; omega
set_option maxRecDepth 100000 in
set_option maxHeartbeats 2000000 in
theorem Encode_yes (s : ByteArray) (p : Nat) (w : World) (hr : okB ((s.size : Int) + p) (p : Int) = true) :
    Calls Try.prog 18 #[.string s, .int .i64 (p : Int)] w fun e w' => e = .returned (.tuple #[.string (encL s p), .int .i64 0]) ∧ Gr w w' := by
  have HV := Lib.hid (fun W' => areValid_any ((s.size : Int) + p) (p : Int) W' true hr)
  have hb := (okB_iff _ _).1 hr
  have hs : s.size ≤ 255 := by omega
  have hp : p ≤ 64 := by omega
  clear hr
  go_enter Try.func18, Try.ntmps18
  go_wp2_with fail
  refine (HV.out _).mono ?_
  rintro e w1 ⟨rfl, rfl⟩
  go_wp2_with fail
  refine (newTables_any _).mono ?_
  rintro e w2 ⟨T, rfl, -, hT, hg2⟩
  go_wp2_with fail
  refine (check_any T s p w2 hT (by omega) hp).mono ?_
  rintro e w3 ⟨A, c, rfl, hA, hg3⟩
  have hcv := back_any A p c (chkL (gs s) p) (chkL_len _ _) w3 hA
  have hts : (txt (chkL (gs s) p)).size = p := by rw [txt_size, chkL_len]
  have hno : ¬ (9223372036854775807 < s.size + p) := by omega
  have hno2 : s.size + p ≤ 9223372036854775807 := by omega
  go_wp2_with (simp only [hcv])
  go_ret2
  exact ⟨rfl, hg2.trans hg3⟩
theorem okB_out {n p : Int} (h : ¬ (0 ≤ p ∧ p ≤ 64)) : okB n p = false := by
  rw [Bool.eq_false_iff]; intro e; have := (okB_iff _ _).1 e; omega
set_option maxHeartbeats 2000000 in
theorem Encode_no (s : ByteArray) (p : Int) (w : World) (hs : s.size ≤ 300) (hr : okB ((s.size : Int) + p) p = false) :
    Calls Try.prog 18 #[.string s, .int .i64 p] w fun e w' => e = .returned (.tuple #[.string ⟨#[]⟩, .int .i64 2]) ∧ Gr w w' := by
  have HO : Hid (okB (IntKind.i64.wrap ((s.size : Int) + p)) p = false) := Lib.hid (by
    by_cases hp : 0 ≤ p ∧ p ≤ 64
    · rw [IntWalk.i64_in _ (by omega)]; exact hr
    · exact okB_out hp)
  obtain ⟨x, hx⟩ : ∃ x, IntKind.i64.wrap ((s.size : Int) + p) = x := ⟨_, rfl⟩
  rw [hx] at HO
  clear hr
  go_enter Try.func18, Try.ntmps18
  go_wp2_with fail
  refine (areValid_any x p _ _ HO.out).mono ?_
  rintro e w1 ⟨rfl, rfl⟩
  go_wp2_with fail
  go_ret2
  exact ⟨rfl, Gr.refl _⟩
end Go.Proofs.Ytbkbgcapkhelhaa
