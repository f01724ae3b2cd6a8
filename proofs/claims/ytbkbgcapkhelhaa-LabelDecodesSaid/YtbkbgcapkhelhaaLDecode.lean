/- Layer 3: Decode. -/
import Derived.Test.YtbkbgcapkhelhaaLMend
import Derived.Test.YtbkbgcapkhelhaaLArp
import Derived.Test.YtbkbgcapkhelhaaLEnc
namespace Go.Proofs.Ytbkbgcapkhelhaa
open Go.RowKit
set_option linter.unusedSimpArgs false

theorem arePositions_long (A : Option Addr) (n c : Nat) (x : Int) (w : World) (h : 255 < n) (hl : n ≤ 1048576) :
    Calls Try.prog 43 #[.slice A n c, .int .i64 x] w fun e w' => e = .returned (.bool false) ∧ Gr w w' := by
  have h1 : (255 : Int) < (n : Int) := by omega
  have hg : Gr w (w.alloc (.cells #[.int .i64 x] 3)) := (Gr.refl _).alloc _
  have HG := Lib.hid hg
  clear hg
  go_enter Try.func43, Try.ntmps43
  go_wp2_with fail
  go_ret
  exact ⟨rfl, HG.out⟩
theorem nats_toNat {q : List Int} (h : ∀ x ∈ q, 0 ≤ x) : nats (q.map Int.toNat) = q := by
  unfold nats
  rw [List.map_map]
  refine (List.map_congr_left (fun x hx => ?_)).trans (List.map_id q)
  show ((x.toNat : Nat) : Int) = x
  exact Int.toNat_of_nonneg (h x hx)
theorem isPos_iff {n : Nat} {x : Int} : isPos n x = true ↔ 0 ≤ x ∧ x < (n : Int) := by simp [isPos]
theorem nats_pos {is : List Nat} {n : Nat} (h : ∀ i ∈ is, i < n) : (nats is).all (isPos n) = true := by
  rw [List.all_eq_true]
  intro x hx
  obtain ⟨i, hi, rfl⟩ := List.mem_map.1 hx
  have := h i hi
  exact isPos_iff.2 ⟨by omega, by omega⟩
theorem pos_nats {q : List Int} {n : Nat} (h : q.all (isPos n) = true) : nats (q.map Int.toNat) = q ∧ ∀ i ∈ q.map Int.toNat, i < n := by
  rw [List.all_eq_true] at h
  refine ⟨nats_toNat (fun x hx => (isPos_iff.1 (h x hx)).1), fun i hi => ?_⟩
  obtain ⟨x, hx, rfl⟩ := List.mem_map.1 hi
  have := isPos_iff.1 (h x hx)
  omega

def decL (s : ByteArray) (p : Nat) (is : List Nat) : List G := mendL s.size p (cnt (lostB is) s.size) (lostB is) (gs s)
def decB (s : ByteArray) (p : Nat) (is : List Nat) : Bool := cmpB s.size p (cnt (lostB is) s.size) (gs s) (decL s p is) (lostB is)
theorem decL_len (s : ByteArray) (p : Nat) (is : List Nat) : (decL s p is).length = s.size := by unfold decL; rw [mendL_len, gs_len]
def decN (s : ByteArray) (p : Nat) (is : List Nat) : Nat := cnt (difB (gs s) (decL s p is)) s.size

set_option maxRecDepth 100000 in
set_option maxHeartbeats 2000000 in
theorem Decode_no1 (s : ByteArray) (p : Int) (A : Option Addr) (m mc : Nat) (w : World) (hr : okB (s.size : Int) p = false) :
    Calls Try.prog 27 #[.string s, .int .i64 p, .slice A m mc] w fun e w' => e = .returned (.tuple #[.string ⟨#[]⟩, .int .i64 0, .int .i64 2]) ∧ Gr w w' := by
  have HV := Lib.hid (fun W' => areValid_any (s.size : Int) p W' false hr)
  clear hr
  go_enter Try.func27, Try.ntmps27
  go_wp2_with fail
  refine (HV.out _).mono ?_
  rintro e w1 ⟨rfl, rfl⟩
  go_wp2_with fail
  go_ret3
  exact ⟨rfl, Gr.refl _⟩
set_option maxRecDepth 100000 in
set_option maxHeartbeats 2000000 in
theorem Decode_no2 (s : ByteArray) (p : Int) (A : Option Addr) (m mc : Nat) (q : List Int) (w : World) (hr : okB (s.size : Int) p = true) (hm : q.length = m) (hl : m ≤ 1048576) (hA : Ints w A q) (hb : 255 < m ∨ q.all (isPos s.size) = false) :
    Calls Try.prog 27 #[.string s, .int .i64 p, .slice A m mc] w fun e w' => e = .returned (.tuple #[.string ⟨#[]⟩, .int .i64 0, .int .i64 2]) ∧ Gr w w' := by
  have HV := Lib.hid (fun W' => areValid_any (s.size : Int) p W' true hr)
  have HP : Hid (Calls Try.prog 43 #[.slice A m mc, .int .i64 (s.size : Int)] w fun e w' => e = .returned (.bool false) ∧ Gr w w') := Lib.hid (by
    by_cases h : 255 < m
    · exact arePositions_long A m mc _ w h hl
    · exact arePositions_any A m mc s.size q w hm (by omega) hA false (by rcases hb with e | e; exact absurd e h; exact e))
  clear hr hm hl hA hb
  go_enter Try.func27, Try.ntmps27
  go_wp2_with fail
  refine (HV.out _).mono ?_
  rintro e w1 ⟨rfl, rfl⟩
  go_wp2_with fail
  refine HP.out.mono ?_
  rintro e w2 ⟨rfl, hg⟩
  go_wp2_with fail
  go_ret3
  exact ⟨rfl, hg⟩
set_option maxRecDepth 100000 in
set_option maxHeartbeats 2000000 in
theorem Decode_any (s : ByteArray) (p : Nat) (A : Option Addr) (m mc : Nat) (is : List Nat) (w : World) (hr : okB (s.size : Int) (p : Int) = true) (hm : is.length = m) (hl : m ≤ 255) (hi : ∀ i ∈ is, i < s.size) (hA : Ints w A (nats is)) (b : Bool) (hb : decB s p is = b) :
    Calls Try.prog 27 #[.string s, .int .i64 (p : Int), .slice A m mc] w fun e w' => e = .returned (bif b then .tuple #[.string (txt ((decL s p is).take (s.size - p))), .int .i64 (decN s p is : Int), .int .i64 0] else .tuple #[.string ⟨#[]⟩, .int .i64 0, .int .i64 6]) ∧ Gr w w' := by
  have HV := Lib.hid (fun W' => areValid_any (s.size : Int) p W' true hr)
  have hok := (okB_iff _ _).1 hr
  have hs : s.size ≤ 255 := by omega
  have hp : p ≤ 64 := by omega
  have hps : p + 1 ≤ s.size := by omega
  have HP := Lib.hid (arePositions_any A m mc s.size (nats is) w (by rw [nats_len]; exact hm) hl hA true (nats_pos hi))
  have HND := Lib.hid (fun W (hg : Gr w W) => newDamage_any s p A m mc is W hp (by omega) hs hm hl hi (hA.keep hg))
  have HB := Lib.hid hb
  obtain ⟨dn, hdn⟩ : ∃ dn, decN s p is = dn := ⟨_, rfl⟩
  obtain ⟨t, ht⟩ : ∃ t, s.size - p = t := ⟨_, rfl⟩
  rw [hdn, ht]
  have HDN := Lib.hid hdn
  have HTT := Lib.hid ht
  clear hr hok hm hl hi hA hb hdn ht
  go_enter Try.func27, Try.ntmps27
  go_wp2_with fail
  refine (HV.out _).mono ?_
  rintro e w1 ⟨rfl, rfl⟩
  go_wp2_with fail
  refine HP.out.mono ?_
  rintro e w2 ⟨rfl, hg2⟩
  go_wp2_with fail
  refine (HND.out _ hg2).mono ?_
  rintro e w3 ⟨D, T, Aw, As, wc, sc, rfl, hD, hg3⟩
  have HD := Lib.hid hD
  have HG3 := Lib.hid (hg2.trans hg3)
  clear hD hg2 hg3 HP HND
  go_wp2_with fail
  refine (mended_any w3 HD.out rfl).mono ?_
  rintro e w4 ⟨g, c, rfl, hc, hR, hg4⟩
  have HR : Hid (Row w4 g 0 (decL s p is)) := Lib.hid hR
  have HG4 := Lib.hid (HG3.out.trans hg4)
  have HD4 := Lib.hid (HD.out.keep hg4)
  clear hR hg4 HD HG3
  go_wp2_with fail
  refine (compare_any (some ⟨g, 0, none⟩) c (decL s p is) w4 HD4.out (decL_len s p is) HR.out.pts).mono ?_
  rintro e w5 ⟨rfl, hg5⟩
  have hdb : cmpB s.size p (cnt (lostB is) s.size) (gs s) (decL s p is) (lostB is) = b := HB.out
  rw [hdb]
  have hdn : cnt (difB (gs s) (decL s p is)) s.size = dn := HDN.out
  rw [hdn]
  have HG5 := Lib.hid (HG4.out.trans hg5)
  have HR5 := Lib.hid (HR.out.keep hg5)
  clear hdb hdn hg5 HR
  cases b
  · go_wp2_with fail
    go_ret3
    exact ⟨rfl, HG5.out⟩
  · have ht := HTT.out
    have hw1 : IntKind.i64.wrap ((s.size : Int) - (p : Int)) = (t : Int) := by rw [IntWalk.i64_in _ (by omega)]; omega
    have hsub : (s.size : Int) - (p : Int) = (t : Int) := by omega
    have htc : t ≤ c := by omega
    have hcv := back_any (some ⟨g, 0, none⟩) t c ((decL s p is).take t) (by rw [List.length_take, decL_len]; omega) w5 (Rd_take HR5.out.pts t)
    clear ht
    go_wp2_with (simp only [hcv])
    go_ret3
    exact ⟨rfl, HG5.out⟩
end Go.Proofs.Ytbkbgcapkhelhaa
