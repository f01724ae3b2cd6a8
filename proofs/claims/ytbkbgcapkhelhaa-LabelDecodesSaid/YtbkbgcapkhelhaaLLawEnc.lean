/- The law LabelEncodes as a walk. -/
import Derived.Test.YtbkbgcapkhelhaaLShort
import Derived.Test.YtbkbgcapkhelhaaLRefE
namespace Go.Proofs.Ytbkbgcapkhelhaa
open Go.RowKit
set_option linter.unusedSimpArgs false

theorem u8_gs (b : UInt8) : u8 ⟨b.toNat, b.toNat_lt⟩ = b := by
  unfold u8; simp
theorem txt_gs (s : ByteArray) : txt (gs s) = s := by
  obtain ⟨a⟩ := s
  unfold txt gs
  congr 1
  apply Array.ext'
  simp only [List.map_map]
  refine (List.map_congr_left (fun x _ => ?_)).trans (List.map_id _)
  exact u8_gs x
theorem txt_app (a b : List G) : txt (a ++ b) = txt a ++ txt b := by
  apply ByteArray.ext
  apply Array.ext'
  simp [txt]
theorem gs_txt (xs : List G) : gs (txt xs) = xs := by
  unfold gs txt
  simp only [List.map_map]
  refine (List.map_congr_left (fun x _ => ?_)).trans (List.map_id _)
  exact G.eq (u8_nat x)
theorem txt_code (s : ByteArray) (p : Nat) : txt (codeL (gs s) p) = encL s p := by
  unfold codeL encL; rw [txt_app, txt_gs]
theorem codeL_len (xs : List G) (p : Nat) : (codeL xs p).length = xs.length + p := by unfold codeL; rw [List.length_append, chkL_len]

set_option maxRecDepth 100000 in
set_option maxHeartbeats 4000000 in
theorem lawEncodes_any (s0 : ByteArray) (p : Int) (w : World) (_ : -9223372036854775808 ≤ p ∧ p ≤ 9223372036854775807) : Calls Try.prog 4 #[.string s0, .int .i64 p] w fun e w' => e = .returned (.bool true) ∧ Gr w w' := by
  go_enter Try.func4, Try.ntmps4
  go_wp2_with fail
  refine (short_any s0 w).mono ?_
  rintro e w1 ⟨s, rfl, hs, rfl⟩
  rcases hok : okB ((s.size : Int) + p) p with _ | _
  · have HE := Lib.hid (fun W => Encode_no s p W hs hok)
    by_cases hp0 : p < 0
    · clear hok
      go_wp2_with fail
      refine (HE.out _).mono ?_
      rintro e w2 ⟨rfl, hg⟩
      go_wp2_with fail
      refine (awake_any _).mono ?_
      rintro e w3 ⟨rfl, hg2⟩
      go_wp2_with fail
      go_ret
      exact ⟨rfl, hg.trans hg2⟩
    · by_cases hp1 : 64 < p
      · clear hok
        go_wp2_with fail
        refine (HE.out _).mono ?_
        rintro e w2 ⟨rfl, hg⟩
        go_wp2_with fail
        refine (awake_any _).mono ?_
        rintro e w3 ⟨rfl, hg2⟩
        go_wp2_with fail
        go_ret
        exact ⟨rfl, hg.trans hg2⟩
      · have HR := Lib.hid (fun W => rRight_any ((s.size : Int) + p) p W false hok)
        clear hok
        go_wp2_with fail
        refine (HE.out _).mono ?_
        rintro e w2 ⟨rfl, hg⟩
        go_wp2_with fail
        refine (HR.out _).mono ?_
        rintro e w3 ⟨rfl, rfl⟩
        go_wp2_with fail
        refine (awake_any _).mono ?_
        rintro e w3 ⟨rfl, hg2⟩
        go_wp2_with fail
        go_ret
        exact ⟨rfl, hg.trans hg2⟩
  · have hb := (okB_iff _ _).1 hok
    obtain ⟨q, rfl⟩ : ∃ q : Nat, p = (q : Int) := ⟨p.toNat, by omega⟩
    have HE := Lib.hid (fun W => Encode_yes s q W hok)
    have HR := Lib.hid (fun W => rRight_any ((s.size : Int) + (q : Int)) (q : Int) W true hok)
    have HN := Lib.hid (fun W => rNumbers_any s (by omega) W)
    have hss : s.size ≤ 255 := by omega
    have hq : q ≤ 64 := by omega
    have HRE := Lib.hid (fun (A : Option Addr) (c : Nat) W (hA : Ints W A (gints (gs s))) => rEncode_any A s.size c q (gs s) W (gs_len s) (by omega) hq hA)
    have HRT := Lib.hid (fun (A : Option Addr) (c : Nat) W (hA : Ints W A (gints (codeL (gs s) q))) => rText_any A (s.size + q) c (codeL (gs s) q) (by rw [codeL_len, gs_len]) (by omega) W hA)
    have HTC := txt_code s q
    rw [HTC] at HRT
    generalize encL s q = t at HE HRT HTC
    clear hok hb HTC
    go_wp2_with fail
    refine (HE.out _).mono ?_
    rintro e w2 ⟨rfl, hg2⟩
    go_wp2_with fail
    refine (HR.out _).mono ?_
    rintro e w3 ⟨rfl, rfl⟩
    go_wp2_with fail
    refine (HN.out _).mono ?_
    rintro e w4 ⟨A, c, rfl, hA, hg4⟩
    have HA := Lib.hid hA
    clear hA
    go_wp2_with fail
    refine (HRE.out A c _ HA.out).mono ?_
    rintro e w5 ⟨g, rfl, hC, hg5⟩
    have HC := Lib.hid hC
    clear hC
    go_wp2_with fail
    refine (HRT.out _ _ _ HC.out).mono ?_
    rintro e w6 ⟨rfl, hg6⟩
    go_wp2_with fail
    refine (awake_any _).mono ?_
    rintro e w7 ⟨rfl, hg7⟩
    go_wp2_with fail
    go_ret
    exact ⟨rfl, (((hg2.trans hg4).trans hg5).trans hg6).trans hg7⟩
end Go.Proofs.Ytbkbgcapkhelhaa
