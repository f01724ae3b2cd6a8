/- The law LabelWords as a walk. -/
import Derived.Test.YtbkbgcapkhelhaaLShort
import Derived.Test.YtbkbgcapkhelhaaLRefC
namespace Go.Proofs.Ytbkbgcapkhelhaa
open Go.RowKit
set_option linter.unusedSimpArgs false

set_option maxRecDepth 100000 in
set_option maxHeartbeats 4000000 in
theorem lawWords_any (s0 : ByteArray) (p : Int) (w : World) (_ : -9223372036854775808 ≤ p ∧ p ≤ 9223372036854775807) : Calls Try.prog 5 #[.string s0, .int .i64 p] w fun e w' => e = .returned (.bool true) ∧ Gr w w' := by
  go_enter Try.func5, Try.ntmps5
  go_wp2_with fail
  refine (short_any s0 w).mono ?_
  rintro e w1 ⟨s, rfl, hs, rfl⟩
  rcases hok : okB (s.size : Int) p with _ | _
  · have HI := Lib.hid (fun W => Is_no s p W hok)
    have HS := Lib.hid (fun W => Syndromes_no s p W hok)
    have HR := Lib.hid (fun W => rRight_any (s.size : Int) p W false hok)
    clear hok
    go_wp2_with fail
    refine (HI.out _).mono ?_
    rintro e w2 ⟨rfl, rfl⟩
    go_wp2_with fail
    refine (HS.out _).mono ?_
    rintro e w2 ⟨rfl, rfl⟩
    go_wp2_with fail
    refine (HR.out _).mono ?_
    rintro e w2 ⟨rfl, rfl⟩
    go_wp2_with fail
    refine (awake_any _).mono ?_
    rintro e w3 ⟨rfl, hg⟩
    go_wp2_with fail
    go_ret
    exact ⟨rfl, hg⟩
  · have hb := (okB_iff _ _).1 hok
    obtain ⟨q, rfl⟩ : ∃ q : Nat, p = (q : Int) := ⟨p.toNat, by omega⟩
    have HI := Lib.hid (fun W => Is_yes s q W hok)
    have HS := Lib.hid (fun W => Syndromes_yes s q W hok)
    have HR := Lib.hid (fun W => rRight_any (s.size : Int) (q : Int) W true hok)
    have HN := Lib.hid (fun W => rNumbers_any s (by omega) W)
    have hss : s.size ≤ 255 := by omega
    have hq : q ≤ 64 := by omega
    obtain ⟨b, hbB⟩ : ∃ b, isB (gs s) q = b := ⟨_, rfl⟩
    rw [hbB] at HI
    have HRS := Lib.hid (fun (A : Option Addr) (c : Nat) W (hA : Ints W A (gints (gs s))) => rSyndromes_any A s.size c q (gs s) W (gs_len s) (by omega) (by omega) hA)
    have HRI := Lib.hid (fun (A : Option Addr) (c : Nat) W (hA : Ints W A (gints (gs s))) => rIs_any A s.size c q (gs s) W (gs_len s) (by omega) (by omega) hA b hbB)
    have HSL := Lib.hid (synL_len (gs s) q)
    clear hok hb hbB
    go_wp2_with fail
    refine (HI.out _).mono ?_
    rintro e w2 ⟨rfl, hg2⟩
    go_wp2_with fail
    refine (HS.out _).mono ?_
    rintro e w3 ⟨g, rfl, -, hB, hg3⟩
    have HB := Lib.hid hB
    clear hB
    go_wp2_with fail
    refine (HR.out _).mono ?_
    rintro e w4 ⟨rfl, rfl⟩
    go_wp2_with fail
    refine (HN.out _).mono ?_
    rintro e w5 ⟨A, c, rfl, hA, hg5⟩
    have HA := Lib.hid hA
    clear hA
    go_wp2_with fail
    refine (HRS.out A c _ HA.out).mono ?_
    rintro e w6 ⟨C, cC, rfl, hC, -, hg6⟩
    have HC := Lib.hid hC
    clear hC
    go_wp2_with fail
    refine (HRI.out A c _ (HA.out.keep hg6)).mono ?_
    rintro e w7 ⟨rfl, hg7⟩
    have HGW := Lib.hid ((((hg2.trans hg3).trans hg5).trans hg6).trans hg7)
    have HB7 := Lib.hid (HB.out.keep ((hg5.trans hg6).trans hg7))
    have HC7 := Lib.hid (HC.out.keep hg7)
    clear hg2 hg3 hg5 hg6 hg7 HB HC HA HRS HRI HI HS HR HN
    generalize synL (gs s) q = l at HB7 HC7 HSL
    go_wp2_with fail
    go_loopw [11] (fun z wr => ∃ k : Nat, k ≤ q ∧ z = .int .i64 k ∧ Gr w7 wr) (fun z _ => q - (intOf z).toNat)
    case atStart => exact ⟨0, Nat.zero_le _, rfl, Gr.refl _⟩
    case round =>
      obtain ⟨k, hk, rfl, hg⟩ := hrel
      by_cases hlt : k < q
      · have hkl : k < l.length := by have := HSL.out; omega
        have d0 := (HB7.out.keep hg).at hkl
        obtain ⟨b2, o2, rfl, d1⟩ := Ints_at (HC7.out.keep hg) (i := k) (by rw [gints_len]; exact hkl)
        rw [gints_at hkl] at d1
        generalize l.getD k g0 = x at d0 d1
        have hxl := x.lt
        have hwx : wrap64 (x.v : Int) = (x.v : Int) := by unfold wrap64; omega
        go_wp2_with fail
        go_quiet (fail)
        go_wp2_with fail
        go_roundw
        case rel => exact ⟨k + 1, by omega, by go_num, hg.drewN _⟩
        case measure => simp [intOf]; omega
      · have hkq : k = q := by omega
        have hlt' : ¬ ((k : Int) < (q : Int)) := by omega
        clear hkq
        go_wp2_with fail
        refine (awake_any _).mono ?_
        rintro e w8 ⟨rfl, hg8⟩
        go_wp2_with fail
        try rw [Exit.noGoto_ret]
        go_ret
        exact ⟨rfl, (HGW.out.trans hg).trans hg8⟩
end Go.Proofs.Ytbkbgcapkhelhaa
