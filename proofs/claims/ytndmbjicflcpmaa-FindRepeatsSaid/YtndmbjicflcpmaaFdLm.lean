/- Layer 7: the law of Repeat and Distinct. -/
import Derived.Test.YtndmbjicflcpmaaFdRg
import Derived.Test.YtndmbjicflcpmaaFdLc
namespace Go.Proofs.Ytndmbjicflcpmaa
open Go.RowKit Go.Shelf
set_option linter.unusedSimpArgs false

theorem rep_same {s : ByteArray} {n : Nat} {o : List Nat} (hO : IsOrd (bts s) o) (hn : s.size = n) : repV s o n = rrpV (bts s) (repO (bts s) n) := by
  have hr := repeat_ref hO
  have htp := repF_top hO (bts s).length (Nat.le_refl _)
  rw [bts_len, hn] at hr htp
  unfold repV rrpV
  simp only
  by_cases h0 : (repF (bts s) o n).1 = 0
  · rw [if_pos h0, if_pos (by rw [hr, h0, List.take_zero])]
  · obtain ⟨p1, p2⟩ := bts_piece s (a := (repF (bts s) o n).2) (l := (repF (bts s) o n).1) (by rw [hn]; exact htp)
    have hne : repO (bts s) n ≠ [] := fun e => h0 (by rw [← p2, ← bts_len, p1, ← hr, e]; rfl)
    rw [if_neg h0, if_neg hne, hr, ← p1]
    rw [show (⟨(bts (s.extract (repF (bts s) o n).2 ((repF (bts s) o n).2 + (repF (bts s) o n).1))).toArray⟩ : ByteArray) = s.extract (repF (bts s) o n).2 ((repF (bts s) o n).2 + (repF (bts s) o n).1) from bts_inj (by simp [bts])]
theorem rrpV_shape (T b : List UInt8) : ∃ (u : ByteArray) (a c : Int), rrpV T b = .tuple #[.string u, .int .i64 a, .int .i64 c] := by
  unfold rrpV
  split
  · exact ⟨_, _, _, rfl⟩
  · exact ⟨_, _, _, rfl⟩

set_option maxRecDepth 1000000 in
set_option maxHeartbeats 16000000 in
theorem lawRepeats_any (s0 : ByteArray) (w : World) : Calls Try.prog 5 #[.string s0] w fun e w' => e = .returned (.bool true) ∧ Gr w w' := by
  obtain ⟨k0, hk0⟩ : ∃ k : Nat, min s0.size 150 = k := ⟨_, rfl⟩
  have hmn : min (s0.size : Int) 150 = (k0 : Int) := by omega
  have h1 : k0 ≤ s0.size := by omega
  have h1i : (k0 : Int) ≤ (s0.size : Int) := by omega
  have hkb : k0 ≤ 150 := by omega
  obtain ⟨s, hs⟩ : ∃ s, s0.extract 0 k0 = s := ⟨_, rfl⟩
  have hsz : s.size = k0 := by rw [← hs]; exact size_take s0 k0 h1
  have HS := Lib.hid hs
  clear hk0 hs
  go_enter Try.func5, Try.ntmps5
  go_upto_region 2 with fail
  rw [HS.out]
  clear hmn h1 h1i HS
  subst hsz
  obtain ⟨n, hn⟩ : ∃ n, s.size = n := ⟨_, rfl⟩
  have hnb : n ≤ 150 := by omega
  have HSZ := Lib.hid hn
  have HT := Lib.hid (new_yes s n w hn (by omega))
  have HRR := Lib.hid (fun W => rRepeat_any s n W hn (by omega))
  have HRD := Lib.hid (fun W => rDistinct_any s n W hn (by omega))
  clear hn hkb
  go_wp2_with fail
  refine HT.out.mono ?_
  rintro e w1 ⟨o, G, V, rfl, hX, hg1⟩
  have HX := Lib.hid hX
  have hsame := rep_same hX.ord HSZ.out
  have hdst := distinct_ref hX.ord
  rw [hX.tlen] at hdst
  clear HT hX
  go_upto_region 3 with fail
  generalize hW2 : World.alloc w1 _ = w2
  obtain ⟨X, hXX⟩ : ∃ X, w1.heap.size = X := ⟨_, rfl⟩
  rw [hXX]
  have hg2 : Gr w1 w2 := by rw [← hW2]; exact (Gr.refl _).alloc _
  have HB : Hid (Blk w2 X 25 #[.string s, .slice (some ⟨G, 0, none⟩) n n, .slice (some ⟨V, 0, none⟩) n n]) := Lib.hid (by rw [← hW2]; exact Blk.new w1 _ _ hXX)
  clear hW2 hXX
  have HRP := Lib.hid (repeat_any s n n n o _ _ w2 (HX.out.keep hg2))
  have HDI := Lib.hid (fun W (hW : Gr w1 W) => distinct_any s n n n o _ _ W (HX.out.keep hW))
  obtain ⟨u, ca, cb, hv⟩ := rrpV_shape (bts s) (repO (bts s) n)
  rw [hsame, hv] at HRP
  rw [hv] at HRR
  rw [hdst] at HDI
  generalize refD (bts s) n = D at HRD HDI
  clear hsame hdst hv
  have z0 := HB.out.cell 0
  have z1 := HB.out.cell 1
  have z2 := HB.out.cell 2
  go_wp2_with fail
  refine HRP.out.mono ?_
  rintro e w3 ⟨rfl, hg3⟩
  have hgr3 := hg2.trans hg3
  have HR3 := Lib.hid (HRR.out w3)
  clear HRP z0 z1 z2 HRR
  go_wp2_with fail
  refine HR3.out.mono ?_
  rintro e w4 ⟨rfl, hg4⟩
  have hgr4 := hgr3.trans hg4
  have hb4 := HB.out.keep (hg3.trans hg4)
  have z0 := hb4.cell 0
  have z1 := hb4.cell 1
  have z2 := hb4.cell 2
  have HD4 := Lib.hid (HDI.out w4 hgr4)
  clear HR3 hb4
  go_wp2_with fail
  refine HD4.out.mono ?_
  rintro e w5 ⟨rfl, hg5⟩
  have HD5 := Lib.hid (HRD.out w5)
  clear HD4 z0 z1 z2
  go_wp2_with fail
  refine HD5.out.mono ?_
  rintro e w6 ⟨rfl, hg6⟩
  have hgr6 := hg1.trans ((hgr4.trans hg5).trans hg6)
  have HA := Lib.hid (awake_any w6)
  clear HD5
  go_wp2_with fail
  refine HA.out.mono ?_
  rintro e w10 ⟨rfl, hg10⟩
  clear HA
  go_wp2_with fail
  go_ret
  exact ⟨rfl, hgr6.trans hg10⟩

end Go.Proofs.Ytndmbjicflcpmaa
