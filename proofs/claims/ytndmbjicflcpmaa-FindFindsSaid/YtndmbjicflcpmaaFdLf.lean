/- Layer 7: the law of Find. -/
import Derived.Test.YtndmbjicflcpmaaFdRe
import Derived.Test.YtndmbjicflcpmaaFdLc
namespace Go.Proofs.Ytndmbjicflcpmaa
open Go.RowKit Go.Shelf
set_option linter.unusedSimpArgs false

set_option maxRecDepth 1000000 in
set_option maxHeartbeats 16000000 in
theorem lawFinds_any (s0 p : ByteArray) (w : World) (hpb : p.size ≤ 9223372036854775807) : Calls Try.prog 4 #[.string s0, .string p] w fun e w' => e = .returned (.bool true) ∧ Gr w w' := by
  obtain ⟨k0, hk0⟩ : ∃ k : Nat, min s0.size 400 = k := ⟨_, rfl⟩
  have hmn : min (s0.size : Int) 400 = (k0 : Int) := by omega
  have h1 : k0 ≤ s0.size := by omega
  have h1i : (k0 : Int) ≤ (s0.size : Int) := by omega
  have hkb : k0 ≤ 400 := by omega
  obtain ⟨s, hs⟩ : ∃ s, s0.extract 0 k0 = s := ⟨_, rfl⟩
  have hsz : s.size = k0 := by rw [← hs]; exact size_take s0 k0 h1
  have HS := Lib.hid hs
  have HPB := Lib.hid hpb
  clear hk0 hs hpb
  go_enter Try.func4, Try.ntmps4
  go_upto_region 2 with fail
  rw [HS.out]
  clear hmn h1 h1i HS
  subst hsz
  obtain ⟨n, hn⟩ : ∃ n, s.size = n := ⟨_, rfl⟩
  have hnb : n ≤ 400 := by omega
  have HT := Lib.hid (new_yes s n w hn (by omega))
  have HRF := Lib.hid (fun W => rFind_any s p n W hn (by omega) HPB.out)
  clear hn hkb
  go_wp2_with fail
  refine HT.out.mono ?_
  rintro e w1 ⟨o, G, V, rfl, hX, hg1⟩
  have HX := Lib.hid hX
  clear HT hX
  go_upto_region 3 with fail
  generalize hW2 : World.alloc w1 _ = w2
  obtain ⟨X, hXX⟩ : ∃ X, w1.heap.size = X := ⟨_, rfl⟩
  rw [hXX]
  have hg2 : Gr w1 w2 := by rw [← hW2]; exact (Gr.refl _).alloc _
  have HB : Hid (Blk w2 X 25 #[.string s, .slice (some ⟨G, 0, none⟩) n n, .slice (some ⟨V, 0, none⟩) n n]) := Lib.hid (by rw [← hW2]; exact Blk.new w1 _ _ hXX)
  clear hW2 hXX
  have HR2 := Lib.hid (HRF.out w2)
  have HFC := Lib.hid (fun W (hW : Gr w1 W) => find_any s p n n n o _ _ W (HX.out.keep hW))
  have HCC := Lib.hid (fun W (hW : Gr w1 W) => count_any s p n n n o _ _ W (HX.out.keep hW))
  have HLL := Lib.hid (occL_len (bts s) (bts p))
  have hcb : occN (bts s) (bts p) ≤ 400 := by
    have : occN (bts s) (bts p) ≤ (bts s).length := by
      unfold occN
      have := List.countP_le_length (p := fun i => (bts p).isPrefixOf ((bts s).drop i)) (l := List.range (bts s).length)
      rwa [List.length_range] at this
    rw [HX.out.tlen] at this
    omega
  generalize occL (bts s) (bts p) = L at *
  generalize occN (bts s) (bts p) = m at *
  clear HRF
  go_wp2_with fail
  refine HR2.out.mono ?_
  rintro e w3 ⟨A3, c3, rfl, hown3, hg3⟩
  have HI3 := Lib.hid (ints_of_owns HLL.out hown3)
  have hgr3 := hg2.trans hg3
  have hb3 := HB.out.keep hg3
  have z0 := hb3.cell 0
  have z1 := hb3.cell 1
  have z2 := hb3.cell 2
  have HF3 := Lib.hid (HFC.out w3 hgr3)
  clear HR2 hown3 HFC
  go_wp2_with fail
  refine HF3.out.mono ?_
  rintro e w4 ⟨A4, c4, rfl, hown4, hg4⟩
  have HIN := Lib.hid (ints_any A4 A3 m c4 m c3 L L w4 HLL.out HLL.out (by omega) (by omega) (ints_of_owns HLL.out hown4) (HI3.out.keep hg4))
  rw [decide_eq_true rfl] at HIN
  clear HF3 hown4 z0 z1 z2
  go_wp2_with fail
  refine HIN.out.mono ?_
  rintro e w5 ⟨rfl, hg5⟩
  have hgr5 := (hgr3.trans hg4).trans hg5
  have hb5 := hb3.keep (hg4.trans hg5)
  have z0 := hb5.cell 0
  have z1 := hb5.cell 1
  have z2 := hb5.cell 2
  have HC5 := Lib.hid (HCC.out w5 hgr5)
  clear HIN hb3 hb5 HCC
  go_wp2_with fail
  refine HC5.out.mono ?_
  rintro e w6 ⟨rfl, hg6⟩
  have hgr6 := hg1.trans (hgr5.trans hg6)
  have HA := Lib.hid (awake_any w6)
  clear HC5 z0 z1 z2
  go_wp2_with fail
  refine HA.out.mono ?_
  rintro e w10 ⟨rfl, hg10⟩
  clear HA
  go_wp2_with fail
  go_ret
  exact ⟨rfl, hgr6.trans hg10⟩

end Go.Proofs.Ytndmbjicflcpmaa
