/- Layer 7: the law of the order. -/
import Derived.Test.YtmcefcdnfngndaaFdRd
namespace Go.Proofs.Ytmcefcdnfngndaa
open Go.RowKit Go.Shelf
set_option linter.unusedSimpArgs false

theorem idx_zero (w : World) : Idx ⟨#[]⟩ 0 [] none 0 none 0 w :=
  ⟨rfl, by omega, ⟨List.Perm.refl _, List.Pairwise.nil⟩, Rd_nil _ _, Rd_nil _ _, fun a h => (by cases h), fun a h => (by cases h), fun _ => ⟨rfl, rfl⟩, fun _ => ⟨rfl, rfl⟩, Nat.le_refl _, Nat.le_refl _, by omega⟩

set_option maxRecDepth 1000000 in
set_option maxHeartbeats 16000000 in
theorem lawOrders_any (s0 : ByteArray) (w : World) : Calls Try.prog 3 #[.string s0] w fun e w' => e = .returned (.bool true) ∧ Gr w w' := by
  obtain ⟨s, hs⟩ : ∃ s, shortB s0 300 = s := ⟨_, rfl⟩
  have hsz := shortB_size s0 300
  have HSH := Lib.hid (short_any s0 300 w)
  rw [hs] at hsz HSH
  clear hs
  go_enter Try.func3, Try.ntmps3
  go_wp2_with fail
  refine HSH.out.mono ?_
  rintro e w0 ⟨rfl, hw0⟩
  rw [hw0]
  clear HSH hw0
  rcases hsz with h | h
  · have HT := Lib.hid (new_yes s s.size w rfl (by omega))
    have HR := Lib.hid (fun W => rOrder_any s s.size W rfl (by omega))
    go_wp2_with fail
    refine HT.out.mono ?_
    rintro e w1 ⟨o, G, V, rfl, hX, hg1⟩
    have HX := Lib.hid hX
    clear HT hX
    go_upto_region 3 with fail
    generalize hW2 : World.alloc w1 _ = w2
    obtain ⟨X, hXX⟩ : ∃ X, w1.heap.size = X := ⟨_, rfl⟩
    rw [hXX]
    have hg2 : Gr w1 w2 := by rw [← hW2]; exact (Gr.refl _).alloc _
    have HB : Hid (Blk w2 X 25 #[.string s, .slice (some ⟨G, 0, none⟩) s.size s.size, .slice (some ⟨V, 0, none⟩) s.size s.size]) := Lib.hid (by rw [← hW2]; exact Blk.new w1 _ _ hXX)
    clear hW2 hXX
    have HR2 := Lib.hid (HR.out w2)
    clear HR
    go_wp2_with fail
    refine HR2.out.mono ?_
    rintro e w3 ⟨A3, c3, o', rfl, ho', hown3, hg3⟩
    obtain rfl : o' = o := ho'.one HX.out.ord
    have HOL : Hid (o'.length = s.size) := Lib.hid HX.out.olen
    have HI3 : Hid (Ints w3 A3 (nI o')) := Lib.hid (ints_of_owns HOL.out hown3)
    have hb3 := HB.out.keep hg3
    have z0 := hb3.cell 0
    have z1 := hb3.cell 1
    have z2 := hb3.cell 2
    have hgr3 := hg2.trans hg3
    have HTX := Lib.hid (text_any s s.size s.size s.size (some ⟨G, 0, none⟩) (some ⟨V, 0, none⟩) w3)
    clear HR2 hown3 hb3 ho'
    go_wp2_with fail
    refine HTX.out.mono ?_
    rintro e w4 ⟨rfl, hg4⟩
    have hgr4 := hgr3.trans hg4
    have hb4 := HB.out.keep (hg3.trans hg4)
    clear z0 z1 z2 HTX
    have z0 := hb4.cell 0
    have z1 := hb4.cell 1
    have z2 := hb4.cell 2
    have HOR := Lib.hid (order_any s s.size s.size s.size o' _ _ w4 (HX.out.keep hgr4))
    clear hb4
    go_wp2_with fail
    refine HOR.out.mono ?_
    rintro e w5 ⟨A5, c5, rfl, hown5, hg5⟩
    have hg35 := hg4.trans hg5
    have HIN := Lib.hid (ints_any A5 A3 s.size c5 s.size c3 o' o' w5 HOL.out HOL.out (by omega) (by omega) (ints_of_owns HOL.out hown5) (HI3.out.keep hg35))
    rw [decide_eq_true rfl] at HIN
    clear HOR z0 z1 z2 hown5
    go_wp2_with fail
    refine HIN.out.mono ?_
    rintro e w6 ⟨rfl, hg6⟩
    have hgr6 := (hgr4.trans hg5).trans hg6
    have hg36 := hg35.trans hg6
    have hb6 := HB.out.keep (hg3.trans hg36)
    have z0 := hb6.cell 0
    have z1 := hb6.cell 1
    have z2 := hb6.cell 2
    have HOV := Lib.hid (overlaps_any s s.size s.size s.size o' _ _ w6 (HX.out.keep hgr6))
    clear HIN hb6
    go_wp2_with fail
    refine HOV.out.mono ?_
    rintro e w7 ⟨A7, c7, rfl, hown7, hg7⟩
    have HVL : Hid ((ovsL (bts s) o').length = s.size) := Lib.hid (by rw [ovsL_len]; exact HOL.out)
    have HI7 : Hid (Ints w7 A7 (nI (ovsL (bts s) o'))) := Lib.hid (ints_of_owns HVL.out hown7)
    have HRV := Lib.hid (rOverlaps_any s A3 s.size c3 o' w7 rfl (by omega) HX.out.ord (HI3.out.keep (hg36.trans hg7)))
    clear HOV z0 z1 z2 hown7
    go_wp2_with fail
    refine HRV.out.mono ?_
    rintro e w8 ⟨A8, c8, rfl, hown8, hg8⟩
    have HIN := Lib.hid (ints_any A7 A8 s.size c7 s.size c8 (ovsL (bts s) o') (ovsL (bts s) o') w8 HVL.out HVL.out (by omega) (by omega) (HI7.out.keep hg8) (ints_of_owns HVL.out hown8))
    rw [decide_eq_true rfl] at HIN
    clear HRV hown8
    go_wp2_with fail
    refine HIN.out.mono ?_
    rintro e w9 ⟨rfl, hg9⟩
    have hgr9 := hg1.trans (((hgr6.trans hg7).trans hg8).trans hg9)
    have HA := Lib.hid (awake_any w9)
    clear HIN
    go_wp2_with fail
    refine HA.out.mono ?_
    rintro e w10 ⟨rfl, hg10⟩
    clear HA
    go_wp2_with fail
    go_ret
    exact ⟨rfl, hgr9.trans hg10⟩
  · have HT := Lib.hid (new_no s w (by omega))
    have hi : (s.size : Int) = 4097 := by omega
    go_wp2_with fail
    refine HT.out.mono ?_
    rintro e w1 ⟨rfl, hg1⟩
    clear HT
    go_upto_region 3 with fail
    generalize hW2 : World.alloc w1 _ = w2
    obtain ⟨X, hXX⟩ : ∃ X, w1.heap.size = X := ⟨_, rfl⟩
    rw [hXX]
    have hg2 : Gr w1 w2 := by rw [← hW2]; exact (Gr.refl _).alloc _
    have HB : Hid (Blk w2 X 25 #[.string ⟨#[]⟩, .slice none 0 0, .slice none 0 0]) := Lib.hid (by rw [← hW2]; exact Blk.new w1 _ _ hXX)
    clear hW2 hXX
    have HTX := Lib.hid (text_any ⟨#[]⟩ 0 0 0 none none w2)
    have z0 := HB.out.cell 0
    have z1 := HB.out.cell 1
    have z2 := HB.out.cell 2
    go_wp2_with fail
    refine HTX.out.mono ?_
    rintro e w4 ⟨rfl, hg4⟩
    have hgr4 := hg2.trans hg4
    have hb4 := HB.out.keep hg4
    clear z0 z1 z2 HTX
    have z0 := hb4.cell 0
    have z1 := hb4.cell 1
    have z2 := hb4.cell 2
    have HOR := Lib.hid (order_any ⟨#[]⟩ 0 0 0 [] none none w4 (idx_zero w4))
    clear hb4
    go_wp2_with fail
    refine HOR.out.mono ?_
    rintro e w5 ⟨A5, c5, rfl, hown5, hg5⟩
    have hgr5 := hg1.trans (hgr4.trans hg5)
    have HA := Lib.hid (awake_any w5)
    clear HOR z0 z1 z2 hown5
    go_wp2_with fail
    refine HA.out.mono ?_
    rintro e w10 ⟨rfl, hg10⟩
    clear HA
    go_wp2_with fail
    go_ret
    exact ⟨rfl, hgr5.trans hg10⟩

end Go.Proofs.Ytmcefcdnfngndaa
