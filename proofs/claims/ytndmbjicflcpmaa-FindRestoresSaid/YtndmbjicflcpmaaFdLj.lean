/- Layer 7: the law of turning back. -/
import Derived.Test.YtndmbjicflcpmaaFdM6
import Derived.Test.YtndmbjicflcpmaaFdLa
namespace Go.Proofs.Ytndmbjicflcpmaa
open Go.RowKit Go.Shelf
set_option linter.unusedSimpArgs false

theorem bts_mk (l : List UInt8) : bts ⟨l.toArray⟩ = l := by simp [bts]
theorem mk_bts (s : ByteArray) : (⟨(bts s).toArray⟩ : ByteArray) = s := bts_inj (bts_mk _)
theorem size_mk (l : List UInt8) : (⟨l.toArray⟩ : ByteArray).size = l.length := by rw [← bts_len, bts_mk]

set_option maxRecDepth 1000000 in
set_option maxHeartbeats 16000000 in
theorem lawBack_any (s0 : ByteArray) (x : Int) (w : World) : Calls Try.prog 12 #[.string s0, .int .i64 x] w fun e w' => e = .returned (.bool true) ∧ Gr w w' := by
  obtain ⟨k0, hk0⟩ : ∃ k : Nat, min s0.size 4096 = k := ⟨_, rfl⟩
  have hmn : min (s0.size : Int) 4096 = (k0 : Int) := by omega
  have h1 : k0 ≤ s0.size := by omega
  have h1i : (k0 : Int) ≤ (s0.size : Int) := by omega
  have hkb : k0 ≤ 4096 := by omega
  obtain ⟨s, hs⟩ : ∃ s, s0.extract 0 k0 = s := ⟨_, rfl⟩
  have hsz : s.size = k0 := by rw [← hs]; exact size_take s0 k0 h1
  have HS := Lib.hid hs
  clear hk0 hs
  go_enter Try.func12, Try.ntmps12
  go_upto_region 2 with fail
  rw [HS.out]
  clear hmn h1 h1i HS
  subst hsz
  obtain ⟨n, hn⟩ : ∃ n, s.size = n := ⟨_, rfl⟩
  have hnb : n ≤ 4096 := by omega
  have hni : (s.size : Int) = (n : Int) := by omega
  have HSZ := Lib.hid hn
  have HT := Lib.hid (turn_yes s n w hn hnb)
  have hmd := modN_bd x (n + 1) ⟨by omega, by omega⟩
  have hmm : modN x (n + 1) ≤ n := by omega
  have HMD : Hid (∀ W, Calls Try.prog 40 #[.int .i64 x, .int .i64 ((n : Int) + 1)] W fun e w' => e = .returned (.int .i64 (modN x (n + 1) : Int)) ∧ w' = W) := Lib.hid (fun W => mod_any x (n + 1) W ⟨by omega, by omega⟩)
  generalize modN x (n + 1) = mm at hmd hmm HMD
  have HR2 := Lib.hid (fun W => restore_yes s mm W (by omega) (by omega))
  clear hn hkb hmd
  go_wp2_with fail
  refine HT.out.mono ?_
  rintro e w1 ⟨o, ho, rfl, hg1⟩
  have hrw := rows_of ho
  have htu := hrw.turned
  have hre := hrw.restored (bts s).length (Nat.le_refl _)
  rw [bts_len, HSZ.out] at hre htu
  obtain ⟨⟨tl, M⟩, htl⟩ : ∃ r, turF (bts s) (n :: o) (n + 1) = r := ⟨_, rfl⟩
  unfold turV
  rw [htl] at hre htu ⊢
  dsimp only at hre htu ⊢
  have hz := (hrw.row (k := 0) (by omega)).1
  rw [bts_len, HSZ.out, ← htu.2.1] at hz
  have hts : (⟨tl.toArray⟩ : ByteArray).size = n := by rw [size_mk]; exact htu.1
  have HRS := Lib.hid (fun W => restore_yes ⟨tl.toArray⟩ M W (by omega) (by omega))
  have hrv : resV ⟨tl.toArray⟩ M = .tuple #[.string s, .int .i64 0] := by
    unfold resV
    rw [bts_mk, hts, hre]
    dsimp only
    rw [List.take_of_length_le (by rw [bts_len, HSZ.out]; exact Nat.le_refl _), mk_bts]
  rw [hrv] at HRS
  generalize (⟨tl.toArray⟩ : ByteArray) = t at hts HRS ⊢
  have hti : (t.size : Int) = (n : Int) := by omega
  have hM1 : ¬ (M : Int) < 0 := by omega
  have hM2 : ¬ (n : Int) < (M : Int) := by omega
  have HRS1 := Lib.hid (HRS.out w1)
  clear HT ho hrw htu hre htl hrv HRS hts hz
  go_wp2_with fail
  refine HRS1.out.mono ?_
  rintro e w2 ⟨rfl, hg2⟩
  have hgr2 := hg1.trans hg2
  have HM1 := Lib.hid (HMD.out w2)
  clear HRS1
  go_wp2_with fail
  refine HM1.out.mono ?_
  rintro e w3 ⟨rfl, hw3⟩
  rw [hw3]
  have HR3 := Lib.hid (HR2.out w2)
  clear HM1 HR2 hw3
  cases hres : resF (bts s) mm n with
  | none =>
    have hv : resV s mm = .tuple #[.string ⟨#[]⟩, .int .i64 70] := by unfold resV; rw [HSZ.out, hres]
    rw [hv] at HR3
    clear hv hres
    go_wp2_with fail
    refine HR3.out.mono ?_
    rintro e w4 ⟨rfl, hg4⟩
    have hgr4 := hgr2.trans hg4
    have HA := Lib.hid (awake_any w4)
    clear HR3
    go_wp2_with fail
    refine HA.out.mono ?_
    rintro e w5 ⟨rfl, hg5⟩
    clear HA
    go_wp2_with fail
    go_ret
    exact ⟨rfl, hgr4.trans hg5⟩
  | some q =>
    obtain ⟨r0, bs⟩ := q
    have hv : resV s mm = .tuple #[.string ⟨bs.toArray⟩, .int .i64 0] := by unfold resV; rw [HSZ.out, hres]
    obtain ⟨o2, ho2, hbl, htb⟩ := turned_back (t := bts s) (m := mm) (by rw [bts_len, HSZ.out]; exact hmm) (by rw [bts_len, HSZ.out]; exact hres)
    rw [bts_len, HSZ.out] at hbl
    rw [hbl] at htb
    have HTY := Lib.hid (fun W => turn_yes ⟨bs.toArray⟩ n W (by rw [size_mk]; exact hbl) hnb)
    have HTV : Hid (∀ o3, IsOrd (bts ⟨bs.toArray⟩) o3 → turV ⟨bs.toArray⟩ o3 n = .tuple #[.string s, .int .i64 (mm : Int), .int .i64 0]) := Lib.hid (fun o3 ho3 => by
      rw [bts_mk] at ho3
      obtain rfl := ho3.one ho2
      unfold turV
      rw [bts_mk, htb]
      dsimp only
      rw [mk_bts])
    rw [hv] at HR3
    generalize (⟨bs.toArray⟩ : ByteArray) = v at HR3 HTY HTV
    clear hv hres ho2 hbl htb
    go_wp2_with fail
    refine HR3.out.mono ?_
    rintro e w4 ⟨rfl, hg4⟩
    have hgr4 := hgr2.trans hg4
    have HT4 := Lib.hid (HTY.out w4)
    clear HR3 HTY
    go_wp2_with fail
    refine HT4.out.mono ?_
    rintro e w5 ⟨o3, ho3, rfl, hg5⟩
    rw [HTV.out o3 ho3]
    have hgr5 := hgr4.trans hg5
    have HM5 := Lib.hid (HMD.out w5)
    clear HT4 HTV ho3
    go_wp2_with fail
    refine HM5.out.mono ?_
    rintro e w6 ⟨rfl, hw6⟩
    rw [hw6]
    have HA := Lib.hid (awake_any w5)
    clear HM5 hw6
    go_wp2_with fail
    refine HA.out.mono ?_
    rintro e w7 ⟨rfl, hg7⟩
    clear HA
    go_wp2_with fail
    go_ret
    exact ⟨rfl, hgr5.trans hg7⟩

end Go.Proofs.Ytndmbjicflcpmaa
