/- The law TopSlots as a walk. -/
import Derived.Test.YtpnkpejnahhajaaGreatBu55
import Derived.Test.YtpnkpejnahhajaaGreatBu31
import Derived.Deep.AppendLies
namespace Go.Proofs.YtpnkpejnahhajaaGreat
open Go.RowKit
set_option linter.unusedSimpArgs false

theorem bxB_nat (a b f t : Nat) : bxB ((a : Int), (b : Int), (f : Int), (t : Int)) = ⟨f, b, t - f, 1, 0⟩ := by
  unfold bxB
  simp only [Int.toNat_natCast, Bx.mk.injEq, true_and, and_true]
  omega
theorem bxJ_nat (a b f t : Nat) : bxJ ((a : Int), (b : Int), (f : Int), (t : Int)) = ⟨f, a, t - f, 1, 0⟩ := by
  unfold bxJ
  simp only [Int.toNat_natCast, Bx.mk.injEq, true_and, and_true]
  omega
theorem slot_nat {x : Sl} (h : 0 ≤ x.1 ∧ 0 ≤ x.2.1 ∧ 0 ≤ x.2.2.1 ∧ 0 ≤ x.2.2.2) : ∃ a b f t : Nat, x = ((a : Int), (b : Int), (f : Int), (t : Int)) := by
  obtain ⟨p, q, r, s⟩ := x
  dsimp only at h
  exact ⟨p.toNat, q.toNat, r.toNat, s.toNat, by simp only [Prod.mk.injEq]; omega⟩
theorem doneS_bd {s : List Sl} (h : ∀ x ∈ s, 0 ≤ lenS x ∧ lenS x ≤ 49) (j : Int) : 0 ≤ doneS s j ∧ doneS s j ≤ 49 * s.length := by
  unfold doneS
  constructor
  · refine lsum_nonneg s fun x hx => ?_
    have := h x hx
    split <;> omega
  · have h1 := lsum_le (f := fun x : Sl => if x.1 = j then lenS x else 0) (g := fun _ => 49) s fun x hx => by
      have := h x hx
      show (if x.1 = j then lenS x else 0) ≤ 49
      split <;> omega
    have h2 : ∀ m : List Sl, lsum (fun _ => (49 : Int)) m = 49 * m.length := fun m => by
      induction m with
      | nil => rfl
      | cons y r ih => simp only [lsum, ih, List.length_cons]; omega
    rw [h2] at h1
    exact h1
theorem Slot_at {w : World} {A : Option Addr} {s : List Sl} (h : Rd 4 enc4B w A s) {k : Nat} {x : Sl} (hk : s[k]? = some x) : ∃ g o, A = some ⟨g, o, none⟩ ∧ w.cell? ⟨g, o + k * 4, none⟩ = some (.int .i64 x.1) ∧ w.cell? ⟨g, o + k * 4 + 1, none⟩ = some (.int .i64 x.2.1) ∧ w.cell? ⟨g, o + k * 4 + 2, none⟩ = some (.int .i64 x.2.2.1) ∧ w.cell? ⟨g, o + k * 4 + 3, none⟩ = some (.int .i64 x.2.2.2) := by
  obtain ⟨g, o, e, hc⟩ := h k x hk
  exact ⟨g, o, e, hc 0 _ rfl, hc 1 _ rfl, hc 2 _ rfl, hc 3 _ rfl⟩

set_option maxRecDepth 100000 in
set_option maxHeartbeats 80000000 in
theorem lawSlots_any (B : Int) (A : Option Addr) (n c : Nat) (l : List Jb) (w : World) (hn : l.length = n) (hl : n ≤ 9223372036854775807) (hp : Tris w A l) :
    Calls Tryz.prog 3 #[.int .i64 B, .slice A n c] w fun e w' => e = .returned (.bool true) ∧ Gr w w' := by
  obtain ⟨k0, hk0⟩ : ∃ k0, ((l.take 8).map tjJ).length = k0 := ⟨_, rfl⟩
  have HJ := Lib.hid (tjobs_any A n c l w k0 hk0 hn hl hp)
  have hsm := tjL_sm l
  have hk8 : k0 ≤ 8 := by rw [← hk0]; simp; omega
  have hm := modT_le (x := B) (n := 4) (by omega) (by omega)
  have HMO := Lib.hid (fun W => tmod_any B 4 W (by omega) (by omega))
  generalize modT B 4 = mo at hm HMO
  obtain ⟨nb, hnb⟩ : ∃ nb : Nat, (1 + mo) = (nb : Int) := ⟨(1 + mo).toNat, by omega⟩
  have hwn : IntKind.i64.wrap (1 + mo) = (nb : Int) := by rw [← hnb]; exact IntWalk.i64_in _ (by omega)
  have hnb1 : 1 ≤ nb ∧ nb ≤ 4 := by omega
  have hT := tjL_ok l (B := (nb : Int)) (by omega)
  clear hnb hn hl hp
  generalize (l.take 8).map tjJ = L at hk0 HJ hsm hT
  have HT := Lib.hid hT
  have HK := Lib.hid hk0
  have HSM := Lib.hid hsm
  obtain ⟨i0, hi, hz0, hz1, hz2⟩ := info_parts Tryz.infoBox
  have HI := Lib.hid (And.intro hi (And.intro hz0 (And.intro hz1 hz2)))
  clear hT hk0 hsm hi hz0 hz1 hz2
  go_enter Tryz.func3, Tryz.ntmps3
  go_wp2_with fail
  refine HJ.out.mono ?_
  rintro e w1 ⟨A1, c1, rfl, hT1, hg1⟩
  have HL1 := Lib.hid hT1
  clear HJ hT1
  go_wp2_with fail
  refine (HMO.out _).mono ?_
  rintro e w2 ⟨rfl, rfl⟩
  clear HMO
  have HPL := Lib.hid (planB_any nb A1 k0 c1 L w2 HK.out (by omega) HL1.out)
  go_wp2_with fail
  refine HPL.out.mono ?_
  intro e w3 hp3
  obtain ⟨p, A2, ns, c2, v2, v3, sl, rfl, hns, hrd, hS, ⟨n2, n3, c5, c6, A5, A6, rfl, rfl⟩, hg3⟩ := plan_slots HT.out hp3
  have HNS := Lib.hid hns
  have HS := Lib.hid hS
  have hns4 : ns ≤ 4096 := by rw [← hns]; exact hS.few
  have hgr3 := hg1.trans hg3
  have HL3 := Lib.hid (HL1.out.keep hg3)
  have HR3 := Lib.hid hrd
  clear hp3 HPL hns hS hrd hg1 hg3 HL1
  go_upto_region 3 with fail
  generalize hW4 : World.alloc w3 _ = w4
  have hg4 : Gr w3 w4 := by rw [← hW4]; exact (Gr.refl w3).alloc _
  have hZ : Blk w4 w3.heap.size 29 #[.bool p, .slice A2 ns c2, .slice A5 n2 c5, .slice A6 n3 c6] := by rw [← hW4]; exact heap_alloc_new w3 _
  generalize w3.heap.size = Z at hZ ⊢
  have HZ := Lib.hid hZ
  have hgr4 := hgr3.trans hg4
  have HL4 := Lib.hid (HL3.out.keep hg4)
  have HR4 := Lib.hid (HR3.out.keep hg4)
  have hmk := fun W => mk_icB k0 (by omega) W
  clear hW4 hZ hg4 hgr3 HL3 HR3
  go_upto_region 7 with fail
  generalize hW5 : World.alloc w4 _ = w5
  have HD5 : Hid (DB w5 w4.heap.size k0 (fun _ => 0)) := Lib.hid (by rw [← hW5]; exact Blk.new w4 _ _ rfl)
  have hg5 : Gr w4 w5 := by rw [← hW5]; exact (Gr.refl w4).alloc _
  obtain ⟨G, hG⟩ : ∃ G, w4.heap.size = G := ⟨_, rfl⟩
  rw [hG] at HD5 ⊢
  have hGle : w4.heap.size ≤ G := by omega
  clear hW5 hG hmk
  have HSN := Lib.hid (fun x hx => HSM.out.slot (HS.out.ok x hx))
  have HLN : Hid (∀ k, ∀ x ∈ sl.take k, 0 ≤ lenS x ∧ lenS x ≤ 49) := Lib.hid (fun k x hx => by
    have := HSN.out x (List.mem_of_mem_take hx)
    unfold lenS; omega)
  go_wp2_with fail
  go_loopw [9, 10, 12] (fun u v z wr => ∃ (k : Nat) (A8 A9 : Option Addr) (c8 c9 : Nat), k ≤ ns ∧ z = .int .i64 (k : Int) ∧ u = .slice A8 k c8 ∧ v = .slice A9 k c9 ∧ Hid (wr.ownsRow w4.heap.size 37 5 (.slice A8 k c8) k (flatE enc5 ((sl.take k).map bxB))) ∧ Hid (wr.ownsRow w4.heap.size 37 5 (.slice A9 k c9) k (flatE enc5 ((sl.take k).map bxJ))) ∧ Hid (Ap (.slice A8 k c8) (.slice A9 k c9)) ∧ Hid (DB wr G k0 (fun j => doneS (sl.take k) j)) ∧ Gr w4 wr) (fun _ _ z _ => ns - (intOf z).toNat)
  case atStart => exact ⟨0, none, none, 0, 0, Nat.zero_le _, rfl, rfl, rfl, Lib.hid (World.ownsRow_nil _ _ _ _), Lib.hid (World.ownsRow_nil _ _ _ _), Lib.hid (Ap.nil _), HD5, hg5⟩
  case round =>
    obtain ⟨k, A8, A9, c8, c9, hk, rfl, rfl, rfl, hoB, hoJ, hAp, hD, hgr⟩ := hrel
    clear HD5 hg5
    have HZr := Lib.hid (HZ.out.keep hgr)
    have z0 := HZr.out.cell 0
    have z1 := HZr.out.cell 1
    by_cases hlt : k < ns
    · obtain ⟨x, hx⟩ : ∃ x, sl[k]? = some x := ⟨_, List.getElem?_eq_getElem (by rw [HNS.out]; exact hlt)⟩
      obtain ⟨gs, os, rfl, y0, y1, y2, y3⟩ := Slot_at (HR4.out.keep hgr) hx
      have hxm := List.mem_of_getElem? hx
      have hxb := HSN.out x hxm
      have HTB : Hid ((sl.take (k + 1)).map bxB = (sl.take k).map bxB ++ [bxB x]) := Lib.hid (by rw [List.take_add_one, hx]; simp)
      have HTJ : Hid ((sl.take (k + 1)).map bxJ = (sl.take k).map bxJ ++ [bxJ x]) := Lib.hid (by rw [List.take_add_one, hx]; simp)
      have HTD := Lib.hid (fun j => doneS_take hx j)
      have HDB := Lib.hid (fun j => doneS_bd (HLN.out k) j)
      have HLT : Hid ((sl.take k).length ≤ 4096) := Lib.hid (by have := HS.out.few; rw [List.length_take]; omega)
      obtain ⟨a, b, f, t, rfl⟩ := slot_nat (x := x) (by omega)
      rw [bxB_nat] at HTB
      rw [bxJ_nat] at HTJ
      dsimp only at y0 y1 y2 y3 hxb
      rw [HK.out] at hxb
      have hak : a < k0 := by omega
      have hki : (k : Int) < (ns : Int) := by omega
      clear hx hxm
      go_upto_region 11 with fail
      generalize hW6 : World.alloc wr _ = w6
      have hg6 : Gr wr w6 := by rw [← hW6]; exact (Gr.refl wr).alloc _
      have hT6 : Blk w6 wr.heap.size 35 #[.int .i64 (a : Int), .int .i64 (b : Int), .int .i64 (f : Int), .int .i64 (t : Int)] := by rw [← hW6]; exact heap_alloc_new wr _
      have hB6 := Lib.hid (owns_gr hoB.out hg6)
      have hJ6 := Lib.hid (owns_gr hoJ.out hg6)
      have hD6 := Lib.hid (hD.out.keep hg6)
      have hgr6 := hgr.trans hg6
      generalize wr.heap.size = T at hT6 ⊢
      have HT6 := Lib.hid hT6
      have s0 := hT6.cell 0
      have s1 := hT6.cell 1
      have s2 := hT6.cell 2
      have s3 := hT6.cell 3
      clear hW6 hg6 hT6 hoB hoJ hD hgr y0 y1 y2 y3 HZr z0 z1
      obtain ⟨dd, hdd⟩ : ∃ dd : Nat, t - f = dd := ⟨_, rfl⟩
      rw [hdd] at HTB HTJ
      have hw1 : IntKind.i64.wrap ((t : Int) - (f : Int)) = (dd : Int) := by rw [show (t : Int) - (f : Int) = (dd : Int) by omega]; exact IntWalk.i64_in _ (by omega)
      have hdd2 : (t : Int) - (f : Int) = (dd : Int) := by omega
      have HDD := Lib.hid hdd2
      clear hdd hdd2
      go_upto_region 13 with fail
      obtain ⟨hi, hz0, hz1, hz2⟩ := HI.out
      have hs6 := hgr6.size
      go_wp2_with (at_builtin; refine wpList_append_lies _ rfl _ _ 33 rfl w4.heap.size 37 i0 _ 5 40 Tryz.underlying33 hi hz0 hz1 hz2 rfl (by decide) _ _ _ rfl (hB6.out.alloc _) ⟨w6.heap.size, 0, none⟩ 1 1 (enc5 ⟨f, b, dd, 1, 0⟩) rfl rfl ?a1 ?a2 (by decide) ?a3 ?a4 ?a5 _ rfl ?_)
      case a1 =>
        intro t u ht
        first
        | (rw [Addr.add_lit]; exact alloc_new rfl (by rw [Nat.zero_add]; simpa [enc5] using ht))
        | exact ht
        | simpa [enc5] using ht
      case a2 => exact fun u hu => enc5_one _ u hu
      case a3 => unfold maxLen; omega
      case a4 => omega
      case a5 => first | (simp; omega) | omega
      intro g1 cap1 w7 hown1 hgrow1 hat1 _
      have hal := hgr6.alloc (.cells #[.int .i64 (f : Int), .int .i64 (b : Int), .int .i64 (dd : Int), .int .i64 1, .int .i64 0] 37)
      have hal6 := (Gr.refl w6).alloc (.cells #[.int .i64 (f : Int), .int .i64 (b : Int), .int .i64 (dd : Int), .int .i64 1, .int .i64 0] 37)
      have ho3 := hB6.out.alloc (.cells #[.int .i64 (f : Int), .int .i64 (b : Int), .int .i64 (dd : Int), .int .i64 1, .int .i64 0] 37)
      have hoj := hJ6.out.alloc (.cells #[.int .i64 (f : Int), .int .i64 (b : Int), .int .i64 (dd : Int), .int .i64 1, .int .i64 0] 37)
      have hgr7 : Gr w4 w7 := Below.grown hal hgrow1 hal.size (fun t ht => (ho3.lt t ht).1)
      have hJ7 := Lib.hid (hoj.kept (row := (Value.slice A8 k c8).ownBlock) hgrow1 hAp.out.symm.or)
      have hTk := (HT6.out.keep hal6)
      have HT7 := Lib.hid (hTk.grown hgrow1 (hTk.apart ho3 (by decide)))
      have hDk : Blk _ G 3 _ := (hD6.out.keep hal6)
      have HD7 : Hid (DB w7 G k0 (fun j => doneS (sl.take k) j)) := Lib.hid (hDk.grown hgrow1 (hDk.apart ho3 (by decide)))
      have hAp7 : Hid (Ap (.slice (some ⟨g1, 0, none⟩) (k + 1) cap1) (.slice A9 k c9)) := Lib.hid (Ap.app hAp.out hoj (hat1.imp id fun h => by rw [h]; simp))
      have hB7 : Hid (w7.ownsRow w4.heap.size 37 5 (.slice (some ⟨g1, 0, none⟩) (k + 1) cap1) (k + 1) (flatE enc5 ((sl.take (k + 1)).map bxB))) := Lib.hid (by rw [HTB.out, flatE_app, List.map_take]; simpa [flatE] using hown1)
      clear hown1 hgrow1 hat1 hal hal6 ho3 hoj hTk hDk hAp hB6 hJ6 hD6 HT6 hgr6 hs6 s0 s1 s2 s3
      have s0 := HT7.out.cell 0
      have s1 := HT7.out.cell 1
      have s2 := HT7.out.cell 2
      have s3 := HT7.out.cell 3
      have hs7 := hgr7.size
      go_wp2_with (at_builtin; refine wpList_append_lies _ rfl _ _ 33 rfl w4.heap.size 37 i0 _ 5 40 Tryz.underlying33 hi hz0 hz1 hz2 rfl (by decide) _ _ _ rfl (hJ7.out.alloc _) ⟨w7.heap.size, 0, none⟩ 1 1 (enc5 ⟨f, a, dd, 1, 0⟩) rfl rfl ?b1 ?b2 (by decide) ?b3 ?b4 ?b5 _ rfl ?_)
      case b1 =>
        intro t u ht
        first
        | (rw [Addr.add_lit]; exact alloc_new rfl (by rw [Nat.zero_add]; simpa [enc5] using ht))
        | exact ht
        | simpa [enc5] using ht
      case b2 => exact fun u hu => enc5_one _ u hu
      case b3 => unfold maxLen; omega
      case b4 => omega
      case b5 => first | (simp; omega) | omega
      intro g2 cap2 w8 hown2 hgrow2 hat2 _
      have hal := hgr7.alloc (.cells #[.int .i64 (f : Int), .int .i64 (a : Int), .int .i64 (dd : Int), .int .i64 1, .int .i64 0] 37)
      have hal7 := (Gr.refl w7).alloc (.cells #[.int .i64 (f : Int), .int .i64 (a : Int), .int .i64 (dd : Int), .int .i64 1, .int .i64 0] 37)
      have ho3 := hJ7.out.alloc (.cells #[.int .i64 (f : Int), .int .i64 (a : Int), .int .i64 (dd : Int), .int .i64 1, .int .i64 0] 37)
      have hob := hB7.out.alloc (.cells #[.int .i64 (f : Int), .int .i64 (a : Int), .int .i64 (dd : Int), .int .i64 1, .int .i64 0] 37)
      have hgr8 : Gr w4 w8 := Below.grown hal hgrow2 hal.size (fun t ht => (ho3.lt t ht).1)
      have hB8 := Lib.hid (hob.kept (row := (Value.slice A9 k c9).ownBlock) hgrow2 hAp7.out.or)
      have hTk := (HT7.out.keep hal7)
      have HT8 := Lib.hid (hTk.grown hgrow2 (hTk.apart ho3 (by decide)))
      have hDk : Blk _ G 3 _ := (HD7.out.keep hal7)
      have HD8 : Hid (DB w8 G k0 (fun j => doneS (sl.take k) j)) := Lib.hid (hDk.grown hgrow2 (hDk.apart ho3 (by decide)))
      have hAp8 : Hid (Ap (.slice (some ⟨g1, 0, none⟩) (k + 1) cap1) (.slice (some ⟨g2, 0, none⟩) (k + 1) cap2)) := Lib.hid (Ap.app hAp7.out.symm hob (hat2.imp id fun h => by rw [h]; simp)).symm
      have hJ8 : Hid (w8.ownsRow w4.heap.size 37 5 (.slice (some ⟨g2, 0, none⟩) (k + 1) cap2) (k + 1) (flatE enc5 ((sl.take (k + 1)).map bxJ))) := Lib.hid (by rw [HTJ.out, flatE_app, List.map_take]; simpa [flatE] using hown2)
      clear hown2 hgrow2 hat2 hal hal7 ho3 hob hTk hDk hAp7 hB7 hJ7 HD7 HT7 hgr7 hs7 s0 s1 s2 s3 hi hz0 hz1 hz2
      have s0 := HT8.out.cell 0
      have s2 := HT8.out.cell 2
      have s3 := HT8.out.cell 3
      have d0 := HD8.out.at hak
      have d1 := Blk.free (show Blk w8 G 3 _ from HD8.out) a
      have HBX : Hid ((Value.slice (some ⟨g1, 0, none⟩) (k + 1) cap1).ownBlock ≠ some G) := Lib.hid (fun e => (Blk.apart (show Blk w8 G 3 _ from HD8.out) hB8.out (by decide)) e.symm)
      have HJX : Hid ((Value.slice (some ⟨g2, 0, none⟩) (k + 1) cap2).ownBlock ≠ some G) := Lib.hid (fun e => (Blk.apart (show Blk w8 G 3 _ from HD8.out) hJ8.out (by decide)) e.symm)
      have HTG : Hid (T ≠ G) := Lib.hid (HT8.out.differ (show Blk w8 G 3 _ from HD8.out) (by decide))
      have hdb := HDB.out (a : Int)
      have HTD' : Hid (∀ j : Nat, doneS (sl.take (k + 1)) (j : Int) = doneS (sl.take k) (j : Int) + if (a : Int) = (j : Int) then (dd : Int) else 0) := Lib.hid (fun j => by
        have h := HTD.out (j : Int)
        rw [h]
        show doneS (sl.take k) (j : Int) + (if (a : Int) = (j : Int) then lenS _ else 0) = _
        unfold lenS
        dsimp only
        rw [HDD.out])
      obtain ⟨dn, hdn⟩ : ∃ dn, doneS (sl.take k) (a : Int) = dn := ⟨_, rfl⟩
      rw [hdn] at d0 hdb
      have HDN := Lib.hid hdn
      have hlt2 := HLT.out
      have w1e : IntKind.i64.wrap (dn + (t : Int)) = dn + (t : Int) := IntWalk.i64_in _ (by omega)
      have w2e : IntKind.i64.wrap (dn + (t : Int) - (f : Int)) = dn + (dd : Int) := by have := HDD.out; rw [show dn + (t : Int) - (f : Int) = dn + (dd : Int) by omega]; exact IntWalk.i64_in _ (by omega)
      clear hdn HTD HDB
      go_upto_region 15 with fail
      have hdr := (Gr.refl w8).drew
      have HTd := Lib.hid (HT8.out.keep hdr)
      have HTs := Lib.hid ((HT8.out.keep hdr).beside (p := ⟨G, a, none⟩) HTG.out (.int .i64 (dn + (dd : Int))))
      have HDd : Hid (DB w8.drew G k0 (fun j => doneS (sl.take k) j)) := Lib.hid (HD8.out.keep hdr)
      have d0d := hdr.keep d0
      have d1d := Blk.free (show Blk w8.drew G 3 _ from HDd.out) a
      have KS : Hid (∀ W', Blk W' T 35 #[.int .i64 (a : Int), .int .i64 (b : Int), .int .i64 (f : Int), .int .i64 (t : Int)] → W'.cell? ⟨T, 0, none⟩ = some (.int .i64 (a : Int)) ∧ W'.cell? ⟨T, 2, none⟩ = some (.int .i64 (f : Int)) ∧ W'.cell? ⟨T, 3, none⟩ = some (.int .i64 (t : Int))) := Lib.hid (fun W' h => ⟨h.cell 0, h.cell 2, h.cell 3⟩)
      clear s0 s2 s3 d0 d1 hdr
      refine wp_region_held_drew (S := (fun W' => W'.cell? ⟨T, 0, none⟩ = some (.int .i64 (a : Int)) ∧ W'.cell? ⟨T, 2, none⟩ = some (.int .i64 (f : Int)) ∧ W'.cell? ⟨T, 3, none⟩ = some (.int .i64 (t : Int)))) ?_ ?_ (fun hHeld => ?_)
      · kernel_rfl
      · ((try dsimp only); (first | exact hHeld | exact KS.out _ HTd.out | exact KS.out _ HTs.out))
      refine take_in (i := 0) (v := ?_) (d := (some 107)) rfl rfl ?_ ?_ ?_ ?_ ?_ ?_ ?_ ?_
      rotate_left
      · kernel_rfl
      · kernel_rfl
      · kernel_rfl
      · (intro _ _ _ hq; exact hq)
      · rfl
      · (intro _w hSw; (try dsimp only at hSw); go_simp; try with_reducible rfl)
      · assumption
      try simp only [Act.put, List.setIfInBounds_toArray, List.set_cons_zero, List.set_cons_succ]
      refine take_in (i := 1) (v := ?_) (d := (some 108)) rfl rfl ?_ ?_ ?_ ?_ ?_ ?_ ?_ ?_
      rotate_left
      · kernel_rfl
      · kernel_rfl
      · kernel_rfl
      · (intro _ _ _ hq; exact hq)
      · rfl
      · (intro _w hSw; (try dsimp only at hSw); go_simp; try with_reducible rfl)
      · assumption
      try simp only [Act.put, List.setIfInBounds_toArray, List.set_cons_zero, List.set_cons_succ]
      refine take_in (i := 2) (v := ?_) (d := (some 109)) rfl rfl ?_ ?_ ?_ ?_ ?_ ?_ ?_ ?_
      rotate_left
      · kernel_rfl
      · kernel_rfl
      · kernel_rfl
      · (intro _ _ _ hq; exact hq)
      · rfl
      · (intro _w hSw; (try dsimp only at hSw); go_simp; try with_reducible rfl)
      · assumption
      try simp only [Act.put, List.setIfInBounds_toArray, List.set_cons_zero, List.set_cons_succ]
      refine take_in (i := 3) (v := ?_) (d := (some 110)) rfl rfl ?_ ?_ ?_ ?_ ?_ ?_ ?_ ?_
      rotate_left
      · kernel_rfl
      · kernel_rfl
      · kernel_rfl
      · (intro _ _ _ hq; exact hq)
      · rfl
      · (intro _w hSw; (try dsimp only at hSw); go_simp; try with_reducible rfl)
      · assumption
      try simp only [Act.put, List.setIfInBounds_toArray, List.set_cons_zero, List.set_cons_succ]
      refine take_in (i := 4) (v := ?_) (d := (some 111)) rfl rfl ?_ ?_ ?_ ?_ ?_ ?_ ?_ ?_
      rotate_left
      · kernel_rfl
      · kernel_rfl
      · kernel_rfl
      · (intro _ _ _ hq; exact hq)
      · rfl
      · (intro _w hSw; (try dsimp only at hSw); go_simp; try with_reducible rfl)
      · assumption
      try simp only [Act.put, List.setIfInBounds_toArray, List.set_cons_zero, List.set_cons_succ]
      refine take_in (i := 5) (v := ?_) (d := (some 112)) rfl rfl ?_ ?_ ?_ ?_ ?_ ?_ ?_ ?_
      rotate_left
      · kernel_rfl
      · kernel_rfl
      · kernel_rfl
      · (intro _ _ _ hq; exact hq)
      · rfl
      · (intro _w hSw; (try dsimp only at hSw); go_simp; try with_reducible rfl)
      · assumption
      try simp only [Act.put, List.setIfInBounds_toArray, List.set_cons_zero, List.set_cons_succ]
      refine take_in (i := 6) (v := ?_) (d := (some 113)) rfl rfl ?_ ?_ ?_ ?_ ?_ ?_ ?_ ?_
      rotate_left
      · kernel_rfl
      · kernel_rfl
      · kernel_rfl
      · (intro _ _ _ hq; exact hq)
      · rfl
      · (intro _w hSw; (try dsimp only at hSw); go_simp; try with_reducible rfl)
      · assumption
      try simp only [Act.put, List.setIfInBounds_toArray, List.set_cons_zero, List.set_cons_succ]
      refine take_in (i := 8) (v := ?_) (d := (some 115)) rfl rfl ?_ ?_ ?_ ?_ ?_ ?_ ?_ ?_
      rotate_left
      · kernel_rfl
      · kernel_rfl
      · kernel_rfl
      · (intro _ _ _ hq; exact hq)
      · rfl
      · (intro _w hSw; (try dsimp only at hSw); go_simp; try with_reducible rfl)
      · assumption
      try simp only [Act.put, List.setIfInBounds_toArray, List.set_cons_zero, List.set_cons_succ]
      refine take_in (i := 9) (v := ?_) (d := (some 116)) rfl rfl ?_ ?_ ?_ ?_ ?_ ?_ ?_ ?_
      rotate_left
      · kernel_rfl
      · kernel_rfl
      · kernel_rfl
      · (intro _ _ _ hq; exact hq)
      · rfl
      · (intro _w hSw; (try dsimp only at hSw); go_simp; try with_reducible rfl)
      · assumption
      try simp only [Act.put, List.setIfInBounds_toArray, List.set_cons_zero, List.set_cons_succ]
      refine take_in (i := 11) (v := ?_) (d := (some 118)) rfl rfl ?_ ?_ ?_ ?_ ?_ ?_ ?_ ?_
      rotate_left
      · kernel_rfl
      · kernel_rfl
      · kernel_rfl
      · (intro _ _ _ hq; exact hq)
      · rfl
      · (intro _w hSw; (try dsimp only at hSw); go_simp; try with_reducible rfl)
      · assumption
      try simp only [Act.put, List.setIfInBounds_toArray, List.set_cons_zero, List.set_cons_succ]
      refine take_in (i := 12) (v := ?_) (d := (some 119)) rfl rfl ?_ ?_ ?_ ?_ ?_ ?_ ?_ ?_
      rotate_left
      · kernel_rfl
      · kernel_rfl
      · kernel_rfl
      · (intro _ _ _ hq; exact hq)
      · rfl
      · (intro _w hSw; (try dsimp only at hSw); go_simp; try with_reducible rfl)
      · assumption
      try simp only [Act.put, List.setIfInBounds_toArray, List.set_cons_zero, List.set_cons_succ]
      refine wpAnyH_ready (rs := [7]) ?_ ?_ ?_
      · kernel_rfl
      · simp
      refine (AllReadyH.cons rfl (fun K hK => ?_) AllReadyH.nil)
      go_simp
      refine hK.out _ _ ?_ (fun hHeld => ?_)
      · ((try dsimp only); (first | exact hHeld | exact KS.out _ HTd.out | exact KS.out _ HTs.out))
      clear hK K
      try simp only [Act.put, List.setIfInBounds_toArray, List.set_cons_zero, List.set_cons_succ]
      refine take_in (i := 10) (v := ?_) (d := (some 117)) rfl rfl ?_ ?_ ?_ ?_ ?_ ?_ ?_ ?_
      rotate_left
      · kernel_rfl
      · kernel_rfl
      · kernel_rfl
      · (intro _ _ _ hq; exact hq)
      · rfl
      · (intro _w hSw; (try dsimp only at hSw); go_simp; try with_reducible rfl)
      · assumption
      try simp only [Act.put, List.setIfInBounds_toArray, List.set_cons_zero, List.set_cons_succ]
      refine take_in (i := 13) (v := ?_) (d := (some 120)) rfl rfl ?_ ?_ ?_ ?_ ?_ ?_ ?_ ?_
      rotate_left
      · kernel_rfl
      · kernel_rfl
      · kernel_rfl
      · (intro _ _ _ hq; exact hq)
      · rfl
      · (intro _w hSw; (try dsimp only at hSw); go_simp; try with_reducible rfl)
      · assumption
      try simp only [Act.put, List.setIfInBounds_toArray, List.set_cons_zero, List.set_cons_succ]
      refine take_in (i := 14) (v := ?_) (d := (some 121)) rfl rfl ?_ ?_ ?_ ?_ ?_ ?_ ?_ ?_
      rotate_left
      · kernel_rfl
      · kernel_rfl
      · kernel_rfl
      · (intro _ _ _ hq; exact hq)
      · rfl
      · (intro _w hSw; (try dsimp only at hSw); go_simp; try with_reducible rfl)
      · assumption
      try simp only [Act.put, List.setIfInBounds_toArray, List.set_cons_zero, List.set_cons_succ]
      refine wpAnyH_ready (rs := [15]) ?_ ?_ ?_
      · kernel_rfl
      · simp
      refine (AllReadyH.cons rfl (fun K hK => ?_) AllReadyH.nil)
      go_simp
      refine hK.out _ _ ?_ (fun hHeld => ?_)
      · ((try dsimp only); (first | exact hHeld | exact KS.out _ HTd.out | exact KS.out _ HTs.out))
      clear hK K
      try simp only [Act.put, List.setIfInBounds_toArray, List.set_cons_zero, List.set_cons_succ]
      refine wpAnyH_done ?_ ?_ _
      · kernel_rfl
      rotate_left
      have HD9 : Hid (DB (w8.setCell ⟨G, a, none⟩ (.int .i64 (dn + (dd : Int)))).drew G k0 (fun j => doneS (sl.take (k + 1)) j)) := Lib.hid ((HD8.out.put (f' := fun j => doneS (sl.take (k + 1)) (j : Int)) a (dn + (dd : Int)) (by
          show doneS (sl.take (k + 1)) (a : Int) = _
          rw [HTD'.out a, if_pos rfl, HDN.out]) (fun j _ hj => by
          show doneS (sl.take (k + 1)) (j : Int) = doneS (sl.take k) (j : Int)
          rw [HTD'.out j, if_neg (by omega)]; omega)).keep (Gr.refl _).drew)
      have hB9 := Lib.hid (owns_gr (ownsRow_setCell_other (a := ⟨G, a, none⟩) hB8.out HBX.out (.int .i64 (dn + (dd : Int)))) (Gr.refl _).drew)
      have hJ9 := Lib.hid (owns_gr (ownsRow_setCell_other (a := ⟨G, a, none⟩) hJ8.out HJX.out (.int .i64 (dn + (dd : Int)))) (Gr.refl _).drew)
      have hgr9 : Gr w4 (w8.setCell ⟨G, a, none⟩ (.int .i64 (dn + (dd : Int)))).drew := (hgr8.setCell (p := ⟨G, a, none⟩) hGle _).drew
      clear HTd HTs HDd d0d d1d KS hHeld HT8 HD8 hB8 hJ8 hgr8
      generalize (w8.setCell ⟨G, a, none⟩ (.int .i64 (dn + (dd : Int)))).drew = w9 at HD9 hB9 hJ9 hgr9 ⊢
      go_wp2_with fail
      go_roundw
      case rel => exact ⟨k + 1, some ⟨g1, 0, none⟩, some ⟨g2, 0, none⟩, cap1, cap2, by omega, by go_num, rfl, rfl, hB9, hJ9, hAp8, HD9, hgr9⟩
      case measure => simp [intOf]; omega
    · obtain rfl : k = ns := by omega
      have htk : sl.take k = sl := List.take_of_length_le (by have := HNS.out; omega)
      rw [htk] at hoB hoJ hD
      obtain ⟨_, _, e1, -, hRB, -⟩ := own_row enc5_len (xs := sl.map bxB) (by rw [List.length_map, HNS.out]) hoB.out
      cases e1
      obtain ⟨_, _, e1, -, hRJ, -⟩ := own_row enc5_len (xs := sl.map bxJ) (by rw [List.length_map, HNS.out]) hoJ.out
      cases e1
      have hokk := HSM.out.ok (n := (nb : Int)) (s := sl) (by omega) (by rw [HK.out]; omega) HS.out.ok
      have happ := HSM.out.apart HS.out.ok HS.out.apart
      have HAB := Lib.hid (fun W (hW : Gr wr W) => tapart_any A8 k c8 (sl.map bxB) W (by rw [List.length_map, HNS.out]) (by omega) (hRB.keep hW) hokk.1 happ.1)
      have HAJ := Lib.hid (fun W (hW : Gr wr W) => tapart_any A9 k c9 (sl.map bxJ) W (by rw [List.length_map, HNS.out]) (by omega) (hRJ.keep hW) hokk.2 happ.2)
      have HLr := Lib.hid (HL4.out.keep hgr)
      have hgw := hgr4.trans hgr
      clear hokk happ hRB hRJ hoB hoJ hAp htk hlt
      obtain ⟨wB, hwB⟩ : ∃ wB, wB = wr := ⟨_, rfl⟩
      subst hwB
      go_wp2_with fail
      go_loopw [14] (fun z wr2 => ∃ i : Nat, i ≤ k0 ∧ z = .int .i64 (i : Int) ∧ Gr wB wr2) (fun z _ => k0 - (intOf z).toNat)
      case atStart => exact ⟨0, Nat.zero_le _, rfl, Gr.refl _⟩
      case round =>
        obtain ⟨i, hi, rfl, hgi⟩ := hrel
        have z0 := (HZr.out.keep hgi).cell 0
        by_cases hlt : i < k0 ∧ p = true
        · obtain ⟨h1, hpp⟩ := hlt
          subst hpp
          have hii : (i : Int) < (k0 : Int) := by omega
          have hii2 : decide ((i : Int) < (k0 : Int)) = true := decide_eq_true hii
          have hdi := (hD.out.keep hgi).at h1
          have hdone := HS.out.done rfl i (by rw [HK.out]; exact h1)
          rw [hdone] at hdi
          obtain ⟨b, off, rfl, y0, y1, y2⟩ := Tris_at (HLr.out.keep hgi) (i := i) (by rw [HK.out]; exact h1)
          have hjb : L.getD i (0, 0, 0) = jbA L i := rfl
          rw [hjb] at y2
          generalize (jbA L i).2.2 = wk at hdi y2
          clear hdone hjb y0 y1
          go_upto_region 19 with fail
          refine wp_region_held_drew (S := (fun W' => Gr wr W' ∧ W'.cell? ⟨G, i, none⟩ = some (.int .i64 wk) ∧ W'.cell? ⟨b, off + i * 3 + 2, none⟩ = some (.int .i64 wk))) ?_ ?_ (fun hHeld => ?_)
          · kernel_rfl
          · ((try dsimp only); ((try go_split_ands); (repeat' apply And.intro) <;> (repeat (first | assumption | (exact Gr.refl _) | (refine Gr.drew ?_) | (refine Gr.alloc ?_ _) | (refine alloc_old ?_) | (refine Gr.keep (by assumption) ?_) | (refine Gr.trans ?_ (by assumption))))))
          refine take_in (i := 0) (v := ?_) (d := (some 132)) rfl rfl ?_ ?_ ?_ ?_ ?_ ?_ ?_ ?_
          rotate_left
          · kernel_rfl
          · kernel_rfl
          · kernel_rfl
          · (intro _ _ _ hq; exact hq)
          · rfl
          · (intro _w hSw; (try dsimp only at hSw); go_simp; try with_reducible rfl)
          · assumption
          try simp only [Act.put, List.setIfInBounds_toArray, List.set_cons_zero, List.set_cons_succ]
          refine take_in (i := 1) (v := ?_) (d := (some 133)) rfl rfl ?_ ?_ ?_ ?_ ?_ ?_ ?_ ?_
          rotate_left
          · kernel_rfl
          · kernel_rfl
          · kernel_rfl
          · (intro _ _ _ hq; exact hq)
          · rfl
          · (intro _w hSw; (try dsimp only at hSw); go_simp; try with_reducible rfl)
          · assumption
          try simp only [Act.put, List.setIfInBounds_toArray, List.set_cons_zero, List.set_cons_succ]
          refine take_in (i := 2) (v := ?_) (d := (some 134)) rfl rfl ?_ ?_ ?_ ?_ ?_ ?_ ?_ ?_
          rotate_left
          · kernel_rfl
          · kernel_rfl
          · kernel_rfl
          · (intro _ _ _ hq; exact hq)
          · rfl
          · (intro _w hSw; (try dsimp only at hSw); go_simp; try with_reducible rfl)
          · assumption
          try simp only [Act.put, List.setIfInBounds_toArray, List.set_cons_zero, List.set_cons_succ]
          refine take_in (i := 3) (v := ?_) (d := (some 135)) rfl rfl ?_ ?_ ?_ ?_ ?_ ?_ ?_ ?_
          rotate_left
          · kernel_rfl
          · kernel_rfl
          · kernel_rfl
          · (intro _ _ _ hq; exact hq)
          · rfl
          · (intro _w hSw; (try dsimp only at hSw); go_simp; try with_reducible rfl)
          · assumption
          try simp only [Act.put, List.setIfInBounds_toArray, List.set_cons_zero, List.set_cons_succ]
          refine take_in (i := 4) (v := ?_) (d := (some 136)) rfl rfl ?_ ?_ ?_ ?_ ?_ ?_ ?_ ?_
          rotate_left
          · kernel_rfl
          · kernel_rfl
          · kernel_rfl
          · (intro _ _ _ hq; exact hq)
          · rfl
          · (intro _w hSw; (try dsimp only at hSw); go_simp; try with_reducible rfl)
          · assumption
          try simp only [Act.put, List.setIfInBounds_toArray, List.set_cons_zero, List.set_cons_succ]
          refine take_in (i := 5) (v := ?_) (d := (some 137)) rfl rfl ?_ ?_ ?_ ?_ ?_ ?_ ?_ ?_
          rotate_left
          · kernel_rfl
          · kernel_rfl
          · kernel_rfl
          · (intro _ _ _ hq; exact hq)
          · rfl
          · (intro _w hSw; (try dsimp only at hSw); go_simp; try with_reducible rfl)
          · assumption
          try simp only [Act.put, List.setIfInBounds_toArray, List.set_cons_zero, List.set_cons_succ]
          refine take_in (i := 6) (v := ?_) (d := (some 138)) rfl rfl ?_ ?_ ?_ ?_ ?_ ?_ ?_ ?_
          rotate_left
          · kernel_rfl
          · kernel_rfl
          · kernel_rfl
          · (intro _ _ _ hq; exact hq)
          · rfl
          · (intro _w hSw; (try dsimp only at hSw); go_simp; try with_reducible rfl)
          · assumption
          try simp only [Act.put, List.setIfInBounds_toArray, List.set_cons_zero, List.set_cons_succ]
          refine take_in (i := 7) (v := ?_) (d := (some 139)) rfl rfl ?_ ?_ ?_ ?_ ?_ ?_ ?_ ?_
          rotate_left
          · kernel_rfl
          · kernel_rfl
          · kernel_rfl
          · (intro _ _ _ hq; exact hq)
          · rfl
          · (intro _w hSw; (try dsimp only at hSw); go_simp; try with_reducible rfl)
          · assumption
          try simp only [Act.put, List.setIfInBounds_toArray, List.set_cons_zero, List.set_cons_succ]
          refine take_in (i := 8) (v := ?_) (d := (some 140)) rfl rfl ?_ ?_ ?_ ?_ ?_ ?_ ?_ ?_
          rotate_left
          · kernel_rfl
          · kernel_rfl
          · kernel_rfl
          · (intro _ _ _ hq; exact hq)
          · rfl
          · (intro _w hSw; (try dsimp only at hSw); go_simp; try with_reducible rfl)
          · assumption
          try simp only [Act.put, List.setIfInBounds_toArray, List.set_cons_zero, List.set_cons_succ]
          refine take_in (i := 9) (v := ?_) (d := (some 141)) rfl rfl ?_ ?_ ?_ ?_ ?_ ?_ ?_ ?_
          rotate_left
          · kernel_rfl
          · kernel_rfl
          · kernel_rfl
          · (intro _ _ _ hq; exact hq)
          · rfl
          · (intro _w hSw; (try dsimp only at hSw); go_simp; try with_reducible rfl)
          · assumption
          try simp only [Act.put, List.setIfInBounds_toArray, List.set_cons_zero, List.set_cons_succ]
          refine wpAnyH_done ?_ ?_ _
          · kernel_rfl
          rotate_left
          all_goals
            go_wp2_with fail
            go_roundw
            case rel => exact ⟨i + 1, by omega, by go_num, hgi.trans (by (repeat (first | exact Gr.refl _ | assumption | (refine Gr.drew ?_) | (refine Gr.drewN ?_ _) | (refine Gr.alloc ?_ _) | (refine Gr.trans ?_ (by assumption)))))⟩
            case measure => simp [intOf]; omega
        · have hv : (¬ i < k0 ∧ decide ((i : Int) < (k0 : Int)) = false) ∨ ((i < k0 ∧ decide ((i : Int) < (k0 : Int)) = true) ∧ p = false) := by
            by_cases e : i < k0
            · refine Or.inr ⟨⟨e, decide_eq_true (by omega)⟩, ?_⟩
              cases p with
              | true => exact absurd ⟨e, rfl⟩ hlt
              | false => rfl
            · exact Or.inl ⟨e, decide_eq_false (by omega)⟩
          clear hlt
          rcases hv with ⟨d1, d2⟩ | ⟨⟨d1, d2⟩, d3⟩
          all_goals
            (try subst d3)
            go_wp2_with fail
            refine (HAB.out _ hgi).mono ?_
            rintro e w6 ⟨rfl, hg6⟩
            have hgi6 := hgi.trans hg6
            go_wp2_with fail
            refine (HAJ.out _ hgi6).mono ?_
            rintro e w7 ⟨rfl, hg7⟩
            go_wp2_with fail
            refine (four_any _).mono ?_
            rintro e w8 ⟨rfl, hg8⟩
            go_wp2_with fail
            go_ret
            exact ⟨rfl, ((hgw.trans hgi6).trans hg7).trans hg8⟩

end Go.Proofs.YtpnkpejnahhajaaGreat
