/- Layer 5: the law New. -/
import Derived.Test.YtnoeiocbmhkmeaaPtSh
namespace Go.Proofs.Ytnoeiocbmhkmeaa
open Go.RowKit
set_option linter.unusedSimpArgs false

theorem NetR.turn {B : Nat} {w w' : World} {N : Nx} {S : List Nat} (h : NetR B w N) (hc : Ch S w w') (hn : ∀ g ∈ ownB N, g ∉ S) : NetR B w' N := by
  have h1 : ∀ g ∈ blks (netIt N), g ∉ S := fun g hg => hn g (List.mem_append_left _ hg)
  refine ⟨⟨fun it hm => ⟨(h.its.all it hm).1.ch hc (h1 _ (mem_blks hm)), (h.its.all it hm).2⟩, h.its.nod⟩, owns_ch h.sites hc (fun g hg => hn g ?_), owns_ch h.mail hc (fun g hg => hn g ?_), h.spot, h.away, Nat.le_trans h.le hc.size⟩
  · unfold ownB; exact List.mem_append_right _ (List.mem_append_left _ (by rw [hg]; simp))
  · unfold ownB; exact List.mem_append_right _ (List.mem_append_right _ (by rw [hg]; simp))
set_option maxRecDepth 100000 in
set_option maxHeartbeats 16000000 in
theorem lawNew_any (A : Option Addr) (n c : Nat) (l : List Int) (w : World) (hn : l.length = n) (hc : n ≤ c) (hm : c ≤ 9223372036854775807) (h0 : A = none → c = 0) (hp : Ints w A l) :
    Calls Try.prog 3 #[.slice A n c] w fun e w' => e = .returned (.bool true) ∧ Gr w w' := by
  have HSK := Lib.hid (stocks_any A n c l w hn hc hm h0 hp)
  have HAW := Lib.hid (fun W => awake5_any W)
  obtain ⟨k, hk⟩ : ∃ k, min n 9 = k := ⟨_, rfl⟩
  obtain ⟨ls, hls⟩ : ∃ ls, l.take 9 = ls := ⟨_, rfl⟩
  have HL : Hid (ls.length = k) := Lib.hid (by rw [← hls, List.length_take, hn]; omega)
  rw [hk, hls] at HSK
  have hk9 : k ≤ 9 := by omega
  clear hn hc hm h0 hp hk hls
  go_enter Try.func3, Try.ntmps3
  go_wp2_with fail
  refine HSK.out.mono ?_
  rintro e w1 ⟨A1, c1, rfl, hcp⟩
  have HCP := Lib.hid hcp
  clear hcp
  go_wp2_with fail
  refine (New_any A1 k c1 ls w1 HL.out (by omega) HCP.out.rd).mono ?_
  rintro e w2 (⟨hno, rfl, hg2⟩ | ⟨hok, N, rfl, hnet, hnl, hml, hbg, hg2⟩)
  · have HR2 : Hid (Ints w2 A1 ls) := Lib.hid (HCP.out.rd.keep hg2)
    have hgr2 := HCP.out.gr.trans hg2
    have HNO := Lib.hid hno
    clear hg2 hno
    go_wp2_with fail
    refine (rNew_any A1 k c1 ls w2 HL.out (by omega) HR2.out).mono ?_
    rintro e w3 (⟨-, rfl, hg3⟩ | ⟨hy, -⟩)
    · have hgr3 := hgr2.trans hg3
      unfold nil3
      clear hg3 hgr2
      go_upto_region 4 with fail
      generalize hW4 : World.alloc w3 _ = w4
      have hg4 : Gr w3 w4 := by rw [← hW4]; exact (Gr.refl w3).alloc _
      clear hW4
      go_wp2_with fail
      refine (HAW.out _).mono ?_
      rintro e w5 ⟨rfl, hg5⟩
      have hF := hgr3.trans (hg4.trans hg5)
      go_wp2_with fail
      go_ret
      exact ⟨rfl, hF⟩
    · rw [HNO.out] at hy; cases hy
  · have HR2 : Hid (Ints w2 A1 ls) := Lib.hid (HCP.out.rd.keep hg2)
    have hgr2 := HCP.out.gr.trans hg2
    have HNZ := Lib.hid (newN_of hnl hml hbg)
    have HNT := Lib.hid hnet
    have HOK := Lib.hid hok
    have h18 := (okStocks_iff ls).1 hok
    have HK : Hid (1 ≤ k ∧ k ≤ 8) := Lib.hid (by have := HL.out; omega)
    have HG12 := Lib.hid hg2
    clear hg2 hok hnet hnl hml hbg h18
    go_wp2_with fail
    refine (rNew_any A1 k c1 ls w2 HL.out (by omega) HR2.out).mono ?_
    rintro e w3 (⟨hno, -⟩ | ⟨-, A3, c3, rfl, hrd3, hnew3, hg3⟩)
    · rw [HOK.out] at hno; cases hno
    · rw [HL.out]
      have hgr3 := hgr2.trans hg3
      have HRD := Lib.hid hrd3
      have HN3 := Lib.hid (HNT.out.keep hg3)
      have HNEW := Lib.hid hnew3
      have HSZ : Hid (w1.heap.size ≤ w2.heap.size) := Lib.hid (by have := HNT.out.le; omega)
      clear hgr2 hrd3 hnew3
      go_upto_region 4 with fail
      generalize hW4 : World.alloc w3 _ = w4
      have hg4 : Gr w3 w4 := by rw [← hW4]; exact (Gr.refl w3).alloc _
      have hB4 : Blk w4 w3.heap.size 32 #[.slice A3 k c3, .slice none 0 0, .slice none 0 0] := by rw [← hW4]; exact Blk.new w3 _ _ rfl
      have hT4 : w2.heap.size ≤ w3.heap.size := hg3.size
      generalize w3.heap.size = T at hB4 hT4 ⊢
      have HB4 := Lib.hid hB4
      have HT4 := Lib.hid hT4
      have HN4 := Lib.hid (HN3.out.keep hg4)
      have HRD4 := Lib.hid (HRD.out.keep hg4)
      have hgr4 := hgr3.trans hg4
      have hg14 := (hg3.trans hg4)
      clear hW4 hB4 hg4 hgr3 hg3 hT4
      go_wp2_with fail
      obtain ⟨g, cap, e0, rfl, hgB, hgS, HCU⟩ : ∃ g cap e0, A1 = some ⟨g, 0, none⟩ ∧ w.heap.size ≤ g ∧ g < w1.heap.size ∧ Hid (∃ cur, Blk w1 g e0 cur ∧ cur.size = cap ∧ k ≤ cap) := by
        obtain ⟨e0, ho⟩ := HCP.out.own
        rcases ho.2 with ⟨-, h2⟩ | ⟨g, cap, cur, h1, h2, h3, h4, -, h6, -⟩
        · have := HK.out; omega
        · injection h1 with h1 _ _
          exact ⟨g, cap, e0, h1, h2, (Array.getElem?_eq_some_iff.1 h3).1, Lib.hid ⟨cur, h3, by omega, h4⟩⟩
      have hgw4 : Gr w1 w4 := by
        have h1 := HNT.out.le
        exact ((show Gr w1 w2 from HG12.out).trans hg14)
      have HGB := Lib.hid (And.intro hgB hgS)
      have HC4 : Hid (∃ cur, Blk w4 g e0 cur ∧ cur.size = cap ∧ k ≤ cap) := Lib.hid (by obtain ⟨cur, h1, h2⟩ := HCU.out; exact ⟨cur, h1.keep hgw4, h2⟩)
      clear hgB hgS hgw4
      go_loopw [8] (fun z wr => ∃ j : Nat, j ≤ k ∧ z = .int .i64 (j : Int) ∧ Hid (∃ cur, Blk wr g e0 cur ∧ cur.size = cap ∧ k ≤ cap) ∧ Hid (Ch [g] w4 wr)) (fun z _ => k - (intOf z).toNat)
      case atStart => exact ⟨0, Nat.zero_le _, rfl, HC4, Lib.hid Ch.refl⟩
      case round =>
        obtain ⟨j, hj, rfl, hcu, hch⟩ := hrel
        by_cases hlt : j < k
        · obtain ⟨cur, hb, hcs, hkc⟩ := hcu.out
          have hji : (j : Int) < (k : Int) := by omega
          have hj0 : (0 : Int) ≤ (j : Int) := by omega
          have x0 : wr.cell? ⟨g, j, none⟩ = some (cur[j]'(by omega)) := by rw [hb.cell j, Array.getElem?_eq_getElem (by omega)]
          have f0 : wr.frozen? ⟨g, j, none⟩ = false := hb.free j
          have HN : Hid ((∃ cur, Blk (wr.setCell ⟨g, j, none⟩ (.int .i64 7)) g e0 cur ∧ cur.size = cap ∧ k ≤ cap) ∧ Ch [g] w4 (wr.setCell ⟨g, j, none⟩ (.int .i64 7))) := Lib.hid ⟨⟨_, hb.put j _, by simpa using hcs, hkc⟩, hch.out.set (p := ⟨g, j, none⟩) (by simp) _⟩
          generalize cur[j]'_ = old at x0
          clear hb hcs hkc hcu
          go_wp2_with fail
          go_roundw
          case rel => exact ⟨j + 1, by omega, by go_num, Lib.hid HN.out.1, Lib.hid HN.out.2⟩
          case measure => simp [intOf]; omega
        · obtain rfl : j = k := by omega
          have hTg : T ≠ g := fun e => by have := HT4.out; have := HGB.out.2; have := HSZ.out; omega
          have HBr : Hid (Blk wr T 32 #[.slice A3 j c3, .slice none 0 0, .slice none 0 0]) := Lib.hid ((hch.out.block T HB4.out.lt (by simpa using hTg)).trans HB4.out)
          have HNr := Lib.hid (HN4.out.turn hch.out (fun y hy => by have h1 := (HN4.out.own y hy).1; have h2 := HGB.out.2; simp; omega))
          have HRr : Hid (Rd 3 encR0 wr A3 ls) := Lib.hid (by
            cases A3 with
            | none =>
              intro i x hx
              obtain ⟨b, off, e, -⟩ := HRD4.out i x hx
              cases e
            | some a =>
              obtain ⟨b, off, sp⟩ := a
              have h1 := HNEW.out _ rfl
              dsimp only at h1
              intro i x hx
              obtain ⟨b', off', e, hc⟩ := HRD4.out i x hx
              injection e with e
              injection e with e1 e2 e3
              subst e1 e2
              rw [e3]
              refine ⟨_, _, rfl, fun q v hv => ?_⟩
              have h3 := hc q v hv
              exact (World.cell?_of_block (hch.out.block _ (cell_lt5 h3) (by have h5 := HSZ.out; have h6 := HGB.out.2; simp; omega))).trans h3)
          have hgrF : Gr w wr := hch.out.up hgr4 (fun y hy => by have h1 : y = g := by simpa using hy
                                                                 rw [h1]; exact HGB.out.1)
          have HSH := Lib.hid (shows0_any ls j A3 c3 HNr.out HNZ.out HL.out HK.out.1 HK.out.2 HRr.out)
          have t0 : wr.cell? ⟨T, 0, none⟩ = some (.slice A3 j c3) := HBr.out.cell 0
          have t1 : wr.cell? ⟨T, 1, none⟩ = some (.slice none 0 0) := HBr.out.cell 1
          have t2 : wr.cell? ⟨T, 2, none⟩ = some (.slice none 0 0) := HBr.out.cell 2
          clear hTg
          go_wp2_with fail
          refine HSH.out.mono ?_
          rintro e w7 ⟨rfl, hg7⟩
          clear t0 t1 t2
          go_wp2_with fail
          refine (HAW.out _).mono ?_
          rintro e w8 ⟨rfl, hg8⟩
          have hF := hgrF.trans (hg7.trans hg8)
          go_wp2_with fail
          go_ret
          exact ⟨rfl, hF⟩

end Go.Proofs.Ytnoeiocbmhkmeaa
