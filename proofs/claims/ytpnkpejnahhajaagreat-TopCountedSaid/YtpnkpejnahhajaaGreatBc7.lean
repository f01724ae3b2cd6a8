/- Layer 3: label's recurrence.
Layer 3: a damaged word: its places. -/
import Derived.Test.YtpnkpejnahhajaaGreatBc4
import Derived.Test.YtpnkpejnahhajaaGreatBc2
import Derived.Test.YtpnkpejnahhajaaGreatBc5
import Derived.Test.YtpnkpejnahhajaaGreatBc6
namespace Go.Proofs.YtpnkpejnahhajaaGreat
open Go.RowKit
set_option linter.unusedSimpArgs false

theorem addL_two (f : G) : ∀ a ys : List G, addL (addL (List.replicate (max a.length ys.length) g0) g1 a) f ys = addP a (ys.map (f * ·))
  | [], [] => rfl
  | [], y :: ys => by
    have ih := addL_two f [] ys
    simp only [List.length_nil, Nat.zero_max, addL_nil, addP, List.length_cons, List.replicate_succ, addL, List.map_cons, gzero_add] at ih ⊢
    rw [ih]
  | a :: r, [] => by
    rw [addL_nil, List.length_nil, Nat.max_zero, addL_zero, List.map_nil, addP_nil]
    simp [gone_mul]
  | a :: r, y :: ys => by
    have ih := addL_two f r ys
    rw [List.length_cons, List.length_cons, Nat.succ_max_succ, List.replicate_succ]
    simp only [addL, addP, List.map_cons, gzero_add, gone_mul]
    rw [ih]
structure RecI (w wr : World) (T gn gb cb : Nat) (m : Bm) : Prop where
  now : Row wr gn 0 m.now
  bef : Row wr gb 0 m.bef
  room : RoomL wr gb cb
  lb : m.bef.length ≤ cb
  cb : cb ≤ 9223372036854775807
  ne : gn ≠ gb
  fn : w.heap.size ≤ gn
  fb : w.heap.size ≤ gb
  gr : Gr w wr
  one : 1 ≤ m.bef.length
theorem RoomL.gb {w w' : World} {g g' c : Nat} (h : RoomL w g c) (hg : Gb g' w w') (hne : g ≠ g') : RoomL w' g c := by
  obtain ⟨cur, h1, h2⟩ := h
  exact ⟨cur, (hg.block g (Array.getElem?_eq_some_iff.1 h1).1 (fun e => hne (by injection e))).trans h1, h2⟩
theorem RecI.keep {w wr wr' : World} {T gn gb cb : Nat} {m : Bm} (h : RecI w wr T gn gb cb m) (hg : Gr wr wr') : RecI w wr' T gn gb cb m :=
  ⟨h.now.keep hg, h.bef.keep hg, h.room.keep hg, h.lb, h.cb, h.ne, h.fn, h.fb, h.gr.trans hg, h.one⟩
theorem RecI.gb {w wr wr' : World} {T gn gb cb g' : Nat} {m : Bm} (h : RecI w wr T gn gb cb m) (hg : Gb g' wr wr') (h1 : gn ≠ g') (h2 : gb ≠ g') (h3 : w.heap.size ≤ g') : RecI w wr' T gn gb cb m :=
  ⟨h.now.gb hg h1, h.bef.gb hg h2, h.room.gb hg h2, h.lb, h.cb, h.ne, h.fn, h.fb, hg.gr h.gr h3, h.one⟩
theorem bmStep_now (s : Nat → G) (k : Nat) (m : Bm) (h : dsum m.now s k ≠ g0) : (bmStep s k m).now = addP m.now ((g0 :: m.bef).map (dsum m.now s k * ·)) := by
  unfold bmStep; rw [if_neg h]; split <;> rfl
theorem Row.ne {w : World} {g off : Nat} {xs : List G} (h : Row w g off xs) (h1 : 0 < xs.length) {W : World} : Gr w W → g < W.heap.size := fun hg => by
  have := h.lt h1; have := hg.size; omega

set_option maxRecDepth 100000 in
set_option maxHeartbeats 4000000 in
theorem recurrence_any (T : Nat) (A : Option Addr) (m mc : Nat) (l : List G) (w : World) (hT : Tabs T w) (hm : l.length = m) (hb : Byts w A l) (hl : m ≤ 300) :
    Calls Tryz.prog 133 #[.pointer (some ⟨T, 0, none⟩), .slice A m mc] w fun e w' => ∃ g c, e = .returned (.slice (some ⟨g, 0, none⟩) (bmL (sq l) m).now.length c) ∧ w.heap.size ≤ g ∧ Row w' g 0 (bmL (sq l) m).now ∧ Gr w w' := by
  have HT := Lib.hid hT
  have HM := Lib.hid hm
  have HB := Lib.hid hb
  have HTl := Lib.hid hT.lt
  clear hT hm hb
  go_enter Tryz.func133, Tryz.ntmps133
  go_wp2_with fail
  obtain ⟨w0, hw0⟩ : ∃ w0, (w.alloc (.cells #[.int .u8 1] 5)).alloc (.cells #[.int .u8 1] 5) = w0 := ⟨_, rfl⟩
  have HI0 : Hid (RecI w w0 T w.heap.size (w.heap.size + 1) 1 ⟨[g1], [g1], 0⟩) := Lib.hid (by
    have b1 : RoomL (w.alloc (.cells #[.int .u8 1] 5)) w.heap.size 1 := RoomL.new w #[.int .u8 1] rfl
    have b2 : RoomL w0 (w.heap.size + 1) 1 := by rw [← hw0]; exact RoomL.new (w.alloc (.cells #[.int .u8 1] 5)) #[.int .u8 1] (by simp)
    have g1' : Gr (w.alloc (.cells #[.int .u8 1] 5)) w0 := by rw [← hw0]; exact (Gr.refl _).alloc _
    have r1 : Row (w.alloc (.cells #[.int .u8 1] 5)) w.heap.size 0 [g1] := Row.of_cells b1 fun i hi => by
      obtain rfl : i = 0 := by simpa using hi
      exact alloc_new rfl rfl
    have r2 : Row w0 (w.heap.size + 1) 0 [g1] := Row.of_cells b2 fun i hi => by
      obtain rfl : i = 0 := by simpa using hi
      rw [← hw0]
      exact alloc_new (by simp) rfl
    exact ⟨r1.keep g1', r2, b2, Nat.le_refl _, by decide, by simp, Nat.le_refl _, by simp, ((Gr.refl w).alloc _).trans g1', by simp⟩)
  rw [hw0]
  clear hw0
  go_loopw [5, 6, 7, 15] (fun a b d z wr => ∃ (k gn gb nc bc : Nat), k ≤ m ∧ z = .int .i64 k ∧ a = .slice (some ⟨gn, 0, none⟩) (bmL (sq l) k).now.length nc ∧ b = .slice (some ⟨gb, 0, none⟩) (bmL (sq l) k).bef.length bc ∧ d = .int .i64 (bmL (sq l) k).deg ∧ Hid (RecI w wr T gn gb bc (bmL (sq l) k))) (fun _ _ _ z _ => m - (intOf z).toNat)
  case atStart => exact ⟨0, _, _, _, _, Nat.zero_le _, rfl, rfl, rfl, rfl, HI0⟩
  case round =>
    obtain ⟨k, gn, gb, nc, bc, hk, rfl, rfl, rfl, rfl, hI⟩ := hrel
    by_cases hlt : k < m
    · obtain ⟨hd, hl1, hl2, hl3⟩ := bm_len (s := sq l) k
      have hs := (show bmL (sq l) (k + 1) = bmStep (sq l) k (bmL (sq l) k) from rfl)
      have HS := Lib.hid hs
      clear hs
      generalize bmL (sq l) k = q at hd hl1 hl2 hl3 HS hI
      have hn1 : 1 ≤ q.now.length := by cases hq : q.now with | nil => rw [hq] at hd; cases hd | cons _ _ => simp
      obtain ⟨nn, hnn⟩ : ∃ nn, q.now.length = nn := ⟨_, rfl⟩
      obtain ⟨bn, hbn⟩ : ∃ bn, q.bef.length = bn := ⟨_, rfl⟩
      obtain ⟨dg, hdg⟩ : ∃ dg, q.deg = dg := ⟨_, rfl⟩
      have HNN := Lib.hid hnn
      have HBN := Lib.hid hbn
      have HDG := Lib.hid hdg
      rw [hdg] at hl1 hl2 hl3
      rw [hnn] at hl1 hn1
      rw [hbn] at hl2
      rw [hnn, hbn, hdg]
      have hb1 := hI.out.one
      have hbc := hI.out.lb
      rw [hbn] at hb1 hbc
      clear hnn hbn hdg hd
      go_wp2_with fail
      have hg1 : Gr wr (wr.alloc (.cells #[.int .u8 0] 5)) := (Gr.refl _).alloc _
      have hbl : gb < wr.heap.size := hI.out.bef.lt (by have := HBN.out; omega)
      refine (ins_any gb bn bc wr.heap.size 1 q.bef g0 _ hb1 hbc hI.out.cb (by omega) (by omega) HBN.out (hI.out.bef.keep hg1) (hI.out.room.keep hg1) (RoomL.new wr #[.int .u8 0] rfl) (alloc_new rfl rfl)).mono ?_
      rintro e w1 ⟨gb1, bc1, rfl, hb2, hb3, hb4, hrb, hrm, hG1⟩
      have hgn : gn < wr.heap.size := hI.out.now.lt (by have := HNN.out; omega)
      have hne1 : gn ≠ gb1 := by
        rcases hb4 with rfl | h
        · exact hI.out.ne
        · simp at h; omega
      have hfb1 : w.heap.size ≤ gb1 := by
        rcases hb4 with rfl | h
        · exact hI.out.fb
        · have := hI.out.gr.size; simp at h; omega
      have hrn1 := Lib.hid ((hI.out.now.keep hg1).gb hG1 hI.out.ne)
      have hgr1 := Lib.hid (hG1.gr (hI.out.gr.trans hg1) hI.out.fb)
      have hI1 := Lib.hid (show RecI w w1 T gn gb1 bc1 ⟨q.now, g0 :: q.bef, q.deg⟩ from ⟨hrn1.out, hrb, hrm, by simpa [HBN.out] using hb2, hb3, hne1, hI.out.fn, hfb1, hgr1.out, by simp⟩)
      clear hI hg1 hbl hb4 hgn hne1 hfb1 hrn1 hgr1 hG1 hrm hrb
      go_wp2_with fail
      refine (combine_any T (some ⟨gn, 0, none⟩) A nn nc m mc q.now l k w1 (HT.out.keep hI1.out.gr) HNN.out HM.out hI1.out.now.pts (HB.out.keep hI1.out.gr) (by omega) hlt (by omega)).mono ?_
      rintro e w2 ⟨rfl, hG2⟩
      have hI2 := Lib.hid (show RecI w w2 T gn gb1 bc1 ⟨q.now, g0 :: q.bef, q.deg⟩ from ⟨hI1.out.now.keep hG2, hI1.out.bef.keep hG2, hI1.out.room.keep hG2, hI1.out.lb, hI1.out.cb, hI1.out.ne, hI1.out.fn, hI1.out.fb, hI1.out.gr.trans hG2, hI1.out.one⟩)
      clear hI1 hG2
      have ta := g_zero_test (dsum q.now (sq l) k)
      by_cases hgap : dsum q.now (sq l) k = g0
      · have HSe : Hid (bmL (sq l) (k + 1) = ⟨q.now, g0 :: q.bef, q.deg⟩) := Lib.hid (by rw [HS.out]; unfold bmStep; rw [if_pos hgap])
        rw [decide_eq_true hgap] at ta
        clear hgap
        generalize dsum q.now (sq l) k = gap at ta ⊢
        go_wp2_with fail
        go_roundw
        case rel => exact ⟨k + 1, gn, gb1, nc, bc1, by omega, by go_num, by rw [HSe.out, ← HNN.out], by rw [HSe.out, ← HBN.out]; rfl, by rw [HSe.out, ← HDG.out], by rw [HSe.out]; exact hI2⟩
        case measure => simp [intOf] <;> omega
      · have HSn := Lib.hid (bmStep_now (sq l) k q hgap)
        have HGA := Lib.hid (addL_two (dsum q.now (sq l) k) q.now (g0 :: q.bef))
        have HGP := Lib.hid hgap
        rw [decide_eq_false hgap] at ta
        clear hgap
        obtain ⟨gap, hga⟩ : ∃ gap, dsum q.now (sq l) k = gap := ⟨_, rfl⟩
        have HGE := Lib.hid hga
        rw [hga] at ta HSn HGA HGP ⊢
        clear hga
        obtain ⟨mx, hmx⟩ : ∃ mx, max nn (bn + 1) = mx := ⟨_, rfl⟩
        have HMX := Lib.hid hmx
        have hmxl : mx ≤ 302 := by omega
        have hmx1 : nn ≤ mx := by omega
        have hmx2 : bn + 1 ≤ mx := by omega
        have hmk := fun w => mk_bytes mx (by omega) w
        have hmxi : max (nn : Int) ((bn : Int) + 1) = (mx : Int) := by omega
        clear hmx
        go_wp2_with fail
        have hB3 := Lib.hid (BG.new w2 (List.replicate mx g0) rfl).row
        have hG3 := Lib.hid ((Gr.refl w2).alloc (.cells (gcs (List.replicate mx g0)) 5))
        have hI3 := Lib.hid (show RecI w (w2.alloc (.cells (gcs (List.replicate mx g0)) 5)) T gn gb1 bc1 ⟨q.now, g0 :: q.bef, q.deg⟩ from ⟨hI2.out.now.keep hG3.out, hI2.out.bef.keep hG3.out, hI2.out.room.keep hG3.out, hI2.out.lb, hI2.out.cb, hI2.out.ne, hI2.out.fn, hI2.out.fb, hI2.out.gr.trans hG3.out, hI2.out.one⟩)
        have hs3 : gn < w2.heap.size ∧ gb1 < w2.heap.size := ⟨hI2.out.now.lt (by have := HNN.out; dsimp only; omega), hI2.out.bef.lt (by simp)⟩
        have hsz := hI2.out.gr.size
        have hTl := HTl.out
        obtain ⟨gx, hgx⟩ : ∃ gx, w2.heap.size = gx := ⟨_, rfl⟩
        rw [hgx] at hB3 hs3 hsz ⊢
        generalize w2.alloc _ = w3 at hB3 hI3 ⊢
        clear hI2 hG3 hgx
        refine (add_any T gx 0 mx mx (List.replicate mx g0) g1 (some ⟨gn, 0, none⟩) nn nc q.now w3 (HT.out.keep hI3.out.gr) (by omega) hB3.out (by simp) ⟨hI3.out.now.pts, fun _ b o e => by obtain ⟨rfl, -⟩ : gn = b ∧ 0 = o := (by simpa using e); omega⟩ HNN.out hmx1 (by omega)).mono ?_
        rintro e w4 ⟨rfl, hR4, hG4, -⟩
        have hI4 := Lib.hid (hI3.out.gb hG4 (by omega) (by omega) (by omega))
        have HR4 := Lib.hid hR4
        clear hI3 hG4 hR4 hB3
        go_wp2_with fail
        refine (add_any T gx 0 mx mx _ gap (some ⟨gb1, 0, none⟩) (bn + 1) bc1 (g0 :: q.bef) w4 (HT.out.keep hI4.out.gr) (by omega) HR4.out (by rw [addL_len]; simp) ⟨hI4.out.bef.pts, fun _ b o e => by obtain ⟨rfl, -⟩ : gb1 = b ∧ 0 = o := (by simpa using e); omega⟩ (by simp [HBN.out]) hmx2 (by omega)).mono ?_
        rintro e w5 ⟨rfl, hR5, hG5, -⟩
        have hI5 := Lib.hid (hI4.out.gb hG5 (by omega) (by omega) (by omega))
        have HR5 : Hid (Row w5 gx 0 (bmStep (sq l) k q).now) := Lib.hid (by
          rw [HSn.out, ← HGA.out, HNN.out]
          rw [show (g0 :: q.bef).length = bn + 1 by simp [HBN.out], HMX.out]
          exact hR5)
        have HL5 : Hid ((bmStep (sq l) k q).now.length = mx) := Lib.hid (by
          rw [HSn.out, addP_len, List.length_map, HNN.out, ← HMX.out]; simp [HBN.out])
        clear hI4 hG5 hR5 HR4
        by_cases hdk : 2 * dg ≤ k
        · have HSf : Hid (bmStep (sq l) k q = ⟨(bmStep (sq l) k q).now, q.now.map (ginv gap * ·), k + 1 - dg⟩) := Lib.hid (by
            rw [HSn.out]; unfold bmStep; rw [HGE.out, HDG.out, if_neg HGP.out, if_pos hdk])
          have hdk' : (2 : Int) * (dg : Int) ≤ (k : Int) := by omega
          have hcast : (k : Int) + 1 - (dg : Int) = ((k + 1 - dg : Nat) : Int) := by omega
          go_wp2_with fail
          refine (quotient_any T g1 gap w5 (HT.out.keep hI5.out.gr) HGP.out).mono ?_
          rintro e w6 ⟨rfl, hG6⟩
          rw [gone_mul]
          have hI6 := Lib.hid (hI5.out.keep hG6)
          have HR6 := Lib.hid (HR5.out.keep hG6)
          have hx6 : gx < w6.heap.size := HR6.out.lt (by rw [HL5.out]; omega)
          clear hI5 HR5 hG6
          go_wp2_with fail
          refine (scaled_any T (some ⟨gn, 0, none⟩) nn nc q.now (ginv gap) w6 (HT.out.keep hI6.out.gr) HNN.out hI6.out.now.pts (by omega)).mono ?_
          rintro e w7 ⟨gz, rfl, hz1, hz2, hz3, hz4⟩
          have hI7 : Hid (RecI w w7 T gx gz nn (bmL (sq l) (k + 1))) := Lib.hid (by
            rw [HS.out, HSf.out]
            have h6 := hI6.out.gr.size
            exact ⟨HR6.out.keep hz3, hz2, hz4, by simp [HNN.out], by omega, by omega, by omega, by omega, hI6.out.gr.trans hz3, by simpa [HNN.out] using hn1⟩)
          have HLn : Hid ((bmL (sq l) (k + 1)).now.length = mx ∧ (bmL (sq l) (k + 1)).bef.length = nn ∧ (bmL (sq l) (k + 1)).deg = k + 1 - dg) := Lib.hid (by
            rw [HS.out]; refine ⟨HL5.out, ?_, ?_⟩ <;> rw [HSf.out] <;> simp [HNN.out])
          clear hI6 HR6 hz2 hz3 hz4
          go_wp2_with fail
          go_roundw
          case rel => exact ⟨k + 1, gx, gz, mx, nn, by omega, by go_num, by rw [HLn.out.1], by rw [HLn.out.2.1], by rw [HLn.out.2.2], hI7⟩
          case measure => simp [intOf] <;> omega
        · have HSf : Hid (bmStep (sq l) k q = ⟨(bmStep (sq l) k q).now, g0 :: q.bef, dg⟩) := Lib.hid (by
            rw [HSn.out]; unfold bmStep; rw [HGE.out, HDG.out, if_neg HGP.out, if_neg hdk])
          have hdk' : ¬ ((2 : Int) * (dg : Int) ≤ (k : Int)) := by omega
          have hI7 : Hid (RecI w w5 T gx gb1 bc1 (bmL (sq l) (k + 1))) := Lib.hid (by
            rw [HS.out, HSf.out]
            exact ⟨HR5.out, hI5.out.bef, hI5.out.room, hI5.out.lb, hI5.out.cb, by omega, by omega, hI5.out.fb, hI5.out.gr, by simp⟩)
          have HLn : Hid ((bmL (sq l) (k + 1)).now.length = mx ∧ (bmL (sq l) (k + 1)).bef.length = bn + 1 ∧ (bmL (sq l) (k + 1)).deg = dg) := Lib.hid (by
            rw [HS.out]; refine ⟨HL5.out, ?_, ?_⟩ <;> rw [HSf.out] <;> simp [HBN.out])
          clear hI5 HR5
          go_wp2_with fail
          go_roundw
          case rel => exact ⟨k + 1, gx, gb1, mx, bc1, by omega, by go_num, by rw [HLn.out.1], by rw [HLn.out.2.1], by rw [HLn.out.2.2], hI7⟩
          case measure => simp [intOf] <;> omega
    · obtain rfl : k = m := by omega
      go_wp2_with fail
      try rw [Exit.noGoto_ret]
      go_ret
      exact ⟨_, _, rfl, hI.out.fn, hI.out.now, hI.out.gr⟩
end Go.Proofs.YtpnkpejnahhajaaGreat

namespace Go.Proofs.YtpnkpejnahhajaaGreat
open Go.RowKit
set_option linter.unusedSimpArgs false

/-- A damaged word of n bytes, p syndromes, lost positions L (k of them). -/
structure Dmg (w : World) (D T : Nat) (Aw As : Option Addr) (n wc p sc : Nat) (ws ss : List G) (L : Nat → Bool) (k : Nat) : Prop where
  tabs : Tabs T w
  c0 : w.cell? ⟨D, 0, none⟩ = some (.pointer (some ⟨T, 0, none⟩))
  c1 : w.cell? ⟨D, 1, none⟩ = some (.slice Aw n wc)
  c2 : w.cell? ⟨D, 2, none⟩ = some (.slice As p sc)
  c3 : ∀ i, i < 255 → w.cell? ⟨D, 3 + i, none⟩ = some (.bool (L i))
  c4 : w.cell? ⟨D, 258, none⟩ = some (.int .i64 (k : Int))
  word : Byts w Aw ws
  syns : Byts w As ss
  wl : ws.length = n
  sl : ss.length = p
  n1 : 1 ≤ n
  n2 : n ≤ 255
  p2 : p ≤ 64
  k2 : k ≤ 255
theorem Dmg.keep {w w' : World} {D T : Nat} {Aw As : Option Addr} {n wc p sc : Nat} {ws ss : List G} {L : Nat → Bool} {k : Nat} (h : Dmg w D T Aw As n wc p sc ws ss L k) (hg : Gr w w') : Dmg w' D T Aw As n wc p sc ws ss L k :=
  ⟨h.tabs.keep hg, hg.keep h.c0, hg.keep h.c1, hg.keep h.c2, fun i hi => hg.keep (h.c3 i hi), hg.keep h.c4, h.word.keep hg, h.syns.keep hg, h.wl, h.sl, h.n1, h.n2, h.p2, h.k2⟩
def plc (n i : Nat) : G := gp (n - 1 - i)

set_option maxHeartbeats 2000000 in
theorem place_any {D T : Nat} {Aw As : Option Addr} {n wc p sc : Nat} {ws ss : List G} {L : Nat → Bool} {k : Nat} (i : Nat) (w : World) (h : Dmg w D T Aw As n wc p sc ws ss L k) (hi : i < n) :
    Calls Tryz.prog 106 #[.pointer (some ⟨D, 0, none⟩), .int .i64 (i : Int)] w fun e w' => e = .returned (.int .u8 ((plc n i).v : Int)) ∧ Gr w w' := by
  obtain ⟨m, hm⟩ : ∃ m, n - 1 - i = m := ⟨_, rfl⟩
  have c0 := h.c0
  have c1 := h.c1
  have hn2 := h.n2
  have t0 := h.tabs.1 m (by omega)
  have hp : plc n i = gp m := by unfold plc; rw [hm]
  have hmi : (n : Int) - 1 - (i : Int) = (m : Int) := by omega
  have hw1 : IntKind.i64.wrap ((n : Int) - 1) = (n : Int) - 1 := IntWalk.i64_in _ (by omega)
  have hw2 : IntKind.i64.wrap ((n : Int) - 1 - (i : Int)) = (m : Int) := by rw [hmi]; exact IntWalk.i64_in _ (by omega)
  have hm1 : (m : Int) < 255 := by omega
  have hm0 : (0 : Int) ≤ (m : Int) := by omega
  have hm2 : m < 255 := by omega
  rw [hp]
  generalize gp m = x at t0 ⊢
  clear h hm hp
  go_enter Tryz.func106, Tryz.ntmps106
  go_wp2_with fail
  go_quiet (fail)
  go_wp2_with fail
  go_ret
  exact ⟨rfl, (Gr.refl _).drewN _⟩

def nats (is : List Nat) : List Int := List.map (fun i : Nat => (i : Int)) is
theorem nats_len (is : List Nat) : (nats is).length = is.length := by simp [nats]
theorem nats_at {is : List Nat} {i : Nat} (h : i < is.length) : (nats is).getD i 0 = ((is.getD i 0 : Nat) : Int) := by
  unfold nats
  rw [List.getD_eq_getElem?_getD, List.getElem?_map, getD_of 0 h]
  rfl
set_option maxRecDepth 100000 in
set_option maxHeartbeats 4000000 in
theorem places_any {D T : Nat} {Aw As : Option Addr} {n wc p sc : Nat} {ws ss : List G} {L : Nat → Bool} {k : Nat} (A : Option Addr) (m mc : Nat) (is : List Nat) (w : World) (h : Dmg w D T Aw As n wc p sc ws ss L k) (hm : is.length = m) (hl : m ≤ 255) (hi : ∀ i ∈ is, i < n) (hp : Ints w A (nats is)) :
    Calls Tryz.prog 104 #[.pointer (some ⟨D, 0, none⟩), .slice A m mc] w fun e w' => ∃ B c, e = .returned (.slice B m c) ∧ Byts w' B (is.map (plc n)) ∧ Gr w w' := by
  obtain ⟨i0, hi0, hz0, hz1, hz2⟩ := info_parts Tryz.infoByte
  have HD := Lib.hid h
  have HM := Lib.hid hm
  have HI := Lib.hid hi
  have HP := Lib.hid hp
  clear h hm hi hp
  go_enter Tryz.func104, Tryz.ntmps104
  go_wp2_with fail
  have hstart : (w.alloc (.cells #[] 5)).ownsRow w.heap.size 5 1 (.slice (some ⟨w.heap.size, 0, none⟩) 0 0) 0 [] := World.ownsRow_made w #[] 0 (Nat.le_refl _) (Nat.zero_le _) (by simp)
  have hg0 : Gr w (w.alloc (.cells #[] 5)) := (Gr.refl _).alloc _
  go_loopw [5, 11] (fun v z wr => ∃ j : Nat, j ≤ m ∧ z = .int .i64 j ∧ Hid (wr.ownsRow w.heap.size 5 1 v j (flatE encG ((is.take j).map (plc n)))) ∧ Hid (Gr w wr)) (fun _ z _ => m - (intOf z).toNat)
  case atStart => exact ⟨0, Nat.zero_le _, rfl, Lib.hid hstart, Lib.hid hg0⟩
  case round =>
    obtain ⟨j, hj, rfl, hown, hg⟩ := hrel
    by_cases hlt : j < m
    · have hji : j < is.length := by have := HM.out; omega
      have hin := HI.out (is.getD j 0) (by rw [List.getD_eq_getElem?_getD, List.getElem?_eq_getElem hji]; exact List.getElem_mem hji)
      obtain ⟨b, off, rfl, c0⟩ := Ints_at (HP.out.keep hg.out) (i := j) (by rw [nats_len]; exact hji)
      rw [nats_at hji] at c0
      have HTK : Hid ((is.take (j + 1)).map (plc n) = (is.take j).map (plc n) ++ [plc n (is.getD j 0)]) := Lib.hid (by
        rw [List.take_add_one, getD_of 0 hji]; simp)
      generalize is.getD j 0 = i at c0 hin HTK
      go_wp2_with fail
      refine (place_any i wr (HD.out.keep hg.out) hin).mono ?_
      rintro e w1 ⟨rfl, hb⟩
      have hgw := hg.out.trans hb
      have hown2 := Lib.hid (owns_gr hown.out hb)
      have hsz := hgw.size
      generalize plc n i = x at HTK ⊢
      go_wp2_with (at_builtin; refine wpList_append_own _ rfl _ _ 59 rfl w.heap.size 5 i0 _ 1 1 Tryz.underlying59 hi0 hz0 hz1 hz2 rfl (by decide) _ _ _ rfl (hown2.out.alloc _) ⟨w1.heap.size, 0, none⟩ 1 1 (encG x) rfl rfl ?a1 ?a2 ?a3 ?a4 ?a5 ?_)
      case a1 =>
        intro t u ht
        rw [Addr.add_lit]
        exact alloc_new rfl (by rw [Nat.zero_add]; simpa [encG] using ht)
      case a2 => exact encG_one x
      case a3 => unfold maxLen; omega
      case a4 => omega
      case a5 => simp; omega
      intro v' w2 hown' hgrow _
      have hga : Gr w (w1.alloc _) := hgw.alloc (.cells #[.int .u8 (x.v : Int)] 5)
      have hgb : Gr w w2 := Below.grown hga hgrow hga.size (fun t ht => (hown2.out.lt t ht).1)
      have HO2 := Lib.hid hown'
      clear hown' hgrow hga
      go_wp2_with fail
      go_roundw
      case rel => exact ⟨j + 1, by omega, by go_num, Lib.hid (by
        have h := HO2.out
        rw [HTK.out, flatE_snoc]
        try rw [← List.map_take] at h
        exact h), Lib.hid hgb⟩
      case measure => simp [intOf]; omega
    · have hjm : j = m := by omega
      have hlt' : ¬ ((j : Int) < (m : Int)) := by omega
      rw [hjm, List.take_of_length_le (by rw [HM.out]; exact Nat.le_refl _)] at hown
      obtain ⟨B, c, hv, -, hrd, -⟩ := own_row encG_len (by rw [List.length_map, HM.out]) hown.out
      subst hv
      go_wp2_with fail
      try rw [Exit.noGoto_ret]
      go_ret
      exact ⟨_, ⟨_, rfl⟩, hrd, hg.out⟩
end Go.Proofs.YtpnkpejnahhajaaGreat
