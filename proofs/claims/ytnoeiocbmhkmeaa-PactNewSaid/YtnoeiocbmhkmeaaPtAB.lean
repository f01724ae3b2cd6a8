/- Layer 5: Deliver. -/
import Derived.Test.YtnoeiocbmhkmeaaPtAA
namespace Go.Proofs.Ytnoeiocbmhkmeaa
open Go.RowKit
set_option linter.unusedSimpArgs false

set_option maxRecDepth 100000 in
set_option maxHeartbeats 4000000 in
theorem Deliver_any {B : Nat} {w : World} {N : Nx} {k : Nat} (m : Ml) (R : World → World → Prop) (h : NetR B w N) (hml : N.mail.length ≤ 1024) (hk : N.mail[k]? = some m) (h0 : 1 ≤ N.sites.length)
    (HC : ∀ W lv', NetR B W { N with mail := N.mail.eraseIdx k, lv := lv' } → Calls Try.prog 52 #[.pointer (some ⟨N.p, 0, none⟩), .agg #[.int .i64 m.1, .int .i64 m.2.1, .int .i64 m.2.2.1, .int .i64 m.2.2.2.1, .int .i64 m.2.2.2.2]] W (fun e w' => e = .returned (.tuple #[]) ∧ R W w')) :
    Calls Try.prog 24 #[.pointer (some ⟨N.p, 0, none⟩), .int .i64 (k : Int)] w
      (fun e w' => e = .returned (.int .i64 0) ∧ ∃ W lv', NetTo B w N { N with mail := N.mail.eraseIdx k, lv := lv' } W ∧ R W w') := by
  obtain ⟨f, t, kd, tx, n⟩ := m
  dsimp only at HC ⊢
  have hkn : k < N.mail.length := (List.getElem?_eq_some_iff.1 hk).1
  have hrl : refL N (k : Int) = 0 := by unfold refL; rw [if_neg (by omega), if_neg (by omega)]
  have HRL := Lib.hid (refLetter_any h (k : Int))
  rw [hrl] at HRL
  have HCC := Lib.hid HC
  have HRM := Lib.hid (fun W (hW : Gr w W) => remove_any k (h.keep hW) hkn hml)
  have HOW := Lib.hid h.own
  have n1 := h.blk.cell 1
  obtain ⟨A, c, e1, hr⟩ := h.box
  simp only [List.getElem?_toArray, List.getElem?_cons_succ, List.getElem?_cons_zero] at n1
  rw [e1] at n1
  obtain ⟨b, off, rfl, hc⟩ := hr k _ hk
  have l0 : w.cell? ⟨b, off + k * 5, none⟩ = some (.int .i64 f) := hc 0 _ rfl
  have l1 : w.cell? ⟨b, off + k * 5 + 1, none⟩ = some (.int .i64 t) := hc 1 _ rfl
  have l2 : w.cell? ⟨b, off + k * 5 + 2, none⟩ = some (.int .i64 kd) := hc 2 _ rfl
  have l3 : w.cell? ⟨b, off + k * 5 + 3, none⟩ = some (.int .i64 tx) := hc 3 _ rfl
  have l4 : w.cell? ⟨b, off + k * 5 + 4, none⟩ = some (.int .i64 n) := hc 4 _ rfl
  have hki : (k : Int) < (N.mail.length : Int) := by omega
  have hk0 : (0 : Int) ≤ (k : Int) := by omega
  generalize N.mail.length = q at n1 hki hkn
  clear HC h hk e1 hml hr hc hrl h0
  go_enter Try.func24, Try.ntmps24
  go_wp2_with fail
  refine HRL.out.mono ?_
  rintro e w1 ⟨rfl, rfl⟩
  go_upto_region 5 with fail
  generalize hW2 : World.alloc w1 _ = w2
  have hg2 : Gr w1 w2 := by rw [← hW2]; exact (Gr.refl w1).alloc _
  have hbk : Blk w2 w1.heap.size 87 #[.int .i64 f, .int .i64 t, .int .i64 kd, .int .i64 tx, .int .i64 n] := by rw [← hW2]; exact Blk.new w1 _ _ rfl
  have hno : w1.heap.size ∉ ownB N := fun hm => by have := (HOW.out _ hm).2; omega
  generalize w1.heap.size = Z at hbk hno ⊢
  have HB := Lib.hid hbk
  have HNO := Lib.hid hno
  clear hW2 hbk hno l0 l1 l2 l3 l4 n1
  go_wp2_with fail
  refine (HRM.out _ hg2).mono ?_
  rintro e w3 ⟨rfl, lv', hto⟩
  have hb3 : Blk w3 Z 87 #[.int .i64 f, .int .i64 t, .int .i64 kd, .int .i64 tx, .int .i64 n] := (hto.ch.block Z HB.out.lt HNO.out).trans HB.out
  have HTO := Lib.hid (NetTo.pre hto hg2)
  have HCL := Lib.hid (HCC.out w3 lv' hto.net)
  have b0 : w3.cell? ⟨Z, 0, none⟩ = some (.int .i64 f) := hb3.cell 0
  have b1 : w3.cell? ⟨Z, 1, none⟩ = some (.int .i64 t) := hb3.cell 1
  have b2 : w3.cell? ⟨Z, 2, none⟩ = some (.int .i64 kd) := hb3.cell 2
  have b3 : w3.cell? ⟨Z, 3, none⟩ = some (.int .i64 tx) := hb3.cell 3
  have b4 : w3.cell? ⟨Z, 4, none⟩ = some (.int .i64 n) := hb3.cell 4
  clear hto hb3 hg2
  go_wp2_with fail
  refine HCL.out.mono ?_
  rintro e w4 ⟨rfl, hR⟩
  have HR := Lib.hid hR
  clear hR b0 b1 b2 b3 b4
  go_wp2_with fail
  go_ret
  exact ⟨rfl, w3, lv', HTO.out, HR.out⟩

end Go.Proofs.Ytnoeiocbmhkmeaa
