/- Layer 5: a net's site handles a letter.
Layer 5: Deliver.
Layer 5: is a site settled?
Layer 5: is a net settled? -/
import Derived.Test.YtnoeiocbmhkmeaaPtZ
namespace Go.Proofs.Ytnoeiocbmhkmeaa
open Go.RowKit
set_option linter.unusedSimpArgs false

set_option maxRecDepth 100000 in
set_option maxHeartbeats 4000000 in
theorem netHandle_any {B : Nat} {w : World} {N : Nx} {k : Nat} {s : Sx} (m : Ml) (Q : Sx → List Ml → Prop) (h : NetR B w N) (hml : N.mail.length ≤ 1024) (hk : N.sites[k]? = some s) (hto : m.2.1 = (k : Int)) (hup : s.up = true)
    (hq : ∀ s' l, Q s' l → l.length ≤ 1024)
    (HC : ∀ W, Gr w W → Calls Try.prog 62 #[.pointer (some ⟨s.p, 0, none⟩), .agg #[.int .i64 m.1, .int .i64 m.2.1, .int .i64 m.2.2.1, .int .i64 m.2.2.2.1, .int .i64 m.2.2.2.2]] W (fun e w' => ∃ s' l, Q s' l ∧ StepP B W s s' l e w')) :
    Calls Try.prog 52 #[.pointer (some ⟨N.p, 0, none⟩), .agg #[.int .i64 m.1, .int .i64 m.2.1, .int .i64 m.2.2.1, .int .i64 m.2.2.2.1, .int .i64 m.2.2.2.2]] w
      (fun e w' => e = .returned (.tuple #[]) ∧ ∃ s' l lv', Q s' l ∧ NetTo B w N { N with sites := N.sites.set k s', mail := N.mail ++ l.take (1024 - N.mail.length), lv := lv' } w') := by
  obtain ⟨f, t, kd, tx, n⟩ := m
  dsimp only at hto HC ⊢
  subst hto
  have HCC := Lib.hid HC
  have HQ := Lib.hid hq
  have HH := Lib.hid h
  have HK := Lib.hid hk
  have HML := Lib.hid hml
  have hkn : k < N.sites.length := (List.getElem?_eq_some_iff.1 hk).1
  have hki : (k : Int) < (N.sites.length : Int) := by omega
  have hk0 : (0 : Int) ≤ (k : Int) := by omega
  have n0 := h.blk.cell 0
  obtain ⟨b, off, c, e1, nb⟩ := h.spot5 hk
  simp only [List.getElem?_toArray, List.getElem?_cons_zero] at n0
  rw [e1] at n0
  have hu : w.cell? ⟨s.p, 2, none⟩ = some (.bool true) := by rw [← hup]; exact (h.site (List.mem_of_getElem? hk)).cell 2
  generalize N.sites.length = q at n0 hki hkn
  clear HC hq h hk e1 hml hup
  go_enter Try.func52, Try.ntmps52
  go_upto_region 1 with fail
  generalize hW1 : World.alloc w _ = w1
  have hg1 : Gr w w1 := by rw [← hW1]; exact (Gr.refl w).alloc _
  have hbk : Blk w1 w.heap.size 87 #[.int .i64 f, .int .i64 (k : Int), .int .i64 kd, .int .i64 tx, .int .i64 n] := by rw [← hW1]; exact Blk.new w _ _ rfl
  generalize w.heap.size = U at hbk ⊢
  have HB := Lib.hid hbk
  have u1 : w1.cell? ⟨U, 1, none⟩ = some (.int .i64 (k : Int)) := hbk.cell 1
  replace n0 := hg1.keep n0
  replace nb := hg1.keep nb
  replace hu := hg1.keep hu
  clear hW1 hbk
  refine wp_region_held_drew (S := (fun W' => W'.cell? ⟨N.p, 0, none⟩ = some (.slice (some ⟨b, off, none⟩) q c) ∧ W'.cell? ⟨U, 1, none⟩ = some (.int .i64 (k : Int)) ∧ W'.cell? ⟨b, off + k, none⟩ = some (.pointer (some ⟨s.p, 0, none⟩)))) ?_ ?_ (fun hHeld => ?_)
  · kernel_rfl
  · ((try dsimp only); ((try go_split_ands); (repeat' apply And.intro) <;> (repeat (first | assumption | (exact Gr.refl _) | (refine Gr.drew ?_) | (refine Gr.alloc ?_ _) | (refine alloc_old ?_) | (refine Gr.keep (by assumption) ?_) | (refine Gr.trans ?_ (by assumption))))))
  refine take_in (i := 0) (v := ?_) (d := (some 5)) rfl rfl ?_ ?_ ?_ ?_ ?_ ?_ ?_ ?_
  rotate_left
  · kernel_rfl
  · kernel_rfl
  · kernel_rfl
  · (intro _ _ _ hq; exact hq)
  · rfl
  · (intro _w hSw; (try dsimp only at hSw); go_simp; try with_reducible rfl)
  · assumption
  try simp only [Act.put, List.setIfInBounds_toArray, List.set_cons_zero, List.set_cons_succ]
  refine take_in (i := 1) (v := ?_) (d := (some 6)) rfl rfl ?_ ?_ ?_ ?_ ?_ ?_ ?_ ?_
  rotate_left
  · kernel_rfl
  · kernel_rfl
  · kernel_rfl
  · (intro _ _ _ hq; exact hq)
  · rfl
  · (intro _w hSw; (try dsimp only at hSw); go_simp; try with_reducible rfl)
  · assumption
  try simp only [Act.put, List.setIfInBounds_toArray, List.set_cons_zero, List.set_cons_succ]
  refine take_in (i := 2) (v := ?_) (d := (some 7)) rfl rfl ?_ ?_ ?_ ?_ ?_ ?_ ?_ ?_
  rotate_left
  · kernel_rfl
  · kernel_rfl
  · kernel_rfl
  · (intro _ _ _ hq; exact hq)
  · rfl
  · (intro _w hSw; (try dsimp only at hSw); go_simp; try with_reducible rfl)
  · assumption
  try simp only [Act.put, List.setIfInBounds_toArray, List.set_cons_zero, List.set_cons_succ]
  refine take_in (i := 3) (v := ?_) (d := (some 8)) rfl rfl ?_ ?_ ?_ ?_ ?_ ?_ ?_ ?_
  rotate_left
  · kernel_rfl
  · kernel_rfl
  · kernel_rfl
  · (intro _ _ _ hq; exact hq)
  · rfl
  · (intro _w hSw; (try dsimp only at hSw); go_simp; try with_reducible rfl)
  · assumption
  try simp only [Act.put, List.setIfInBounds_toArray, List.set_cons_zero, List.set_cons_succ]
  refine take_in (i := 4) (v := ?_) (d := (some 9)) rfl rfl ?_ ?_ ?_ ?_ ?_ ?_ ?_ ?_
  rotate_left
  · kernel_rfl
  · kernel_rfl
  · kernel_rfl
  · (intro _ _ _ hq; exact hq)
  · rfl
  · (intro _w hSw; (try dsimp only at hSw); go_simp; try with_reducible rfl)
  · assumption
  try simp only [Act.put, List.setIfInBounds_toArray, List.set_cons_zero, List.set_cons_succ]
  refine take_in (i := 5) (v := ?_) (d := (some 10)) rfl rfl ?_ ?_ ?_ ?_ ?_ ?_ ?_ ?_
  rotate_left
  · kernel_rfl
  · kernel_rfl
  · kernel_rfl
  · (intro _ _ _ hq; exact hq)
  · rfl
  · (intro _w hSw; (try dsimp only at hSw); go_simp; try with_reducible rfl)
  · assumption
  try simp only [Act.put, List.setIfInBounds_toArray, List.set_cons_zero, List.set_cons_succ]
  refine take_in (i := 6) (v := ?_) (d := (some 11)) rfl rfl ?_ ?_ ?_ ?_ ?_ ?_ ?_ ?_
  rotate_left
  · kernel_rfl
  · kernel_rfl
  · kernel_rfl
  · (intro _ _ _ hq; exact hq)
  · rfl
  · (intro _w hSw; (try dsimp only at hSw); go_simp; try with_reducible rfl)
  · assumption
  try simp only [Act.put, List.setIfInBounds_toArray, List.set_cons_zero, List.set_cons_succ]
  refine take_in (i := 7) (v := ?_) (d := (some 12)) rfl rfl ?_ ?_ ?_ ?_ ?_ ?_ ?_ ?_
  rotate_left
  · kernel_rfl
  · kernel_rfl
  · kernel_rfl
  · (intro _ _ _ hq; exact hq)
  · rfl
  · (intro _w hSw; (try dsimp only at hSw); go_simp; try with_reducible rfl)
  · assumption
  try simp only [Act.put, List.setIfInBounds_toArray, List.set_cons_zero, List.set_cons_succ]
  refine take_in (i := 8) (v := ?_) (d := (some 4)) rfl rfl ?_ ?_ ?_ ?_ ?_ ?_ ?_ ?_
  rotate_left
  · kernel_rfl
  · kernel_rfl
  · kernel_rfl
  · (intro _ _ _ hq; exact hq)
  · rfl
  · (intro _w hSw; (try dsimp only at hSw); go_simp; try with_reducible rfl)
  · assumption
  try simp only [Act.put, List.setIfInBounds_toArray, List.set_cons_zero, List.set_cons_succ]
  refine wpAnyH_done ?_ ?_ _
  · kernel_rfl
  rotate_left
  all_goals
    have hd := (Gr.refl w1).drew
    have hgr := hg1.trans hd
    have HB2 := Lib.hid (HB.out.keep hd)
    have u2 := hd.keep hu
    generalize World.drew w1 = w2 at hgr HB2 u2 ⊢
    clear hHeld n0 nb hu u1 hd hg1 HB
    have b0 : w2.cell? ⟨U, 0, none⟩ = some (.int .i64 f) := HB2.out.cell 0
    have b1 : w2.cell? ⟨U, 1, none⟩ = some (.int .i64 (k : Int)) := HB2.out.cell 1
    have b2 : w2.cell? ⟨U, 2, none⟩ = some (.int .i64 kd) := HB2.out.cell 2
    have b3 : w2.cell? ⟨U, 3, none⟩ = some (.int .i64 tx) := HB2.out.cell 3
    have b4 : w2.cell? ⟨U, 4, none⟩ = some (.int .i64 n) := HB2.out.cell 4
    go_wp2_with fail
    refine (HCC.out _ hgr).mono ?_
    rintro e w3 ⟨s', l, hql, hst⟩
    obtain ⟨⟨A, c3, rfl, hr, hcl⟩, hi, hch, hp, hbk⟩ := hst
    have HN3 := Lib.hid ((HH.out.keep hgr).step HK.out hi hch hp hbk)
    have HS := Lib.hid (send5_any A l.length c3 l w3 HN3.out.net rfl (HQ.out _ _ hql) hcl HML.out hr)
    have HQL := Lib.hid hql
    clear b0 b1 b2 b3 b4 u2 hi hch hp hbk hr hcl hql
    go_wp2_with fail
    refine HS.out.mono ?_
    rintro e w4 ⟨rfl, lv', hto⟩
    have HF := Lib.hid (NetTo.trans (NetTo.pre HN3.out hgr) hto)
    clear hto
    go_wp2_with fail
    exact end0p (by rfl) (by rfl) ⟨rfl, s', l, lv', HQL.out, HF.out⟩

end Go.Proofs.Ytnoeiocbmhkmeaa

namespace Go.Proofs.Ytnoeiocbmhkmeaa
open Go.RowKit
set_option linter.unusedSimpArgs false

set_option maxRecDepth 100000 in
set_option maxHeartbeats 4000000 in
theorem Deliver_any {B : Nat} {w : World} {N : Nx} {k : Nat} (m : Ml) (R : World → World → Prop) (h : NetR B w N) (hml : N.mail.length ≤ 1024) (hk : N.mail[k]? = some m) (h0 : 1 ≤ N.sites.length)
    (HC : ∀ W lv', NetR B W { N with mail := N.mail.eraseIdx k, lv := lv' } → Calls Try.prog 52 #[.pointer (some ⟨N.p, 0, none⟩), .agg #[.int .i64 m.1, .int .i64 m.2.1, .int .i64 m.2.2.1, .int .i64 m.2.2.2.1, .int .i64 m.2.2.2.2]] W (fun e w' => e = .returned (.tuple #[]) ∧ R W w')) :
    Calls Try.prog 24 #[.pointer (some ⟨N.p, 0, none⟩), .int .i64 (k : Int)] w
      (fun e w' => e = .returned (.int .i64 0) ∧ ∃ W lv', NetTo B w N { N with mail := N.mail.eraseIdx k, lv := lv' } W ∧ R W w') := by
  obtain ⟨f, t, kd, tx, n⟩ := m
  dsimp only at HC ⊢
  have hkn : k < N.mail.length := (List.getElem?_eq_some_iff.1 hk).1
  have hrl : refL N (k : Int) = 0 := by unfold refL; rw [if_neg (by omega), if_neg (by omega)]
  have HRL := Lib.hid (refLetter_any h (k : Int))
  rw [hrl] at HRL
  have HCC := Lib.hid HC
  have HRM := Lib.hid (fun W (hW : Gr w W) => remove_any k (h.keep hW) hkn hml)
  have HOW := Lib.hid h.own
  have n1 := h.blk.cell 1
  obtain ⟨A, c, e1, hr⟩ := h.box
  simp only [List.getElem?_toArray, List.getElem?_cons_succ, List.getElem?_cons_zero] at n1
  rw [e1] at n1
  obtain ⟨b, off, rfl, hc⟩ := hr k _ hk
  have l0 : w.cell? ⟨b, off + k * 5, none⟩ = some (.int .i64 f) := hc 0 _ rfl
  have l1 : w.cell? ⟨b, off + k * 5 + 1, none⟩ = some (.int .i64 t) := hc 1 _ rfl
  have l2 : w.cell? ⟨b, off + k * 5 + 2, none⟩ = some (.int .i64 kd) := hc 2 _ rfl
  have l3 : w.cell? ⟨b, off + k * 5 + 3, none⟩ = some (.int .i64 tx) := hc 3 _ rfl
  have l4 : w.cell? ⟨b, off + k * 5 + 4, none⟩ = some (.int .i64 n) := hc 4 _ rfl
  have hki : (k : Int) < (N.mail.length : Int) := by omega
  have hk0 : (0 : Int) ≤ (k : Int) := by omega
  generalize N.mail.length = q at n1 hki hkn
  clear HC h hk e1 hml hr hc hrl h0
  go_enter Try.func24, Try.ntmps24
  go_wp2_with fail
  refine HRL.out.mono ?_
  rintro e w1 ⟨rfl, rfl⟩
  go_upto_region 5 with fail
  generalize hW2 : World.alloc w1 _ = w2
  have hg2 : Gr w1 w2 := by rw [← hW2]; exact (Gr.refl w1).alloc _
  have hbk : Blk w2 w1.heap.size 87 #[.int .i64 f, .int .i64 t, .int .i64 kd, .int .i64 tx, .int .i64 n] := by rw [← hW2]; exact Blk.new w1 _ _ rfl
  have hno : w1.heap.size ∉ ownB N := fun hm => by have := (HOW.out _ hm).2; omega
  generalize w1.heap.size = Z at hbk hno ⊢
  have HB := Lib.hid hbk
  have HNO := Lib.hid hno
  clear hW2 hbk hno l0 l1 l2 l3 l4 n1
  go_wp2_with fail
  refine (HRM.out _ hg2).mono ?_
  rintro e w3 ⟨rfl, lv', hto⟩
  have hb3 : Blk w3 Z 87 #[.int .i64 f, .int .i64 t, .int .i64 kd, .int .i64 tx, .int .i64 n] := (hto.ch.block Z HB.out.lt HNO.out).trans HB.out
  have HTO := Lib.hid (NetTo.pre hto hg2)
  have HCL := Lib.hid (HCC.out w3 lv' hto.net)
  have b0 : w3.cell? ⟨Z, 0, none⟩ = some (.int .i64 f) := hb3.cell 0
  have b1 : w3.cell? ⟨Z, 1, none⟩ = some (.int .i64 t) := hb3.cell 1
  have b2 : w3.cell? ⟨Z, 2, none⟩ = some (.int .i64 kd) := hb3.cell 2
  have b3 : w3.cell? ⟨Z, 3, none⟩ = some (.int .i64 tx) := hb3.cell 3
  have b4 : w3.cell? ⟨Z, 4, none⟩ = some (.int .i64 n) := hb3.cell 4
  clear hto hb3 hg2
  go_wp2_with fail
  refine HCL.out.mono ?_
  rintro e w4 ⟨rfl, hR⟩
  have HR := Lib.hid hR
  clear hR b0 b1 b2 b3 b4
  go_wp2_with fail
  go_ret
  exact ⟨rfl, w3, lv', HTO.out, HR.out⟩

end Go.Proofs.Ytnoeiocbmhkmeaa

namespace Go.Proofs.Ytnoeiocbmhkmeaa
open Go.RowKit
set_option linter.unusedSimpArgs false

def setS (s : Sx) : Bool := s.opn.isEmpty && s.grt.isEmpty && s.prom.isEmpty
set_option maxRecDepth 100000 in
set_option maxHeartbeats 4000000 in
theorem setS_any {B : Nat} {s : Sx} (w : World) (h : Its B w (siteIt s)) : Calls Try.prog 47 #[.pointer (some ⟨s.p, 0, none⟩)] w fun e w' => e = .returned (.bool (setS s)) ∧ w' = w := by
  obtain ⟨-, -, -, c3, -, -, c6, c7⟩ := h.sCells
  have q1 := fun ty => h.sOpn.len Try.underlying79 ty
  have q2 := fun ty => h.sGrt.len Try.underlying79 ty
  have q3 := fun ty => h.sProm.len Try.underlying77 ty
  have e1 : ((s.opn.length : Int) == 0) = s.opn.isEmpty := by cases s.opn <;> simp; omega
  have e2 : ((s.grt.length : Int) == 0) = s.grt.isEmpty := by cases s.grt <;> simp; omega
  have e3 : ((s.prom.length : Int) == 0) = s.prom.isEmpty := by cases s.prom <;> simp; omega
  have HS : Hid (setS s = (s.opn.isEmpty && s.grt.isEmpty && s.prom.isEmpty)) := Lib.hid rfl
  obtain ⟨r, hr⟩ : ∃ r, setS s = r := ⟨_, rfl⟩
  rw [hr] at HS ⊢
  clear h hr
  generalize s.opn.isEmpty = b1 at e1 HS
  generalize s.grt.isEmpty = b2 at e2 HS
  generalize s.prom.isEmpty = b3 at e3 HS
  cases b1 <;> cases b2 <;> cases b3
  all_goals
    go_enter Try.func47, Try.ntmps47
    go_wp2_with fail
    first
    | (go_ret; exact ⟨ret_bool (by rw [HS.out]; rfl), rfl⟩)
    | exact ⟨ret_bool (by rw [HS.out]; rfl), rfl⟩
    | (go_wp2_with fail; go_ret; exact ⟨ret_bool (by rw [HS.out]; rfl), rfl⟩)

end Go.Proofs.Ytnoeiocbmhkmeaa

namespace Go.Proofs.Ytnoeiocbmhkmeaa
open Go.RowKit
set_option linter.unusedSimpArgs false

def settledN (N : Nx) : Bool := N.mail.isEmpty && N.sites.all setS
set_option maxRecDepth 100000 in
set_option maxHeartbeats 4000000 in
theorem Settled_any {B : Nat} {w : World} {N : Nx} (h : NetR B w N) (h0 : 1 ≤ N.sites.length) : Calls Try.prog 21 #[.pointer (some ⟨N.p, 0, none⟩)] w fun e w' => e = .returned (.bool (settledN N)) ∧ w' = w := by
  have HU := Lib.hid (usable_any h)
  rw [decide_eq_true (show 0 < N.sites.length by omega)] at HU
  have n0 := h.blk.cell 0
  have n1 := h.blk.cell 1
  obtain ⟨A, c, e1, hr⟩ := h.arr
  obtain ⟨A1, c1, e2, -⟩ := h.box
  simp only [List.getElem?_toArray, List.getElem?_cons_succ, List.getElem?_cons_zero] at n0 n1
  rw [e1] at n0
  rw [e2] at n1
  have hfew := h.few
  have HSI := Lib.hid (fun (i : Nat) s (hs : N.sites[i]? = some s) => setS_any w (h.siteIts hs))
  have HSP := Lib.hid (fun (i : Nat) s (hs : N.sites[i]? = some s) => h.spot5 hs)
  have HAL := Lib.hid (show settledN N = (N.mail.isEmpty && N.sites.all setS) from rfl)
  obtain ⟨r, hr'⟩ : ∃ r, settledN N = r := ⟨_, rfl⟩
  rw [hr'] at HAL ⊢
  have HE := Lib.hid e1
  clear hr' hr e2 e1 h
  cases hm : N.mail with
  | cons x l =>
    rw [hm] at n1 HAL
    have hpos : (0 : Int) < ((x :: l).length : Int) := by simp
    have HF : Hid (false = r) := Lib.hid (by rw [HAL.out]; rfl)
    generalize (x :: l).length = q1 at n1 hpos
    clear hm
    go_enter Try.func21, Try.ntmps21
    go_wp2_with fail
    refine HU.out.mono ?_
    rintro e w1 ⟨rfl, rfl⟩
    go_wp2_with fail
    go_ret
    exact ⟨ret_bool (by rw [← HF.out]), rfl⟩
  | nil =>
    rw [hm] at n1 HAL
    have HF : Hid (N.sites.all setS = r) := Lib.hid (by rw [HAL.out]; rfl)
    clear hm HAL
    obtain ⟨n, hn⟩ : ∃ n, N.sites.length = n := ⟨_, rfl⟩
    rw [hn] at n0 h0 hfew
    have HN := Lib.hid hn
    clear hn
    obtain ⟨q1, hq1⟩ : ∃ q1, ([] : List Ml).length = q1 := ⟨_, rfl⟩
    rw [hq1] at n1
    have hnp : ¬ (0 : Int) < (q1 : Int) := by simp at hq1; omega
    have hdb : decide ((0 : Int) < (q1 : Int)) = false := decide_eq_false hnp
    have hdc : decide (0 < q1) = false := decide_eq_false (by omega)
    clear hq1
    go_enter Try.func21, Try.ntmps21
    go_wp2_with fail
    refine HU.out.mono ?_
    rintro e w1 ⟨rfl, rfl⟩
    go_wp2_with fail
    go_loopw [21] (fun z wr => ∃ i : Nat, i ≤ n ∧ z = .int .i64 (i : Int) ∧ Hid (∀ s ∈ N.sites.take i, setS s = true) ∧ wr = w1) (fun z _ => n - (intOf z).toNat)
    case atStart => exact ⟨0, Nat.zero_le _, rfl, Lib.hid (fun s hs => by simp at hs), rfl⟩
    case round =>
      obtain ⟨i, hi, rfl, hall, rfl⟩ := hrel
      by_cases hlt : i < n
      · have hsi : N.sites[i]? = some (N.sites[i]'(by rw [HN.out]; exact hlt)) := List.getElem?_eq_getElem _
        generalize N.sites[i]'_ = s at hsi
        obtain ⟨b, off, c2, e3, hc⟩ := HSP.out i s hsi
        rw [HE.out] at e3
        injection e3 with e3 _ e4
        subst e3
        subst e4
        have HI := Lib.hid (HSI.out i s hsi)
        have hki : (i : Int) < (n : Int) := by omega
        have HSI2 := Lib.hid hsi
        clear hsi
        cases hv : setS s with
        | true =>
          rw [hv] at HI
          have HALL : Hid (∀ s ∈ N.sites.take (i + 1), setS s = true) := Lib.hid (fun y hy => by
            rw [List.take_add_one, HSI2.out, Option.toList_some, List.mem_append, List.mem_singleton] at hy
            rcases hy with hy | rfl
            · exact hall.out y hy
            · exact hv)
          clear hv
          go_wp2_with fail
          refine HI.out.mono ?_
          rintro e w2 ⟨rfl, rfl⟩
          go_wp2_with fail
          go_roundw
          case rel => exact ⟨i + 1, by omega, by go_num, HALL, by first | rfl | trivial⟩
          case measure => simp [intOf]; omega
        | false =>
          rw [hv] at HI
          have HFF : Hid (false = r) := Lib.hid (by
            rw [← HF.out]
            symm
            rw [Bool.eq_false_iff]
            intro ha
            have := List.all_eq_true.1 ha s (List.mem_of_getElem? HSI2.out)
            rw [hv] at this; cases this)
          clear hv
          go_wp2_with fail
          refine HI.out.mono ?_
          rintro e w2 ⟨rfl, rfl⟩
          go_wp2_with fail
          go_ret
          exact ⟨ret_bool (by rw [← HFF.out]), rfl⟩
      · obtain rfl : i = n := by omega
        have HFF : Hid (true = r) := Lib.hid (by
          rw [← HF.out]
          symm
          rw [List.all_eq_true]
          intro s hs
          exact hall.out s (by rw [List.take_of_length_le (by rw [HN.out]; exact Nat.le_refl _)]; exact hs))
        go_wp2_with fail
        go_ret
        exact ⟨ret_bool (by rw [← HFF.out]), rfl⟩

end Go.Proofs.Ytnoeiocbmhkmeaa
