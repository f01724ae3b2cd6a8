/- Layer 5: a net's site handles a letter. -/
import Derived.Test.YtnoeiocbmhkmeaaGreatBu10
namespace Go.Proofs.YtnoeiocbmhkmeaaGreat
open Go.RowKit
set_option linter.unusedSimpArgs false
set_option maxRecDepth 100000
set_option maxHeartbeats 80000000

theorem netHandle_any {B : Nat} {w : World} {N : Nx} {k : Nat} {s : Sx} (m : Ml) (Q : Sx → List Ml → Prop) (h : NetR B w N) (hml : N.mail.length ≤ 1024) (hk : N.sites[k]? = some s) (hto : m.2.1 = (k : Int)) (hup : s.up = true)
 (hq : ∀ s' l, Q s' l → l.length ≤ 1024)
 (HC : ∀ W, Gr w W → Calls Tryz.prog 70 #[.pointer (some ⟨s.p, 0, none⟩), .agg #[.int .i64 m.1, .int .i64 m.2.1, .int .i64 m.2.2.1, .int .i64 m.2.2.2.1, .int .i64 m.2.2.2.2]] W (fun e w' => ∃ s' l, Q s' l ∧ StepP B W s s' l e w')) :
 Calls Tryz.prog 52 #[.pointer (some ⟨N.p, 0, none⟩), .agg #[.int .i64 m.1, .int .i64 m.2.1, .int .i64 m.2.2.1, .int .i64 m.2.2.2.1, .int .i64 m.2.2.2.2]] w
  (fun e w' => e = .returned (.tuple #[]) ∧ ∃ s' l lv', Q s' l ∧ NetTo B w N { N with sites := N.sites.set k s', mail := N.mail ++ l.take (1024 - N.mail.length), lv := lv' } w') := by
 obtain ⟨f, t, kd, tx, n⟩ := m
 dsimp only at hto HC ⊢
 subst hto
 have HCC := Lib.hid HC
 have HQ := Lib.hid hq
 have HH := Lib.hid h
 have HK := Lib.hid hk
 have HML := Lib.hid hml
 have hkn : k < N.sites.length := (List.getElem?_eq_some_iff.1 hk).1
 have hki : (k : Int) < (N.sites.length : Int) := by omega
 have hk0 : (0 : Int) ≤ (k : Int) := by omega
 have n0 := h.blk.cell 0
 obtain ⟨b, off, c, e1, nb⟩ := h.spot5 hk
 simp only [List.getElem?_toArray, List.getElem?_cons_zero] at n0
 rw [e1] at n0
 have hu : w.cell? ⟨s.p, 2, none⟩ = some (.bool true) := by rw [← hup]; exact (h.site (List.mem_of_getElem? hk)).cell 2
 generalize N.sites.length = q at n0 hki hkn
 clear HC hq h hk e1 hml hup
 go_enter Tryz.func52, Tryz.ntmps52
 go_upto_region 1 with fail
 generalize hW1 : World.alloc w _ = w1
 have hg1 : Gr w w1 := by rw [← hW1]; exact (Gr.refl w).alloc _
 have hbk : Blk w1 w.heap.size 59 #[.int .i64 f, .int .i64 (k : Int), .int .i64 kd, .int .i64 tx, .int .i64 n] := by rw [← hW1]; exact Blk.new w _ _ rfl
 generalize w.heap.size = U at hbk ⊢
 have HB := Lib.hid hbk
 have u1 : w1.cell? ⟨U, 1, none⟩ = some (.int .i64 (k : Int)) := hbk.cell 1
 replace n0 := hg1.keep n0
 replace nb := hg1.keep nb
 replace hu := hg1.keep hu
 clear hW1 hbk
 refine wp_region_held_drew (S := (fun W' => W'.cell? ⟨N.p, 0, none⟩ = some (.slice (some ⟨b, off, none⟩) q c) ∧ W'.cell? ⟨U, 1, none⟩ = some (.int .i64 (k : Int)) ∧ W'.cell? ⟨b, off + k, none⟩ = some (.pointer (some ⟨s.p, 0, none⟩)))) ?_ ?_ (fun hHeld => ?_)
 ·kernel_rfl
 ·((try dsimp only); (try go_split_ands); (repeat' apply And.intro) <;> repeat first | assumption | exact Gr.refl _ | refine Gr.drew ?_ | refine Gr.alloc ?_ _ | refine alloc_old ?_ | refine Gr.keep (by assumption) ?_ | refine Gr.trans ?_ (by assumption))
 refine ti 0 (some 5) rfl rfl ?_; try simp only [Act.put, lA, lB, lC]
 refine ti 1 (some 6) rfl rfl ?_; try simp only [Act.put, lA, lB, lC]
 refine ti 2 (some 7) rfl rfl ?_; try simp only [Act.put, lA, lB, lC]
 refine ti 3 (some 8) rfl rfl ?_; try simp only [Act.put, lA, lB, lC]
 refine ti 4 (some 9) rfl rfl ?_; try simp only [Act.put, lA, lB, lC]
 refine ti 5 (some 10) rfl rfl ?_; try simp only [Act.put, lA, lB, lC]
 refine ti 6 (some 11) rfl rfl ?_; try simp only [Act.put, lA, lB, lC]
 refine ti 7 (some 12) rfl rfl ?_; try simp only [Act.put, lA, lB, lC]
 refine ti 8 (some 4) rfl rfl ?_; try simp only [Act.put, lA, lB, lC]
 refine wpAnyH_done ?_ ?_ _
 ·kernel_rfl
 rotate_left
 all_goals
  have hd := (Gr.refl w1).drew
  have hgr := hg1.trans hd
  have HB2 := Lib.hid (HB.out.keep hd)
  have u2 := hd.keep hu
  generalize World.drew w1 = w2 at hgr HB2 u2 ⊢
  clear hHeld n0 nb hu u1 hd hg1 HB
  have b0 : w2.cell? ⟨U, 0, none⟩ = some (.int .i64 f) := HB2.out.cell 0
  have b1 : w2.cell? ⟨U, 1, none⟩ = some (.int .i64 (k : Int)) := HB2.out.cell 1
  have b2 : w2.cell? ⟨U, 2, none⟩ = some (.int .i64 kd) := HB2.out.cell 2
  have b3 : w2.cell? ⟨U, 3, none⟩ = some (.int .i64 tx) := HB2.out.cell 3
  have b4 : w2.cell? ⟨U, 4, none⟩ = some (.int .i64 n) := HB2.out.cell 4
  go_wp2_with fail
  refine (HCC.out _ hgr).mono ?_
  rintro e w3 ⟨s', l, hql, hst⟩
  obtain ⟨⟨A, c3, rfl, hr, hcl⟩, hi, hch, hp, hbk⟩ := hst
  have HN3 := Lib.hid ((HH.out.keep hgr).step HK.out hi hch hp hbk)
  have HS := Lib.hid (send5_any A l.length c3 l w3 HN3.out.net rfl (HQ.out _ _ hql) hcl HML.out hr)
  have HQL := Lib.hid hql
  clear b0 b1 b2 b3 b4 u2 hi hch hp hbk hr hcl hql
  go_wp2_with fail
  refine HS.out.mono ?_
  rintro e w4 ⟨rfl, lv', hto⟩
  have HF := Lib.hid (NetTo.trans (NetTo.pre HN3.out hgr) hto)
  clear hto
  go_wp2_with fail
  exact end0p (by rfl) (by rfl) ⟨rfl, s', l, lv', HQL.out, HF.out⟩

set_option maxRecDepth 100000
set_option maxHeartbeats 80000000

theorem Deliver_any {B : Nat} {w : World} {N : Nx} {k : Nat} (m : Ml) (R : World → World → Prop) (h : NetR B w N) (hml : N.mail.length ≤ 1024) (hk : N.mail[k]? = some m) (h0 : 1 ≤ N.sites.length)
 (HC : ∀ W lv', NetR B W { N with mail := N.mail.eraseIdx k, lv := lv' } → Calls Tryz.prog 52 #[.pointer (some ⟨N.p, 0, none⟩), .agg #[.int .i64 m.1, .int .i64 m.2.1, .int .i64 m.2.2.1, .int .i64 m.2.2.2.1, .int .i64 m.2.2.2.2]] W (fun e w' => e = .returned (.tuple #[]) ∧ R W w')) :
 Calls Tryz.prog 20 #[.pointer (some ⟨N.p, 0, none⟩), .int .i64 (k : Int)] w
  (fun e w' => e = .returned (.int .i64 0) ∧ ∃ W lv', NetTo B w N { N with mail := N.mail.eraseIdx k, lv := lv' } W ∧ R W w') := by
 obtain ⟨f, t, kd, tx, n⟩ := m
 dsimp only at HC ⊢
 have hkn : k < N.mail.length := (List.getElem?_eq_some_iff.1 hk).1
 have hrl : refL N (k : Int) = 0 := by unfold refL; rw [if_neg (by omega), if_neg (by omega)]
 have HRL := Lib.hid (refLetter_any h (k : Int))
 rw [hrl] at HRL
 have HCC := Lib.hid HC
 have HRM := Lib.hid (fun W (hW : Gr w W) => remove_any k (h.keep hW) hkn hml)
 have HOW := Lib.hid h.own
 have n1 := h.blk.cell 1
 obtain ⟨A, c, e1, hr⟩ := h.box
 simp only [List.getElem?_toArray, List.getElem?_cons_succ, List.getElem?_cons_zero] at n1
 rw [e1] at n1
 obtain ⟨b, off, rfl, hc⟩ := hr k _ hk
 have l0 : w.cell? ⟨b, off + k * 5, none⟩ = some (.int .i64 f) := hc 0 _ rfl
 have l1 : w.cell? ⟨b, off + k * 5 + 1, none⟩ = some (.int .i64 t) := hc 1 _ rfl
 have l2 : w.cell? ⟨b, off + k * 5 + 2, none⟩ = some (.int .i64 kd) := hc 2 _ rfl
 have l3 : w.cell? ⟨b, off + k * 5 + 3, none⟩ = some (.int .i64 tx) := hc 3 _ rfl
 have l4 : w.cell? ⟨b, off + k * 5 + 4, none⟩ = some (.int .i64 n) := hc 4 _ rfl
 have hki : (k : Int) < (N.mail.length : Int) := by omega
 have hk0 : (0 : Int) ≤ (k : Int) := by omega
 generalize N.mail.length = q at n1 hki hkn
 clear HC h hk e1 hml hr hc hrl h0
 go_enter Tryz.func20, Tryz.ntmps20
 go_wp2_with fail
 refine HRL.out.mono ?_
 rintro e w1 ⟨rfl, rfl⟩
 go_upto_region 5 with fail
 generalize hW2 : World.alloc w1 _ = w2
 have hg2 : Gr w1 w2 := by rw [← hW2]; exact (Gr.refl w1).alloc _
 have hbk : Blk w2 w1.heap.size 59 #[.int .i64 f, .int .i64 t, .int .i64 kd, .int .i64 tx, .int .i64 n] := by rw [← hW2]; exact Blk.new w1 _ _ rfl
 have hno : w1.heap.size ∉ ownB N := fun hm => by have := (HOW.out _ hm).2; omega
 generalize w1.heap.size = Z at hbk hno ⊢
 have HB := Lib.hid hbk
 have HNO := Lib.hid hno
 clear hW2 hbk hno l0 l1 l2 l3 l4 n1
 go_wp2_with fail
 refine (HRM.out _ hg2).mono ?_
 rintro e w3 ⟨rfl, lv', hto⟩
 have hb3 : Blk w3 Z 59 #[.int .i64 f, .int .i64 t, .int .i64 kd, .int .i64 tx, .int .i64 n] := (hto.ch.block Z HB.out.lt HNO.out).trans HB.out
 have HTO := Lib.hid (NetTo.pre hto hg2)
 have HCL := Lib.hid (HCC.out w3 lv' hto.net)
 have b0 : w3.cell? ⟨Z, 0, none⟩ = some (.int .i64 f) := hb3.cell 0
 have b1 : w3.cell? ⟨Z, 1, none⟩ = some (.int .i64 t) := hb3.cell 1
 have b2 : w3.cell? ⟨Z, 2, none⟩ = some (.int .i64 kd) := hb3.cell 2
 have b3 : w3.cell? ⟨Z, 3, none⟩ = some (.int .i64 tx) := hb3.cell 3
 have b4 : w3.cell? ⟨Z, 4, none⟩ = some (.int .i64 n) := hb3.cell 4
 clear hto hb3 hg2
 go_wp2_with fail
 refine HCL.out.mono ?_
 rintro e w4 ⟨rfl, hR⟩
 have HR := Lib.hid hR
 clear hR b0 b1 b2 b3 b4
 go_wp2_with fail
 go_ret
 exact ⟨rfl, w3, lv', HTO.out, HR.out⟩

set_option maxRecDepth 100000
set_option maxHeartbeats 80000000

def setS (s : Sx) : Bool := s.opn.isEmpty && s.grt.isEmpty && s.prom.isEmpty
theorem setS_any {B : Nat} {s : Sx} (w : World) (h : Its B w (siteIt s)) : Calls Tryz.prog 66 #[.pointer (some ⟨s.p, 0, none⟩)] w fun e w' => e = .returned (.bool (setS s)) ∧ w' = w := by
 obtain ⟨-, -, -, c3, -, -, c6, c7⟩ := h.sCells
 have q1 := fun ty => h.sOpn.len Tryz.underlying82 ty
 have q2 := fun ty => h.sGrt.len Tryz.underlying82 ty
 have q3 := fun ty => h.sProm.len Tryz.underlying80 ty
 have e1 : ((s.opn.length : Int) == 0) = s.opn.isEmpty := by cases s.opn <;> simp; omega
 have e2 : ((s.grt.length : Int) == 0) = s.grt.isEmpty := by cases s.grt <;> simp; omega
 have e3 : ((s.prom.length : Int) == 0) = s.prom.isEmpty := by cases s.prom <;> simp; omega
 have HS : Hid (setS s = (s.opn.isEmpty && s.grt.isEmpty && s.prom.isEmpty)) := Lib.hid rfl
 obtain ⟨r, hr⟩ : ∃ r, setS s = r := ⟨_, rfl⟩
 rw [hr] at HS ⊢
 clear h hr
 generalize s.opn.isEmpty = b1 at e1 HS
 generalize s.grt.isEmpty = b2 at e2 HS
 generalize s.prom.isEmpty = b3 at e3 HS
 cases b1 <;> cases b2 <;> cases b3
 all_goals
  go_enter Tryz.func66, Tryz.ntmps66
  go_wp2_with fail
  first
  | (go_ret; exact ⟨ret_bool (by rw [HS.out]; rfl), rfl⟩)
  | exact ⟨ret_bool (by rw [HS.out]; rfl), rfl⟩
  | (go_wp2_with fail; go_ret; exact ⟨ret_bool (by rw [HS.out]; rfl), rfl⟩)

set_option maxRecDepth 100000
set_option maxHeartbeats 80000000

def settledN (N : Nx) : Bool := N.mail.isEmpty && N.sites.all setS
theorem Settled_any {B : Nat} {w : World} {N : Nx} (h : NetR B w N) (h0 : 1 ≤ N.sites.length) : Calls Tryz.prog 39 #[.pointer (some ⟨N.p, 0, none⟩)] w fun e w' => e = .returned (.bool (settledN N)) ∧ w' = w := by
 have HU := Lib.hid (usable_any h)
 rw [decide_eq_true (show 0 < N.sites.length by omega)] at HU
 have n0 := h.blk.cell 0
 have n1 := h.blk.cell 1
 obtain ⟨A, c, e1, hr⟩ := h.arr
 obtain ⟨A1, c1, e2, -⟩ := h.box
 simp only [List.getElem?_toArray, List.getElem?_cons_succ, List.getElem?_cons_zero] at n0 n1
 rw [e1] at n0
 rw [e2] at n1
 have hfew := h.few
 have HSI := Lib.hid (fun (i : Nat) s (hs : N.sites[i]? = some s) => setS_any w (h.siteIts hs))
 have HSP := Lib.hid (fun (i : Nat) s (hs : N.sites[i]? = some s) => h.spot5 hs)
 have HAL := Lib.hid (show settledN N = (N.mail.isEmpty && N.sites.all setS) from rfl)
 obtain ⟨r, hr'⟩ : ∃ r, settledN N = r := ⟨_, rfl⟩
 rw [hr'] at HAL ⊢
 have HE := Lib.hid e1
 clear hr' hr e2 e1 h
 cases hm : N.mail with
 | cons x l =>
   rw [hm] at n1 HAL
   have hpos : (0 : Int) < ((x :: l).length : Int) := by simp
   have HF : Hid (false = r) := Lib.hid (by rw [HAL.out]; rfl)
   generalize (x :: l).length = q1 at n1 hpos
   clear hm
   go_enter Tryz.func39, Tryz.ntmps39
   go_wp2_with fail
   refine HU.out.mono ?_
   rintro e w1 ⟨rfl, rfl⟩
   go_wp2_with fail
   go_ret
   exact ⟨ret_bool (by rw [← HF.out]), rfl⟩
 | nil =>
   rw [hm] at n1 HAL
   have HF : Hid (N.sites.all setS = r) := Lib.hid (by rw [HAL.out]; rfl)
   clear hm HAL
   obtain ⟨n, hn⟩ : ∃ n, N.sites.length = n := ⟨_, rfl⟩
   rw [hn] at n0 h0 hfew
   have HN := Lib.hid hn
   clear hn
   obtain ⟨q1, hq1⟩ : ∃ q1, ([] : List Ml).length = q1 := ⟨_, rfl⟩
   rw [hq1] at n1
   have hnp : ¬ (0 : Int) < (q1 : Int) := by simp at hq1; omega
   have hdb : decide ((0 : Int) < (q1 : Int)) = false := decide_eq_false hnp
   have hdc : decide (0 < q1) = false := decide_eq_false (by omega)
   clear hq1
   go_enter Tryz.func39, Tryz.ntmps39
   go_wp2_with fail
   refine HU.out.mono ?_
   rintro e w1 ⟨rfl, rfl⟩
   go_wp2_with fail
   go_loopw [21] (fun z wr => ∃ i : Nat, i ≤ n ∧ z = .int .i64 (i : Int) ∧ Hid (∀ s ∈ N.sites.take i, setS s = true) ∧ wr = w1) (fun z _ => n - (intOf z).toNat)
   case atStart => exact ⟨0, Nat.zero_le _, rfl, Lib.hid (fun s hs => by simp at hs), rfl⟩
   case round =>
    obtain ⟨i, hi, rfl, hall, rfl⟩ := hrel
    by_cases hlt : i < n
    ·have hsi : N.sites[i]? = some (N.sites[i]'(by rw [HN.out]; exact hlt)) := List.getElem?_eq_getElem _
     generalize N.sites[i]'_ = s at hsi
     obtain ⟨b, off, c2, e3, hc⟩ := HSP.out i s hsi
     rw [HE.out] at e3
     injection e3 with e3 _ e4
     subst e3
     subst e4
     have HI := Lib.hid (HSI.out i s hsi)
     have hki : (i : Int) < (n : Int) := by omega
     have HSI2 := Lib.hid hsi
     clear hsi
     cases hv : setS s with
     | true =>
       rw [hv] at HI
       have HALL : Hid (∀ s ∈ N.sites.take (i + 1), setS s = true) := Lib.hid (fun y hy => by
        rw [List.take_add_one, HSI2.out, Option.toList_some, List.mem_append, List.mem_singleton] at hy
        rcases hy with hy | rfl
        ·exact hall.out y hy
        ·exact hv)
       clear hv
       go_wp2_with fail
       refine HI.out.mono ?_
       rintro e w2 ⟨rfl, rfl⟩
       go_wp2_with fail
       go_roundw
       case rel => exact ⟨i + 1, by omega, by go_num, HALL, by first | rfl | trivial⟩
       case measure => simp [intOf]; omega
     | false =>
       rw [hv] at HI
       have HFF : Hid (false = r) := Lib.hid (by
        rw [← HF.out]
        symm
        rw [Bool.eq_false_iff]
        intro ha
        have := List.all_eq_true.1 ha s (List.mem_of_getElem? HSI2.out)
        rw [hv] at this; cases this)
       clear hv
       go_wp2_with fail
       refine HI.out.mono ?_
       rintro e w2 ⟨rfl, rfl⟩
       go_wp2_with fail
       go_ret
       exact ⟨ret_bool (by rw [← HFF.out]), rfl⟩
    ·obtain rfl : i = n := by omega
     have HFF : Hid (true = r) := Lib.hid (by
      rw [← HF.out]
      symm
      rw [List.all_eq_true]
      intro s hs
      exact hall.out s (by rw [List.take_of_length_le (by rw [HN.out]; exact Nat.le_refl _)]; exact hs))
     go_wp2_with fail
     go_ret
     exact ⟨ret_bool (by rw [← HFF.out]), rfl⟩

end Go.Proofs.YtnoeiocbmhkmeaaGreat

namespace Go.Proofs.YtnoeiocbmhkmeaaGreat
set_option linter.unusedSimpArgs false
set_option maxRecDepth 100000
set_option maxHeartbeats 80000000

def dz (d : Dl) : Dl := { d with b := 0, c := 0, g := 0 }
def dzs (l : List (Int × Dl)) : List (Int × Dl) := l.map fun e => (e.1, dz e.2)
def nz (s : Sx) : Sx := { s with opn := dzs s.opn, grt := dzs s.grt, p := 0, mp := 0, mq := 0, mr := 0, mo := 0, mg := 0 }
def nzN (N : Nx) : Nx := ⟨N.sites.map nz, N.mail, N.begun, 0, .slice none 0 0, .slice none 0 0⟩
def dl0 (ps : List Mv) : Dl := ⟨ps, missOf ps, 0, 0, 0⟩
def agrS (s : Sx) (f tx : Int) : Sx := match mget s.opn tx with
 | some d => if (mdel d.miss f).isEmpty then { s with opn := mdel s.opn tx, grt := mput s.grt tx (dl0 d.parts) } else { s with opn := mput s.opn tx { d with miss := mdel d.miss f } }
 | none => s
def agrL (s : Sx) (m : Ml) : List Ml := match mget s.opn m.2.2.2.1 with
 | some d => if (mdel d.miss m.1).isEmpty then wrL s 4 m.2.2.2.1 d.parts else []
 | none => match mget s.grt m.2.2.2.1 with
   | none => [repL s m 5]
   | some d => if (mget d.miss m.1).getD false then [repL s m 4] else []
def otherL (ps : List Mv) (f : Int) : List Mv := ps.filter fun p => p.1 != f
def disS (s : Sx) (tx : Int) : Sx := match mget s.opn tx with
 | some _ => { s with opn := mdel s.opn tx }
 | none => s
def disL (s : Sx) (f tx : Int) : List Ml := match mget s.opn tx with
 | some d => wrL s 5 tx (otherL d.parts f)
 | none => []
def aboS (s : Sx) (tx : Int) : Sx := if (mget s.prom tx).isSome then { s with prom := mdel s.prom tx, drop := mput s.drop tx true } else s
def finS (s : Sx) (f tx : Int) : Sx := match mget s.grt tx with
 | some d => if (mdel d.miss f).isEmpty then { s with grt := mdel s.grt tx } else { s with grt := mput s.grt tx { d with miss := mdel d.miss f } }
 | none => s
def telL (s : Sx) (m : Ml) : List Ml := if (mget s.grt m.2.2.2.1).isSome then [repL s m 4] else if (mget s.opn m.2.2.2.1).isSome then [] else [repL s m 5]
def han (s : Sx) (m : Ml) : Sx × List Ml :=
 if m.2.2.1 = 1 then (askS s m, askL s m) else if m.2.2.1 = 2 then (agrS s m.1 m.2.2.2.1, agrL s m) else if m.2.2.1 = 3 then (disS s m.2.2.2.1, disL s m.1 m.2.2.2.1)
 else if m.2.2.1 = 4 then (keepS s m.2.2.2.1, keepL s m) else if m.2.2.1 = 5 then (aboS s m.2.2.2.1, []) else if m.2.2.1 = 6 then (finS s m.1 m.2.2.2.1, []) else (s, telL s m)
def handN (N : Nx) (m : Ml) : Nx := match N.sites[m.2.1.toNat]? with
 | none => N
 | some s => if s.up then { N with sites := N.sites.set m.2.1.toNat (han s m).1, mail := N.mail ++ (han s m).2.take (1024 - N.mail.length) } else N
def delN (N : Nx) (k : Nat) : Nx := match N.mail[k]? with
 | none => N
 | some m => handN { N with mail := N.mail.eraseIdx k } m
def begN (N : Nx) (k : Nat) (ps : List Mv) : Nx := match N.sites[k]? with
 | none => N
 | some s => { N with sites := N.sites.set k { s with opn := s.opn ++ [(N.begun + 1, dl0 ps)] }, mail := N.mail ++ (wrL s 1 (N.begun + 1) ps).take (1024 - N.mail.length), begun := N.begun + 1 }

theorem mget_dz (l : List (Int × Dl)) (a : Int) : mget (dzs l) a = (mget l a).map dz := by
 unfold mget dzs
 rw [List.find?_map, Option.map_map, Option.map_map]
 rfl
theorem mdel_dz (l : List (Int × Dl)) (a : Int) : mdel (dzs l) a = dzs (mdel l a) := by
 unfold mdel dzs
 rw [List.filter_map]
 rfl
theorem mput_dz (l : List (Int × Dl)) (a : Int) (d : Dl) : mput (dzs l) a (dz d) = dzs (mput l a d) := by
 unfold mput
 rw [mget_dz, Option.isSome_map]
 split
 ·unfold dzs
  rw [List.map_map, List.map_map]
  apply List.map_congr_left
  intro e _
  simp only [Function.comp]
  split <;> rfl
 ·unfold dzs; rw [List.map_append]; rfl
theorem askS_nz (s : Sx) (m : Ml) : askS (nz s) m = nz (askS s m) := by
 unfold askS
 show (if outS s m.2.2.2.1 ≠ 0 then nz s else if posS s m.2.2.2.2 then _ else _) = _
 repeat' split
 all_goals rfl
theorem keepS_nz (s : Sx) (tx : Int) : keepS (nz s) tx = nz (keepS s tx) := by
 unfold keepS
 show (if (mget s.prom tx).isSome then _ else nz s) = _
 split <;> rfl
theorem aboS_nz (s : Sx) (tx : Int) : aboS (nz s) tx = nz (aboS s tx) := by
 unfold aboS
 show (if (mget s.prom tx).isSome then _ else nz s) = _
 split <;> rfl
theorem keepL_nz (s : Sx) (m : Ml) : keepL (nz s) m = keepL s m := by
 unfold keepL
 rw [keepS_nz]
 rfl
theorem agrS_nz (s : Sx) (f tx : Int) : agrS (nz s) f tx = nz (agrS s f tx) := by
 unfold agrS
 show (match mget (dzs s.opn) tx with | some d => _ | none => nz s) = _
 rw [mget_dz]
 cases mget s.opn tx with
 | none => rfl
 | some d =>
   dsimp only [Option.map_some]
   show (if (mdel d.miss f).isEmpty then ({ nz s with opn := mdel (dzs s.opn) tx, grt := mput (dzs s.grt) tx (dz (dl0 d.parts)) } : Sx) else { nz s with opn := mput (dzs s.opn) tx (dz { d with miss := mdel d.miss f }) }) = _
   split
   ·rw [mdel_dz, mput_dz]; rfl
   ·rw [mput_dz]; rfl
theorem agrL_nz (s : Sx) (m : Ml) : agrL (nz s) m = agrL s m := by
 unfold agrL
 show (match mget (dzs s.opn) m.2.2.2.1 with | some d => _ | none => (match mget (dzs s.grt) m.2.2.2.1 with | none => _ | some d => _)) = _
 rw [mget_dz, mget_dz]
 cases mget s.opn m.2.2.2.1 with
 | none =>
   cases mget s.grt m.2.2.2.1 <;> rfl
 | some d => rfl
theorem disS_nz (s : Sx) (tx : Int) : disS (nz s) tx = nz (disS s tx) := by
 unfold disS
 show (match mget (dzs s.opn) tx with | some d => ({ nz s with opn := mdel (dzs s.opn) tx } : Sx) | none => nz s) = _
 rw [mget_dz, mdel_dz]
 cases mget s.opn tx <;> rfl
theorem disL_nz (s : Sx) (f tx : Int) : disL (nz s) f tx = disL s f tx := by
 unfold disL
 show (match mget (dzs s.opn) tx with | some d => _ | none => _) = _
 rw [mget_dz]
 cases mget s.opn tx <;> rfl
theorem finS_nz (s : Sx) (f tx : Int) : finS (nz s) f tx = nz (finS s f tx) := by
 unfold finS
 show (match mget (dzs s.grt) tx with | some d => _ | none => nz s) = _
 rw [mget_dz]
 cases mget s.grt tx with
 | none => rfl
 | some d =>
   dsimp only [Option.map_some]
   show (if (mdel d.miss f).isEmpty then ({ nz s with grt := mdel (dzs s.grt) tx } : Sx) else { nz s with grt := mput (dzs s.grt) tx (dz { d with miss := mdel d.miss f }) }) = _
   split
   ·rw [mdel_dz]; rfl
   ·rw [mput_dz]; rfl
theorem telL_nz (s : Sx) (m : Ml) : telL (nz s) m = telL s m := by
 unfold telL
 show (if (mget (dzs s.grt) m.2.2.2.1).isSome then _ else if (mget (dzs s.opn) m.2.2.2.1).isSome then _ else _) = _
 rw [mget_dz, mget_dz, Option.isSome_map, Option.isSome_map]
 rfl
theorem han_nz (s : Sx) (m : Ml) : han (nz s) m = (nz (han s m).1, (han s m).2) := by
 unfold han
 rw [askS_nz, agrS_nz, agrL_nz, disS_nz, disL_nz, keepS_nz, keepL_nz, aboS_nz, finS_nz, telL_nz, show askL (nz s) m = askL s m from rfl]
 repeat' split
 all_goals rfl
theorem nz_len (N : Nx) : (nzN N).sites.length = N.sites.length := by unfold nzN; simp
theorem nz_site {N : Nx} {k : Nat} {s : Sx} (h : N.sites[k]? = some s) : (nzN N).sites[k]? = some (nz s) := by
 show (N.sites.map nz)[k]? = _
 rw [List.getElem?_map, h]; rfl
theorem refS_nz (N : Nx) (i : Int) : refS (nzN N) i = refS N i := by unfold refS; rw [nz_len]
theorem refL_nz (N : Nx) (i : Int) : refL (nzN N) i = refL N i := by unfold refL; rw [nz_len]; rfl
theorem refD_nz (N : Nx) (i : Int) : refD (nzN N) i = refD N i := by
 unfold refD
 rw [refS_nz]
 show (if refS N i ≠ 0 then _ else if ((N.sites.map nz)[i.toNat]?.map (·.up)).getD true then _ else _) = _
 rw [List.getElem?_map, Option.map_map]
 rfl
theorem stockN_nz (N : Nx) (i : Int) : stockN (nzN N) i = stockN N i := by
 unfold stockN
 rw [refS_nz]
 show (if refS N i ≠ 0 then 0 else ((N.sites.map nz)[i.toNat]?.map (·.stock)).getD 0) = _
 rw [List.getElem?_map, Option.map_map]
 rfl
theorem okFrom_nz (N : Nx) : ∀ (ps : List Mv) (seen : List Int) (sm : Int), okFrom (nzN N) seen sm ps = okFrom N seen sm ps
 | [], _, _ => rfl
 | p :: r, seen, sm => by
   unfold okFrom
   rw [refS_nz, okFrom_nz N r]
theorem okTx_nz (N : Nx) (ps : List Mv) : okTx (nzN N) ps = okTx N ps := by unfold okTx; rw [okFrom_nz]
theorem setS_nz (s : Sx) : setS (nz s) = setS s := by
 unfold setS
 show ((dzs s.opn).isEmpty && (dzs s.grt).isEmpty && s.prom.isEmpty) = _
 unfold dzs
 rw [List.isEmpty_map, List.isEmpty_map]
theorem settledN_nz (N : Nx) : settledN (nzN N) = settledN N := by
 unfold settledN
 show (N.mail.isEmpty && (N.sites.map nz).all setS) = _
 rw [List.all_map]
 congr 1
 apply List.all_congr rfl
 intro s
 exact setS_nz s
theorem nz_set (N : Nx) (k : Nat) (s' : Sx) (ml : List Ml) (lv : Value) (b : Int) (p : Nat) (sv : Value) : nzN ⟨N.sites.set k s', ml, b, p, sv, lv⟩ = { nzN N with sites := (nzN N).sites.set k (nz s'), mail := ml, begun := b } := by
 unfold nzN
 dsimp only
 rw [List.map_set]
theorem nz_mail (N : Nx) (ml : List Ml) (lv : Value) : nzN { N with mail := ml, lv := lv } = { nzN N with mail := ml } := rfl
theorem begN_nz (N : Nx) (k : Nat) (ps : List Mv) : begN (nzN N) k ps = nzN (begN N k ps) := by
 unfold begN
 show (match (N.sites.map nz)[k]? with | none => nzN N | some s => ({ nzN N with sites := (nzN N).sites.set k { s with opn := s.opn ++ [(N.begun + 1, dl0 ps)] }, mail := N.mail ++ (wrL s 1 (N.begun + 1) ps).take (1024 - N.mail.length), begun := N.begun + 1 } : Nx)) = _
 rw [List.getElem?_map]
 cases N.sites[k]? with
 | none => rfl
 | some s =>
   dsimp only [Option.map_some]
   refine Eq.trans ?_ (nz_set N k { s with opn := s.opn ++ [(N.begun + 1, dl0 ps)] } _ N.lv (N.begun + 1) N.p N.sv).symm
   congr 2
   unfold nz dzs
   simp [dl0, dz]

end Go.Proofs.YtnoeiocbmhkmeaaGreat
