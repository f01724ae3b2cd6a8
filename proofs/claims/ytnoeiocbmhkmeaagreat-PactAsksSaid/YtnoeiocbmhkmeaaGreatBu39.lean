/- Layer 5: the reference's Outcome and Settled; the law's same. -/
import Derived.Test.YtnoeiocbmhkmeaaGreatBu38
import Derived.Test.YtnoeiocbmhkmeaaGreatBu19
import Derived.Test.YtnoeiocbmhkmeaaGreatBu0
import Derived.Deep.AppendLies
namespace Go.Proofs.YtnoeiocbmhkmeaaGreat
open Go.RowKit
set_option linter.unusedSimpArgs false
set_option maxRecDepth 100000
set_option maxHeartbeats 80000000

theorem XRd.gr {w w' : World} {L : LN} (h : XRd w L) (hg : Gr w w') : XRd w' L := by
 have key : ∀ {α : Type} {k : Nat} {enc : α → List Value} {v : Value} {xs : List α}, RdV k enc w v xs → RdV k enc w' v xs := fun ⟨A, c, e, h1, h2, h3⟩ => ⟨A, c, e, h1, h2, h3.keep hg⟩
 exact ⟨key h.sv, key h.tv, key h.lv, fun s hs => key (h.mv s hs), fun s hs => key (h.hv s hs), fun s hs => key (h.pv s hs)⟩
theorem xoutcome_any (L : LN) (i t : Int) (w : World) (h : XRd w L) (hl : XLe L.era) : Calls Tryz.prog 42 #[L.v, .int .i64 i, .int .i64 t] w fun e w' => e = .returned (.int .i64 (xOutc L.era i t)) ∧ Gr w w' := by
 obtain ⟨As, At, Al, n, m, l, cs, ct, cl, hsh⟩ := h.shp
 have h8 : n ≤ 8 := by have := hl.s8; rw [lens_era.1, hsh.n] at this; exact this
 have h256 : m ≤ 256 := by have := hl.tx; rw [lens_era.2.1, hsh.m] at this; exact this
 have HL := Lib.hid hl
 have HH := Lib.hid h
 have HO : Hid (xOutc L.era i t = if 0 ≤ i ∧ i < (n : Int) ∧ 1 ≤ t ∧ t ≤ (m : Int) then (xMindAt L.era i t).1 else 0) := Lib.hid (by unfold xOutc; rw [lens_era.1, lens_era.2.1, hsh.n, hsh.m])
 have HSH := Lib.hid hsh
 rw [hsh.v]
 obtain ⟨r, hr⟩ : ∃ r, xOutc L.era i t = r := ⟨_, rfl⟩
 rw [hr] at HO ⊢
 clear h hl hsh hr
 go_enter Tryz.func42, Tryz.ntmps42
 go_upto_region 1 with fail
 generalize hW1 : World.alloc w _ = w1
 obtain ⟨hg1, b0, b1, b2⟩ := box3 hW1
 have HG := Lib.hid hg1
 generalize w.heap.size = g at b0 b1 b2 ⊢
 clear hW1 hg1
 by_cases hi : 0 ≤ i ∧ i < (n : Int)
 ·have HSI := Lib.hid (fun W => by
   have := xsite_any As n cs (.slice At m ct) (.slice Al l cl) i W
   rw [decide_eq_true hi] at this
   exact this)
  obtain ⟨a, rfl⟩ : ∃ a : Nat, i = (a : Int) := ⟨i.toNat, by omega⟩
  have ha : a < n := by omega
  have hai : (a : Int) < (n : Int) := by omega
  have ha0 : (0 : Int) ≤ (a : Int) := by omega
  clear hi
  by_cases ht0 : t < 1
  ·have hd : Hid (r = 0) := Lib.hid (by rw [HO.out, if_neg (by omega)])
   go_wp2_with fail
   refine (HSI.out _).mono ?_
   rintro e w2 ⟨rfl, hg2⟩
   have HG2 := Lib.hid hg2
   replace b1 := hg2.keep b1
   clear hg2 b0 b2
   go_wp2_with fail
   go_ret
   exact ⟨ret_int hd.out.symm, HG.out.trans HG2.out⟩
  ·by_cases ht1 : (m : Int) < t
   ·have hd : Hid (r = 0) := Lib.hid (by rw [HO.out, if_neg (by omega)])
    go_wp2_with fail
    refine (HSI.out _).mono ?_
    rintro e w2 ⟨rfl, hg2⟩
    have HG2 := Lib.hid hg2
    replace b1 := hg2.keep b1
    clear hg2 b0 b2
    go_wp2_with fail
    go_ret
    exact ⟨ret_int hd.out.symm, HG.out.trans HG2.out⟩
   ·obtain ⟨k, rfl⟩ : ∃ k : Nat, t = (k : Int) + 1 := ⟨(t - 1).toNat, by omega⟩
    have hk : k < m := by omega
    have hki : (k : Int) < (m : Int) := by omega
    have hk0 : (0 : Int) ≤ (k : Int) := by omega
    obtain ⟨s, hs⟩ := site_at (L := L) a (by rw [HSH.out.n]; exact ha)
    have hd : Hid (r = (s.minds.getD k (0, (0, 0))).1) := Lib.hid (by rw [HO.out, if_pos ⟨by omega, by omega, by omega, by omega⟩, xMindAt_era hs])
    go_wp2_with fail
    refine (HSI.out _).mono ?_
    rintro e w2 ⟨rfl, hg2⟩
    have HG2 := Lib.hid hg2
    replace b0 := hg2.keep b0
    replace b1 := hg2.keep b1
    have hrd : XRd w2 L := HH.out.gr (HG.out.trans hg2)
    obtain ⟨b, off, c', hsv, -, -, -, c2⟩ := hrd.site3 hs
    rw [HSH.out.sv, HSH.out.n] at hsv
    injection hsv with hAs _ hcc
    subst hAs
    subst hcc
    have hmn : s.minds.length = m := by rw [HL.out.minds hs]; exact HSH.out.m
    obtain ⟨Am, cm, hmv, -, -, hmr⟩ := hrd.mv s (List.mem_of_getElem? hs)
    rw [hmn] at hmv
    rw [hmv] at c2
    obtain ⟨b3, o3, rfl, hcl⟩ := hmr k _ (getD_of (0, (0, 0)) (by omega))
    have o0 := hcl 0 _ rfl
    rw [Nat.add_zero] at o0
    clear hg2 b2 hrd hs hmn hmv hmr hcl
    go_wp2_with fail
    go_ret
    exact ⟨ret_int hd.out.symm, HG.out.trans HG2.out⟩
 ·have HSI := Lib.hid (fun W => by
   have := xsite_any As n cs (.slice At m ct) (.slice Al l cl) i W
   rw [decide_eq_false hi] at this
   exact this)
  have hd : Hid (r = 0) := Lib.hid (by rw [HO.out, if_neg (fun hc => hi ⟨hc.1, hc.2.1⟩)])
  clear hi
  go_wp2_with fail
  refine (HSI.out _).mono ?_
  rintro e w2 ⟨rfl, hg2⟩
  have HG2 := Lib.hid hg2
  clear hg2 b0 b1 b2
  go_wp2_with fail
  go_ret
  exact ⟨ret_int hd.out.symm, HG.out.trans HG2.out⟩

section
variable {X : XN}
theorem settled_no {j : Nat} (hj : j < X.txs.length) (h : (xTx X ((j : Int) + 1)).is ≠ 0 ∨ ∃ k, k < X.sites.length ∧ (xMindAt X (k : Int) ((j : Int) + 1)).1 = 1) : xSettled X = false := by
 have hm : ((j : Int) + 1) ∈ numsT X.txs.length := mem_numsT.2 (by omega)
 unfold xSettled
 rw [Bool.and_eq_false_iff]
 refine Or.inr ?_
 rw [List.all_eq_false]
 refine ⟨_, hm, ?_⟩
 rcases h with h | ⟨k, hk, h⟩
 ·simp [h]
 ·intro hc
  rw [Bool.and_eq_true, List.all_eq_true] at hc
  have := hc.2 k (List.mem_range.2 hk)
  simp [h] at this
theorem settled_yes (hm : X.mail = []) (h : ∀ j, j < X.txs.length → (xTx X ((j : Int) + 1)).is = 0 ∧ ∀ k, k < X.sites.length → (xMindAt X (k : Int) ((j : Int) + 1)).1 ≠ 1) : xSettled X = true := by
 unfold xSettled
 rw [hm, Bool.and_eq_true, List.all_eq_true]
 refine ⟨rfl, fun t ht => ?_⟩
 have h1 := mem_numsT.1 ht
 obtain ⟨j, rfl⟩ : ∃ j : Nat, t = (j : Int) + 1 := ⟨(t - 1).toNat, by omega⟩
 obtain ⟨h2, h3⟩ := h j (by omega)
 rw [Bool.and_eq_true, List.all_eq_true]
 refine ⟨by simp [h2], fun k hk => ?_⟩
 have := h3 k (List.mem_range.1 hk)
 simp [this]
end
theorem xsettled_any (L : LN) (w : World) (h : XRd w L) (hl : XLe L.era) : Calls Tryz.prog 40 #[L.v] w fun e w' => e = .returned (.bool (xSettled L.era)) ∧ Gr w w' := by
 obtain ⟨As, At, Al, n, m, l, cs, ct, cl, hsh⟩ := h.shp
 have h8 : n ≤ 8 := by have := hl.s8; rw [lens_era.1, hsh.n] at this; exact this
 have h256 : m ≤ 256 := by have := hl.tx; rw [lens_era.2.1, hsh.m] at this; exact this
 have HL := Lib.hid hl
 have HH := Lib.hid h
 have HSH := Lib.hid hsh
 have HLN : Hid (L.era.sites.length = n ∧ L.era.txs.length = m) := Lib.hid ⟨by rw [lens_era.1, hsh.n], by rw [lens_era.2.1, hsh.m]⟩
 have HOU : Hid (∀ W, Gr w W → ∀ i t, Calls Tryz.prog 42 #[.agg #[.slice As n cs, .slice At m ct, .slice Al l cl], .int .i64 i, .int .i64 t] W fun e w' => e = .returned (.int .i64 (xOutc L.era i t)) ∧ Gr W w') := Lib.hid (fun W hW i t => by
  have := xoutcome_any L i t W (h.gr hW) hl
  rw [hsh.v] at this
  exact this)
 rw [hsh.v]
 obtain ⟨r, hr⟩ : ∃ r, xSettled L.era = r := ⟨_, rfl⟩
 have HR := Lib.hid hr
 rw [hr]
 clear h hl hsh hr
 go_enter Tryz.func40, Tryz.ntmps40
 go_upto_region 1 with fail
 generalize hW1 : World.alloc w _ = w1
 have hgz : w.heap.size = w.heap.size := rfl
 obtain ⟨g, hg⟩ : ∃ g, w.heap.size = g := ⟨_, rfl⟩
 have k1 : Blk w1 g 33 #[.slice As n cs, .slice At m ct, .slice Al l cl] := by rw [← hW1]; exact Blk.new _ _ _ hg
 have hg1 : Gr w w1 := by rw [← hW1]; exact (Gr.refl w).alloc _
 have HK := Lib.hid k1
 have HG := Lib.hid hg1
 rw [hg]
 have b2 := k1.cell 2
 simp only [List.getElem?_toArray, List.getElem?_cons_succ, List.getElem?_cons_zero] at b2
 clear hW1 hg1 k1 hg hgz
 by_cases hl0 : 0 < l
 ·have hd : Hid (r = false) := Lib.hid (by
   rw [← HR.out]
   unfold xSettled
   have : L.era.mail ≠ [] := fun e => by
    have h1 : L.mail = [] := e
    have := HSH.out.l
    rw [h1] at this
    simp at this
    omega
   cases e : L.era.mail with
   | nil => exact absurd e this
   | cons x y => rfl)
  have hli : (0 : Int) < (l : Int) := by omega
  go_wp2_with fail
  go_ret
  exact ⟨ret_bool hd.out.symm, HG.out⟩
 ·have hli : ¬ (0 : Int) < (l : Int) := by omega
  have HM0 : Hid (L.era.mail = []) := Lib.hid (List.eq_nil_of_length_eq_zero (by show L.mail.length = 0; rw [HSH.out.l]; omega))
  go_wp2_with fail
  clear b2
  go_loopw [3] (fun z wr => ∃ j : Nat, j ≤ m ∧ z = .int .i64 ((j : Int) + 1) ∧ Hid (∀ i, i < j → (xTx L.era ((i : Int) + 1)).is = 0 ∧ ∀ k, k < n → (xMindAt L.era (k : Int) ((i : Int) + 1)).1 ≠ 1) ∧ Hid (Gr w1 wr)) (fun z _ => m + 1 - (intOf z).toNat)
  case atStart => exact ⟨0, Nat.zero_le _, rfl, Lib.hid (fun i hi => by omega), Lib.hid (Gr.refl _)⟩
  case round =>
   obtain ⟨j, hj, rfl, HA, HGR⟩ := hrel
   have k1 := HK.out.keep HGR.out
   have b1 := k1.cell 1
   simp only [List.getElem?_toArray, List.getElem?_cons_succ, List.getElem?_cons_zero] at b1
   clear k1
   by_cases hlt : j < m
   ·have hji : (j : Int) < (m : Int) := by omega
    have hj0 : (0 : Int) ≤ (j : Int) := by omega
    obtain ⟨x, hx⟩ := tx_at (L := L) j (by rw [HSH.out.m]; exact hlt)
    obtain ⟨b, off, c', htv, -, -, c1, -, -⟩ := (HH.out.gr (HG.out.trans HGR.out)).tx4 hx
    rw [HSH.out.tv, HSH.out.m] at htv
    injection htv with hAt _ hcc
    subst hAt
    subst hcc
    have HIS : Hid ((xTx L.era ((j : Int) + 1)).is = x.is) := Lib.hid (by rw [era_tx rfl hx]; rfl)
    generalize x.is = is at c1 HIS
    clear hx
    by_cases his : is = 0
    ·have hib : (is != 0) = false := by simpa using his
     subst his
     go_wp2_with fail
     clear b1 c1
     go_loopw [4] (fun z wx => ∃ k : Nat, k ≤ n ∧ z = .int .i64 (k : Int) ∧ Hid (∀ q, q < k → (xMindAt L.era (q : Int) ((j : Int) + 1)).1 ≠ 1) ∧ Hid (Gr w1 wx)) (fun z _ => n - (intOf z).toNat)
     case atStart => exact ⟨0, Nat.zero_le _, rfl, Lib.hid (fun i hi => by omega), HGR⟩
     case round =>
      obtain ⟨k, hk, rfl, HB, HGX⟩ := hrel
      have k1 := HK.out.keep HGX.out
      have b0 := k1.cell 0
      have b1 := k1.cell 1
      have b2 := k1.cell 2
      simp only [List.getElem?_toArray, List.getElem?_cons_succ, List.getElem?_cons_zero] at b0 b1 b2
      clear k1
      by_cases hlk : k < n
      ·have hki : (k : Int) < (n : Int) := by omega
       have HV : Hid (xOutc L.era (k : Int) ((j : Int) + 1) = (xMindAt L.era (k : Int) ((j : Int) + 1)).1) := Lib.hid (by
        unfold xOutc
        rw [if_pos]
        rw [HLN.out.1, HLN.out.2]
        omega)
       have HC := Lib.hid (HOU.out wr (HG.out.trans HGX.out) (k : Int) ((j : Int) + 1))
       rw [HV.out] at HC
       obtain ⟨v, hv⟩ : ∃ v, (xMindAt L.era (k : Int) ((j : Int) + 1)).1 = v := ⟨_, rfl⟩
       rw [hv] at HC
       have HVV := Lib.hid hv
       clear hv
       go_wp2_with fail
       refine HC.out.mono ?_
       rintro e w5 ⟨rfl, hg5⟩
       have HG5 := Lib.hid (HGX.out.trans hg5)
       clear hg5 b0 b1 b2
       by_cases hv1 : v = 1
       ·subst hv1
        have hd : Hid (r = false) := Lib.hid (by rw [← HR.out]; exact settled_no (by rw [HLN.out.2]; exact hlt) (Or.inr ⟨k, by rw [HLN.out.1]; exact hlk, HVV.out⟩))
        go_wp2_with fail
        go_ret
        exact ⟨ret_bool hd.out.symm, HG.out.trans HG5.out⟩
       ·have hvb : (v == 1) = false := by simpa using hv1
        go_wp2_with fail
        go_roundw
        case rel => exact ⟨k + 1, by omega, by go_num, Lib.hid (fun q hq => by
         rcases Nat.lt_or_ge q k with h1 | h1
         ·exact HB.out q h1
         ·obtain rfl : q = k := by omega
          rw [HVV.out]; exact hv1), HG5⟩
        case measure => simp [intOf]; omega
      ·obtain rfl : n = k := by omega
       go_wp2_with fail
       go_roundw
       case rel => exact ⟨j + 1, by omega, by go_num, Lib.hid (fun i hi => by
        rcases Nat.lt_or_ge i j with h1 | h1
        ·exact HA.out i h1
        ·obtain rfl : i = j := by omega
         exact ⟨HIS.out, HB.out⟩), HGX⟩
       case measure => simp [intOf]; omega
    ·have hib : (is != 0) = true := by simpa using his
     have hd : Hid (r = false) := Lib.hid (by rw [← HR.out]; exact settled_no (by rw [HLN.out.2]; exact hlt) (Or.inl (by rw [HIS.out]; exact his)))
     go_wp2_with fail
     go_ret
     exact ⟨ret_bool hd.out.symm, HG.out.trans HGR.out⟩
   ·obtain rfl : m = j := by omega
    have hd : Hid (r = true) := Lib.hid (by rw [← HR.out]; exact settled_yes HM0.out (fun i hi => by rw [HLN.out.2] at hi; rw [HLN.out.1]; exact HA.out i hi))
    go_wp2_with fail
    go_ret
    exact ⟨ret_bool hd.out.symm, HG.out.trans HGR.out⟩
theorem same5_any (A A' : Option Addr) (n c c' : Nat) (ms : List Ml) (w : World) (hn : ms.length = n) (hn2 : n ≤ 1024) (hr : Rd 5 enc5m w A ms) (hr' : Rd 5 enc5m w A' ms) :
 Calls Tryz.prog 41 #[.slice A n c, .slice A' n c'] w fun e w' => e = .returned (.bool true) ∧ Gr w w' := by
 have HN := Lib.hid hn
 have HR := Lib.hid hr
 have HR' := Lib.hid hr'
 have hnn : ((n : Int) != (n : Int)) = false := by simp
 clear hn hr hr'
 go_enter Tryz.func41, Tryz.ntmps41
 go_wp2_with fail
 go_loopw [5] (fun z wr => ∃ j : Nat, j ≤ n ∧ z = .int .i64 (j : Int) ∧ Hid (Gr w wr)) (fun z _ => n - (intOf z).toNat)
 case atStart => exact ⟨0, Nat.zero_le _, rfl, Lib.hid (Gr.refl _)⟩
 case round =>
  obtain ⟨j, hj, rfl, HG⟩ := hrel
  by_cases hlt : j < n
  ·have hji : (j : Int) < (n : Int) := by omega
   have hj0 : (0 : Int) ≤ (j : Int) := by omega
   have hm := getD_of (0, 0, 0, 0, 0) (show j < ms.length by rw [HN.out]; exact hlt)
   generalize ms.getD j (0, 0, 0, 0, 0) = md at hm
   obtain ⟨b1, o1, rfl, h1⟩ := (HR.out.keep HG.out) j _ hm
   obtain ⟨b2, o2, rfl, h2⟩ := (HR'.out.keep HG.out) j _ hm
   obtain ⟨f, d, k, t, x⟩ := md
   have c0 := h1 0 _ rfl
   have c1 := h1 1 _ rfl
   have c2 := h1 2 _ rfl
   have c3 := h1 3 _ rfl
   have c4 := h1 4 _ rfl
   have e0 := h2 0 _ rfl
   have e1 := h2 1 _ rfl
   have e2 := h2 2 _ rfl
   have e3 := h2 3 _ rfl
   have e4 := h2 4 _ rfl
   rw [Nat.add_zero] at c0 e0
   dsimp only at c0 c1 c2 c3 c4 e0 e1 e2 e3 e4
   clear h1 h2 hm
   go_upto_region 6 with fail
   go_quiet (fail)
   go_wp2_with fail
   go_roundw
   case rel => exact ⟨j + 1, by omega, by go_num, Lib.hid (by have := HG.out; (repeat (first | exact Gr.refl _ | assumption | (refine Gr.drew ?_) | (refine Gr.drewN ?_ _) | (refine Gr.alloc ?_ _) | (refine Gr.trans ?_ (by assumption)))))⟩
   case measure => simp [intOf]; omega
  ·obtain rfl : n = j := by omega
   go_wp2_with fail
   go_ret
   exact ⟨rfl, HG.out⟩

set_option maxRecDepth 100000
set_option maxHeartbeats 80000000

theorem two_ints {w W : World} {t : TypeId} {a b : Int} (hW : w.alloc (.cells #[.int .i64 a, .int .i64 b] t) = W) : Ints W (some ⟨w.heap.size, 0, none⟩) [a, b] := by
 have h1 := box2q hW
 intro i x hx
 refine ⟨w.heap.size, 0, rfl, fun j v hv => ?_⟩
 match i, hx with
 | 0, hx => 
   injection hx with hx; subst hx
   match j, hv with
   | 0, hv => injection hv with hv; subst hv; exact h1.2.1
 | 1, hx =>
   injection hx with hx; subst hx
   match j, hv with
   | 0, hv => injection hv with hv; subst hv; exact h1.2.2
theorem two_moves {w W : World} {t : TypeId} {a b c d : Int} (hW : w.alloc (.cells #[.int .i64 a, .int .i64 b, .int .i64 c, .int .i64 d] t) = W) : Gr w W ∧ Pts W (some ⟨w.heap.size, 0, none⟩) [(a, b), (c, d)] ∧ w.heap.size < W.heap.size := by
 subst hW
 refine ⟨(Gr.refl w).alloc _, ?_, by simp⟩
 intro i x hx
 refine ⟨w.heap.size, 0, rfl, fun j v hv => ?_⟩
 match i, hx with
 | 0, hx =>
   injection hx with hx; subst hx
   match j, hv with
   | 0, hv => injection hv with hv; subst hv; exact alloc_new rfl rfl
   | 1, hv => injection hv with hv; subst hv; exact alloc_new rfl rfl
 | 1, hx =>
   injection hx with hx; subst hx
   match j, hv with
   | 0, hv => injection hv with hv; subst hv; exact alloc_new rfl rfl
   | 1, hv => injection hv with hv; subst hv; exact alloc_new rfl rfl
theorem okTwo : okStocks [10, 0] = true := by decide
theorem begTwo : begE (newN [10, 0]) 0 [(0, -4), (1, 4)] = 0 ∧ begT (newN [10, 0]) 0 [(0, -4), (1, 4)] = 1 := ⟨by rfl, by rfl⟩

theorem awake5_any (w : World) : Calls Tryz.prog 13 #[] w fun e w' => e = .returned (.bool true) ∧ Gr w w' := by
 go_enter Tryz.func13, Tryz.ntmps13
 go_wp2_with fail
 generalize hW1 : World.alloc w _ = w1
 have hg1 : Gr w w1 := by rw [← hW1]; exact (Gr.refl w).alloc _
 have HI := Lib.hid (two_ints hW1)
 generalize w.heap.size = U at HI ⊢
 clear hW1
 refine (New_any (some ⟨U, 0, none⟩) 2 2 [10, 0] w1 rfl (by omega) HI.out).mono ?_
 rintro e w2 (⟨hno, -⟩ | ⟨-, N, rfl, hnet, hnl, hml, hbg, hg2⟩)
 ·rw [okTwo] at hno; cases hno
 have hnz := newN_of hnl hml hbg
 have hgr2 := hg1.trans hg2
 obtain ⟨B, hB⟩ : ∃ B, w1.heap.size = B := ⟨_, rfl⟩
 rw [hB] at hnet
 have HB : Hid (w.heap.size ≤ B) := Lib.hid (by rw [← hB]; exact hg1.size)
 have HNZ := Lib.hid hnz
 have HNET := Lib.hid hnet
 clear hnl hml hbg hg2 hg1 hB hnz hnet HI
 go_wp2_with fail
 generalize hW3 : World.alloc w2 _ = w3
 obtain ⟨hg3, hpt, hlt⟩ := two_moves hW3
 have HNET3 := Lib.hid (HNET.out.keep hg3)
 have HNO : Hid (w2.heap.size ∉ ownB N) := Lib.hid (fun hm => by have := (HNET.out.own _ hm).2; omega)
 have HPT := Lib.hid (And.intro hpt hlt)
 generalize w2.heap.size = Z at HNO HPT ⊢
 have hgr3 := hgr2.trans hg3
 clear hW3 hpt hlt
 refine (Begin_all 0 (some ⟨Z, 0, none⟩) 2 2 [(0, -4), (1, 4)] w3 HNET3.out (by rw [HNZ.out]; exact newN_ok okTwo) rfl (by omega) (fun W hW => HPT.out.1.ch hW HNO.out HPT.out.2) (by intro p hp; simp at hp; rcases hp with rfl | rfl <;> (unfold I64; dsimp only; omega))).mono ?_
 rintro e w4 ⟨rfl, N1, hnz1, hto1⟩
 rw [HNZ.out] at hnz1
 have hb1 : begT N 0 [(0, -4), (1, 4)] = 1 := by rw [← begT_nz, HNZ.out]; exact begTwo.2
 have hb2 : begE N 0 [(0, -4), (1, 4)] = 0 := by rw [← begE_nz, HNZ.out]; exact begTwo.1
 rw [hb1, hb2]
 have HS : Hid (nzN N1 = seqV 0) := Lib.hid hnz1
 have hgr4 : Gr w w4 := hto1.ch.up hgr3 (fun g hg => Nat.le_trans HB.out (HNET3.out.own g hg).1)
 have HN1 := Lib.hid hto1.net
 have hp1 := hto1.p
 obtain ⟨p, hp⟩ : ∃ p, N.p = p := ⟨_, rfl⟩
 rw [hp] at hp1 ⊢
 have HP1 := Lib.hid hp1
 clear hto1 hnz1 hb1 hb2 hp1 hp hgr3 hgr2 HNET3 HPT HNO HNET HNZ
 go_wp2_with fail
 go_loopw [5] (fun z wr => ∃ (i : Nat) (M : Nx), i ≤ 8 ∧ z = .int .i64 (i : Int) ∧ Hid (nzN M = seqV i) ∧ Hid (M.p = p) ∧ Hid (NetR B wr M) ∧ Gr w wr) (fun z _ => 8 - (intOf z).toNat)
 case atStart => exact ⟨0, N1, by omega, rfl, HS, HP1, HN1, hgr4⟩
 case round =>
  obtain ⟨i, M, hi, rfl, hs, hp, hn, hgr⟩ := hrel
  have hok : OkN (nzN M) := by rw [hs.out]; exact seq_ok i
  have hle := fun W (hW : Gr wr W) => Letters_any (hn.out.keep hW) hok.room
  have hde := fun W (hW : Gr wr W) => Deliver_all 0 (hn.out.keep hW) hok
  have hst := fun (x : Int) W (hW : Gr wr W) => Stock_any (hn.out.keep hW) x
  have hse := fun W (hW : Gr wr W) => Settled_any (hn.out.keep hW) (by rw [← nz_len]; exact hok.lo)
  simp only [hp.out] at hle hde hst hse
  have HLE := Lib.hid hle
  have HDE := Lib.hid hde
  have HST := Lib.hid hst
  have HSE := Lib.hid hse
  clear hle hde hst hse
  by_cases h8 : i < 8
  ·have hpos : 0 < M.mail.length := by
    have h1 := seq_some i h8
    rw [← hs.out] at h1
    exact List.length_pos_iff.2 h1
   have HNX : Hid (delI (nzN M) 0 = seqV (i + 1)) := Lib.hid (by
    have h1 : refL (nzN M) 0 = 0 := by
     unfold refL
     have h2 := hok.lo
     have h3 : (nzN M).mail.length = M.mail.length := rfl
     rw [if_neg (by omega), if_neg (by omega)]
    unfold delI
    rw [if_pos h1, hs.out]
    rfl)
   obtain ⟨q, hq⟩ : ∃ q, M.mail.length = q := ⟨_, rfl⟩
   have HQ := Lib.hid hq
   rw [hq] at hpos
   have hqi : (0 : Int) < (q : Int) := by omega
   have hi20 : (i : Int) < 20 := by omega
   clear hq hok
   go_wp2_with fail
   refine (HLE.out _ (Gr.refl _)).mono ?_
   rintro e w5 ⟨A, c, rfl, -, hg5, -⟩
   rw [HQ.out]
   go_wp2_with fail
   refine (HDE.out _ hg5).mono ?_
   rintro e w6 ⟨rfl, M', hm', hto⟩
   have hgr6 : Gr w w6 := hto.ch.up (hgr.trans hg5) (fun g hg => Nat.le_trans HB.out (hn.out.own g hg).1)
   have HM := Lib.hid (And.intro (hm'.trans HNX.out) (And.intro (hto.p.trans hp.out) hto.net))
   clear hm' hto hg5 hgr
   go_wp2_with fail
   go_roundw
   case rel => exact ⟨i + 1, M', by omega, by go_num, Lib.hid HM.out.1, Lib.hid HM.out.2.1, Lib.hid HM.out.2.2, hgr6⟩
   case measure => simp [intOf]; omega
  ·obtain rfl : i = 8 := by omega
   have hz : M.mail.length = 0 := by
    have h1 := seq_none
    rw [← hs.out] at h1
    exact List.length_eq_zero_iff.2 h1
   have HQ := Lib.hid hz
   have e1 : stockN M 0 = 6 := by rw [← stockN_nz, hs.out]; exact seq_end.1
   have e2 : stockN M 1 = 4 := by rw [← stockN_nz, hs.out]; exact seq_end.2.1
   have e3 : settledN M = true := by rw [← settledN_nz, hs.out]; exact seq_end.2.2.1
   have e4 : refS M 0 = 0 := by rw [← refS_nz, hs.out]; exact seq_end.2.2.2.1
   have e5 : refS M 1 = 0 := by rw [← refS_nz, hs.out]; exact seq_end.2.2.2.2
   have HE := Lib.hid (And.intro e1 (And.intro e2 (And.intro e3 (And.intro e4 e5))))
   clear e1 e2 e3 e4 e5 hz hok h8 hi
   go_wp2_with fail
   refine (HLE.out _ (Gr.refl _)).mono ?_
   rintro e w5 ⟨A, c, rfl, -, hg5, -⟩
   rw [HQ.out]
   go_wp2_with fail
   refine (HST.out 0 _ hg5).mono ?_
   rintro e w6 ⟨rfl, rfl⟩
   rw [HE.out.1, HE.out.2.2.2.1]
   go_wp2_with fail
   refine (HST.out 1 _ hg5).mono ?_
   rintro e w7 ⟨rfl, rfl⟩
   rw [HE.out.2.1, HE.out.2.2.2.2]
   go_wp2_with fail
   refine (HSE.out _ hg5).mono ?_
   rintro e w8 ⟨rfl, rfl⟩
   rw [HE.out.2.2.1]
   have hF := hgr.trans hg5
   clear hg5 hgr
   go_wp2_with fail
   go_ret
   exact ⟨rfl, hF⟩

set_option maxRecDepth 100000
set_option maxHeartbeats 80000000

structure CopyP {α : Type} (enc : α → List Value) (size : Nat) (xs : List α) (k : Nat) (w : World) (A' : Option Addr) (c' : Nat) (w' : World) : Prop where
 rd : Rd size enc w' A' xs
 nil : A' = none → k = 0 ∧ c' = 0
 spot : ∀ a, A' = some a → a.spot = none
 le : k ≤ c'
 gr : Gr w w'
 new : ∀ a, A' = some a → w.heap.size ≤ a.block
 own : ∃ e, w'.ownsRow w.heap.size e size (.slice A' k c') k (flatE enc xs)
section
variable {α : Type} {enc : α → List Value} {size : Nat}
theorem run_copy {P : Program} (w : World) (t ty : TypeId) (e : TypeId) (i : TypeInfo) (z : Value) (bytes : Nat) (ht : P.underlying t = some (.slice e)) (hi : P.info? e = some i) (hz : i.zero = some z)
 (hsize : i.size = size) (hby : i.bytes = bytes) (hzs : z.cells.size = size) (hsz : 0 < size) (hk : ∀ x : α, (enc x).length = size) (h1 : ∀ x : α, ∀ u ∈ enc x, u.oneCell' = true)
 (A : Option Addr) (k c : Nat) (xs : List α) (hA : A = none → k = 0 ∧ c = 0) (hn : xs.length = k) (hp : Rd size enc w A xs) (h63 : k ≤ maxLen) (hbytes : k * bytes ≤ 140737488355328) :
 ∃ A' c' w', (Builtin.append_ #[t, t] ty #[.slice none 0 0, .slice A k c]).run P w = .ok (.slice A' k c') w' ∧ CopyP enc size xs k w A' c' w' := by
 rcases A with _ | ad
 ·obtain ⟨rfl, rfl⟩ := hA rfl
  have hx : xs = [] := List.eq_nil_of_length_eq_zero hn
  subst hx
  exact ⟨none, 0, w, run_append_owned_none (P := P) (w := w) w.heap.size t ty e i size ht hi _ 0 [] (World.ownsRow_nil w _ _ _), Rd_nil _ _, fun _ => ⟨rfl, rfl⟩, fun a h => by (cases h), Nat.le_refl _, Gr.refl _, fun a h => by (cases h), e, World.ownsRow_nil w _ _ _⟩
 ·obtain ⟨v', w', hr, h2, h3, _, h5⟩ := run_append_own_at (P := P) w w.heap.size t ty e i z size bytes ht hi hz hsize hby hzs hsz (.slice none 0 0) 0 [] (World.ownsRow_nil w _ _ _) ad k c (flatE enc xs) (by rw [flatE_len hk, hn]) (Rd_news hk hsz hp) (oneCell_flat h1 xs) (by omega) (by simpa using hbytes) (Nat.le_refl _)
  have hg : Gr w w' := (Below.refl _ w).grown h3 (Nat.le_refl _) (fun t ht => by simp [Value.ownBlock] at ht)
  have h2' : w'.ownsRow w.heap.size e size v' k (flatE enc xs) := by simpa using h2
  rcases h2'.2 with ⟨rfl, hz0⟩ | ⟨g, cap, cur, rfl, _, _, hnc, _⟩
  ·have hx : xs = [] := List.eq_nil_of_length_eq_zero (by rw [hn]; exact hz0)
   subst hx
   obtain rfl : k = 0 := hz0
   exact ⟨none, 0, w', hr, Rd_nil _ _, fun _ => ⟨rfl, rfl⟩, fun a h => by (cases h), Nat.le_refl _, hg, fun a h => by (cases h), e, h2'⟩
  ·exact ⟨some ⟨g, 0, none⟩, cap, w', hr, Rd_of_owns hk hn h2', fun h => by (cases h), fun a h => by (cases h; rfl), hnc, hg, fun a h => by (cases h; exact (h2'.lt g rfl).1), e, h2'⟩
variable {P : Program} {w : World} {ops : Array Oper} {o : Oper} {a : Act} {K : Act → World → Prop} {Q : Exit → Act → World → Prop}
theorem wp_copy (s x : Operand) (t : TypeId) (ho : o.op = .call { callee := .builtin .append, args := #[s, x], argTypes := #[t, t] })
 (e : TypeId) (i : TypeInfo) (z : Value) (bytes : Nat) (ht : P.underlying t = some (.slice e)) (hi : P.info? e = some i) (hz : i.zero = some z)
 (hsize : i.size = size) (hby : i.bytes = bytes) (hzs : z.cells.size = size) (hsz : 0 < size) (hk : ∀ x : α, (enc x).length = size) (h1 : ∀ x : α, ∀ u ∈ enc x, u.oneCell' = true)
 (A : Option Addr) (k c : Nat) (xs : List α) (hs : a.eval s = .slice none 0 0) (hx : a.eval x = .slice A k c) (hA : A = none → k = 0 ∧ c = 0) (hn : xs.length = k) (hp : Rd size enc w A xs) (h63 : k ≤ maxLen) (hbytes : k * bytes ≤ 140737488355328)
 (h : ∀ A' c' w', CopyP enc size xs k w A' c' w' → K (a.put o.dst (.slice A' k c')) w') : o.wp P a w K Q := by
 obtain ⟨A', c', w', hr, h2⟩ := run_copy (P := P) w t o.type e i z bytes ht hi hz hsize hby hzs hsz hk h1 A k c xs hA hn hp h63 hbytes
 unfold Oper.wp execOp
 simp only [ho, resolve, invoke, builtin, Sem.run_bind, Sem.run_pure, Result.andThen_ok, List.map_toArray, List.map_cons, List.map_nil, hs, hx, hr]
 exact h A' c' w' h2
theorem wpList_copy {rest : List Oper} (hgd : o.guard = none) (s x : Operand) (t : TypeId) (ho : o.op = .call { callee := .builtin .append, args := #[s, x], argTypes := #[t, t] })
 (e : TypeId) (i : TypeInfo) (z : Value) (bytes : Nat) (ht : P.underlying t = some (.slice e)) (hi : P.info? e = some i) (hz : i.zero = some z)
 (hsize : i.size = size) (hby : i.bytes = bytes) (hzs : z.cells.size = size) (hsz : 0 < size) (hk : ∀ x : α, (enc x).length = size) (h1 : ∀ x : α, ∀ u ∈ enc x, u.oneCell' = true)
 (A : Option Addr) (k c : Nat) (xs : List α) (hs : a.eval s = .slice none 0 0) (hx : a.eval x = .slice A k c) (hA : A = none → k = 0 ∧ c = 0) (hn : xs.length = k) (hp : Rd size enc w A xs) (h63 : k ≤ maxLen) (hbytes : k * bytes ≤ 140737488355328)
 (h : ∀ A' c' w', CopyP enc size xs k w A' c' w' → wpList P ops Q rest (a.put o.dst (.slice A' k c')) w') : wpList P ops Q (o :: rest) a w :=
 wpList_plain hgd fun _ hK => wp_copy s x t ho e i z bytes ht hi hz hsize hby hzs hsz hk h1 A k c xs hs hx hA hn hp h63 hbytes fun A' c' w' h2 => hK _ _ (h A' c' w' h2)
end

set_option maxRecDepth 100000
set_option maxHeartbeats 80000000

theorem Tryz.infoPtI : (Tryz.prog.info? 3).map (fun i => (i.zero, i.size, i.bytes)) = some (some (.int .i64 0), 1, 8) := by kernel_rfl
theorem enc1p_len (p : Int) : (enc1 p).length = 1 := rfl
theorem enc1p_one (p : Int) : ∀ u ∈ enc1 p, u.oneCell' = true := by intro u hu; simp [enc1] at hu; subst hu; rfl
theorem parts_any (A : Option Addr) (n c : Nat) (l : List Mv) (w : World) (hn : l.length = n) (hc : n ≤ c) (hm : c ≤ 9223372036854775807) (h0 : A = none → c = 0) (hp : Pts w A l) :
 Calls Tryz.prog 31 #[.slice A n c] w fun e w' => ∃ A' c', e = .returned (.slice A' (min n 9) c') ∧ CopyP enc2 2 (l.take 9) (min n 9) w A' c' w' := by
 obtain ⟨i0, hi, hz0, hz1, hz2⟩ := info_parts Tryz.infoPtM
 obtain ⟨k, hk⟩ : ∃ k, min n 9 = k := ⟨_, rfl⟩
 rw [hk]
 have HK : Hid ((l.take 9).length = k) := Lib.hid (by rw [List.length_take, hn]; omega)
 have HP : Hid (Pts w A (l.take 9)) := Lib.hid (Rd_take hp 9)
 have HA : Hid (A = none → k = 0 ∧ c = 0) := Lib.hid (fun e => by have := h0 e; omega)
 have hk9 : k ≤ 9 := by omega
 have hkc : (k : Int) ≤ (c : Int) := by omega
 have hkc' : k ≤ c := by omega
 have e1 : (if (9 : Int) < (n : Int) then (9 : Int) else (n : Int)) = (k : Int) := by split <;> omega
 have e2 : (if (n : Int) < (9 : Int) then (n : Int) else (9 : Int)) = (k : Int) := by split <;> omega
 have e3 : min (n : Int) (9 : Int) = (k : Int) := by omega
 have hk0 : (0 : Int) ≤ (k : Int) := by omega
 clear hn hp h0 hk
 go_enter Tryz.func31, Tryz.ntmps31
 go_wp2_with (at_builtin; refine wpList_copy (by rfl) (.tmp 4) (.tmp 9) 38 (by rfl) 61 i0 _ 16 Tryz.underlying38 hi hz0 hz1 hz2 rfl (by decide) enc2p_len enc2p_one A k c (l.take 9) (by rfl) (by rfl) HA.out HK.out HP.out (by unfold maxLen; omega) (by omega) ?_)
 intro A' c' w' hcp
 have HC := Lib.hid hcp
 clear hcp
 go_wp2_with fail
 go_ret
 exact ⟨A', c', rfl, HC.out⟩
def zeroN (p : Nat) : Nx := ⟨[], [], 0, p, .slice none 0 0, .slice none 0 0⟩
theorem cell_lt5 {w : World} {x : Addr} {v : Value} (h : w.cell? x = some v) : x.block < w.heap.size := by
 unfold World.cell? at h
 split at h
 ·rename_i hb
  exact (Array.getElem?_eq_some_iff.1 hb).1
 ·cases h
theorem CopyP.away {xs : List Mv} {k : Nat} {w w' : World} {A : Option Addr} {c : Nat} (h : CopyP enc2 2 xs k w A c w') {S : List Nat} (hS : ∀ g ∈ S, g < w.heap.size) : ∀ W, Ch S w' W → Pts W A xs := fun W hW => by
 cases A with
 | none =>
   have hr := h.rd
   intro i x hx
   obtain ⟨b, off, e, -⟩ := hr i x hx
   cases e
 | some a =>
   obtain ⟨b, off, sp⟩ := a
   have h1 := h.new _ rfl
   have h2 : sp = none := h.spot _ rfl
   subst h2
   dsimp only at h1
   intro i x hx
   obtain ⟨b', off', e, hc⟩ := h.rd i x hx
   injection e with e
   injection e with e1 e2
   refine ⟨b', off', by rw [e1, e2], fun j v hv => ?_⟩
   have h3 := hc j v hv
   have hlt : b' < w'.heap.size := cell_lt5 h3
   exact (World.cell?_of_block (hW.block b' hlt (fun hm => by have := hS b' hm; omega))).trans h3

set_option maxRecDepth 100000
set_option maxHeartbeats 80000000

section
variable {B p : Nat} {W : World}
end

set_option maxRecDepth 100000
set_option maxHeartbeats 80000000

def encR0 (x : Int) : List Value := [.int .i64 x, .bool false, .slice none 0 0]
theorem encR0_len (x : Int) : (encR0 x).length = 3 := rfl
theorem encR0_one (x : Int) : ∀ u ∈ encR0 x, u.oneCell' = true := by intro u hu; simp [encR0] at hu; rcases hu with rfl | rfl | rfl <;> rfl
theorem Tryz.infoPtQ : (Tryz.prog.info? 73).map (fun i => (i.zero, i.size, i.bytes)) = some (some (.agg #[.int .i64 0, .bool false, .slice none 0 0]), 3, 40) := by kernel_rfl
def nil3 : Value := .agg #[.slice none 0 0, .slice none 0 0, .slice none 0 0]
theorem put3 {w w0 : World} {T : Nat} {t : TypeId} {a b c x y z : Value} (h : Blk w T t #[a, b, c]) (hT : w0.heap.size ≤ T) (hg : Gr w0 w) :
 Blk (((w.setCell ⟨T, 0, none⟩ x).setCell ⟨T, 1, none⟩ y).setCell ⟨T, 2, none⟩ z) T t #[x, y, z] ∧ Gr w0 (((w.setCell ⟨T, 0, none⟩ x).setCell ⟨T, 1, none⟩ y).setCell ⟨T, 2, none⟩ z) := by
 refine ⟨?_, ((hg.setCell (p := ⟨T, 0, none⟩) hT x).setCell (p := ⟨T, 1, none⟩) hT y).setCell (p := ⟨T, 2, none⟩) hT z⟩
 have h1 := ((h.put 0 x).put 1 y).put 2 z
 simpa using h1
def RNewP (l : List Int) (w : World) (e : Ending) (w' : World) : Prop :=
 (okStocks l = false ∧ e = .returned (.tuple #[nil3, .int .i64 2]) ∧ Gr w w') ∨
 (okStocks l = true ∧ ∃ A c, e = .returned (.tuple #[.agg #[.slice A l.length c, .slice none 0 0, .slice none 0 0], .int .i64 0]) ∧ Rd 3 encR0 w' A l ∧ (∀ a, A = some a → w.heap.size ≤ a.block) ∧ Gr w w')
set_option maxRecDepth 100000
set_option maxHeartbeats 80000000

end Go.Proofs.YtnoeiocbmhkmeaaGreat
