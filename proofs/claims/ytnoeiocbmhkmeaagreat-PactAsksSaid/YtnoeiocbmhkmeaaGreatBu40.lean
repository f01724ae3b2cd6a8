/- Layer 5: the law's shows, at a net and a reference that agree. -/
import Derived.Test.YtnoeiocbmhkmeaaGreatBu39
import Derived.Test.YtnoeiocbmhkmeaaGreatBu0
import Derived.ProofKit
import Derived.Test.YtnoeiocbmhkmeaaGreatRows
import Derived.Lib.SmallJoins
import Derived.Deep.Slices
import Derived.Deep.Fields
import Derived.ChangeSame
import Derived.Test.YtnoeiocbmhkmeaaGreatBu2
import Derived.OpenShut
namespace Go.Proofs.YtnoeiocbmhkmeaaGreat
open Go.RowKit
set_option linter.unusedSimpArgs false
set_option maxRecDepth 100000
set_option maxHeartbeats 80000000

theorem two_at {N : Nx} {X : XN} (h : Two N X) {k : Nat} (hk : k < N.sites.length) : refS N (k : Int) = 0 ∧ stockN N (k : Int) = (xSite X (k : Int)).stock ∧ upN N (k : Int) = !(xSite X (k : Int)).down := by
 obtain ⟨s, hs⟩ : ∃ s, N.sites[k]? = some s := ⟨_, List.getElem?_eq_getElem hk⟩
 have h0 : refS N (k : Int) = 0 := by unfold refS; rw [if_neg (by omega), if_neg (by omega)]
 obtain ⟨h1, h2⟩ := h.sto hs
 refine ⟨h0, ?_, ?_⟩
 ·rw [h1]
  unfold stockN
  rw [h0, show ((k : Int)).toNat = k from rfl, hs]
  rfl
 ·rw [h2]
  unfold upN
  rw [h0, show ((k : Int)).toNat = k from rfl, hs]
  simp
theorem outN_nz5 (N : Nx) (i t : Int) : outN (nzN N) i t = outN N i t := by
 unfold outN
 rw [refS_nz]
 split
 ·rfl
 ·unfold nzN
  dsimp only
  rw [List.getElem?_map]
  cases N.sites[i.toNat]? <;> rfl
theorem shows5_any {B : Nat} {w : World} {N : Nx} (L : LN) (h : NetR B w N) (ht : Two (nzN N) L.era) (hx : XRd w L) :
 Calls Tryz.prog 12 #[.pointer (some ⟨N.p, 0, none⟩), L.v] w fun e w' => e = .returned (.bool true) ∧ Gr w w' := by
 have hle := ht.le
 obtain ⟨As, At, Al, n, m, l, cs, ct, cl, hsh⟩ := hx.shp
 have h8 : n ≤ 8 := by have := hle.s8; rw [lens_era.1, hsh.n] at this; exact this
 have h256 : m ≤ 256 := by have := hle.tx; rw [lens_era.2.1, hsh.m] at this; exact this
 have hlen : N.sites.length = n := by rw [← nz_len, ← ht.lens.1, lens_era.1, hsh.n]
 have hmail : N.mail = L.mail := by have := ht.mail; exact this.symm
 have hl : L.mail.length = l := hsh.l
 have hml : l ≤ 1024 := by have := hle.ml; rw [lens_era.2.2, hsh.l] at this; exact this
 have hn1 : 1 ≤ n := by have := hle.s1; rw [lens_era.1, hsh.n] at this; exact this
 obtain ⟨sb, hsb⟩ : ∃ sb, xSettled L.era = sb := ⟨_, rfl⟩
 have HSI : Hid (∀ W, Gr w W → Calls Tryz.prog 38 #[.pointer (some ⟨N.p, 0, none⟩)] W fun e w' => e = .returned (.int .i64 (n : Int)) ∧ w' = W) := Lib.hid (fun W hW => by have := Sites_any (h.keep hW); rw [hlen] at this; exact this)
 have HSE : Hid (∀ W, Gr w W → Calls Tryz.prog 39 #[.pointer (some ⟨N.p, 0, none⟩)] W fun e w' => e = .returned (.bool sb) ∧ w' = W) := Lib.hid (fun W hW => by have := Settled_any (h.keep hW) (by omega); rw [← settledN_nz, ht.settled, hsb] at this; exact this)
 have HRS : Hid (∀ W, Gr w W → Calls Tryz.prog 40 #[.agg #[.slice As n cs, .slice At m ct, .slice Al l cl]] W fun e w' => e = .returned (.bool sb) ∧ Gr W w') := Lib.hid (fun W hW => by have := xsettled_any L W (hx.gr hW) hle; rw [hsh.v, hsb] at this; exact this)
 have HLE : Hid (∀ W, Gr w W → Calls Tryz.prog 27 #[.pointer (some ⟨N.p, 0, none⟩)] W fun e w' => ∃ A c, e = .returned (.slice A l c) ∧ Gr W w' ∧ Hid (Rd 5 enc5m w' A L.mail)) := Lib.hid (fun W hW => (Letters_any (h.keep hW) (by rw [hmail, hl]; exact hml)).mono (fun e w' ⟨A, c, he, hr, hg, _⟩ => ⟨A, c, by rw [he, hmail, hl], hg, Lib.hid (by rw [← hmail]; exact hr)⟩))
 have HRM : Hid (∀ W, Gr w W → Rd 5 enc5m W Al L.mail) := Lib.hid (fun W hW => by
  obtain ⟨A, c, e, -, -, hr⟩ := (hx.gr hW).lv
  rw [hsh.lv] at e
  injection e with e
  subst e
  exact hr)
 have HLL := Lib.hid hl
 have HST : Hid (∀ (k : Nat) s W, L.sites[k]? = some s → Gr w W → Calls Tryz.prog 15 #[.pointer (some ⟨N.p, 0, none⟩), .int .i64 (k : Int)] W fun e w' => e = .returned (.tuple #[.int .i64 s.stock, .int .i64 0]) ∧ w' = W) := Lib.hid (fun k s W hs hW => by
  have h1 := Stock_any (h.keep hW) (k : Int)
  have hk : k < (nzN N).sites.length := by rw [nz_len, hlen, ← hsh.n]; exact (List.getElem?_eq_some_iff.1 hs).1
  obtain ⟨a1, a2, -⟩ := two_at ht hk
  rw [refS_nz] at a1
  rw [stockN_nz, era_site hs] at a2
  rw [a1, a2] at h1
  exact h1)
 have HUP : Hid (∀ (k : Nat) s W, L.sites[k]? = some s → Gr w W → Calls Tryz.prog 17 #[.pointer (some ⟨N.p, 0, none⟩), .int .i64 (k : Int)] W fun e w' => e = .returned (.bool (!s.down)) ∧ w' = W) := Lib.hid (fun k s W hs hW => by
  have h1 := Up_any (h.keep hW) (k : Int)
  have hk : k < (nzN N).sites.length := by rw [nz_len, hlen, ← hsh.n]; exact (List.getElem?_eq_some_iff.1 hs).1
  obtain ⟨-, -, a3⟩ := two_at ht hk
  rw [upN_nz, era_site hs] at a3
  rw [a3] at h1
  exact h1)
 have HOP : Hid (∀ i t W, Gr w W → I64 t → Calls Tryz.prog 18 #[.pointer (some ⟨N.p, 0, none⟩), .int .i64 i, .int .i64 t] W fun e w' => e = .returned (.int .i64 (xOutc L.era i t)) ∧ Gr W w') := Lib.hid (fun i t W hW ht' => by
  have h1 := Outcome_any (h.keep hW) i t ht'
  rw [← outN_nz5, ht.outc] at h1
  exact h1)
 have HOX : Hid (∀ i t W, Gr w W → Calls Tryz.prog 42 #[.agg #[.slice As n cs, .slice At m ct, .slice Al l cl], .int .i64 i, .int .i64 t] W fun e w' => e = .returned (.int .i64 (xOutc L.era i t)) ∧ Gr W w') := Lib.hid (fun i t W hW => by
  have := xoutcome_any L i t W (hx.gr hW) hle
  rw [hsh.v] at this
  exact this)
 have HX := Lib.hid hx
 have HSH := Lib.hid hsh
 rw [hsh.v]
 clear h ht hx hsh hlen hmail hl hsb hle
 go_enter Tryz.func12, Tryz.ntmps12
 go_upto_region 1 with fail
 generalize hW1 : World.alloc w _ = w1
 have hg1 : Gr w w1 := by rw [← hW1]; exact (Gr.refl w).alloc _
 have hB1 : Blk w1 w.heap.size 33 #[.slice As n cs, .slice At m ct, .slice Al l cl] := by rw [← hW1]; exact Blk.new w _ _ rfl
 generalize w.heap.size = T at hB1 ⊢
 have HB1 := Lib.hid hB1
 have c0 : w1.cell? ⟨T, 0, none⟩ = some (.slice As n cs) := hB1.cell 0
 have c1 : w1.cell? ⟨T, 1, none⟩ = some (.slice At m ct) := hB1.cell 1
 have c2 : w1.cell? ⟨T, 2, none⟩ = some (.slice Al l cl) := hB1.cell 2
 clear hW1 hB1
 have hnn : ((n : Int) != (n : Int)) = false := by simp
 have hbb : (sb != sb) = false := by simp
 refine wp_region_held_drew (S := (fun W' => Gr w1 W' ∧ W'.cell? ⟨T, 0, none⟩ = some (.slice As n cs) ∧ W'.cell? ⟨T, 1, none⟩ = some (.slice At m ct) ∧ W'.cell? ⟨T, 2, none⟩ = some (.slice Al l cl))) ?_ ?_ (fun hHeld => ?_)
 ·kernel_rfl
 ·((try dsimp only); (try go_split_ands); (repeat' apply And.intro) <;> repeat first | assumption | exact Gr.refl _ | refine Gr.drew ?_ | refine Gr.alloc ?_ _ | refine alloc_old ?_ | refine Gr.keep (by assumption) ?_ | refine Gr.trans ?_ (by assumption))
 refine ti 0 (some 9) rfl rfl ?_; try simp only [Act.put, lA, lB, lC]
 refine ti 2 (some 11) rfl rfl ?_; try simp only [Act.put, lA, lB, lC]
 refine ti 3 (some 12) rfl rfl ?_; try simp only [Act.put, lA, lB, lC]
 refine ti 4 (some 13) rfl rfl ?_; try simp only [Act.put, lA, lB, lC]
 refine tr [1] (.cons rfl (fun K hK => ?_) .nil)
 go_simp
 first | (go_at_call 38; (with_reducible refine (HSI.out _ (hg1.trans hHeld.1)).mono ?_); rintro e w2 ⟨rfl, rfl⟩)
 refine hK.out _ _ ?_ (fun hHeld => ?_)
 ·((try dsimp only); (try go_split_ands); (repeat' apply And.intro) <;> repeat first | assumption | exact Gr.refl _ | refine Gr.drew ?_ | refine Gr.alloc ?_ _ | refine alloc_old ?_ | refine Gr.keep (by assumption) ?_ | refine Gr.trans ?_ (by assumption))
 clear hK K; try simp only [Act.put, lA, lB, lC]
 refine ti 5 (some 14) rfl rfl ?_; try simp only [Act.put, lA, lB, lC]
 refine ti 6 (some 15) rfl rfl ?_; try simp only [Act.put, lA, lB, lC]
 refine ti 7 (some 16) rfl rfl ?_; try simp only [Act.put, lA, lB, lC]
 refine ti 9 (some 18) rfl rfl ?_; try simp only [Act.put, lA, lB, lC]
 refine tr [8] (.cons rfl (fun K hK => ?_) .nil)
 go_simp
 first | (go_at_call 39; (with_reducible refine (HSE.out _ (hg1.trans hHeld.1)).mono ?_); rintro e w2 ⟨rfl, rfl⟩)
 refine hK.out _ _ ?_ (fun hHeld => ?_)
 ·((try dsimp only); (try go_split_ands); (repeat' apply And.intro) <;> repeat first | assumption | exact Gr.refl _ | refine Gr.drew ?_ | refine Gr.alloc ?_ _ | refine alloc_old ?_ | refine Gr.keep (by assumption) ?_ | refine Gr.trans ?_ (by assumption))
 clear hK K; try simp only [Act.put, lA, lB, lC]
 refine tr [10] (.cons rfl (fun K hK => ?_) .nil)
 go_simp
 first | (go_at_call 40; (with_reducible refine (HRS.out _ (hg1.trans hHeld.1)).mono ?_); rintro e w2 ⟨rfl, hg2⟩)
 refine hK.out _ _ ?_ (fun hHeld => ?_)
 ·((try dsimp only); (try go_split_ands); (repeat' apply And.intro) <;> repeat first | assumption | exact Gr.refl _ | refine Gr.drew ?_ | refine Gr.alloc ?_ _ | refine alloc_old ?_ | refine Gr.keep (by assumption) ?_ | refine Gr.trans ?_ (by assumption))
 clear hK K; try simp only [Act.put, lA, lB, lC]
 refine ti 11 (some 20) rfl rfl ?_; try simp only [Act.put, lA, lB, lC]
 refine ti 12 (some 21) rfl rfl ?_; try simp only [Act.put, lA, lB, lC]
 refine ti 13 (some 22) rfl rfl ?_; try simp only [Act.put, lA, lB, lC]
 refine ti 14 (some 23) rfl rfl ?_; try simp only [Act.put, lA, lB, lC]
 refine ti 16 (some 25) rfl rfl ?_; try simp only [Act.put, lA, lB, lC]
 refine ti 17 (some 26) rfl rfl ?_; try simp only [Act.put, lA, lB, lC]
 refine tr [15] (.cons rfl (fun K hK => ?_) .nil)
 go_simp
 first | (go_at_call 27; (with_reducible refine (HLE.out _ (hg1.trans hHeld.1)).mono ?_); rintro e w3 ⟨A3, c3, rfl, hg3, HRd3⟩)
 refine hK.out _ _ ?_ (fun hHeld => ?_)
 ·((try dsimp only); (try go_split_ands); (repeat' apply And.intro) <;> repeat first | assumption | exact Gr.refl _ | refine Gr.drew ?_ | refine Gr.alloc ?_ _ | refine alloc_old ?_ | refine Gr.keep (by assumption) ?_ | refine Gr.trans ?_ (by assumption))
 clear hK K; try simp only [Act.put, lA, lB, lC]
 refine tr [18] (.cons rfl (fun K hK => ?_) .nil)
 go_simp
 first | (go_at_call 41; (with_reducible refine (same5_any A3 Al l c3 cl L.mail _ HLL.out hml HRd3.out (HRM.out _ (hg1.trans hHeld.1))).mono ?_); rintro e w4 ⟨rfl, hg4⟩)
 refine hK.out _ _ ?_ (fun hHeld => ?_)
 ·((try dsimp only); (try go_split_ands); (repeat' apply And.intro) <;> repeat first | assumption | exact Gr.refl _ | refine Gr.drew ?_ | refine Gr.alloc ?_ _ | refine alloc_old ?_ | refine Gr.keep (by assumption) ?_ | refine Gr.trans ?_ (by assumption))
 clear hK K; try simp only [Act.put, lA, lB, lC]
 refine ti 19 (some 28) rfl rfl ?_; try simp only [Act.put, lA, lB, lC]
 refine ti 20 (some 29) rfl rfl ?_; try simp only [Act.put, lA, lB, lC]
 refine wpAnyH_done ?_ ?_ _
 ·kernel_rfl
 rotate_left
 all_goals
  have HGR4 := Lib.hid hHeld.1
  clear hHeld c0 c1 c2 hnn hbb
  go_wp2_with fail
  go_loopw [5] (fun z wr => ∃ k : Nat, k ≤ n ∧ z = .int .i64 (k : Int) ∧ Hid (Gr w1 wr)) (fun z _ => n - (intOf z).toNat)
  case atStart => exact ⟨0, Nat.zero_le _, rfl, HGR4⟩
  case round =>
   obtain ⟨k, hk, rfl, HGR⟩ := hrel
   clear HGR4
   have HB := Lib.hid (HB1.out.keep HGR.out)
   have c0 : wr.cell? ⟨T, 0, none⟩ = some (.slice As n cs) := HB.out.cell 0
   by_cases hlt : k < n
   ·have hki : (k : Int) < (n : Int) := by omega
    have hk0 : (0 : Int) ≤ (k : Int) := by omega
    obtain ⟨s, hs⟩ := site_at (L := L) k (by rw [HSH.out.n]; exact hlt)
    have HS := Lib.hid (fun W (hW : Gr w W) => HST.out k s W hs hW)
    have HU := Lib.hid (fun W (hW : Gr w W) => HUP.out k s W hs hW)
    obtain ⟨b, off, c', hsv, -, x0, x1, -⟩ := (HX.out.gr (hg1.trans HGR.out)).site3 hs
    rw [HSH.out.sv, HSH.out.n] at hsv
    injection hsv with hAs _ hcc
    subst hAs
    subst hcc
    obtain ⟨dn, hdn⟩ : ∃ dn, s.down = dn := ⟨_, rfl⟩
    rw [hdn] at HU x1
    generalize s.stock = x at HS x0
    have hxx : (x != x) = false := by simp
    have hdd : ((!dn) == dn) = false := by cases dn <;> rfl
    have hgw := hg1.trans HGR.out
    clear hs hdn
    go_wp2_with fail
    refine (HS.out _ hgw).mono ?_
    rintro e w5 ⟨rfl, rfl⟩
    go_upto_region 7 with fail
    refine wp_region_held_drew (S := (fun W' => Gr w5 W' ∧ W'.cell? ⟨T, 0, none⟩ = some (.slice (some ⟨b, off, none⟩) n cs) ∧ W'.cell? ⟨b, off + k * 3, none⟩ = some (.int .i64 x) ∧ W'.cell? ⟨b, off + k * 3 + 1, none⟩ = some (.bool dn))) ?_ ?_ (fun hHeld => ?_)
    ·kernel_rfl
    ·((try dsimp only); (try go_split_ands); (repeat' apply And.intro) <;> repeat first | assumption | exact Gr.refl _ | refine Gr.drew ?_ | refine Gr.alloc ?_ _ | refine alloc_old ?_ | refine Gr.keep (by assumption) ?_ | refine Gr.trans ?_ (by assumption))
    refine ti 0 (some 43) rfl rfl ?_; try simp only [Act.put, lA, lB, lC]
    refine ti 1 (some 44) rfl rfl ?_; try simp only [Act.put, lA, lB, lC]
    refine ti 2 (some 45) rfl rfl ?_; try simp only [Act.put, lA, lB, lC]
    refine ti 3 (some 46) rfl rfl ?_; try simp only [Act.put, lA, lB, lC]
    refine ti 4 (some 47) rfl rfl ?_; try simp only [Act.put, lA, lB, lC]
    refine ti 5 (some 48) rfl rfl ?_; try simp only [Act.put, lA, lB, lC]
    refine ti 6 (some 49) rfl rfl ?_; try simp only [Act.put, lA, lB, lC]
    refine ti 7 (some 50) rfl rfl ?_; try simp only [Act.put, lA, lB, lC]
    refine ti 8 (some 51) rfl rfl ?_; try simp only [Act.put, lA, lB, lC]
    refine ti 9 (some 52) rfl rfl ?_; try simp only [Act.put, lA, lB, lC]
    refine ti 10 (some 53) rfl rfl ?_; try simp only [Act.put, lA, lB, lC]
    refine ti 11 (some 54) rfl rfl ?_; try simp only [Act.put, lA, lB, lC]
    refine ti 12 (some 55) rfl rfl ?_; try simp only [Act.put, lA, lB, lC]
    refine ti 13 (some 56) rfl rfl ?_; try simp only [Act.put, lA, lB, lC]
    refine ti 14 (some 57) rfl rfl ?_; try simp only [Act.put, lA, lB, lC]
    refine ti 16 (some 59) rfl rfl ?_; try simp only [Act.put, lA, lB, lC]
    refine ti 17 (some 60) rfl rfl ?_; try simp only [Act.put, lA, lB, lC]
    refine ti 18 (some 61) rfl rfl ?_; try simp only [Act.put, lA, lB, lC]
    refine ti 19 (some 62) rfl rfl ?_; try simp only [Act.put, lA, lB, lC]
    refine ti 20 (some 63) rfl rfl ?_; try simp only [Act.put, lA, lB, lC]
    refine ti 21 (some 64) rfl rfl ?_; try simp only [Act.put, lA, lB, lC]
    refine tr [15] (.cons rfl (fun K hK => ?_) .nil)
    go_simp
    first | (go_at_call 17; (with_reducible refine (HU.out _ (hgw.trans hHeld.1)).mono ?_); rintro e w6 ⟨rfl, rfl⟩)
    refine hK.out _ _ ?_ (fun hHeld => ?_)
    ·((try dsimp only); (try go_split_ands); (repeat' apply And.intro) <;> repeat first | assumption | exact Gr.refl _ | refine Gr.drew ?_ | refine Gr.alloc ?_ _ | refine alloc_old ?_ | refine Gr.keep (by assumption) ?_ | refine Gr.trans ?_ (by assumption))
    clear hK K; try simp only [Act.put, lA, lB, lC]
    refine ti 22 (some 65) rfl rfl ?_; try simp only [Act.put, lA, lB, lC]
    refine ti 23 (some 66) rfl rfl ?_; try simp only [Act.put, lA, lB, lC]
    refine wpAnyH_done ?_ ?_ _
    ·kernel_rfl
    rotate_left
    all_goals
     have HG5 := Lib.hid (HGR.out.trans hHeld.1)
     clear hHeld c0 x0 x1 hxx hdd hgw
     go_wp2_with fail
     go_loopw [8] (fun z wx => ∃ j : Nat, j ≤ m ∧ z = .int .i64 ((j : Int) + 1) ∧ Hid (Gr w1 wx)) (fun z _ => m + 1 - (intOf z).toNat)
     case atStart => exact ⟨0, Nat.zero_le _, rfl, HG5⟩
     case round =>
      obtain ⟨j, hj, rfl, HGX⟩ := hrel
      rename World => wx
      have k1 := HB1.out.keep HGX.out
      have d0 : wx.cell? ⟨T, 0, none⟩ = some (.slice (some ⟨b, off, none⟩) n cs) := k1.cell 0
      have d1 : wx.cell? ⟨T, 1, none⟩ = some (.slice At m ct) := k1.cell 1
      have d2 : wx.cell? ⟨T, 2, none⟩ = some (.slice Al l cl) := k1.cell 2
      clear k1
      by_cases hlj : j < m
      ·have hji : (j : Int) < (m : Int) := by omega
       have hgx := hg1.trans HGX.out
       have HO1 := Lib.hid (fun W (hW : Gr w W) => HOP.out (k : Int) ((j : Int) + 1) W hW ⟨by omega, by omega⟩)
       have HO2 := Lib.hid (fun W (hW : Gr w W) => HOX.out (k : Int) ((j : Int) + 1) W hW)
       generalize xOutc L.era (k : Int) ((j : Int) + 1) = v at HO1 HO2
       have hvv : (v != v) = false := by simp
       go_upto_region 12 with fail
       refine wp_region_held_drew (S := (fun W' => Gr wx W' ∧ W'.cell? ⟨T, 0, none⟩ = some (.slice (some ⟨b, off, none⟩) n cs) ∧ W'.cell? ⟨T, 1, none⟩ = some (.slice At m ct) ∧ W'.cell? ⟨T, 2, none⟩ = some (.slice Al l cl))) ?_ ?_ (fun hHeld => ?_)
       ·kernel_rfl
       ·((try dsimp only); (try go_split_ands); (repeat' apply And.intro) <;> repeat first | assumption | exact Gr.refl _ | refine Gr.drew ?_ | refine Gr.alloc ?_ _ | refine alloc_old ?_ | refine Gr.keep (by assumption) ?_ | refine Gr.trans ?_ (by assumption))
       refine ti 0 (some 74) rfl rfl ?_; try simp only [Act.put, lA, lB, lC]
       refine ti 1 (some 75) rfl rfl ?_; try simp only [Act.put, lA, lB, lC]
       refine ti 2 (some 76) rfl rfl ?_; try simp only [Act.put, lA, lB, lC]
       refine ti 4 (some 78) rfl rfl ?_; try simp only [Act.put, lA, lB, lC]
       refine ti 5 (some 79) rfl rfl ?_; try simp only [Act.put, lA, lB, lC]
       refine ti 6 (some 80) rfl rfl ?_; try simp only [Act.put, lA, lB, lC]
       refine tr [3] (.cons rfl (fun K hK => ?_) .nil)
       go_simp
       first | (go_at_call 18; (with_reducible refine (HO1.out _ (hgx.trans hHeld.1)).mono ?_); rintro e w7 ⟨rfl, hg7⟩)
       refine hK.out _ _ ?_ (fun hHeld => ?_)
       ·((try dsimp only); (try go_split_ands); (repeat' apply And.intro) <;> repeat first | assumption | exact Gr.refl _ | refine Gr.drew ?_ | refine Gr.alloc ?_ _ | refine alloc_old ?_ | refine Gr.keep (by assumption) ?_ | refine Gr.trans ?_ (by assumption))
       clear hK K; try simp only [Act.put, lA, lB, lC]
       refine tr [7] (.cons rfl (fun K hK => ?_) .nil)
       go_simp
       first | (go_at_call 42; (with_reducible refine (HO2.out _ (hgx.trans hHeld.1)).mono ?_); rintro e w8 ⟨rfl, hg8⟩)
       refine hK.out _ _ ?_ (fun hHeld => ?_)
       ·((try dsimp only); (try go_split_ands); (repeat' apply And.intro) <;> repeat first | assumption | exact Gr.refl _ | refine Gr.drew ?_ | refine Gr.alloc ?_ _ | refine alloc_old ?_ | refine Gr.keep (by assumption) ?_ | refine Gr.trans ?_ (by assumption))
       clear hK K; try simp only [Act.put, lA, lB, lC]
       refine ti 8 (some 82) rfl rfl ?_; try simp only [Act.put, lA, lB, lC]
       refine wpAnyH_done ?_ ?_ _
       ·kernel_rfl
       rotate_left
       all_goals
        have HG6 := Lib.hid (HGX.out.trans hHeld.1)
        clear hHeld d0 d1 d2 hvv hgx
        go_wp2_with fail
        go_roundw
        case rel => exact ⟨j + 1, by omega, by go_num, HG6⟩
        case measure => simp [intOf]; omega
      ·obtain rfl : m = j := by omega
       go_wp2_with fail
       go_roundw
       case rel => exact ⟨k + 1, by omega, by go_num, HGX⟩
       case measure => simp [intOf]; omega
   ·obtain rfl : n = k := by omega
    go_wp2_with fail
    go_ret
    exact ⟨rfl, hg1.trans HGR.out⟩

end Go.Proofs.YtnoeiocbmhkmeaaGreat

namespace Go.Proofs.YtnoeiocbmhkmeaaGreat
open Go.RowKit Go.ChangeShapes Go.WideShapes Go.ChangeAt
set_option linter.unusedSimpArgs false
set_option maxRecDepth 100000
set_option maxHeartbeats 80000000

section
variable {H : Type} {enc : TypeId × Value → H} {P : Program}

def Readable (P : Program) (ts : List TypeId) : Prop := ∀ t ∈ ts, P.readableRec t = true ∧ t < P.types.size

theorem trodAll_gr (hl : laidOutB P = true) {W W' : World} (hg : Gr W W') {sp : Nat → Bool} : ∀ {ts : List TypeId} {vs : List Value} {ds : List (DataW H)} {ps : List MemPlace}, Readable P ts →
 DataW.TrodAll enc P W 0 (fun _ => true) true ts vs ds ps → (∀ x ∈ ps, x.block < W.heap.size ∧ sp x.block = true) → DataW.TrodAll enc P W' 0 sp true ts vs ds ps
 | [], _, _, _, _, h, _ => by
   obtain ⟨rfl, rfl, rfl⟩ := trodAll_nil h
   exact rfl
 | t :: ts, vs, ds, ps, hr, h, hp => by
   obtain ⟨v, vs', d, ds', p, q, rfl, rfl, rfl, h1, h2⟩ := trodAll_cons h
   obtain ⟨r1, r2⟩ := hr t (List.mem_cons_self ..)
   refine ⟨p, q, WideElems.Trod_stays hl r1 r2 h1 (fun x hx => ?_) (fun x hx => (hp x (List.mem_append_left _ hx)).2), ?_, rfl⟩
   ·exact Below.same hg (hp x (List.mem_append_left _ hx)).1
   ·exact trodAll_gr hl hg (fun t ht => hr t (List.mem_cons_of_mem _ ht)) h2 (fun x hx => hp x (List.mem_append_right _ hx))

theorem law_post {f : Func} {s : ChangeSpec} {W W' : World} {args : Array Value} {ds gs : List (DataW H)} {before : List MemPlace} {tb : TypeId}
 (hl : laidOutB P = true) (hr : Readable P f.params.toList) (hv : s.vars = []) (hres : f.resultTypes = #[tb]) (hb : P.underlying tb = some .bool)
 (hfn : (s.fn H (ds ++ gs)).results = [.lit (.bool true)] ∧ (s.fn H (ds ++ gs)).args = ds ∧ (s.fn H (ds ++ gs)).vars = [])
 (hW : DataW.Whole enc P f.params.toList s.vars false W args.toList ds gs before) (hg : Gr W W') :
 s.post enc P f false true false false W args (.bool true) W' := by
 have hlt : ∀ p ∈ before, p.block < W.heap.size := fun p hp => hW.lt p hp
 obtain ⟨p, q, hA, hV, hpq, hz, hn⟩ := id hW
 rw [hv] at hV
 obtain ⟨rfl, rfl⟩ := trodVars_none hV
 rw [List.append_nil] at hpq
 subst hpq
 have hargs : ∀ sp : Nat → Bool, (∀ x ∈ before, sp x.block = true) → DataW.TrodAll enc P W' 0 sp true f.params.toList args.toList ds before :=
  fun sp hsp => trodAll_gr hl hg hr hA (fun x hx => ⟨hlt x hx, hsp x hx⟩)
 have hbool : ∀ (b : Nat) (sp : Nat → Bool) (hd : Bool), DataW.TrodAll enc P W' b sp hd f.resultTypes.toList ((Value.bool true).resultList f.resultTypes.size) [.lit (.bool true)] [] := fun b sp hd => by
  rw [hres]
  exact trodAll_mk1 (shut_bool hb true)
 refine ⟨ds, [], before, [], before, [], hW, ?_, ?_, ?_, ?_, ?_⟩
 ·rw [hfn.1]; exact hbool _ _ _
 ·rw [hfn.2.1]; exact hargs _ (fun x hx => by simpa using hlt x hx)
 ·rw [hfn.2.2, hv]; exact rfl
 ·exact World.keptBut_mono (fun p hp => ⟨hp, Or.inr (Or.inl hp)⟩) (Below.frame hg (· ∈ before))
 ·intro h; exact absurd h (by decide)
end

end Go.Proofs.YtnoeiocbmhkmeaaGreat

namespace Go.Proofs.YtnoeiocbmhkmeaaGreat
open Go.RowKit Go.Deep Go.Joins Go.ChangeShapes Go.WideShapes Go.ChangeAt
set_option linter.unusedSimpArgs false
set_option maxRecDepth 100000
set_option maxHeartbeats 80000000

theorem own_knob : ownKnob Tryz.prog.godebug = none := by kernel_rfl
theorem laid_out : laidOutB Tryz.prog = true := by kernel_rfl
section
variable {H : Type} {enc : TypeId × Value → H} {P : Program} {w : World} {base : Nat} {sp : Nat → Bool} {hd : Bool}
end
theorem cell_spot {w : World} {a : Addr} {v : Value} (h : w.cell? a = some v) : a.spot = none := by
 unfold World.cell? at h
 split at h
 ·split at h
  ·cases h
  ·rename_i hs; simpa using hs
 ·cases h

section
variable {H : Type} {enc : TypeId × Value → H} {P : Program} {w : World} {base : Nat} {hd : Bool}
end
theorem slice_one {P : Program} {w : World} {r : Reach} {b0 : Nat} {t e : TypeId} {v : Value} (ht : P.underlying t = some (.slice e)) (hv : Value.okWide P w r b0 t v) : ∃ u : Value, v.cells.toList = [u] ∧ v = u := by
 obtain ⟨a0, l0, k0, rfl⟩ := okWide_slice ht hv
 exact ⟨_, by simp [Value.cells], rfl⟩

set_option maxRecDepth 100000
set_option maxHeartbeats 80000000

theorem i64_of {x : Int} (h : (Lit.int .i64 x).wf = true) : I64 x := by
 show -9223372036854775808 ≤ x ∧ x ≤ 9223372036854775807
 have h' : (decide ((-9223372036854775808 : Int) ≤ x) && decide (x ≤ 9223372036854775807)) = true := h
 rw [Bool.and_eq_true, decide_eq_true_eq, decide_eq_true_eq] at h'
 exact h'
section
variable {H : Type} {enc : TypeId × Value → H} {P : Program} {w : World} {base : Nat} {sp : Nat → Bool} {hd : Bool}
theorem trod_intB {t : TypeId} (ht : P.underlying t = some (.int .i64)) {n : Nat} {v : Value} {y : DataW H × List MemPlace}
 (h : DataW.trod enc P w base sp hd n t [v] = some y) : ∃ i, v = .int .i64 i ∧ I64 i := by
 obtain ⟨x, e, -, hw⟩ := DataW.trod_int ht h
 exact ⟨x, by simpa using e, i64_of hw⟩
end
section
variable {H : Type} {enc : TypeId × Value → H} {P : Program} {w : World} {base : Nat} {hd : Bool}
theorem open_slots5 {t e : TypeId} {z : Nat} {fuel : Nat} {v : Value} {y : DataW H × List MemPlace} (ht : P.underlying t = some (.slice e)) (hC : P.cellsOf e = z) (h0 : 0 < z) (h : DataW.trod enc P w base (fun _ => true) hd fuel t [v] = some y) :
 ∃ A n c, v = .slice A n c ∧ n ≤ c ∧ c ≤ maxLen ∧ (A = none → c = 0) ∧ ∀ i, i < c → ∃ b off m y, A = some ⟨b, off, none⟩ ∧ ∃ cs : List Value, cs.length = z ∧ (∀ j v, cs[j]? = some v → w.cell? ⟨b, off + i * z + j, none⟩ = some v) ∧ DataW.trod enc P w base (fun _ => true) hd m e cs = some y := by
 rcases open_slice ht h with ⟨hc, -⟩ | ⟨a, len, cap, m, n, D, Pl, hc, -, hl, hm, hmm, -, hi⟩
 ·obtain rfl : v = .slice none 0 0 := by simpa using hc
  exact ⟨none, 0, 0, rfl, Nat.le_refl _, Nat.zero_le _, fun _ => rfl, fun i hi => by omega⟩
 ·obtain rfl : v = .slice (some a) len cap := by simpa using hc
  have hmc : m = cap := by simpa using hmm
  subst hmc
  refine ⟨some a, len, m, rfl, hl, hm, (fun h => by cases h), fun i him => ?_⟩
  have hsp : a.spot = none := by
   obtain ⟨cs0, g1, -⟩ := hi 0 (by omega)
   rw [hC] at g1
   obtain ⟨-, glen, gat⟩ := World.cells?_some g1
   have g2 := gat 0 h0
   rw [List.getElem?_eq_getElem (by omega)] at g2
   have e0 : (a.add (0 * z)).add 0 = a := by rw [add_add, Nat.zero_mul, Nat.zero_add]; simp [Addr.add]
   rw [e0] at g2
   exact cell_spot g2
  obtain ⟨b, off, spt⟩ := a
  obtain rfl : spt = none := hsp
  obtain ⟨cs, h1, h2⟩ := hi i him
  rw [hC] at h1
  obtain ⟨-, hlen, hat⟩ := World.cells?_some h1
  refine ⟨b, off, n, _, rfl, cs, hlen, fun j v hv => ?_, h2⟩
  have hj : j < z := by rw [← hlen]; exact (List.getElem?_eq_some_iff.1 hv).1
  have h3 := hat j hj
  rw [hv, add_add, Addr.add_lit] at h3
  rw [Nat.add_assoc]
  exact h3
end

section
variable {H : Type} {enc : TypeId × Value → H} {w : World} {base : Nat} {hd : Bool}
theorem open_ints5 {r : Reach} {b0 : Nat} {v : Value} {d : DataW H} {p : List MemPlace} (hv : Value.okWide Tryz.prog w r b0 22 v) (h : DataW.Trod enc Tryz.prog w base (fun _ => true) hd 22 v d p) :
 ∃ A n c l, v = .slice A n c ∧ n ≤ c ∧ c ≤ maxLen ∧ (A = none → c = 0) ∧ List.length l = n ∧ Ints w A l ∧ ∀ x ∈ l, I64 x := by
 obtain ⟨u, e0, rfl⟩ := slice_one Tryz.underlying22 hv
 obtain ⟨fuel, hf⟩ := h
 rw [e0] at hf
 obtain ⟨A, n, c, rfl, hc, hm, h0, hi⟩ := open_slots5 Tryz.underlying22 (show Tryz.prog.cellsOf 3 = 1 by kernel_rfl) (by omega) hf
 have key : ∀ i, i < c → ∃ b off x0, A = some ⟨b, off, none⟩ ∧ w.cell? ⟨b, off + i * 1, none⟩ = some (.int .i64 x0) ∧ I64 x0 := fun i hic => by
  obtain ⟨b, off, m, y, e, cs, hl, hat, ht⟩ := hi i hic
  obtain ⟨c0, rfl⟩ : ∃ c0, cs = [c0] := by
   match cs, hl with
   | [c0], _ => exact ⟨c0, rfl⟩
  obtain ⟨x0, rfl, hb0⟩ := trod_intB Tryz.underlying3 ht
  exact ⟨b, off, x0, e, hat 0 _ rfl, hb0⟩
 refine ⟨A, n, c, (List.range n).map fun i => match A with
  | some a => intOf ((w.cell? ⟨a.block, a.off + i * 1, none⟩).getD undef)
  | none => 0, rfl, hc, hm, h0, by simp, fun i x hx => ?_, fun p hp => ?_⟩
 ·have hil : i < n := by have := (List.getElem?_eq_some_iff.1 hx).1; simpa using this
  obtain ⟨b, off, x0, rfl, e0, -⟩ := key i (by omega)
  rw [List.getElem?_map, List.getElem?_range hil] at hx
  simp only [Option.map_some, e0, Option.getD_some, intOf] at hx
  injection hx with hx
  subst hx
  refine ⟨b, off, rfl, fun j v hv => ?_⟩
  match j, hv with
  | 0, hv => injection hv with hv; subst hv; exact e0
  | j + 1, hv => simp [enc1] at hv
 ·obtain ⟨i, hil, rfl⟩ := List.mem_map.1 hp
  rw [List.mem_range] at hil
  obtain ⟨b, off, x0, rfl, e0, b0⟩ := key i (by omega)
  simp only [e0, Option.getD_some, intOf]
  exact b0
end

set_option maxRecDepth 100000
set_option maxHeartbeats 80000000

theorem move_two : ∃ f0 f1 : Field, Tryz.prog.underlying 61 = some (.struct #[f0, f1]) ∧ oneCellFields Tryz.prog #[f0, f1] = true ∧ Tryz.prog.cellsOf 61 = 2 ∧ Tryz.prog.underlying f0.type = some (.int .i64) ∧ Tryz.prog.underlying f1.type = some (.int .i64) :=
 ⟨_, _, Tryz.underlying61, by kernel_rfl, by kernel_rfl, Tryz.underlying3, Tryz.underlying3⟩
theorem act_four : ∃ f0 f1 f2 f3 : Field, Tryz.prog.underlying 40 = some (.struct #[f0, f1, f2, f3]) ∧ oneCellFields Tryz.prog #[f0, f1, f2, f3] = true ∧ Tryz.prog.cellsOf 40 = 4 ∧ Tryz.prog.underlying f0.type = some (.int .i64) ∧ Tryz.prog.underlying f1.type = some (.int .i64) ∧ Tryz.prog.underlying f2.type = some (.int .i64) ∧ f3.type = 38 :=
 ⟨_, _, _, _, Tryz.underlying40, by kernel_rfl, by kernel_rfl, Tryz.underlying3, Tryz.underlying3, Tryz.underlying3, rfl⟩
section
variable {H : Type} {enc : TypeId × Value → H} {w : World} {base : Nat} {hd : Bool}
structure MovesIn (w : World) (A : Option Addr) (n c : Nat) (bs : List (Int × Int)) : Prop where
 le : n ≤ c
 max : c ≤ maxLen
 nil : A = none → c = 0
 len : bs.length = n
 rd : Pts w A bs
 small : ∀ p ∈ bs, I64 p.1 ∧ I64 p.2
theorem open_moves {fuel : Nat} {v : Value} {y : DataW H × List MemPlace} (h : DataW.trod enc Tryz.prog w base (fun _ => true) hd fuel 38 [v] = some y) :
 ∃ A n c bs, v = .slice A n c ∧ MovesIn w A n c bs := by
 obtain ⟨f0, f1, hs, hone, hC, u0, u1⟩ := move_two
 obtain ⟨A, n, c, rfl, hc, hm, h0, hi⟩ := open_slots5 Tryz.underlying38 hC (by omega) h
 have key : ∀ i, i < c → ∃ b off x0 x1, A = some ⟨b, off, none⟩ ∧ w.cell? ⟨b, off + i * 2, none⟩ = some (.int .i64 x0) ∧ w.cell? ⟨b, off + i * 2 + 1, none⟩ = some (.int .i64 x1) ∧ I64 x0 ∧ I64 x1 := fun i hic => by
  obtain ⟨b, off, m, y, e, cs, hl, hat, ht⟩ := hi i hic
  obtain ⟨xs, k, -, -, -, hxl, hf⟩ := DataW.trod_struct hs ht
  have hx2 : xs.length = 2 := by simpa using hxl
  have g0 := hf 0 f0 rfl
  have g1 := hf 1 f1 rfl
  obtain ⟨o0, k0⟩ := hone_of hone 0 f0 rfl
  obtain ⟨o1, k1⟩ := hone_of hone 1 f1 rfl
  obtain ⟨c0, c1, rfl⟩ : ∃ c0 c1, cs = [c0, c1] := by
   match cs, hl with
   | [c0, c1], _ => exact ⟨c0, c1, rfl⟩
  rw [o0, k0, List.getElem?_eq_getElem (by omega)] at g0
  rw [o1, k1, List.getElem?_eq_getElem (by omega)] at g1
  obtain ⟨x0, rfl, hb0⟩ := trod_intB u0 (v := c0) (by simpa using g0)
  obtain ⟨x1, rfl, hb1⟩ := trod_intB u1 (v := c1) (by simpa using g1)
  exact ⟨b, off, x0, x1, e, hat 0 _ rfl, hat 1 _ rfl, hb0, hb1⟩
 refine ⟨A, n, c, (List.range n).map fun i => match A with
  | some a => (intOf ((w.cell? ⟨a.block, a.off + i * 2, none⟩).getD undef), intOf ((w.cell? ⟨a.block, a.off + i * 2 + 1, none⟩).getD undef))
  | none => (0, 0), rfl, hc, hm, h0, by simp, fun i x hx => ?_, fun p hp => ?_⟩
 ·have hil : i < n := by have := (List.getElem?_eq_some_iff.1 hx).1; simpa using this
  obtain ⟨b, off, x0, x1, rfl, e0, e1, -, -⟩ := key i (by omega)
  rw [List.getElem?_map, List.getElem?_range hil] at hx
  simp only [Option.map_some, e0, e1, Option.getD_some, intOf] at hx
  injection hx with hx
  subst hx
  refine ⟨b, off, rfl, fun j v hv => ?_⟩
  match j, hv with
  | 0, hv => injection hv with hv; subst hv; exact e0
  | 1, hv => injection hv with hv; subst hv; exact e1
  | j + 2, hv => simp [enc2] at hv
 ·obtain ⟨i, hil, rfl⟩ := List.mem_map.1 hp
  rw [List.mem_range] at hil
  obtain ⟨b, off, x0, x1, rfl, e0, e1, b0, b1⟩ := key i (by omega)
  simp only [e0, e1, Option.getD_some, intOf]
  exact ⟨b0, b1⟩
structure ActIn (w : World) (kd st nn : Int) (A : Option Addr) (n c : Nat) (bs : List (Int × Int)) : Prop where
 ik : I64 kd
 is : I64 st
 ino : I64 nn
 parts : MovesIn w A n c bs
structure Ac where
 kd : Int
 st : Int
 nn : Int
 A : Option Addr
 n : Nat
 c : Nat
 bs : List (Int × Int)
def encA (a : Ac) : List Value := [.int .i64 a.kd, .int .i64 a.st, .int .i64 a.nn, .slice a.A a.n a.c]
def AcOk (w : World) (a : Ac) : Prop := ActIn w a.kd a.st a.nn a.A a.n a.c a.bs
theorem open_acts {r : Reach} {b0 : Nat} {v : Value} {d : DataW H} {p : List MemPlace} (hv : Value.okWide Tryz.prog w r b0 23 v) (h : DataW.Trod enc Tryz.prog w base (fun _ => true) hd 23 v d p) :
 ∃ A n c l, v = .slice A n c ∧ n ≤ c ∧ c ≤ maxLen ∧ List.length l = n ∧ Rd 4 encA w A l ∧ ∀ a ∈ l, AcOk w a := by
 obtain ⟨u, e0, rfl⟩ := slice_one Tryz.underlying23 hv
 obtain ⟨fuel, hf⟩ := h
 rw [e0] at hf
 obtain ⟨f0, f1, f2, f3, hs, hone, hC, u0, u1, u2, u3⟩ := act_four
 obtain ⟨A, n, c, rfl, hc, hm, h0, hi⟩ := open_slots5 Tryz.underlying23 hC (by omega) hf
 have key : ∀ i, i < c → ∃ a : Ac, AcOk w a ∧ ∃ b off, A = some ⟨b, off, none⟩ ∧ ∀ j v, (encA a)[j]? = some v → w.cell? ⟨b, off + i * 4 + j, none⟩ = some v := fun i hic => by
  obtain ⟨b, off, m, y, e, cs, hl, hat, ht⟩ := hi i hic
  obtain ⟨xs, k, -, -, -, hxl, hf⟩ := DataW.trod_struct hs ht
  have hx4 : xs.length = 4 := by simpa using hxl
  have g0 := hf 0 f0 rfl
  have g1 := hf 1 f1 rfl
  have g2 := hf 2 f2 rfl
  have g3 := hf 3 f3 rfl
  obtain ⟨o0, k0⟩ := hone_of hone 0 f0 rfl
  obtain ⟨o1, k1⟩ := hone_of hone 1 f1 rfl
  obtain ⟨o2, k2⟩ := hone_of hone 2 f2 rfl
  obtain ⟨o3, k3⟩ := hone_of hone 3 f3 rfl
  obtain ⟨c0, c1, c2, c3, rfl⟩ : ∃ c0 c1 c2 c3, cs = [c0, c1, c2, c3] := by
   match cs, hl with
   | [c0, c1, c2, c3], _ => exact ⟨c0, c1, c2, c3, rfl⟩
  rw [o0, k0, List.getElem?_eq_getElem (by omega)] at g0
  rw [o1, k1, List.getElem?_eq_getElem (by omega)] at g1
  rw [o2, k2, List.getElem?_eq_getElem (by omega)] at g2
  rw [o3, k3, List.getElem?_eq_getElem (by omega), u3] at g3
  obtain ⟨x0, rfl, hb0⟩ := trod_intB u0 (v := c0) (by simpa using g0)
  obtain ⟨x1, rfl, hb1⟩ := trod_intB u1 (v := c1) (by simpa using g1)
  obtain ⟨x2, rfl, hb2⟩ := trod_intB u2 (v := c2) (by simpa using g2)
  obtain ⟨A3, n3, e3, bs, rfl, hm3⟩ := open_moves (v := c3) (by simpa using g3)
  exact ⟨⟨x0, x1, x2, A3, n3, e3, bs⟩, ⟨hb0, hb1, hb2, hm3⟩, b, off, e, hat⟩
 refine ⟨A, n, c, (List.range n).map fun i => if hic : i < c then (key i hic).choose else ⟨0, 0, 0, none, 0, 0, []⟩, rfl, hc, hm, by simp, fun i x hx => ?_, fun a ha => ?_⟩
 ·have hil : i < n := by have := (List.getElem?_eq_some_iff.1 hx).1; simpa using this
  rw [List.getElem?_map, List.getElem?_range hil, Option.map_some, dif_pos (by omega)] at hx
  injection hx with hx
  have h1 := (key i (by omega)).choose_spec.2
  rw [hx] at h1
  exact h1
 ·obtain ⟨i, hil, rfl⟩ := List.mem_map.1 ha
  rw [List.mem_range] at hil
  rw [dif_pos (by omega)]
  exact (key i (by omega)).choose_spec.1
end

end Go.Proofs.YtnoeiocbmhkmeaaGreat
