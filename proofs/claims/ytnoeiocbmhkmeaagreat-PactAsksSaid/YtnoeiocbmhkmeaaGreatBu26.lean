/- Layer 5: the reference asks whether a site can promise a change. -/
import Derived.Test.YtnoeiocbmhkmeaaGreatBu25
namespace Go.Proofs.YtnoeiocbmhkmeaaGreat
open Go.RowKit
set_option linter.unusedSimpArgs false
set_option maxRecDepth 100000
set_option maxHeartbeats 80000000

def xAddM (c : Int) (m : Int × (Int × Int)) : Int := if m.1 = 1 ∧ decide (m.2.2 < 0) = decide (c < 0) then m.2.2 else 0
theorem xSum_take {c : Int} {l : List (Int × (Int × Int))} {i : Nat} (hi : i < l.length) : xSum c (l.take (i + 1)) = xSum c (l.take i) + xAddM c (l.getD i (0, (0, 0))) := by
 unfold xSum
 rw [List.take_add_one, show l[i]? = some (l.getD i (0, (0, 0))) from getD_of _ hi, Option.toList_some, List.map_append, List.sum_append]
 simp [xAddM]
theorem xSum_bd {c : Int} : ∀ (l : List (Int × (Int × Int))), (∀ m ∈ l, -1099511627776 ≤ m.2.2 ∧ m.2.2 ≤ 1099511627776) → -(1099511627776 * (l.length : Int)) ≤ xSum c l ∧ xSum c l ≤ 1099511627776 * (l.length : Int)
 | [], _ => by simp [xSum]
 | m :: r, h => by
   have ih := xSum_bd (c := c) r (fun x hx => h x (List.mem_cons_of_mem _ hx))
   have hm := h m List.mem_cons_self
   have e : xSum c (m :: r) = xAddM c m + xSum c r := by unfold xSum xAddM; rw [List.map_cons, List.sum_cons]
   have hb : -1099511627776 ≤ xAddM c m ∧ xAddM c m ≤ 1099511627776 := by
    unfold xAddM
    split <;> omega
   rw [e, List.length_cons]
   push_cast
   omega
theorem xposs_any (s : LS) (c : Int) (w : World) (hp : RdV 3 encMi w s.mv s.minds) (hl : s.minds.length ≤ 256) (hs : 0 ≤ s.stock ∧ s.stock ≤ 1099511627776) (hc : -1099511627776 ≤ c ∧ c ≤ 1099511627776) (hm : ∀ m ∈ s.minds, -1099511627776 ≤ m.2.2 ∧ m.2.2 ≤ 1099511627776) :
 Calls Tryz.prog 78 #[.agg #[.int .i64 s.stock, .bool s.down, s.mv], .int .i64 c] w fun e w' => e = .returned (.bool (xPoss s.era c)) ∧ Gr w w' := by
 obtain ⟨A, cap, e, hca, -, hr⟩ := hp
 have HX : Hid (xPoss s.era c = ((decide (c < 0) && decide (0 ≤ s.stock + c + xSum c s.minds)) || (decide (0 < c) && decide (s.stock + c + xSum c s.minds ≤ 1099511627776)))) := Lib.hid rfl
 rw [e]
 obtain ⟨p, hpl⟩ : ∃ p, s.minds.length = p := ⟨_, rfl⟩
 generalize xPoss s.era c = r at HX ⊢
 generalize s.down = dn
 generalize s.stock = st at hs HX ⊢
 generalize s.minds = ms at hr hpl hl hm HX ⊢
 rw [hpl] at hl ⊢
 obtain ⟨hs1, hs2⟩ := hs
 obtain ⟨hc1, hc2⟩ := hc
 have HPL := Lib.hid hpl
 have HR := Lib.hid hr
 have HB : Hid (∀ i, i ≤ p → -281474976710656 ≤ xSum c (ms.take i) ∧ xSum c (ms.take i) ≤ 281474976710656) := Lib.hid (fun i hi => by
  have h1 := xSum_bd (c := c) (ms.take i) (fun m hmm => hm m (List.mem_of_mem_take hmm))
  have h2 : (ms.take i).length ≤ 256 := by rw [List.length_take]; omega
  omega)
 have HM := Lib.hid hm
 clear e hpl hr hca hm
 go_enter Tryz.func78, Tryz.ntmps78
 go_upto_region 1 with fail
 generalize hW1 : World.alloc w _ = w1
 have hg1 : Gr w w1 := by rw [← hW1]; exact (Gr.refl w).alloc _
 obtain ⟨g, hg⟩ : ∃ g, w.heap.size = g := ⟨_, rfl⟩
 have k1 : Blk w1 g 73 #[.int .i64 st, .bool dn, .slice A p cap] := by rw [← hW1]; exact Blk.new _ _ _ hg
 have HG := Lib.hid hg1
 have HK := Lib.hid k1
 have HR1 := Lib.hid (HR.out.keep hg1)
 have v0 := k1.cell 0
 have v2 := k1.cell 2
 simp only [List.getElem?_toArray, List.getElem?_cons_succ, List.getElem?_cons_zero] at v0 v2
 rw [hg]
 clear hg1 hW1 hg k1
 go_wp2_with fail
 go_loopw [5, 6] (fun a z wr => ∃ i : Nat, i ≤ p ∧ z = .int .i64 (i : Int) ∧ a = .int .i64 (st + c + xSum c (ms.take i)) ∧ Gr w1 wr) (fun _ z _ => p - (intOf z).toNat)
 case atStart => exact ⟨0, Nat.zero_le _, rfl, by simp [xSum], Gr.refl _⟩
 case round =>
  obtain ⟨i, hi, rfl, rfl, hgr⟩ := hrel
  have HGR := Lib.hid hgr
  replace v2 := hgr.keep v2
  obtain ⟨hb1, hb2⟩ := HB.out i hi
  by_cases hlt : i < p
  ·obtain ⟨b, off, rfl, hcl⟩ := Rd.cells (HR1.out.keep hgr) (i := i) (by rw [HPL.out]; exact hlt)
   have hii : (i : Int) < (p : Int) := by omega
   have hi0 : (0 : Int) ≤ (i : Int) := by omega
   have hgt : ms[i]'(by rw [HPL.out]; exact hlt) = ms.getD i (0, (0, 0)) := by rw [List.getD_eq_getElem?_getD, List.getElem?_eq_getElem (by rw [HPL.out]; exact hlt)]; rfl
   rw [hgt] at hcl
   have x0 := hcl 0 _ rfl
   have x1 := hcl 1 _ rfl
   have x2 := hcl 2 _ rfl
   obtain ⟨hm1, hm2⟩ := HM.out (ms.getD i (0, (0, 0))) (by rw [← hgt]; exact List.getElem_mem _)
   have HT := Lib.hid (xSum_take (c := c) (l := ms) (i := i) (by rw [HPL.out]; exact hlt))
   generalize ms.getD i (0, (0, 0)) = q at x0 x1 x2 HT hm1 hm2
   generalize xSum c (ms.take i) = T at hb1 hb2 HT ⊢
   obtain ⟨q1, q2, q3⟩ := q
   dsimp only at x0 x1 x2 hm1 hm2
   rw [Nat.add_zero] at x0
   clear hcl hgt hgr v0
   unfold xAddM at HT
   dsimp only at HT
   by_cases hq : q1 = 1
   ·subst hq
    by_cases h3 : q3 < 0
    ·by_cases h4 : c < 0
     ·have hd := Lib.hid (show xSum c (ms.take (i + 1)) = T + q3 from by rw [HT.out, if_pos ⟨rfl, by simp [h3, h4]⟩])
      clear HT
      go_wp2_with fail
      go_roundw
      case rel => exact ⟨i + 1, by omega, by go_num, by rw [hd.out]; congr 1; omega, by have := HGR.out; (repeat (first | exact Gr.refl _ | assumption | (refine Gr.drew ?_) | (refine Gr.drewN ?_ _) | (refine Gr.alloc ?_ _) | (refine Gr.trans ?_ (by assumption))))⟩
      case measure => simp [intOf]; omega
     ·have hd := Lib.hid (show xSum c (ms.take (i + 1)) = T from by rw [HT.out, if_neg (by simp [h3, h4])]; omega)
      clear HT
      go_wp2_with fail
      go_roundw
      case rel => exact ⟨i + 1, by omega, by go_num, by rw [hd.out], by have := HGR.out; (repeat (first | exact Gr.refl _ | assumption | (refine Gr.drew ?_) | (refine Gr.drewN ?_ _) | (refine Gr.alloc ?_ _) | (refine Gr.trans ?_ (by assumption))))⟩
      case measure => simp [intOf]; omega
    ·by_cases h4 : c < 0
     ·have hd := Lib.hid (show xSum c (ms.take (i + 1)) = T from by rw [HT.out, if_neg (by simp [h3, h4])]; omega)
      clear HT
      go_wp2_with fail
      go_roundw
      case rel => exact ⟨i + 1, by omega, by go_num, by rw [hd.out], by have := HGR.out; (repeat (first | exact Gr.refl _ | assumption | (refine Gr.drew ?_) | (refine Gr.drewN ?_ _) | (refine Gr.alloc ?_ _) | (refine Gr.trans ?_ (by assumption))))⟩
      case measure => simp [intOf]; omega
     ·have hd := Lib.hid (show xSum c (ms.take (i + 1)) = T + q3 from by rw [HT.out, if_pos ⟨rfl, by simp [h3, h4]⟩])
      clear HT
      go_wp2_with fail
      go_roundw
      case rel => exact ⟨i + 1, by omega, by go_num, by rw [hd.out]; congr 1; omega, by have := HGR.out; (repeat (first | exact Gr.refl _ | assumption | (refine Gr.drew ?_) | (refine Gr.drewN ?_ _) | (refine Gr.alloc ?_ _) | (refine Gr.trans ?_ (by assumption))))⟩
      case measure => simp [intOf]; omega
   ·have hqb : (q1 == 1) = false := by simpa using hq
    have hd := Lib.hid (show xSum c (ms.take (i + 1)) = T from by rw [HT.out, if_neg (fun h => hq h.1)]; omega)
    clear HT
    go_wp2_with fail
    go_roundw
    case rel => exact ⟨i + 1, by omega, by go_num, by rw [hd.out], by have := HGR.out; (repeat (first | exact Gr.refl _ | assumption | (refine Gr.drew ?_) | (refine Gr.drewN ?_ _) | (refine Gr.alloc ?_ _) | (refine Gr.trans ?_ (by assumption))))⟩
    case measure => simp [intOf]; omega
  ·obtain rfl : p = i := by omega
   rw [List.take_of_length_le (by rw [HPL.out]; exact Nat.le_refl _)] at hb1 hb2 ⊢
   generalize xSum c ms = T at hb1 hb2 HX ⊢
   clear hgr v0
   by_cases h4 : c < 0
   ·by_cases h5 : 0 ≤ st + c + T
    ·have hd : Hid (r = true) := Lib.hid (by rw [HX.out]; simp [h4, h5])
     go_wp2_with fail
     go_ret
     exact ⟨ret_bool hd.out.symm, by have := HGR.out; have := HG.out; (repeat (first | exact Gr.refl _ | assumption | (refine Gr.drew ?_) | (refine Gr.drewN ?_ _) | (refine Gr.alloc ?_ _) | (refine Gr.trans ?_ (by assumption))))⟩
    ·have hd : Hid (r = false) := Lib.hid (by rw [HX.out]; simp [h5]; omega)
     have h6 : ¬ 0 < c := by omega
     go_wp2_with fail
     go_ret
     exact ⟨ret_bool hd.out.symm, by have := HGR.out; have := HG.out; (repeat (first | exact Gr.refl _ | assumption | (refine Gr.drew ?_) | (refine Gr.drewN ?_ _) | (refine Gr.alloc ?_ _) | (refine Gr.trans ?_ (by assumption))))⟩
   ·by_cases h6 : 0 < c
    ·by_cases h5 : st + c + T ≤ 1099511627776
     ·have hd : Hid (r = true) := Lib.hid (by rw [HX.out]; simp [h6, h5])
      go_wp2_with fail
      go_ret
      exact ⟨ret_bool hd.out.symm, by have := HGR.out; have := HG.out; (repeat (first | exact Gr.refl _ | assumption | (refine Gr.drew ?_) | (refine Gr.drewN ?_ _) | (refine Gr.alloc ?_ _) | (refine Gr.trans ?_ (by assumption))))⟩
     ·have hd : Hid (r = false) := Lib.hid (by rw [HX.out]; simp [h5]; omega)
      go_wp2_with fail
      go_ret
      exact ⟨ret_bool hd.out.symm, by have := HGR.out; have := HG.out; (repeat (first | exact Gr.refl _ | assumption | (refine Gr.drew ?_) | (refine Gr.drewN ?_ _) | (refine Gr.alloc ?_ _) | (refine Gr.trans ?_ (by assumption))))⟩
    ·have hd : Hid (r = false) := Lib.hid (by rw [HX.out]; simp [h4, h6])
     go_wp2_with fail
     go_ret
     exact ⟨ret_bool hd.out.symm, by have := HGR.out; have := HG.out; (repeat (first | exact Gr.refl _ | assumption | (refine Gr.drew ?_) | (refine Gr.drewN ?_ _) | (refine Gr.alloc ?_ _) | (refine Gr.trans ?_ (by assumption))))⟩

set_option maxRecDepth 100000
set_option maxHeartbeats 80000000

theorem xsite_any (A : Option Addr) (n c : Nat) (tv lv : Value) (i : Int) (w : World) :
 Calls Tryz.prog 58 #[.agg #[.slice A n c, tv, lv], .int .i64 i] w fun e w' => e = .returned (.bool (decide (0 ≤ i ∧ i < (n : Int)))) ∧ Gr w w' := by
 by_cases h0 : 0 ≤ i
 ·by_cases h1 : i < (n : Int)
  all_goals
   have hd : decide (0 ≤ i ∧ i < (n : Int)) = decide (i < (n : Int)) := by rw [decide_eq_decide]; omega
   rw [hd]
   clear hd
   go_enter Tryz.func58, Tryz.ntmps58
   go_upto_region 1 with fail
   generalize hW1 : World.alloc w _ = w1
   obtain ⟨hg1, b0, b1, b2⟩ := box3 hW1
   have HG := Lib.hid hg1
   generalize w.heap.size = g at b0 b1 b2 ⊢
   clear hg1 hW1
   go_wp2_with fail
   go_ret
   exact ⟨ret_bool (by simp [h1]), HG.out⟩
 ·have hd : decide (0 ≤ i ∧ i < (n : Int)) = false := decide_eq_false (by omega)
  rw [hd]
  clear hd
  go_enter Tryz.func58, Tryz.ntmps58
  go_wp2_with fail
  go_ret
  exact ⟨rfl, by (repeat (first | exact Gr.refl _ | assumption | (refine Gr.drew ?_) | (refine Gr.drewN ?_ _) | (refine Gr.alloc ?_ _) | (refine Gr.trans ?_ (by assumption))))⟩

set_option maxRecDepth 100000
set_option maxHeartbeats 80000000

section
variable {S : List Nat} {w0 w w' : World} {L L' : LN}
theorem XOw.types (r : Rw) (hr : r ∈ L.rows) : r.t ≠ 33 := by
 simp only [LN.rows, List.mem_cons, List.mem_append, List.mem_map] at hr
 rcases hr with rfl | rfl | rfl | ⟨s, -, rfl⟩ | ⟨t, -, rfl⟩
 ·show 73 ≠ 33; decide
 ·show 100 ≠ 33; decide
 ·show 59 ≠ 33; decide
 ·show 102 ≠ 33; decide
 ·show 4 ≠ 33; decide
theorem XOw.aside (h : XOw S w0 w L) {g : Nat} {cs : Array Value} (hb : Blk w g 33 cs) (hB : w0.heap.size ≤ g) (hc : Ch [g] w w') : XOw S w0 w' L := by
 refine ⟨⟨fun r hr => owns_ch (h.rws.all r hr) hc (fun x hx hm => ?_), h.rws.nod, Nat.le_trans h.rws.le hc.size⟩, fun x hx => (h.parts x hx).ch hc (fun t ht => by rw [List.mem_singleton.1 ht]; exact ⟨_, _, hb, by decide⟩), h.up hc (fun x hx => by rw [List.mem_singleton.1 hx]; exact hB)⟩
 rw [List.mem_singleton.1 hm] at hx
 exact (hb.apart (h.rws.all r hr) (fun e => XOw.types r hr e.symm)) hx.symm
theorem box_stay {g : Nat} {t : TypeId} {cs : Array Value} (hb : Blk w g t cs) (hn : g ∉ blkR L.rows) (hc : Ch (blkR L.rows) w w') : Blk w' g t cs := by
 exact (hc.block g hb.lt hn).trans hb
theorem XOw.netBox (h : XOw S w0 w L) {g : Nat} {cs : Array Value} (hb : Blk w g 33 cs) : g ∉ blkR L.rows := fun hm => by
 obtain ⟨r, hr, hrb⟩ := List.mem_filterMap.1 hm
 exact (hb.apart (h.rws.all r hr) (fun e => XOw.types r hr e.symm)) hrb.symm
theorem XOw.young (h : XOw S w0 w L) {g : Nat} (hg : w.heap.size ≤ g) : g ∉ blkR L.rows := fun hm => by
 obtain ⟨r, hr, hrb⟩ := List.mem_filterMap.1 hm
 have := (owns_in (h.rws.all r hr) hrb).1
 omega
theorem XFr.stay (h : XFr L w L' w') {g : Nat} {t : TypeId} {cs : Array Value} (hb : Blk w g t cs) (hn : g ∉ blkR L.rows) : Blk w' g t cs ∧ g ∉ blkR L'.rows :=
 ⟨box_stay hb hn h.1, fun hm => (h.2 g hm).elim hn (fun e => by have := hb.lt; omega)⟩
theorem blk_site {k : Nat} {s s' : LS} (hk : L.sites[k]? = some s) (hm : s'.mv = s.mv) : ∀ g ∈ blkR (LN.rows { L with sites := L.sites.set k s' }), g ∈ blkR L.rows := by
 intro g hg
 obtain ⟨r, hr, hb⟩ := List.mem_filterMap.1 hg
 simp only [LN.rows, List.mem_cons, List.mem_append, List.mem_map] at hr
 rcases hr with rfl | rfl | rfl | ⟨t, ht, rfl⟩ | ⟨t, ht, rfl⟩
 ·exact blk_mem (r := L.sRow) (by simp [LN.rows]) hb
 ·exact blk_mem (r := L.tRow) (by simp [LN.rows]) hb
 ·exact blk_mem (r := L.lRow) (by simp [LN.rows]) hb
 ·have key : ∃ u ∈ L.sites, u.mv = t.mv := by
   rcases List.mem_or_eq_of_mem_set ht with h1 | h1
   ·exact ⟨t, h1, rfl⟩
   ·exact ⟨s, List.mem_of_getElem? hk, by rw [h1, hm]⟩
  obtain ⟨u, hu, e⟩ := key
  exact blk_mem (r := u.row) (by simp only [LN.rows, List.mem_cons, List.mem_append, List.mem_map]; exact Or.inr (Or.inr (Or.inr (Or.inl ⟨u, hu, rfl⟩)))) (by show u.mv.ownBlock = _; rw [e]; exact hb)
 ·exact blk_mem (r := t.row) (by simp only [LN.rows, List.mem_cons, List.mem_append, List.mem_map]; exact Or.inr (Or.inr (Or.inr (Or.inr ⟨t, ht, rfl⟩)))) hb
theorem blk_tx {k : Nat} {x x' : LT} {n : Nat} (hk : L.txs[k]? = some x) (hv : ∀ g, x'.hv.ownBlock = some g → x.hv.ownBlock = some g ∨ n ≤ g) : ∀ g ∈ blkR (LN.rows { L with txs := L.txs.set k x' }), g ∈ blkR L.rows ∨ n ≤ g := by
 intro g hg
 obtain ⟨r, hr, hb⟩ := List.mem_filterMap.1 hg
 simp only [LN.rows, List.mem_cons, List.mem_append, List.mem_map] at hr
 rcases hr with rfl | rfl | rfl | ⟨t, ht, rfl⟩ | ⟨t, ht, rfl⟩
 ·exact Or.inl (blk_mem (r := L.sRow) (by simp [LN.rows]) hb)
 ·exact Or.inl (blk_mem (r := L.tRow) (by simp [LN.rows]) hb)
 ·exact Or.inl (blk_mem (r := L.lRow) (by simp [LN.rows]) hb)
 ·exact Or.inl (blk_mem (r := t.row) (by simp only [LN.rows, List.mem_cons, List.mem_append, List.mem_map]; exact Or.inr (Or.inr (Or.inr (Or.inl ⟨t, ht, rfl⟩)))) hb)
 ·have key : ∀ u ∈ L.txs, u.hv.ownBlock = some g → g ∈ blkR L.rows := fun u hu e => blk_mem (r := u.row) (by simp only [LN.rows, List.mem_cons, List.mem_append, List.mem_map]; exact Or.inr (Or.inr (Or.inr (Or.inr ⟨u, hu, rfl⟩)))) e
  rcases List.mem_or_eq_of_mem_set ht with h1 | h1
  ·exact Or.inl (key t h1 hb)
  ·subst h1
   rcases hv g hb with h2 | h2
   ·exact Or.inl (key x (List.mem_of_getElem? hk) h2)
   ·exact Or.inr h2
theorem XFr.site {k : Nat} {s s' : LS} (hk : L.sites[k]? = some s) (hm : s'.mv = s.mv) (hc : Ch (blkR L.rows) w w') : XFr L w { L with sites := L.sites.set k s' } w' := ⟨hc, fun g hg => Or.inl (blk_site hk hm g hg)⟩
theorem XFr.tx {k : Nat} {x x' : LT} (hk : L.txs[k]? = some x) (hv : ∀ g, x'.hv.ownBlock = some g → x.hv.ownBlock = some g ∨ w.heap.size ≤ g) (hc : Ch (blkR L.rows) w w') : XFr L w { L with txs := L.txs.set k x' } w' := ⟨hc, blk_tx hk hv⟩
theorem XFr.more {T : List Nat} {w'' : World} (h : XFr L w L' w') (hc : Ch T w' w'') (hT : ∀ g ∈ T, g ∈ blkR L.rows ∨ w.heap.size ≤ g) : XFr L w L' w'' := ⟨h.1.trans hc hT, h.2⟩
end

set_option maxRecDepth 100000
set_option maxHeartbeats 80000000

def tellF (t : XT) (fr kd tx but : Int) (silent : Bool) (i : Nat) : List Ml := (((t.parts.zip t.heard).take i).filter (fun p => !(p.1.1 == but || (silent && p.2)))).map (fun p => (fr, p.1.1, kd, tx, if kd = 1 then p.1.2 else 0))
theorem tellF_all {t : XT} {fr kd tx but : Int} {silent : Bool} {i : Nat} (h : t.parts.length ≤ i) : tellF t fr kd tx but silent i = xTellL t fr kd tx but silent := by
 unfold tellF xTellL
 rw [List.take_of_length_le (by rw [List.length_zip]; omega)]
theorem tellF_step {t : XT} {fr kd tx but : Int} {silent : Bool} {i : Nat} {p : Mv} {b : Bool} (hp : t.parts[i]? = some p) (hb : t.heard[i]? = some b) : tellF t fr kd tx but silent (i + 1) = tellF t fr kd tx but silent i ++ (if p.1 = but ∨ (silent = true ∧ b = true) then [] else [(fr, p.1, kd, tx, if kd = 1 then p.2 else 0)]) := by
 unfold tellF
 have hz : (t.parts.zip t.heard)[i]? = some (p, b) := by
  rw [List.getElem?_zip_eq_some]
  exact ⟨hp, hb⟩
 rw [List.take_add_one, hz, Option.toList_some, List.filter_append, List.map_append]
 congr 1
 by_cases h : p.1 = but ∨ (silent = true ∧ b = true)
 ·rw [if_pos h, List.filter_cons, if_neg, List.filter_nil]
  ·rfl
  ·rcases h with h | ⟨h1, h2⟩ <;> simp [*]
 ·rw [if_neg h, List.filter_cons, if_pos]
  ·rfl
  ·simp only [not_or, not_and, Bool.not_eq_true] at h
   cases silent <;> cases b <;> simp_all
set_option maxRecDepth 100000
set_option maxHeartbeats 80000000

def TellP (S : List Nat) (w0 w : World) (L : LN) (l : List Ml) (e : Ending) (w' : World) : Prop := ∃ ml lv, e = .returned (.agg #[L.sv, L.tv, lv]) ∧ XFr L w { L with mail := ml, lv := lv } w' ∧ XOw S w0 w' { L with mail := ml, lv := lv } ∧ LN.era { L with mail := ml, lv := lv } = l.foldl xSend L.era ∧ ml.length ≤ 1024
structure TelR (S : List Nat) (w0 w : World) (L : LN) (x : LT) (g : Nat) (l : List Ml) (ml : List Ml) (lv : Value) (wr : World) : Prop where
 ow : XOw S w0 wr { L with mail := ml, lv := lv }
 era : LN.era { L with mail := ml, lv := lv } = l.foldl xSend L.era
 len : ml.length ≤ 1024
 fr : XFr L w { L with mail := ml, lv := lv } wr
 apart : ∀ j, j < 3 → g + j ∉ blkR (LN.rows { L with mail := ml, lv := lv })
 b0 : Blk wr g 33 #[L.sv, L.tv, lv]
 b1 : Blk wr (g + 1) 33 #[.slice none 0 0, .slice none 0 0, .slice none 0 0]
 b2 : Blk wr (g + 2) 100 #[.int .i64 x.at5, .int .i64 x.is, x.pv, x.hv]
section
variable {S : List Nat} {w0 w wr w' : World} {L : LN} {x : LT} {g : Nat} {l ml : List Ml} {lv : Value}
theorem TelR.keep (h : TelR S w0 w L x g l ml lv wr) (hg : Gr wr w') : TelR S w0 w L x g l ml lv w' := ⟨h.ow.keep hg, h.era, h.len, h.fr.more (Ch.of (S := []) hg) (by simp), h.apart, h.b0.keep hg, h.b1.keep hg, h.b2.keep hg⟩
theorem TelR.sent (h : TelR S w0 w L x g l ml lv wr) (hg : w.heap.size = g) (hB : w0.heap.size ≤ g) {m : Ml} {e : Ending} (hs : SendP S w0 wr { L with mail := ml, lv := lv } m e w') : ∃ ml' lv', e = .returned (.agg #[L.sv, L.tv, lv']) ∧ Blk w' g 33 #[L.sv, L.tv, lv] ∧ (∃ A n c, lv' = .slice A n c) ∧ ∀ W, ((w'.setCell ⟨g, 0, none⟩ L.sv).setCell ⟨g, 1, none⟩ L.tv).setCell ⟨g, 2, none⟩ lv' = W → TelR S w0 w L x g (l ++ [m]) ml' lv' W := by
 obtain ⟨ml', lv', he, hf, ho, hera, hlen⟩ := hs
 have a0 := hf.stay h.b0 (h.apart 0 (by omega))
 have a1 := hf.stay h.b1 (h.apart 1 (by omega))
 have a2 := hf.stay h.b2 (h.apart 2 (by omega))
 refine ⟨ml', lv', he, a0.1, ?_, fun W hW => ?_⟩
 ·obtain ⟨A, c, e, -⟩ := RdV.of (k := 5) enc5m_len (ho.rws.all (LN.lRow { L with mail := ml', lv := lv' }) (by simp [LN.rows]))
  exact ⟨A, _, c, e⟩
 ·obtain ⟨kW, cW⟩ := put33 a0.1 hW
  refine ⟨ho.aside a0.1 hB cW, ?_, hlen, (h.fr.trans hf).more cW (fun t ht => Or.inr (by rw [List.mem_singleton.1 ht]; omega)), fun j hj => ?_, kW, (cW.block (g + 1) a1.1.lt (by simp)).trans a1.1, (cW.block (g + 2) a2.1.lt (by simp)).trans a2.1⟩
  ·rw [List.foldl_append, ← h.era]
   exact hera
  ·rcases (by omega : j = 0 ∨ j = 1 ∨ j = 2) with rfl | rfl | rfl
   ·exact a0.2
   ·exact a1.2
   ·exact a2.2
theorem TelR.done (h : TelR S w0 w L x g l ml lv wr) (hg : w.heap.size = g) (hB : w0.heap.size ≤ g) (hc : Ch [g + 1] wr w') {e : Ending} (he : e = .returned (.agg #[L.sv, L.tv, lv])) : TellP S w0 w L l e w' :=
 ⟨ml, lv, he, h.fr.more hc (fun t ht => Or.inr (by rw [List.mem_singleton.1 ht]; omega)), h.ow.aside h.b1 (by omega) hc, h.era, h.len⟩
end
theorem xtell_any (S : List Nat) (w0 : World) (L : LN) (k : Nat) (x : LT) (fr kd but : Int) (silent : Bool) (w : World) (h : XOw S w0 w L) (hl : L.mail.length ≤ 1024) (hk : L.txs[k]? = some x) (h2 : L.txs.length ≤ 256) (hp8 : x.parts.length ≤ 8) (hhl : x.heard.length = x.parts.length) :
 Calls Tryz.prog 60 #[L.v, .int .i64 fr, .int .i64 kd, .int .i64 ((k : Int) + 1), .int .i64 but, .bool silent] w (TellP S w0 w L (xTellL (xTx L.era ((k : Int) + 1)) fr kd ((k : Int) + 1) but silent)) := by
 rw [era_tx rfl hk, ← tellF_all (t := x.era) (i := x.parts.length) (Nat.le_refl _)]
 have htr : w.ownsRow w0.heap.size 100 4 L.tv L.txs.length (flatE encLT L.txs) := h.rws.all L.tRow (by simp [LN.rows])
 obtain ⟨gt, ct, htv, -⟩ := owns_shape htr (by have := (List.getElem?_eq_some_iff.1 hk).1; omega)
 obtain ⟨Ah, ch, hhv, -⟩ := RdV.of encBo5_len (h.rws.all x.row (by
  simp only [LN.rows, List.mem_cons, List.mem_append, List.mem_map]
  exact Or.inr (Or.inr (Or.inr (Or.inr ⟨x, List.mem_of_getElem? hk, rfl⟩)))))
 replace hhv : x.hv = .slice Ah x.heard.length ch := hhv
 obtain ⟨Ap, cp, hpv, -⟩ := (h.parts x (List.mem_of_getElem? hk)).rd h.gr
 obtain ⟨As, ns, cs, hsv⟩ : ∃ A n c, L.sv = .slice A n c := by
  obtain ⟨A, c, e, -⟩ := RdV.of (k := 3) encLS_len (h.rws.all L.sRow (by simp [LN.rows]))
  exact ⟨A, _, c, e⟩
 obtain ⟨Al, nl, cl, hlv⟩ : ∃ A n c, L.lv = .slice A n c := by
  obtain ⟨A, c, e, -⟩ := RdV.of (k := 5) enc5m_len (h.rws.all L.lRow (by simp [LN.rows]))
  exact ⟨A, _, c, e⟩
 have hlt := (List.getElem?_eq_some_iff.1 hk).1
 obtain ⟨b, off, hb, hc⟩ := Rd_of_owns encLT_len rfl (by rw [htv] at htr; exact htr) k x hk
 injection hb with hb
 injection hb with hb1 hb2
 subst hb1 hb2
 have z0 : w.cell? ⟨gt, 0 + k * 4, none⟩ = some (.int .i64 x.at5) := hc 0 _ rfl
 have z1 : w.cell? ⟨gt, 0 + k * 4 + 1, none⟩ = some (.int .i64 x.is) := hc 1 _ rfl
 have z2 : w.cell? ⟨gt, 0 + k * 4 + 2, none⟩ = some x.pv := hc 2 _ rfl
 have z3 : w.cell? ⟨gt, 0 + k * 4 + 3, none⟩ = some x.hv := hc 3 _ rfl
 rw [Nat.zero_add] at z0 z1 z2 z3
 -- what each round reads of a part
 have HRD : Hid (∀ (W : World) (ml : List Ml) (lv : Value) (i : Nat), XOw S w0 W { L with mail := ml, lv := lv } → i < x.parts.length → (∃ b off, Ap = some ⟨b, off, none⟩ ∧ W.cell? ⟨b, off + i * 2, none⟩ = some (.int .i64 (x.parts.getD i (0, 0)).1) ∧ W.cell? ⟨b, off + i * 2 + 1, none⟩ = some (.int .i64 (x.parts.getD i (0, 0)).2)) ∧ ∃ b off, Ah = some ⟨b, off, none⟩ ∧ W.cell? ⟨b, off + i, none⟩ = some (.bool (x.heard.getD i false))) := Lib.hid (fun W ml lv i hW hi => by
  obtain ⟨A1, c1, e1, -, -, r1⟩ := (hW.parts x (List.mem_of_getElem? hk)).rd hW.gr
  obtain ⟨A2, c2, e2, -, -, r2⟩ := RdV.of encBo5_len (hW.rws.all x.row (by
   simp only [LN.rows, List.mem_cons, List.mem_append, List.mem_map]
   exact Or.inr (Or.inr (Or.inr (Or.inr ⟨x, List.mem_of_getElem? hk, rfl⟩)))))
  rw [hpv] at e1
  replace e2 : x.hv = .slice A2 x.heard.length c2 := e2
  rw [hhv] at e2
  injection e1 with e1
  injection e2 with e2
  subst e1 e2
  obtain ⟨b1, o1, f1, x0, x1⟩ := Pts_at r1 (k := i) hi
  obtain ⟨b2, o2, f2, y0⟩ := Rd.cells r2 (i := i) (by omega)
  have y := y0 0 _ rfl
  rw [Nat.add_zero, Nat.mul_one] at y
  refine ⟨⟨b1, o1, f1, x0, x1⟩, b2, o2, f2, ?_⟩
  rw [y, List.getD_eq_getElem?_getD, List.getElem?_eq_getElem (by omega)]
  rfl)
 have HST : Hid (∀ i, i < x.parts.length → tellF x.era fr kd ((k : Int) + 1) but silent (i + 1) = tellF x.era fr kd ((k : Int) + 1) but silent i ++ (if (x.parts.getD i (0, 0)).1 = but ∨ (silent = true ∧ x.heard.getD i false = true) then [] else [(fr, (x.parts.getD i (0, 0)).1, kd, (k : Int) + 1, if kd = 1 then (x.parts.getD i (0, 0)).2 else 0)])) := Lib.hid (fun i hi => tellF_step (t := x.era) (getD_of (0, 0) hi) (getD_of false (by show i < x.heard.length; omega)))
 have HT0 : Hid (tellF x.era fr kd ((k : Int) + 1) but silent 0 = []) := Lib.hid (by unfold tellF; simp)
 generalize hF : tellF x.era fr kd ((k : Int) + 1) but silent = F at HST HT0 ⊢
 rw [hpv] at z2
 rw [hhv] at z3
 have HH := Lib.hid h
 have hki : (k : Int) < (L.txs.length : Int) := by omega
 have hk0 : (0 : Int) ≤ (k : Int) := by omega
 have HB := Lib.hid h.rws.le
 have HL := Lib.hid hl
 obtain ⟨M, hM⟩ : ∃ M, TellP S w0 w L (F x.parts.length) = M := ⟨_, rfl⟩
 rw [hM]
 have HM := Lib.hid hM
 unfold LN.v
 rw [hsv, htv, hlv]
 obtain ⟨n, hn⟩ : ∃ n, L.txs.length = n := ⟨_, rfl⟩
 obtain ⟨p, hp⟩ : ∃ p, x.parts.length = p := ⟨_, rfl⟩
 rw [hhl] at z3
 rw [hn] at hki hlt h2 ⊢
 rw [hp] at z2 z3 hp8
 rw [hn] at htv
 rw [hp] at hpv
 rw [hhl, hp] at hhv
 have HV := Lib.hid (And.intro hsv (And.intro htv (And.intro hlv (And.intro hpv hhv))))
 have HNP := Lib.hid (And.intro hn hp)
 clear h hk htr hsv htv hlv hpv hhv hM hn hp hc hl hhl hF
 go_enter Tryz.func60, Tryz.ntmps60
 go_upto_region 1 with fail
 generalize hW1 : World.alloc (World.alloc w _) _ = w1
 obtain ⟨g, hg⟩ : ∃ g, w.heap.size = g := ⟨_, rfl⟩
 obtain ⟨hg1, k1, k2, hs1⟩ := box33 hg hW1
 have HG := Lib.hid hg1
 have HS := Lib.hid hg
 have HS1 := Lib.hid hs1
 have HK1 := Lib.hid k1
 have HK2 := Lib.hid k2
 have b0 := k1.cell 0
 have b1 := k1.cell 1
 have b2 := k1.cell 2
 simp only [List.getElem?_toArray, List.getElem?_cons_succ, List.getElem?_cons_zero] at b0 b1 b2
 have y0 := hg1.keep z0
 have y1 := hg1.keep z1
 have y2 := hg1.keep z2
 have y3 := hg1.keep z3
 have ha := (Gr.refl w1).alloc (.cells #[.int .i64 0, .int .i64 0, .slice none 0 0, .slice none 0 0] 100)
 rw [hg]
 clear hg1 hW1 hg k1 k2 hs1 z0 z1 z2 z3
 go_upto_region 2 with fail
 generalize hW2 : World.alloc w1 _ = w2
 have k5 : Blk w2 (g + 2) 100 #[.int .i64 x.at5, .int .i64 x.is, .slice Ap p cp, .slice Ah p ch] := by rw [← hW2]; exact Blk.new _ _ _ HS1.out
 have hg2 : Gr w1 w2 := by rw [← hW2]; exact (Gr.refl w1).alloc _
 rw [HS1.out]
 have HT2 : Hid (TelR S w0 w L x g (F 0) L.mail L.lv w2) := Lib.hid (by
  have hgw := HG.out.trans hg2
  have hgs := HS.out
  obtain ⟨hsv, htv, hlv, hpv, hhv⟩ := HV.out
  refine ⟨HH.out.keep hgw, by rw [HT0.out]; rfl, HL.out, ⟨Ch.of hgw, fun t ht => Or.inl ht⟩, fun j hj => HH.out.young (by omega), ?_, HK2.out.keep hg2, ?_⟩
  ·rw [hsv, htv, hlv]; exact HK1.out.keep hg2
  ·rw [hpv, hhv]; exact k5)
 clear hW2 ha k5 hg2 y0 y1 y2 y3 b0 b1 b2
 go_wp2_with fail
 go_loopw [14] (fun z wr => ∃ (i : Nat) (ml : List Ml) (lv : Value), i ≤ p ∧ z = .int .i64 (i : Int) ∧ Hid (TelR S w0 w L x g (F i) ml lv wr)) (fun z _ => p - (intOf z).toNat)
 case atStart => exact ⟨0, L.mail, L.lv, Nat.zero_le _, rfl, HT2⟩
 case round =>
  obtain ⟨i, ml, lv, hi, rfl, HT⟩ := hrel
  have k2 := HT.out.b2
  have c2 := k2.cell 2
  have c3 := k2.cell 3
  simp only [List.getElem?_toArray, List.getElem?_cons_succ, List.getElem?_cons_zero] at c2 c3
  rw [HV.out.2.2.2.1] at c2
  rw [HV.out.2.2.2.2] at c3
  clear k2
  by_cases hlt2 : i < p
  ·obtain ⟨⟨pb, po, rfl, p0, p1⟩, hb, hoff, rfl, q0⟩ := HRD.out wr ml lv i HT.out.ow (by rw [HNP.out.2]; exact hlt2)
   have hii : (i : Int) < (p : Int) := by omega
   have hi0 : (0 : Int) ≤ (i : Int) := by omega
   have HSTi := Lib.hid (HST.out i (by rw [HNP.out.2]; exact hlt2))
   generalize x.parts.getD i (0, 0) = q at p0 p1 HSTi
   generalize x.heard.getD i false = hd at q0 HSTi
   obtain ⟨q1, q2⟩ := q
   dsimp only at p0 p1 HSTi
   have c2' := c2
   go_upto_region 6 with fail
   generalize hWa : World.alloc wr _ = wa
   have hga : Gr wr wa := by rw [← hWa]; exact (Gr.refl wr).alloc _
   obtain ⟨mb, hmb⟩ : ∃ mb, wr.heap.size = mb := ⟨_, rfl⟩
   have km : Blk wa mb 61 #[.int .i64 q1, .int .i64 q2] := by rw [← hWa]; exact Blk.new _ _ _ hmb
   rw [hmb]
   have HTA := Lib.hid (HT.out.keep hga)
   have m0 := km.cell 0
   have m1 := km.cell 1
   replace c2 := hga.keep c2
   replace c3 := hga.keep c3
   replace q0 := hga.keep q0
   have k0 := HTA.out.b0
   have n0 := k0.cell 0
   have n1 := k0.cell 1
   have n2 := k0.cell 2
   have e0 := k0.free 0
   have e1 := k0.free 1
   have e2 := k0.free 2
   simp only [List.getElem?_toArray, List.getElem?_cons_succ, List.getElem?_cons_zero] at m0 m1 n0 n1 n2
   obtain ⟨Al2, nl2, cl2, hlv2⟩ : ∃ A n c, lv = .slice A n c := by
    obtain ⟨A, c, e, -⟩ := RdV.of (k := 5) enc5m_len (HTA.out.ow.rws.all (LN.lRow { L with mail := ml, lv := lv }) (by simp [LN.rows]))
    exact ⟨A, _, c, e⟩
   have HLV2 := Lib.hid hlv2
   rw [HV.out.1] at n0
   rw [HV.out.2.1] at n1
   rw [hlv2] at n2
   have HSE : Hid (∀ (c : Int), Calls Tryz.prog 62 #[.agg #[.slice As ns cs, .slice (some ⟨gt, 0, none⟩) n ct, .slice Al2 nl2 cl2], .int .i64 fr, .int .i64 q1, .int .i64 kd, .int .i64 ((k : Int) + 1), .int .i64 c] wa (SendP S w0 wa { L with mail := ml, lv := lv } (fr, q1, kd, (k : Int) + 1, c))) := Lib.hid (fun c => by
    have := xsend_any S w0 { L with mail := ml, lv := lv } fr q1 kd ((k : Int) + 1) c wa HTA.out.ow HTA.out.len
    have e : LN.v { L with mail := ml, lv := lv } = .agg #[.slice As ns cs, .slice (some ⟨gt, 0, none⟩) n ct, .slice Al2 nl2 cl2] := by
     unfold LN.v
     dsimp only
     rw [HV.out.1, HV.out.2.1, HLV2.out]
    rw [e] at this
    exact this)
   clear hWa hga km p0 p1 hmb k0 c2' hlv2
   by_cases hq : q1 = but
   ·subst hq
    have HF1 : Hid (F (i + 1) = F i) := Lib.hid (by rw [HSTi.out, if_pos (Or.inl rfl), List.append_nil])
    go_wp2_with fail
    go_roundw
    case rel => exact ⟨i + 1, ml, lv, by omega, by go_num, by rw [HF1.out]; exact HTA⟩
    case measure => simp [intOf]; omega
   ·have hqb : (q1 == but) = false := by simpa using hq
    by_cases hs : silent = true ∧ hd = true
    ·obtain ⟨rfl, rfl⟩ := hs
     have HF1 : Hid (F (i + 1) = F i) := Lib.hid (by rw [HSTi.out, if_pos (Or.inr ⟨rfl, rfl⟩), List.append_nil])
     go_wp2_with fail
     go_roundw
     case rel => exact ⟨i + 1, ml, lv, by omega, by go_num, by rw [HF1.out]; exact HTA⟩
     case measure => simp [intOf]; omega
    ·have HF1 : Hid (F (i + 1) = F i ++ [(fr, q1, kd, (k : Int) + 1, if kd = 1 then q2 else 0)]) := Lib.hid (by rw [HSTi.out, if_neg (fun h => h.elim (fun e => hq e) (fun e => hs e))])
     have hsn : (silent = true ∧ hd = false) ∨ silent = false := by
      cases silent
      ·exact Or.inr rfl
      ·cases hd
       ·exact Or.inl ⟨rfl, rfl⟩
       ·exact absurd ⟨rfl, rfl⟩ hs
     clear hs hq HSTi
     by_cases hkd : kd = 1
     ·subst hkd
      rw [if_pos rfl] at HF1
      rcases hsn with ⟨rfl, rfl⟩ | rfl
      all_goals
       go_wp2_with fail
       refine (HSE.out _).mono ?_
       intro e wb hsp
       obtain ⟨ml', lv', rfl, kb, ⟨A3, n3, c3', rfl⟩, hnext⟩ := HTA.out.sent HS.out (by have := HB.out; have := HS.out; omega) hsp
       have HNX := Lib.hid hnext
       have f0 := kb.free 0
       have f1 := kb.free 1
       have f2 := kb.free 2
       have d0 := kb.cell 0
       have d1 := kb.cell 1
       have d2 := kb.cell 2
       simp only [List.getElem?_toArray, List.getElem?_cons_succ, List.getElem?_cons_zero] at d0 d1 d2
       rw [HV.out.1] at d0 ⊢
       rw [HV.out.2.1] at d1 ⊢
       clear hnext hsp kb e0 e1 e2 n0 n1 n2 c2 c3 q0 m0 m1
       go_wp2_with fail
       generalize hW : World.setCell (World.setCell (World.setCell wb _ _) _ _) _ _ = W
       go_roundw
       case rel => exact ⟨i + 1, ml', .slice A3 n3 c3', by omega, by go_num, by rw [HF1.out]; exact Lib.hid (HNX.out W (by rw [HV.out.1, HV.out.2.1]; exact hW))⟩
       case measure => simp [intOf]; omega
     ·rw [if_neg hkd] at HF1
      have hkb : (kd == 1) = false := by simpa using hkd
      rcases hsn with ⟨rfl, rfl⟩ | rfl
      all_goals
       go_wp2_with fail
       refine (HSE.out _).mono ?_
       intro e wb hsp
       obtain ⟨ml', lv', rfl, kb, ⟨A3, n3, c3', rfl⟩, hnext⟩ := HTA.out.sent HS.out (by have := HB.out; have := HS.out; omega) hsp
       have HNX := Lib.hid hnext
       have f0 := kb.free 0
       have f1 := kb.free 1
       have f2 := kb.free 2
       have d0 := kb.cell 0
       have d1 := kb.cell 1
       have d2 := kb.cell 2
       simp only [List.getElem?_toArray, List.getElem?_cons_succ, List.getElem?_cons_zero] at d0 d1 d2
       rw [HV.out.1] at d0 ⊢
       rw [HV.out.2.1] at d1 ⊢
       clear hnext hsp kb e0 e1 e2 n0 n1 n2 c2 c3 q0 m0 m1
       go_wp2_with fail
       generalize hW : World.setCell (World.setCell (World.setCell wb _ _) _ _) _ _ = W
       go_roundw
       case rel => exact ⟨i + 1, ml', .slice A3 n3 c3', by omega, by go_num, by rw [HF1.out]; exact Lib.hid (HNX.out W (by rw [HV.out.1, HV.out.2.1]; exact hW))⟩
       case measure => simp [intOf]; omega
  ·obtain rfl : p = i := by omega
   have k0 := HT.out.b0
   have k1 := HT.out.b1
   have n0 := k0.cell 0
   have n1 := k0.cell 1
   have n2 := k0.cell 2
   have f0 := k1.free 0
   have f1 := k1.free 1
   have f2 := k1.free 2
   have d0 := k1.cell 0
   have d1 := k1.cell 1
   have d2 := k1.cell 2
   simp only [List.getElem?_toArray, List.getElem?_cons_succ, List.getElem?_cons_zero] at n0 n1 n2 d0 d1 d2
   obtain ⟨Al2, nl2, cl2, rfl⟩ : ∃ A n c, lv = .slice A n c := by
    obtain ⟨A, c, e, -⟩ := RdV.of (k := 5) enc5m_len (HT.out.ow.rws.all (LN.lRow { L with mail := ml, lv := lv }) (by simp [LN.rows]))
    exact ⟨A, _, c, e⟩
   rw [HV.out.1] at n0
   rw [HV.out.2.1] at n1
   clear k0 k1
   go_wp2_with fail
   generalize hW : World.setCell (World.setCell (World.setCell wr _ _) _ _) _ _ = W
   obtain ⟨kW, cW⟩ := put33 HT.out.b1 hW
   have u0 := kW.cell 0
   have u1 := kW.cell 1
   have u2 := kW.cell 2
   refine bodyPost_ret (v := .agg #[.slice As ns cs, .slice (some ⟨gt, 0, none⟩) n ct, .slice Al2 nl2 cl2]) ?_ ?_ ?_
   ·simp [results, Tryz.results60, go_sem, u0, u1, u2]
   ·rfl
   ·rw [← HM.out, HNP.out.2]
    exact HT.out.done HS.out (by have := HB.out; have := HS.out; omega) cW (by rw [HV.out.1, HV.out.2.1])

end Go.Proofs.YtnoeiocbmhkmeaaGreat
