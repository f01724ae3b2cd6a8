/- Layer 5: each call of the reference, with its error, beside the net's. -/
import Derived.Test.YtnoeiocbmhkmeaaGreatBu22
namespace Go.Proofs.YtnoeiocbmhkmeaaGreat
set_option linter.unusedSimpArgs false
set_option maxRecDepth 100000
set_option maxHeartbeats 80000000

theorem okFrom_of {N : Nx} : ∀ (ps : List Mv) (seen : List Int) (sm : Int), (ps.map (·.1)).Nodup → (∀ p ∈ ps, p.1 ∉ seen) → (∀ p ∈ ps, 0 ≤ p.1 ∧ p.1 < (N.sites.length : Int) ∧ p.2 ≠ 0 ∧ -1099511627776 ≤ p.2 ∧ p.2 ≤ 1099511627776) → sm + (ps.map (·.2)).sum = 0 → okFrom N seen sm ps = true
 | [], seen, sm, _, _, _, h => by
   have : sm = 0 := by simpa using h
   simp [okFrom, this]
 | p :: r, seen, sm, h1, h2, h3, h4 => by
   obtain ⟨a1, a2, a3, a4, a5⟩ := h3 p List.mem_cons_self
   rw [List.map_cons, List.nodup_cons] at h1
   rw [List.map_cons, List.sum_cons] at h4
   have hr : refS N p.1 = 0 := by
    unfold refS
    rw [if_neg (by omega), if_neg (by omega)]
   have hb : badC p.2 = false := by
    unfold badC
    simp only [Bool.or_eq_false_iff, decide_eq_false_iff_not]
    omega
   unfold okFrom
   rw [if_neg (by rw [hr]; simpa using h2 p List.mem_cons_self), hb, if_neg (by simp)]
   refine okFrom_of r _ _ h1.2 (fun q hq => ?_) (fun q hq => h3 q (List.mem_cons_of_mem _ hq)) (by omega)
   rw [List.mem_cons, not_or]
   exact ⟨fun e => h1.1 (e ▸ List.mem_map_of_mem hq), h2 q (List.mem_cons_of_mem _ hq)⟩
theorem okTx_iff (N : Nx) (ps : List Mv) : okTx N ps = true ↔ OkP N.sites.length ps := by
 refine ⟨okTx_parts, fun h => ?_⟩
 unfold okTx
 rw [okFrom_of ps [] 0 h.nod (fun p _ => by simp) h.part (by rw [h.sum]; rfl)]
 cases ps with
 | nil => exact absurd h.lo (by simp)
 | cons x r => rfl
instance (q : Nat) (ps : List Mv) : Decidable (OkP q ps) := decidable_of_iff (1 ≤ ps.length ∧ (ps.map (·.1)).Nodup ∧ (∀ p ∈ ps, 0 ≤ p.1 ∧ p.1 < (q : Int) ∧ p.2 ≠ 0 ∧ -1099511627776 ≤ p.2 ∧ p.2 ≤ 1099511627776) ∧ (ps.map (·.2)).sum = 0) ⟨fun h => ⟨h.1, h.2.1, h.2.2.1, h.2.2.2⟩, fun h => ⟨h.1, h.2, h.3, h.4⟩⟩
def xErrS (n : XN) (i : Int) : Int := if 0 ≤ i ∧ i < (n.sites.length : Int) then 0 else 3
def xErrL (n : XN) (k : Int) : Int := if 0 ≤ k ∧ k < (n.mail.length : Int) then 0 else 3
def xErrD (n : XN) (i : Int) : Int := if xErrS n i ≠ 0 then xErrS n i else if (xSite n i).down then 7 else 0
def xErrU (n : XN) (i : Int) : Int := if xErrS n i ≠ 0 then xErrS n i else if (xSite n i).down then 0 else 7
def xErrB (n : XN) (i : Int) (ps : List Mv) : Int := if xErrD n i ≠ 0 then xErrD n i else if OkP n.sites.length ps then (if 256 ≤ n.txs.length then 5 else 0) else 2
def xErrC (n : XN) (i t : Int) : Int := if xErrD n i ≠ 0 then xErrD n i else if 1 ≤ t ∧ t ≤ (n.txs.length : Int) ∧ xState n i t = 1 then 0 else 6
def xBeginO (n : XN) (i : Int) (ps : List Mv) : XN := if xErrB n i ps = 0 then xBeg n i ps else n
def xCancelO (n : XN) (i t : Int) : XN := if xErrC n i t = 0 then xCan n i t else n
def xDeliverO (n : XN) (k : Int) : XN := if xErrL n k = 0 then xDeliver n k.toNat else n
def xRepeatO (n : XN) (k : Int) : XN := if xErrL n k = 0 then xRepeat n k.toNat else n
def xLoseO (n : XN) (k : Int) : XN := if xErrL n k = 0 then xWithout n k.toNat else n
def xTickO (n : XN) (i : Int) : XN := if xErrD n i = 0 then xTik n i else n
def xCrashO (n : XN) (i : Int) : XN := if xErrD n i = 0 then xCra n i else n
def xStartO (n : XN) (i : Int) : XN := if xErrU n i = 0 then xSet n i false else n
def Two (N : Nx) (X : XN) : Prop := ∃ co pa G hd, Sim N X co pa G hd
section
variable {N : Nx} {X : XN}
theorem Two.ok (h : Two N X) : OkN N := by obtain ⟨co, pa, G, hd, h⟩ := h; exact h.ok
theorem Two.mail (h : Two N X) : X.mail = N.mail := by obtain ⟨co, pa, G, hd, h⟩ := h; exact h.mail
theorem Two.lens (h : Two N X) : X.sites.length = N.sites.length ∧ (X.txs.length : Int) = N.begun := by
 obtain ⟨co, pa, G, hd, h⟩ := h
 have := h.ok.beg
 exact ⟨h.sitesLen, by rw [h.txsLen]; omega⟩
theorem Two.settled (h : Two N X) : settledN N = xSettled X := by obtain ⟨co, pa, G, hd, h⟩ := h; exact h.settled
theorem Two.outc (h : Two N X) (i t : Int) : outN N i t = xOutc X i t := by obtain ⟨co, pa, G, hd, h⟩ := h; exact h.outc i t
theorem Two.sto (h : Two N X) {k : Nat} {s : Sx} (hs : N.sites[k]? = some s) : (xSite X (k : Int)).stock = s.stock ∧ (xSite X (k : Int)).down = !s.up := by obtain ⟨co, pa, G, hd, h⟩ := h; exact h.sto hs
theorem Two.errS (h : Two N X) (i : Int) : refS N i = xErrS X i := by
 have := h.ok.lo
 unfold refS xErrS
 rw [h.lens.1, if_neg (by omega)]
 split
 ·rw [if_neg (by omega)]
 ·rw [if_pos (by omega)]
theorem Two.errL (h : Two N X) (k : Int) : refL N k = xErrL X k := by
 have := h.ok.lo
 unfold refL xErrL
 rw [h.mail, if_neg (by omega)]
 split
 ·rw [if_neg (by omega)]
 ·rw [if_pos (by omega)]
theorem Two.at (_h : Two N X) {i : Int} (hi : refS N i = 0) : ∃ (k : Nat) (s : Sx), i = (k : Int) ∧ N.sites[k]? = some s := by
 rcases refS_cases N i with h1 | h1 | ⟨-, k, s, h1, h2, -⟩
 ·rw [h1] at hi; cases hi
 ·rw [h1] at hi; cases hi
 ·exact ⟨k, s, h1, h2⟩
theorem Two.errD (h : Two N X) (i : Int) : refD N i = xErrD X i := by
 unfold refD xErrD
 rw [← h.errS]
 by_cases hi : refS N i = 0
 ·obtain ⟨k, s, rfl, hs⟩ := h.at hi
  have e0 : ¬ refS N (k : Int) ≠ 0 := fun hn => hn hi
  rw [if_neg e0, if_neg e0, show ((k : Int)).toNat = k from rfl, hs, (h.sto hs).2]
  show (if s.up = true then _ else _) = _
  cases s.up <;> rfl
 ·rw [if_pos hi, if_pos hi]
theorem Two.errU (h : Two N X) (i : Int) : staE N i = xErrU X i := by
 unfold staE xErrU upN
 rw [← h.errS]
 by_cases hi : refS N i = 0
 ·obtain ⟨k, s, rfl, hs⟩ := h.at hi
  have e0 : ¬ refS N (k : Int) ≠ 0 := fun hn => hn hi
  rw [if_neg e0, if_neg e0, if_neg e0, show ((k : Int)).toNat = k from rfl, hs, (h.sto hs).2]
  show (if s.up = true then _ else _) = _
  cases s.up <;> rfl
 ·rw [if_pos hi, if_pos hi]
theorem Two.errB (h : Two N X) (i : Int) (ps : List Mv) : begE N i ps = xErrB X i ps := by
 unfold begE xErrB
 rw [← h.errD, h.lens.1]
 have hl := h.lens.2
 by_cases hi : refD N i = 0
 ·have e0 : ¬ refD N i ≠ 0 := fun hn => hn hi
  rw [if_neg e0, if_neg e0]
  by_cases ho : OkP N.sites.length ps
  ·rw [if_pos ho, (okTx_iff N ps).2 ho, if_neg (by simp)]
   by_cases hb : 256 ≤ N.begun
   ·rw [if_pos hb, if_pos (by omega)]
   ·rw [if_neg hb, if_neg (by omega)]
  ·rw [if_neg ho, if_pos]
   exact Bool.eq_false_iff.2 (fun hc => ho ((okTx_iff N ps).1 hc))
 ·rw [if_pos hi, if_pos hi]
theorem Two.errC (h : Two N X) (i t : Int) : canE N i t = xErrC X i t := by
 unfold canE xErrC
 rw [← h.errD]
 have hl := h.lens.2
 by_cases hi : refD N i = 0
 ·have e0 : ¬ refD N i ≠ 0 := fun hn => hn hi
  rw [if_neg e0, if_neg e0]
  obtain ⟨k, s, rfl, hs, -, -⟩ := refD_zero hi
  obtain ⟨co, pa, G, hd, h⟩ := h
  have hat := atN_of (t := t) hs
  rw [show ((k : Int)).toNat = k from rfl, hs, hl]
  show (if (mget s.opn t).isSome = true then (0 : Int) else 6) = _
  by_cases ht : 1 ≤ t ∧ t ≤ N.begun
  ·have hx : xState X (k : Int) t = 1 ↔ (mget s.opn t).isSome = true := by
    rw [h.eq, xState_of ht.1 ht.2]
    by_cases e : co t = (k : Int)
    ·rw [if_pos e, e, hat]
     unfold stA
     show (if (mget s.opn t).isSome = true then (1 : Int) else _) = 1 ↔ _
     by_cases ho : (mget s.opn t).isSome = true
     ·rw [if_pos ho]; simp [ho]
     ·rw [if_neg ho]
      constructor
      ·intro hc
       split at hc <;> simp at hc
      ·intro hc; exact absurd hc ho
    ·rw [if_neg e]
     constructor
     ·intro hc; simp at hc
     ·intro hc
      obtain ⟨d, hd1⟩ := Option.isSome_iff_exists.1 hc
      exact absurd ((h.inv.tx t ht.1 ht.2).sit.op (k : Int) d (by rw [hat]; exact hd1)).1.symm e
   by_cases ho : (mget s.opn t).isSome = true
   ·rw [if_pos ho, if_pos ⟨ht.1, ht.2, hx.2 ho⟩]
   ·rw [if_neg ho, if_neg (fun hc => ho (hx.1 hc.2.2))]
  ·rw [if_neg (show ¬ (1 ≤ t ∧ t ≤ N.begun ∧ xState X (k : Int) t = 1) from fun hc => ht ⟨hc.1, hc.2.1⟩)]
   have hf := h.inv.fresh t (k : Int) (by omega)
   rw [hat] at hf
   have : mget s.opn t = none := by
    have := congrArg At.op hf
    exact this
   rw [this]
   rfl
 ·rw [if_pos hi, if_pos hi]
theorem Two.del (h : Two N X) (i : Int) : Two (delI N i) (xDeliverO X i) := by
 unfold delI xDeliverO
 rw [← h.errL]
 split
 ·obtain ⟨co, pa, G, hd, h⟩ := h
  obtain ⟨G', hd', -, h'⟩ := h.del i.toNat
  exact ⟨co, pa, G', hd', h'⟩
 ·exact h
theorem Two.rep (h : Two N X) (i : Int) : Two (repI N i) (xRepeatO X i) := by
 unfold repI xRepeatO
 rw [← h.errL]
 split
 ·obtain ⟨co, pa, G, hd, h⟩ := h
  obtain ⟨G', hd', -, h'⟩ := h.rep i.toNat
  exact ⟨co, pa, G', hd', h'⟩
 ·exact h
theorem Two.los (h : Two N X) (i : Int) : Two (losI N i) (xLoseO X i) := by
 unfold losI xLoseO
 rw [← h.errL]
 split
 ·obtain ⟨co, pa, G, hd, h⟩ := h
  exact ⟨co, pa, G, hd, h.los i.toNat⟩
 ·exact h
theorem Two.tik (h : Two N X) (i : Int) : Two (tikI N i) (xTickO X i) := by
 unfold tikI xTickO
 rw [← h.errD]
 split
 ·rename_i hi
  obtain ⟨k, s, rfl, hs, -, -⟩ := refD_zero hi
  obtain ⟨co, pa, G, hd, h⟩ := h
  rw [show ((k : Int)).toNat = k from rfl, hs]
  exact ⟨co, pa, G, hd, h.tik hs⟩
 ·exact h
theorem Two.cra (h : Two N X) (i : Int) : Two (craI N i) (xCrashO X i) := by
 unfold craI xCrashO atI
 rw [← h.errD]
 split
 ·rename_i hi
  obtain ⟨k, s, rfl, hs, -, -⟩ := refD_zero hi
  obtain ⟨co, pa, G, hd, h⟩ := h
  rw [show ((k : Int)).toNat = k from rfl, hs]
  exact ⟨co, pa, G, _, h.cra hs⟩
 ·exact h
theorem Two.sta (h : Two N X) (i : Int) : Two (staI N i) (xStartO X i) := by
 unfold staI xStartO atI
 rw [← h.errU]
 split
 ·rename_i hi
  have hr : refS N i = 0 := by
   unfold staE at hi
   by_cases hr : refS N i = 0
   ·exact hr
   ·rw [if_pos hr] at hi; exact hi
  obtain ⟨k, s, rfl, hs⟩ := h.at hr
  obtain ⟨co, pa, G, hd, h⟩ := h
  rw [show ((k : Int)).toNat = k from rfl, hs]
  exact ⟨co, pa, G, hd, h.sta hs⟩
 ·exact h
theorem Two.can (h : Two N X) (i t : Int) : Two (canI N i t) (xCancelO X i t) := by
 unfold canI xCancelO
 rw [← h.errC]
 split
 ·rename_i hc
  have hi : refD N i = 0 := by
   unfold canE at hc
   by_cases hr : refD N i = 0
   ·exact hr
   ·rw [if_pos hr] at hc; exact hc
  obtain ⟨k, s, rfl, hs, -, -⟩ := refD_zero hi
  unfold canE at hc
  rw [if_neg (by omega), show ((k : Int)).toNat = k from rfl, hs] at hc
  have hd1 : (mget s.opn t).isSome = true := by
   change (if (mget s.opn t).isSome = true then (0 : Int) else 6) = 0 at hc
   split at hc
   ·assumption
   ·simp at hc
  obtain ⟨d, hd1⟩ := Option.isSome_iff_exists.1 hd1
  obtain ⟨co, pa, G, hd, h⟩ := h
  rw [show ((k : Int)).toNat = k from rfl, hs]
  dsimp only
  rw [hd1]
  exact ⟨co, pa, G, _, h.can hs hd1⟩
 ·exact h
theorem Two.beg (h : Two N X) (i : Int) (ps : List Mv) : Two (begI N i ps) (xBeginO X i ps) := by
 unfold begI xBeginO
 rw [← h.errB]
 split
 ·rename_i hc
  unfold begE at hc
  by_cases hi : refD N i = 0
  ·rw [if_neg (by omega)] at hc
   by_cases ho : okTx N ps = false
   ·rw [if_pos ho] at hc; simp at hc
   ·rw [if_neg ho] at hc
    by_cases hb : 256 ≤ N.begun
    ·rw [if_pos hb] at hc; simp at hc
    ·obtain ⟨k, s, rfl, hs, -, -⟩ := refD_zero hi
     obtain ⟨co, pa, G, hd, h⟩ := h
     exact ⟨_, _, _, _, h.beg hs (by simpa using ho) (by omega)⟩
  ·rw [if_pos hi] at hc; exact absurd hc hi
 ·exact h
def xNew (l : List Int) : XN := ⟨l.map (fun x => ⟨x, false, []⟩), [], []⟩
theorem two_new {l : List Int} (h : okStocks l = true) : Two (newN l) (xNew l) := by
 obtain ⟨-, co, pa, G, hi⟩ := newN_good h
 refine ⟨co, pa, G, fun _ => [], newN_ok h, hi, fun t h1 h2 => ?_, ?_⟩
 ·have hb : (newN l).begun = 0 := rfl
  omega
 ·unfold xNew xOf
  congr 1
  refine List.ext_getElem? (fun k => ?_)
  rw [List.getElem?_map, List.getElem?_map]
  by_cases hk : k < l.length
  ·have h1 := newN_site (l := l) (k := k) (x := l[k]) (List.getElem?_eq_getElem hk)
   rw [List.getElem?_range (by rw [newN_len]; exact hk), List.getElem?_eq_getElem hk, Option.map_some, Option.map_some, List.getD_eq_getElem?_getD, h1]
   rfl
  ·rw [List.getElem?_eq_none (by omega), List.getElem?_eq_none (by rw [List.length_range, newN_len]; omega)]
   rfl
end

end Go.Proofs.YtnoeiocbmhkmeaaGreat

namespace Go.Proofs.YtnoeiocbmhkmeaaGreat
open Go.RowKit
set_option linter.unusedSimpArgs false
set_option maxRecDepth 100000
set_option maxHeartbeats 80000000

theorem owns_cell {w : World} {base : Nat} {e : TypeId} {g n cap k : Nat} {fl : List Value} (h : w.ownsRow base e k (.slice (some ⟨g, 0, none⟩) n cap) n fl) (j : Nat) (u : Value) :
 (w.setCell ⟨g, j, none⟩ u).ownsRow base e k (.slice (some ⟨g, 0, none⟩) n cap) n (fl.set j u) := by
 obtain ⟨h1, h2⟩ := h
 rcases h2 with ⟨h2, -⟩ | ⟨g', cap', cur, h2, h3, h4, h5, h6, h7, h8⟩
 ·cases h2
 ·injection h2 with h2 _ h9
  injection h2 with h2
  injection h2 with h2
  subst h2 h9
  refine ⟨by rw [List.length_set]; exact h1, Or.inr ⟨g, cap, cur.setIfInBounds j u, rfl, h3, ?_, h5, h6, by simpa using h7, ?_⟩⟩
  ·have hb : Blk w g e cur := h4
   exact hb.put j _
  ·rw [Array.toList_setIfInBounds, ← h8, List.take_set]
structure Rw where
 v : Value
 t : TypeId
 k : Nat
 n : Nat
 fl : List Value
structure Rws (B : Nat) (w : World) (l : List Rw) : Prop where
 all : ∀ r ∈ l, w.ownsRow B r.t r.k r.v r.n r.fl
 nod : (l.filterMap (fun r => r.v.ownBlock)).Nodup
 le : B ≤ w.heap.size
theorem owns_in {w : World} {b : Nat} {e : TypeId} {size n g : Nat} {v : Value} {xs : List Value} (h : w.ownsRow b e size v n xs) (hv : v.ownBlock = some g) : g < w.heap.size ∧ b ≤ g := by
 rcases h.2 with ⟨rfl, _⟩ | ⟨g', cap, cur, rfl, h1, h2, _⟩
 ·cases hv
 ·injection hv with hv
  subst hv
  exact ⟨(Array.getElem?_eq_some_iff.1 h2).1, h1⟩
section
variable {B : Nat} {w w' : World} {a b l : List Rw} {r r' : Rw}
theorem Rws.gr (h : Rws B w l) (hg : Gr w w') : Rws B w' l := ⟨fun r hr => owns_gr (h.all r hr) hg, h.nod, Nat.le_trans h.le hg.size⟩
theorem Rws.perm {m : List Rw} (h : Rws B w l) (hp : l.Perm m) : Rws B w m := ⟨fun r hr => h.all r (hp.mem_iff.2 hr), (hp.filterMap _).nodup_iff.1 h.nod, h.le⟩
theorem Rws.sub {m : List Rw} (h : Rws B w l) (hp : m.Sublist l) : Rws B w m := ⟨fun r hr => h.all r (hp.subset hr), (hp.filterMap _).nodup h.nod, h.le⟩
theorem Rws.turn (h : Rws B w (r :: l)) (hc : Ch r.v.ownBlock.toList w w') (ho : w'.ownsRow B r'.t r'.k r'.v r'.n r'.fl) (hb : r'.v.ownBlock = r.v.ownBlock ∨ r'.v.ownBlock = none ∨ ∃ g, r'.v.ownBlock = some g ∧ w.heap.size ≤ g) : Rws B w' (r' :: l) := by
 have hn := h.nod
 rw [List.filterMap_cons] at hn
 have key : ∀ q ∈ l, ∀ g, q.v.ownBlock = some g → r.v.ownBlock ≠ some g := fun q hq g hg e => by
  rw [e] at hn
  exact (List.nodup_cons.1 hn).1 (List.mem_filterMap.2 ⟨q, hq, hg⟩)
 have hl : (l.filterMap (fun r => r.v.ownBlock)).Nodup := by
  split at hn
  ·exact hn
  ·exact (List.nodup_cons.1 hn).2
 refine ⟨fun q hq => ?_, ?_, Nat.le_trans h.le hc.size⟩
 ·rcases List.mem_cons.1 hq with rfl | hq
  ·exact ho
  ·refine owns_ch (h.all q (List.mem_cons_of_mem _ hq)) hc (fun g hg hm => key q hq g hg ?_)
   simpa using hm
 ·rw [List.filterMap_cons]
  split
  ·exact hl
  ·rename_i g hg
   refine List.nodup_cons.2 ⟨fun hm => ?_, hl⟩
   obtain ⟨q, hq, hqg⟩ := List.mem_filterMap.1 hm
   rcases hb with e | e | ⟨g', e, hs⟩
   ·exact key q hq g hqg (by rw [← e]; exact hg)
   ·rw [e] at hg; cases hg
   ·rw [e] at hg
    injection hg with hg
    subst hg
    have := (owns_in (h.all q (List.mem_cons_of_mem _ hq)) hqg).1
    omega
theorem Rws.more (h : Rws B w l) (hc : Gr w w') (ho : w'.ownsRow B r'.t r'.k r'.v r'.n r'.fl) (hb : r'.v.ownBlock = none ∨ ∃ g, r'.v.ownBlock = some g ∧ w.heap.size ≤ g) : Rws B w' (r' :: l) := by
 refine ⟨fun q hq => ?_, ?_, Nat.le_trans h.le hc.size⟩
 ·rcases List.mem_cons.1 hq with rfl | hq
  ·exact ho
  ·exact owns_gr (h.all q hq) hc
 ·rw [List.filterMap_cons]
  split
  ·exact h.nod
  ·rename_i g hg
   refine List.nodup_cons.2 ⟨fun hm => ?_, h.nod⟩
   obtain ⟨q, hq, hqg⟩ := List.mem_filterMap.1 hm
   rcases hb with e | ⟨g', e, hs⟩
   ·rw [e] at hg; cases hg
   ·rw [e] at hg
    injection hg with hg
    subst hg
    have := (owns_in (h.all q hq) hqg).1
    omega
end
structure LS where
 stock : Int
 down : Bool
 minds : List (Int × (Int × Int))
 mv : Value
structure LT where
 at5 : Int
 is : Int
 parts : List Mv
 heard : List Bool
 pv : Value
 hv : Value
structure LN where
 sites : List LS
 txs : List LT
 mail : List Ml
 sv : Value
 tv : Value
 lv : Value
def encMi (m : Int × (Int × Int)) : List Value := [.int .i64 m.1, .int .i64 m.2.1, .int .i64 m.2.2]
theorem encMi_len (m : Int × (Int × Int)) : (encMi m).length = 3 := rfl
def encBo5 (b : Bool) : List Value := [.bool b]
theorem encBo5_len (b : Bool) : (encBo5 b).length = 1 := rfl
def encLS (s : LS) : List Value := [.int .i64 s.stock, .bool s.down, s.mv]
theorem encLS_len (s : LS) : (encLS s).length = 3 := rfl
def encLT (t : LT) : List Value := [.int .i64 t.at5, .int .i64 t.is, t.pv, t.hv]
theorem encLT_len (t : LT) : (encLT t).length = 4 := rfl
def LS.era (s : LS) : XS := ⟨s.stock, s.down, s.minds⟩
def LT.era (t : LT) : XT := ⟨t.at5, t.is, t.parts, t.heard⟩
def LN.era (L : LN) : XN := ⟨L.sites.map LS.era, L.txs.map LT.era, L.mail⟩
def LN.v (L : LN) : Value := .agg #[L.sv, L.tv, L.lv]
def LS.row (s : LS) : Rw := ⟨s.mv, 102, 3, s.minds.length, flatE encMi s.minds⟩
def LT.row (t : LT) : Rw := ⟨t.hv, 4, 1, t.heard.length, flatE encBo5 t.heard⟩
def LN.sRow (L : LN) : Rw := ⟨L.sv, 73, 3, L.sites.length, flatE encLS L.sites⟩
def LN.tRow (L : LN) : Rw := ⟨L.tv, 100, 4, L.txs.length, flatE encLT L.txs⟩
def LN.lRow (L : LN) : Rw := ⟨L.lv, 59, 5, L.mail.length, flatE enc5m L.mail⟩
def LN.rows (L : LN) : List Rw := L.sRow :: L.tRow :: L.lRow :: (L.sites.map LS.row ++ L.txs.map LT.row)
def RdV {α : Type} (k : Nat) (enc : α → List Value) (w : World) (v : Value) (xs : List α) : Prop := ∃ A c, v = .slice A xs.length c ∧ xs.length ≤ c ∧ c ≤ maxLen ∧ Rd k enc w A xs
structure XRd (w : World) (L : LN) : Prop where
 sv : RdV 3 encLS w L.sv L.sites
 tv : RdV 4 encLT w L.tv L.txs
 lv : RdV 5 enc5m w L.lv L.mail
 mv : ∀ s ∈ L.sites, RdV 3 encMi w s.mv s.minds
 hv : ∀ t ∈ L.txs, RdV 1 encBo5 w t.hv t.heard
 pv : ∀ t ∈ L.txs, RdV 2 enc2 w t.pv t.parts
def XAt (S : List Nat) (w : World) (L : LN) : Prop := ∀ W, Ch S w W → XRd W L
def PtOk (S : List Nat) (w0 w : World) (t : LT) : Prop := (∀ W, Ch S w0 W → RdV 2 enc2 W t.pv t.parts) ∨ w.ownsRow w0.heap.size 61 2 t.pv t.parts.length (flatE enc2 t.parts)
structure XOw (S : List Nat) (w0 w : World) (L : LN) : Prop where
 rws : Rws w0.heap.size w L.rows
 parts : ∀ t ∈ L.txs, PtOk S w0 w t
 gr : Gr w0 w
theorem RdV.of {α : Type} {k : Nat} {enc : α → List Value} (hk : ∀ x, (enc x).length = k) {w : World} {base : Nat} {t : TypeId} {v : Value} {xs : List α} (h : w.ownsRow base t k v xs.length (flatE enc xs)) : RdV k enc w v xs := by
 rcases h.2 with ⟨rfl, hz⟩ | ⟨g, cap, cur, rfl, _, _, hnc, hcm, _⟩
 ·have : xs = [] := List.eq_nil_of_length_eq_zero hz
  subst this
  exact ⟨none, 0, rfl, Nat.le_refl _, Nat.zero_le _, Rd_nil _ _⟩
 ·exact ⟨some ⟨g, 0, none⟩, cap, rfl, hnc, hcm, Rd_of_owns hk rfl h⟩
theorem own_blk {w : World} {b : Nat} {e : TypeId} {k n g : Nat} {v : Value} {xs : List Value} (h : w.ownsRow b e k v n xs) (hg : v.ownBlock = some g) : ∃ cs, Blk w g e cs := by
 rcases h.2 with ⟨rfl, _⟩ | ⟨g', cap, cur, rfl, _, h2, _⟩
 ·cases hg
 ·injection hg with hg
  subst hg
  exact ⟨cur, h2⟩
section
variable {S T : List Nat} {w0 w w' : World} {t : LT}
theorem PtOk.ch (h : PtOk S w0 w t) (hc : Ch T w w') (hT : ∀ g ∈ T, ∃ ty cs, Blk w g ty cs ∧ ty ≠ 61) : PtOk S w0 w' t :=
 h.elim Or.inl (fun ho => Or.inr (owns_ch ho hc (fun g hg hm => by
  obtain ⟨ty, cs, hb, hne⟩ := hT g hm
  exact (hb.apart ho hne) hg.symm)))
theorem PtOk.gr (h : PtOk S w0 w t) (hg : Gr w w') : PtOk S w0 w' t := h.elim Or.inl (fun ho => Or.inr (owns_gr ho hg))
theorem PtOk.rd (h : PtOk S w0 w t) (hg : Gr w0 w) : RdV 2 enc2 w t.pv t.parts := h.elim (fun h => h w (Ch.of hg)) (fun ho => RdV.of enc2_len ho)
end
theorem LN.types {L : LN} (r : Rw) (hr : r ∈ L.rows) : r.t ≠ 61 := by
 simp only [LN.rows, List.mem_cons, List.mem_append, List.mem_map] at hr
 rcases hr with rfl | rfl | rfl | ⟨s, -, rfl⟩ | ⟨t, -, rfl⟩
 ·show 73 ≠ 61; decide
 ·show 100 ≠ 61; decide
 ·show 59 ≠ 61; decide
 ·show 102 ≠ 61; decide
 ·show 4 ≠ 61; decide
section
variable {S : List Nat} {w0 w w' : World} {L : LN}
theorem XOw.noMove (h : XOw S w0 w L) {a : List Rw} (ha : ∀ r ∈ a, r ∈ L.rows) : ∀ g ∈ a.filterMap (fun r => r.v.ownBlock), ∃ ty cs, Blk w g ty cs ∧ ty ≠ 61 := fun g hg => by
 obtain ⟨r, hr, hb⟩ := List.mem_filterMap.1 hg
 obtain ⟨cs, hc⟩ := own_blk (h.rws.all r (ha r hr)) hb
 exact ⟨r.t, cs, hc, LN.types r (ha r hr)⟩
theorem XAt.gr (h : XAt S w L) (hg : Gr w w') : XAt S w' L := fun W hW => h W ((Ch.of hg).trans hW (fun _ hm => Or.inl hm))
theorem XAt.rd (h : XAt S w L) : XRd w L := h w Ch.refl
theorem XAt.ch (h : XAt S w L) {T : List Nat} (hc : Ch S w w') (hT : ∀ g ∈ T, g ∈ S ∨ w.heap.size ≤ g) : XAt T w' L := fun W hW => h W (hc.trans hW hT)
theorem XOw.ch (h : XOw S w0 w L) (hS : ∀ g ∈ S, g < w0.heap.size) {W : World} (hc : Ch S w W) : XRd W L := by
 have own : ∀ r ∈ L.rows, W.ownsRow w0.heap.size r.t r.k r.v r.n r.fl := fun r hr => owns_ch (h.rws.all r hr) hc (fun g hg hm => by
  have := (owns_in (h.rws.all r hr) hg).2
  have := hS g hm
  omega)
 have hc0 : Ch S w0 W := (Ch.of h.gr).trans hc (fun _ hm => Or.inl hm)
 exact ⟨RdV.of encLS_len (own L.sRow (by simp [LN.rows])), RdV.of encLT_len (own L.tRow (by simp [LN.rows])), RdV.of enc5m_len (own L.lRow (by simp [LN.rows])),
  fun s hs => RdV.of encMi_len (own s.row (by simp only [LN.rows, List.mem_cons, List.mem_append, List.mem_map]; exact Or.inr (Or.inr (Or.inr (Or.inl ⟨s, hs, rfl⟩))))),
  fun t ht => RdV.of encBo5_len (own t.row (by simp only [LN.rows, List.mem_cons, List.mem_append, List.mem_map]; exact Or.inr (Or.inr (Or.inr (Or.inr ⟨t, ht, rfl⟩))))),
  fun t ht => (h.parts t ht).elim (fun hp => hp W hc0) (fun ho => RdV.of enc2_len (owns_ch ho hc (fun g hg hm => by
   have := (owns_in ho hg).2
   have := hS g hm
   omega)))⟩
theorem XOw.at (h : XOw S w0 w L) (hS : ∀ g ∈ S, g < w0.heap.size) : XAt S w L := fun _ hW => h.ch hS hW
theorem XOw.keep (h : XOw S w0 w L) (hg : Gr w w') : XOw S w0 w' L := ⟨h.rws.gr hg, fun t ht => (h.parts t ht).gr hg, h.gr.trans hg⟩
theorem XOw.up (h : XOw S w0 w L) {T : List Nat} (hc : Ch T w w') (hT : ∀ g ∈ T, w0.heap.size ≤ g) : Gr w0 w' := hc.up h.gr hT
end

set_option maxRecDepth 100000
set_option maxHeartbeats 80000000

section
variable {w : World} {L : LN}
theorem Rd.cells {α : Type} {k : Nat} {enc : α → List Value} {w : World} {A : Option Addr} {xs : List α} (h : Rd k enc w A xs) {i : Nat} (hi : i < xs.length) : ∃ b off, A = some ⟨b, off, none⟩ ∧ ∀ j v, (enc xs[i])[j]? = some v → w.cell? ⟨b, off + i * k + j, none⟩ = some v := h i _ (List.getElem?_eq_getElem hi)
theorem XRd.tx4 (h : XRd w L) {k : Nat} {t : LT} (hk : L.txs[k]? = some t) : ∃ b off c, L.tv = .slice (some ⟨b, off, none⟩) L.txs.length c ∧ k < L.txs.length ∧ w.cell? ⟨b, off + k * 4, none⟩ = some (.int .i64 t.at5) ∧ w.cell? ⟨b, off + k * 4 + 1, none⟩ = some (.int .i64 t.is) ∧ w.cell? ⟨b, off + k * 4 + 2, none⟩ = some t.pv ∧ w.cell? ⟨b, off + k * 4 + 3, none⟩ = some t.hv := by
 obtain ⟨A, c, e, -, -, hr⟩ := h.tv
 obtain ⟨b, off, rfl, hc⟩ := hr k t hk
 exact ⟨b, off, c, e, (List.getElem?_eq_some_iff.1 hk).1, hc 0 _ rfl, hc 1 _ rfl, hc 2 _ rfl, hc 3 _ rfl⟩
theorem XRd.site3 (h : XRd w L) {k : Nat} {s : LS} (hk : L.sites[k]? = some s) : ∃ b off c, L.sv = .slice (some ⟨b, off, none⟩) L.sites.length c ∧ k < L.sites.length ∧ w.cell? ⟨b, off + k * 3, none⟩ = some (.int .i64 s.stock) ∧ w.cell? ⟨b, off + k * 3 + 1, none⟩ = some (.bool s.down) ∧ w.cell? ⟨b, off + k * 3 + 2, none⟩ = some s.mv := by
 obtain ⟨A, c, e, -, -, hr⟩ := h.sv
 obtain ⟨b, off, rfl, hc⟩ := hr k s hk
 exact ⟨b, off, c, e, (List.getElem?_eq_some_iff.1 hk).1, hc 0 _ rfl, hc 1 _ rfl, hc 2 _ rfl⟩
theorem era_tx {t : Int} {k : Nat} {x : LT} (ht : t = (k : Int) + 1) (hk : L.txs[k]? = some x) : xTx L.era t = x.era := by
 unfold xTx LN.era
 dsimp only
 rw [show (t - 1).toNat = k by omega, List.getD_eq_getElem?_getD, List.getElem?_map, hk]
 rfl
theorem era_site {k : Nat} {x : LS} (hk : L.sites[k]? = some x) : xSite L.era (k : Int) = x.era := by
 unfold xSite LN.era
 dsimp only
 rw [show ((k : Int)).toNat = k from rfl, List.getD_eq_getElem?_getD, List.getElem?_map, hk]
 rfl
end
theorem box3 {w W : World} {t : TypeId} {a b c : Value} (hW : w.alloc (.cells #[a, b, c] t) = W) : Gr w W ∧ W.cell? ⟨w.heap.size, 0, none⟩ = some a ∧ W.cell? ⟨w.heap.size, 1, none⟩ = some b ∧ W.cell? ⟨w.heap.size, 2, none⟩ = some c := by
 subst hW
 exact ⟨(Gr.refl _).alloc _, alloc_new rfl rfl, alloc_new rfl rfl, alloc_new rfl rfl⟩
theorem xstate_any (L : LN) (i : Int) (k : Nat) (x : LT) (w : World) (h : XRd w L) (hk : L.txs[k]? = some x) (hl : L.txs.length ≤ 256) :
 Calls Tryz.prog 61 #[L.v, .int .i64 i, .int .i64 ((k : Int) + 1)] w fun e w' => e = .returned (.int .i64 (xState L.era i ((k : Int) + 1))) ∧ Gr w w' := by
 obtain ⟨b, off, c, e, hlt, c0, c1, -, -⟩ := h.tx4 hk
 have HR : Hid (xState L.era i ((k : Int) + 1) = if x.at5 = i then x.is else 0) := Lib.hid (by unfold xState; rw [era_tx rfl hk]; rfl)
 unfold LN.v
 rw [e]
 have hki : (k : Int) < (L.txs.length : Int) := by omega
 have hk0 : (0 : Int) ≤ (k : Int) := by omega
 generalize L.txs.length = n at hlt hki hl
 generalize L.sv = sv
 generalize L.lv = lv
 generalize x.at5 = a at c0 HR
 generalize x.is = is at c1 HR
 generalize xState L.era i ((k : Int) + 1) = r at HR
 clear h hk e
 by_cases ha : a = i
 ·subst ha
  rw [if_pos rfl] at HR
  go_enter Tryz.func61, Tryz.ntmps61
  go_upto_region 1 with fail
  generalize hW1 : World.alloc w _ = w1
  obtain ⟨hg1, b0, b1, b2⟩ := box3 hW1
  have HG := Lib.hid hg1
  replace c0 := hg1.keep c0
  replace c1 := hg1.keep c1
  generalize w.heap.size = g1 at b0 b1 b2 ⊢
  clear hg1 hW1
  go_wp2_with fail
  go_ret
  exact ⟨ret_int HR.out.symm, HG.out⟩
 ·rw [if_neg ha] at HR
  have hb : (a == i) = false := by simpa using ha
  go_enter Tryz.func61, Tryz.ntmps61
  go_upto_region 1 with fail
  generalize hW1 : World.alloc w _ = w1
  obtain ⟨hg1, b0, b1, b2⟩ := box3 hW1
  have HG := Lib.hid hg1
  replace c0 := hg1.keep c0
  replace c1 := hg1.keep c1
  generalize w.heap.size = g1 at b0 b1 b2 ⊢
  clear hg1 hW1
  go_wp2_with fail
  go_ret
  exact ⟨ret_int HR.out.symm, HG.out⟩

end Go.Proofs.YtnoeiocbmhkmeaaGreat
