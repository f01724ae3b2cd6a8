/- Layer 5: the reference begins (the rows; what is asked of the parts). -/
import Derived.Test.YtnoeiocbmhkmeaaGreatBu36
namespace Go.Proofs.YtnoeiocbmhkmeaaGreat
open Go.RowKit
set_option linter.unusedSimpArgs false
set_option maxRecDepth 100000
set_option maxHeartbeats 80000000

def BegX (S : List Nat) (w : World) (m : Nat) (X : XN) (er : Int) (e : Ending) (w' : World) : Prop := ∃ L', e = .returned (.tuple #[L'.v, .int .i64 (if er = 0 then (m : Int) + 1 else 0), .int .i64 er]) ∧ XAt S w' L' ∧ L'.era = X ∧ Gr w w'
section
variable {S : List Nat} {w wr w' : World} {L L' : LN} {g : Nat} {X : XN}
theorem Out5.doneB {As At Al : Option Addr} {n m l cs ct cl q : Nat} (h : Out5 S w g L' wr) (hS : ∀ t ∈ S, t < w.heap.size) (hera : L'.era = X) (hs : Shp L' As At Al n m l cs ct cl) (hW : ((wr.setCell ⟨g, 0, none⟩ (.slice As n cs)).setCell ⟨g, 1, none⟩ (.slice At m ct)).setCell ⟨g, 2, none⟩ (.slice Al l cl) = w') : BegX S w q X 0 (.returned (.tuple #[.agg #[.slice As n cs, .slice At m ct, .slice Al l cl], .int .i64 ((q : Int) + 1), .int .i64 0])) w' := by
 obtain ⟨-, cW⟩ := put33 h.b2 hW
 have ho : XOw S w w' L' := h.ow.aside h.b2 h.low cW
 exact ⟨L', by rw [hs.v, if_pos rfl], ho.at hS, hera, ho.gr⟩
theorem BegX.err {As At Al : Option Addr} {n m l cs ct cl q : Nat} {er : Int} (he : er ≠ 0) (h : XAt S w L) (hg : Gr w w') (hX : X = L.era) (hs : Shp L As At Al n m l cs ct cl) : BegX S w q X er (.returned (.tuple #[.agg #[.slice As n cs, .slice At m ct, .slice Al l cl], .int .i64 0, .int .i64 er])) w' := ⟨L, by rw [hs.v, if_neg he], h.gr hg, hX.symm, hg⟩
end
def okI (n : Nat) (ps : List Mv) (i : Nat) : Prop := ((ps.take i).map (·.1)).Nodup ∧ ∀ p ∈ ps.take i, 0 ≤ p.1 ∧ p.1 < (n : Int) ∧ p.2 ≠ 0 ∧ -1099511627776 ≤ p.2 ∧ p.2 ≤ 1099511627776
def BegI (n : Nat) (ps : List Mv) (i : Nat) (bb : Bool) (sm : Int) : Prop := (bb = false → okI n ps i ∧ sm = ((ps.take i).map (·.2)).sum ∧ -(1099511627776 * (i : Int)) ≤ sm ∧ sm ≤ 1099511627776 * (i : Int)) ∧ (bb = true → ¬ OkP n ps)
section
variable {n i : Nat} {ps : List Mv}
theorem BegI.zero : BegI n ps 0 false 0 := by
 refine ⟨fun _ => ⟨⟨by simp, fun p hp => by simp at hp⟩, by simp, by simp, by simp⟩, fun h => by cases h⟩
theorem okI_step {p : Mv} (h : okI n ps i) (hp : ps[i]? = some p) (h1 : 0 ≤ p.1 ∧ p.1 < (n : Int) ∧ p.2 ≠ 0 ∧ -1099511627776 ≤ p.2 ∧ p.2 ≤ 1099511627776) (h2 : (ps.take i).any (fun q => q.1 == p.1) = false) : okI n ps (i + 1) := by
 unfold okI
 rw [List.take_add_one, hp, Option.toList_some, List.map_append]
 refine ⟨?_, fun q hq => ?_⟩
 ·rw [List.nodup_append]
  refine ⟨h.1, by simp, fun a ha b hb e => ?_⟩
  obtain ⟨q, hq, rfl⟩ := List.mem_map.1 ha
  have hb' : b = p.1 := by simpa using hb
  rw [List.any_eq_false] at h2
  have := h2 q hq
  simp at this
  exact this (by rw [e, hb'])
 ·rcases List.mem_append.1 hq with hq | hq
  ·exact h.2 q hq
  ·rw [List.mem_singleton.1 hq]; exact h1
theorem BegI.step {p : Mv} {sm : Int} (h : BegI n ps i false sm) (hp : ps[i]? = some p) (h1 : 0 ≤ p.1 ∧ p.1 < (n : Int) ∧ p.2 ≠ 0 ∧ -1099511627776 ≤ p.2 ∧ p.2 ≤ 1099511627776) (h2 : (ps.take i).any (fun q => q.1 == p.1) = false) : BegI n ps (i + 1) false (sm + p.2) := by
 obtain ⟨a1, a2, a3, a4⟩ := h.1 rfl
 refine ⟨fun _ => ⟨okI_step a1 hp h1 h2, ?_, by push_cast; omega, by push_cast; omega⟩, fun h => by cases h⟩
 rw [List.take_add_one, hp, Option.toList_some, List.map_append, List.sum_append, a2]
 simp
theorem BegI.bad {p : Mv} {sm : Int} (hp : ps[i]? = some p) (h : ¬ (0 ≤ p.1 ∧ p.1 < (n : Int) ∧ p.2 ≠ 0 ∧ -1099511627776 ≤ p.2 ∧ p.2 ≤ 1099511627776) ∨ (ps.take i).any (fun q => q.1 == p.1) = true) : BegI n ps (i + 1) true sm := by
 refine ⟨fun h => (by cases h), fun _ ho => ?_⟩
 rcases h with h | h
 ·exact h (ho.part p (List.mem_of_getElem? hp))
 ·rw [List.any_eq_true] at h
  obtain ⟨q, hq, he⟩ := h
  have he' : q.1 = p.1 := by simpa using he
  have hn := ho.nod
  obtain ⟨k, hk⟩ := List.getElem?_of_mem hq
  rw [List.getElem?_take] at hk
  split at hk
  ·rename_i hki
   have hkl := (List.getElem?_eq_some_iff.1 hk).1
   have hil := (List.getElem?_eq_some_iff.1 hp).1
   have e1 : (ps.map (·.1))[k]'(by simpa using hkl) = (ps.map (·.1))[i]'(by simpa using hil) := by
    rw [List.getElem_map, List.getElem_map]
    rw [List.getElem?_eq_getElem hkl] at hk
    rw [List.getElem?_eq_getElem hil] at hp
    injection hk with hk
    injection hp with hp
    rw [hk, hp]
    exact he'
   exact (List.pairwise_iff_getElem.1 hn) k i (by simpa using hkl) (by simpa using hil) hki e1
  ·cases hk
theorem BegI.ok {sm : Int} (h : BegI n ps ps.length false sm) (h1 : 1 ≤ ps.length) : OkP n ps ↔ sm = 0 := by
 obtain ⟨a1, a2, -, -⟩ := h.1 rfl
 have e : ps.take ps.length = ps := List.take_of_length_le (Nat.le_refl _)
 unfold okI at a1
 rw [e] at a1 a2
 exact ⟨fun ho => by rw [a2]; exact ho.sum, fun h0 => ⟨h1, a1.1, a1.2, by rw [← a2]; exact h0⟩⟩
end
def xPre (X : XN) (a : Int) (ps : List Mv) (i : Nat) : XN := { sites := (X.sites.take i).map xMore ++ X.sites.drop i, txs := X.txs ++ [⟨a, 1, ps, List.replicate ps.length false⟩], mail := X.mail }
theorem xPre_zero (X : XN) (a : Int) (ps : List Mv) : xPre X a ps 0 = { X with txs := X.txs ++ [⟨a, 1, ps, List.replicate ps.length false⟩] } := by
 unfold xPre
 simp
theorem xPre_all {X : XN} {a : Int} {ps : List Mv} {i : Nat} (h : X.sites.length ≤ i) : xBeg X a ps = xTell (xPre X a ps i) a 1 ((X.txs.length : Int) + 1) (-1) false := by
 unfold xBeg xPre
 rw [List.take_of_length_le h, List.drop_of_length_le h, List.append_nil]
theorem xPre_step {X : XN} {a : Int} {ps : List Mv} {i : Nat} {s : XS} (hs : X.sites[i]? = some s) : xPre X a ps (i + 1) = { xPre X a ps i with sites := (xPre X a ps i).sites.set i (xMore s) } ∧ (xPre X a ps i).sites[i]? = some s := by
 have hj := (List.getElem?_eq_some_iff.1 hs).1
 have hd : X.sites.drop i = s :: X.sites.drop (i + 1) := by
  rw [List.drop_eq_getElem_cons hj]
  congr 1
  rw [List.getElem?_eq_getElem hj] at hs
  injection hs
 have hl : ((X.sites.take i).map xMore).length = i := by rw [List.length_map, List.length_take]; omega
 constructor
 ·unfold xPre
  dsimp only
  congr 1
  rw [List.take_add_one, hs, Option.toList_some, List.map_append, List.append_assoc, hd, List.set_append_right _ _ (by omega), hl, Nat.sub_self, List.set_cons_zero]
  rfl
 ·unfold xPre
  dsimp only
  rw [List.getElem?_append_right (by omega), hl, Nat.sub_self, hd]
  rfl
theorem xPre_le {X : XN} (h : XLe X) (hm : X.txs.length < 256) {a : Int} {ps : List Mv} (hp : ps.length ≤ 8) {i : Nat} (hi : X.sites.length ≤ i) : XLe (xPre X a ps i) := by
 have e : xPre X a ps i = { sites := X.sites.map xMore, txs := X.txs ++ [⟨a, 1, ps, List.replicate ps.length false⟩], mail := X.mail } := by
  unfold xPre
  rw [List.take_of_length_le hi, List.drop_of_length_le hi, List.append_nil]
 rw [e]
 refine ⟨by show 1 ≤ (X.sites.map xMore).length; rw [List.length_map]; exact h.s1, by show (X.sites.map xMore).length ≤ 8; rw [List.length_map]; exact h.s8, by show (X.txs ++ [_]).length ≤ 256; rw [List.length_append]; simp; omega, h.ml, fun s hs => ?_, fun t ht => ?_⟩
 ·obtain ⟨s', hs', rfl⟩ := List.mem_map.1 hs
  show (s'.minds ++ [_]).length = (X.txs ++ [_]).length
  rw [List.length_append, List.length_append, h.mi s' hs']
  rfl
 ·rcases List.mem_append.1 ht with ht | ht
  ·exact h.pa t ht
  ·rw [List.mem_singleton.1 ht]
   exact ⟨hp, List.length_replicate⟩
theorem XOw.sBlk {S : List Nat} {w0 w : World} {L : LN} (h : XOw S w0 w L) {k g c n : Nat} {s : LS} (hk : L.sites[k]? = some s) (hv : L.sv = .slice (some ⟨g, 0, none⟩) n c) (hn : L.sites.length = n) : (∃ cur, Blk w g 73 cur ∧ n * 3 ≤ cur.size) ∧ s.mv.ownBlock ≠ some g ∧ g ∈ blkR L.rows := by
 have hp := h.rws.perm (LN.permS (perm_get hk) L.sRow)
 have hnod := (hp.sub (List.sublist_append_left [L.sRow, s.row] _)).nod
 have hgs : L.sRow.v.ownBlock = some g := by show L.sv.ownBlock = _; rw [hv]; rfl
 have hsr : w.ownsRow w0.heap.size 73 3 L.sv L.sites.length (flatE encLS L.sites) := h.rws.all L.sRow (by simp [LN.rows])
 rw [hv, hn] at hsr
 refine ⟨owns_blk hsr, fun e => ?_, blk_mem (r := L.sRow) (by simp [LN.rows]) hgs⟩
 have h2 : s.row.v.ownBlock = some g := e
 rw [List.filterMap_cons, hgs, List.filterMap_cons, h2] at hnod
 simp at hnod
section
variable {S : List Nat} {w0 w : World} {L : LN}
theorem XOw.moreTx (h : XOw S w0 w L) {x : LT} {tv : Value} {wb we : World} (h1 : Gr w wb) (hh : wb.ownsRow w.heap.size 4 1 x.hv x.heard.length (flatE encBo5 x.heard)) (hp : wb.ownsRow w.heap.size 61 2 x.pv x.parts.length (flatE enc2 x.parts))
 (ho : we.ownsRow w0.heap.size 100 4 tv (L.txs.length + 1) (flatE encLT (L.txs ++ [x]))) (he : Ch L.tv.ownBlock.toList wb we) (hn : tv.ownBlock = L.tv.ownBlock ∨ tv.ownBlock = some wb.heap.size) : XOw S w0 we { L with txs := L.txs ++ [x], tv := tv } ∧ XFr L w { L with txs := L.txs ++ [x], tv := tv } we := by
 have hb : ∀ t, t ∈ L.tv.ownBlock.toList → t ∈ blkR L.rows := fun t ht => blk_mem (r := L.tRow) (by simp [LN.rows]) (show L.tv.ownBlock = some t by simpa using ht)
 have hbl := h.rws.le
 have hadd := Rws.addTo (r := x.row) (q' := LN.tRow { L with txs := L.txs ++ [x], tv := tv }) (T := []) (h.rws.perm (List.Perm.swap L.tRow L.sRow _)) h1 (own_low hh hbl) (own_new hh) (Ch.refl (w := wb)) (by simp) he (by
  show we.ownsRow w0.heap.size _ 4 tv (L.txs ++ [x]).length (flatE encLT (L.txs ++ [x]))
  rw [List.length_append]
  exact ho) (by
  show tv.ownBlock = L.tv.ownBlock ∨ tv.ownBlock = none ∨ ∃ g, tv.ownBlock = some g ∧ wb.heap.size ≤ g
  rcases hn with h1 | h1
  ·exact Or.inl h1
  ·exact Or.inr (Or.inr ⟨_, h1, Nat.le_refl _⟩))
 have hp2 : (LN.tRow { L with txs := L.txs ++ [x], tv := tv } :: x.row :: L.sRow :: L.lRow :: (L.sites.map LS.row ++ L.txs.map LT.row)).Perm (LN.rows { L with txs := L.txs ++ [x], tv := tv }) := by
  unfold LN.rows
  rw [show (LN.txs { L with txs := L.txs ++ [x], tv := tv }).map LT.row = L.txs.map LT.row ++ [x.row] from List.map_append]
  exact perm_in2 _ _ _ _ _ _
 have hwe : Ch (blkR L.rows) w we := (Ch.of h1).trans he (fun t ht => Or.inl (hb t ht))
 have hnm : ∀ t ∈ L.tv.ownBlock.toList, ∃ ty cs, Blk wb t ty cs ∧ ty ≠ 61 := fun t ht => by
  obtain ⟨ty, cs, h2, h3⟩ := (h.keep h1).noMove (a := [L.tRow]) (by simp [LN.rows]) t (List.mem_filterMap.2 ⟨L.tRow, by simp, show L.tv.ownBlock = some t by simpa using ht⟩)
  exact ⟨ty, cs, h2, h3⟩
 refine ⟨⟨hadd.perm hp2, fun t ht => ?_, h.up hwe (fun g hg => ?_)⟩, hwe, fun g hg => ?_⟩
 ·rcases List.mem_append.1 ht with ht | ht
  ·exact ((h.parts t ht).gr h1).ch he hnm
  ·rw [List.mem_singleton.1 ht]
   exact PtOk.ch (Or.inr (own_low hp hbl)) he hnm
 ·obtain ⟨r, hr, hx⟩ := List.mem_filterMap.1 hg
  exact (owns_in (h.rws.all r hr) hx).2
 ·obtain ⟨r, hr, hx⟩ := List.mem_filterMap.1 (hp2.symm.filterMap _ |>.mem_iff.1 hg)
  rcases List.mem_cons.1 hr with rfl | hr
  ·change tv.ownBlock = some g at hx
   rcases hn with h2 | h2
   ·rw [h2] at hx
    exact Or.inl (blk_mem (r := L.tRow) (by simp [LN.rows]) hx)
   ·rw [h2] at hx
    injection hx with hx
    have := h1.size
    exact Or.inr (by omega)
  ·rcases List.mem_cons.1 hr with rfl | hr
   ·rcases own_new hh with h2 | ⟨g', h2, h3⟩
    ·change x.hv.ownBlock = some g at hx
     rw [h2] at hx; cases hx
    ·change x.hv.ownBlock = some g at hx
     rw [h2] at hx
     injection hx with hx
     subst hx
     exact Or.inr h3
   ·refine Or.inl (blk_mem (r := r) ?_ hx)
    simp only [LN.rows, List.mem_cons] at hr ⊢
    exact hr.elim Or.inl (fun h1 => Or.inr (Or.inr h1))
theorem XOw.moreMind (h : XOw S w0 w L) {k : Nat} {s s' : LS} (hk : L.sites[k]? = some s) {wc wd we : World} {gb g c : Nat} {ty : TypeId} {cs : Array Value}
 (h1 : Ch s.mv.ownBlock.toList w wc) (ho : wc.ownsRow w0.heap.size 102 3 s'.mv s'.minds.length (flatE encMi s'.minds)) (hn : s'.mv.ownBlock = s.mv.ownBlock ∨ s'.mv.ownBlock = some w.heap.size)
 (hb : Blk w gb ty cs) (hgb : gb ∉ blkR L.rows) (hgb0 : w0.heap.size ≤ gb) (hty : ty ≠ 61) (h2 : Ch [gb] wc wd) (hv : L.sv = .slice (some ⟨g, 0, none⟩) L.sites.length c)
 (hW : ((wd.setCell ⟨g, k * 3, none⟩ (.int .i64 s'.stock)).setCell ⟨g, k * 3 + 1, none⟩ (.bool s'.down)).setCell ⟨g, k * 3 + 2, none⟩ s'.mv = we) : XOw S w0 we { L with sites := L.sites.set k s' } ∧ (∀ x ∈ blkR (LN.rows { L with sites := L.sites.set k s' }), x ∈ blkR L.rows ∨ x = w.heap.size) ∧ Ch (gb :: blkR L.rows) w we := by
 have hlt := (List.getElem?_eq_some_iff.1 hk).1
 have hp := h.rws.perm (LN.permS (perm_get hk) L.sRow)
 have hp' : Rws w0.heap.size w (s.row :: L.sRow :: (L.tRow :: L.lRow :: ((L.sites.eraseIdx k).map LS.row ++ L.txs.map LT.row))) := hp.perm (List.Perm.swap s.row L.sRow _)
 have hgs : L.sRow.v.ownBlock = some g := by show L.sv.ownBlock = _; rw [hv]; rfl
 have hsm : ∀ r ∈ [L.sRow, s.row], r ∈ L.rows := fun r hr => (LN.permS (perm_get hk) L.sRow).mem_iff.2 (List.mem_append_left _ hr)
 have t1 := hp'.turn (r' := s'.row) h1 ho (by
  show s'.mv.ownBlock = s.mv.ownBlock ∨ s'.mv.ownBlock = none ∨ ∃ g, s'.mv.ownBlock = some g ∧ w.heap.size ≤ g
  rcases hn with h3 | h3
  ·exact Or.inl h3
  ·exact Or.inr (Or.inr ⟨_, h3, Nat.le_refl _⟩))
 have hin : ∀ x ∈ blkR (s'.row :: L.sRow :: (L.tRow :: L.lRow :: ((L.sites.eraseIdx k).map LS.row ++ L.txs.map LT.row))), x ∈ blkR L.rows ∨ x = w.heap.size := fun x hx => by
  obtain ⟨r, hr, hb2⟩ := List.mem_filterMap.1 hx
  rcases List.mem_cons.1 hr with rfl | hr
  ·change s'.mv.ownBlock = some x at hb2
   rcases hn with h3 | h3
   ·rw [h3] at hb2
    exact Or.inl (blk_mem (r := s.row) (hsm _ (by simp)) hb2)
   ·rw [h3] at hb2
    injection hb2 with hb2
    exact Or.inr hb2.symm
  ·exact Or.inl (blk_mem (r := r) ((LN.permS (perm_get hk) L.sRow).mem_iff.2 (by
    rcases List.mem_cons.1 hr with rfl | hr
    ·simp
    ·exact List.mem_append_right _ hr)) hb2)
 have t2 := t1.beside h2 (fun t ht hm => by
  rw [List.mem_singleton.1 ht] at hm
  rcases hin gb hm with h3 | h3
  ·exact hgb h3
  ·have := hb.lt; omega)
 have hc3 : Ch [g] wd we := by
  rw [← hW]
  exact ((Ch.refl.set (p := ⟨g, k * 3, none⟩) (by simp) _).set (p := ⟨g, k * 3 + 1, none⟩) (by simp) _).set (p := ⟨g, k * 3 + 2, none⟩) (by simp) _
 have hsr : wd.ownsRow w0.heap.size 73 3 L.sv L.sites.length (flatE encLS L.sites) := t2.all L.sRow (by simp)
 rw [hv] at hsr
 have hsr2 := owns_site hsr hlt s'
 rw [hW] at hsr2
 have t3 := (t2.perm (List.Perm.swap L.sRow s'.row _)).turn (r' := LN.sRow { L with sites := L.sites.set k s' }) (by rw [hgs]; exact hc3) (by
  show we.ownsRow _ _ 3 L.sv (L.sites.set k s').length (flatE encLS (L.sites.set k s'))
  rw [List.length_set, hv]
  exact hsr2) (Or.inl rfl)
 have hrows : (LN.sRow { L with sites := L.sites.set k s' } :: s'.row :: (L.tRow :: L.lRow :: ((L.sites.eraseIdx k).map LS.row ++ L.txs.map LT.row))).Perm (LN.rows { L with sites := L.sites.set k s' }) := (LN.permS (L := L) (perm_set hk) _).symm
 have hgin : g ∈ blkR L.rows := blk_mem (r := L.sRow) (by simp [LN.rows]) hgs
 have hmin : ∀ t ∈ s.mv.ownBlock.toList, t ∈ blkR L.rows := fun t ht => blk_mem (r := s.row) (hsm _ (by simp)) (show s.mv.ownBlock = some t by simpa using ht)
 have hcw : Ch (gb :: blkR L.rows) w we := ((h1.mono (T := gb :: blkR L.rows) (fun t ht => List.mem_cons_of_mem _ (hmin t ht))).trans h2 (fun t ht => Or.inl (by rw [List.mem_singleton.1 ht]; exact List.mem_cons_self))).trans hc3 (fun t ht => Or.inl (by rw [List.mem_singleton.1 ht]; exact List.mem_cons_of_mem _ hgin))
 refine ⟨⟨t3.perm hrows, fun t ht => ?_, h.up hcw (fun x hx => ?_)⟩, fun x hx => ?_, hcw⟩
 ·refine (h.parts t ht).ch hcw (fun x hx => ?_)
  rcases List.mem_cons.1 hx with rfl | hx
  ·exact ⟨ty, cs, hb, hty⟩
  ·exact h.noMove (a := L.rows) (fun r hr => hr) x hx
 ·rcases List.mem_cons.1 hx with rfl | hx
  ·exact hgb0
  ·obtain ⟨r, hr, hb2⟩ := List.mem_filterMap.1 hx
   exact (owns_in (h.rws.all r hr) hb2).2
 ·have hx2 := hrows.symm.filterMap (fun r => r.v.ownBlock) |>.mem_iff.1 hx
  obtain ⟨r, hr, hb2⟩ := List.mem_filterMap.1 hx2
  rcases List.mem_cons.1 hr with rfl | hr
  ·exact Or.inl (blk_mem (r := L.sRow) (by simp [LN.rows]) hb2)
  ·refine hin x (List.mem_filterMap.2 ⟨r, ?_, hb2⟩)
   rcases List.mem_cons.1 hr with rfl | hr
   ·simp
   ·exact List.mem_cons_of_mem _ (List.mem_cons_of_mem _ hr)
end

end Go.Proofs.YtnoeiocbmhkmeaaGreat
