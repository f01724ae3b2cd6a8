/- Layer 5: the reference's net is copied (the rows). -/
import Derived.Test.YtnoeiocbmhkmeaaGreatBu28
import Derived.Test.YtnoeiocbmhkmeaaGreatBu30
namespace Go.Proofs.YtnoeiocbmhkmeaaGreat
open Go.RowKit
set_option linter.unusedSimpArgs false
set_option maxRecDepth 100000
set_option maxHeartbeats 80000000

section
variable {B : Nat} {w wb wd we : World} {l : List Rw} {q q' r : Rw}
theorem Rws.beside {w' : World} (h : Rws B w l) {T : List Nat} (hc : Ch T w w') (hT : ∀ t ∈ T, t ∉ blkR l) : Rws B w' l :=
 ⟨fun r hr => owns_ch (h.all r hr) hc (fun _ hx hm => hT _ hm (blk_mem hr hx)), h.nod, Nat.le_trans h.le hc.size⟩
theorem Rws.addTo (h : Rws B w (q :: l)) (h1 : Gr w wb) (ho : wb.ownsRow B r.t r.k r.v r.n r.fl) (hn : r.v.ownBlock = none ∨ ∃ g, r.v.ownBlock = some g ∧ w.heap.size ≤ g) {T : List Nat} (hc : Ch T wb wd) (hT : ∀ t ∈ T, t ∉ blkR (r :: q :: l))
 (hd : Ch q.v.ownBlock.toList wd we) (hq : we.ownsRow B q'.t q'.k q'.v q'.n q'.fl) (hb : q'.v.ownBlock = q.v.ownBlock ∨ q'.v.ownBlock = none ∨ ∃ g, q'.v.ownBlock = some g ∧ wd.heap.size ≤ g) : Rws B we (q' :: r :: l) := by
 have a := ((h.more h1 ho hn).beside hc hT).perm (List.Perm.swap q r l)
 exact a.turn hd hq hb
theorem perm_in {α : Type} (a b c s : α) (A T : List α) : (a :: s :: b :: c :: (A ++ T)).Perm (a :: b :: c :: ((A ++ [s]) ++ T)) := by
 refine List.Perm.cons a ?_
 have h1 : ((A ++ [s]) ++ T).Perm (s :: (A ++ T)) := by
  rw [List.append_assoc]
  exact List.perm_middle
 exact ((List.Perm.swap b s _).trans ((List.Perm.swap c s _).cons b)).trans ((h1.symm.cons c).cons b)
theorem perm_in2 {α : Type} (a b c s : α) (A T : List α) : (b :: s :: a :: c :: (A ++ T)).Perm (a :: b :: c :: (A ++ (T ++ [s]))) := by
 have h1 : (A ++ (T ++ [s])).Perm (s :: (A ++ T)) := by
  rw [← List.append_assoc]
  exact List.perm_append_singleton s (A ++ T)
 have h2 : (b :: s :: a :: c :: (A ++ T)).Perm (s :: a :: b :: c :: (A ++ T)) :=
  (List.Perm.swap s b _).trans ((List.Perm.swap a b _).cons s)
 exact h2.trans (((List.Perm.swap a s _).trans ((List.Perm.swap b s _).cons a)).trans ((((List.Perm.swap c s _).cons b).cons a).trans (((h1.symm.cons c).cons b).cons a)))
end
theorem own_low {w : World} {b b' : Nat} {e : TypeId} {k n : Nat} {v : Value} {xs : List Value} (h : w.ownsRow b e k v n xs) (hb : b' ≤ b) : w.ownsRow b' e k v n xs := by
 refine ⟨h.1, ?_⟩
 rcases h.2 with h1 | ⟨g, cap, cur, h1, h2, h3⟩
 ·exact Or.inl h1
 ·exact Or.inr ⟨g, cap, cur, h1, Nat.le_trans hb h2, h3⟩
theorem own_new {w : World} {b : Nat} {e : TypeId} {k n : Nat} {v : Value} {xs : List Value} (h : w.ownsRow b e k v n xs) : v.ownBlock = none ∨ ∃ g, v.ownBlock = some g ∧ b ≤ g := by
 rcases h.2 with ⟨rfl, _⟩ | ⟨g, cap, cur, rfl, h2, _⟩
 ·exact Or.inl rfl
 ·exact Or.inr ⟨g, rfl, h2⟩
structure Cp (S : List Nat) (w0 w1 : World) (L : LN) (i j : Nat) (Lp : LN) (wr : World) : Prop where
 ow : XOw S w0 wr Lp
 pt : ∀ t ∈ Lp.txs, ∀ W, Ch S w0 W → RdV 2 enc2 W t.pv t.parts
 gr : Gr w1 wr
 up : Gr w0 w1
 sites : Lp.sites.map LS.era = (L.sites.map LS.era).take i
 txs : Lp.txs.map LT.era = (L.txs.map LT.era).take j
 mail : Lp.mail = [] ∧ Lp.lv = .slice none 0 0
 young : ∀ g ∈ blkR Lp.rows, w1.heap.size ≤ g
section
variable {S : List Nat} {w0 w1 wr : World} {L Lp : LN} {i j : Nat}
theorem Cp.start (hw : Gr w0 w1) : Cp S w0 w1 L 0 0 ⟨[], [], [], .slice none 0 0, .slice none 0 0, .slice none 0 0⟩ w1 := by
 refine ⟨⟨⟨fun r hr => ?_, by simp [LN.rows, LN.sRow, LN.tRow, LN.lRow, Value.ownBlock], hw.size⟩, fun t ht => (by cases ht), hw⟩, fun t ht => (by cases ht), Gr.refl _, hw, rfl, rfl, ⟨rfl, rfl⟩, fun g hg => by simp [blkR, LN.rows, LN.sRow, LN.tRow, LN.lRow, Value.ownBlock] at hg⟩
 simp only [LN.rows, List.map_nil, List.append_nil, List.mem_cons, List.not_mem_nil, or_false] at hr
 rcases hr with rfl | rfl | rfl
 ·exact World.ownsRow_nil _ _ _ _
 ·exact World.ownsRow_nil _ _ _ _
 ·exact World.ownsRow_nil _ _ _ _
theorem Cp.lens (h : Cp S w0 w1 L i j Lp wr) (hi : i ≤ L.sites.length) (hj : j ≤ L.txs.length) : Lp.sites.length = i ∧ Lp.txs.length = j := by
 have h1 := congrArg List.length h.sites
 have h2 := congrArg List.length h.txs
 rw [List.length_map, List.length_take, List.length_map] at h1 h2
 omega
theorem Cp.site (h : Cp S w0 w1 L i j Lp wr) {s : LS} (hs : L.sites[i]? = some s) {mv sv : Value} {wa wb wc wd we : World} {gb : Nat} (ha : Gr wr wa) (hgb : wr.heap.size ≤ gb) (hgb2 : gb < wa.heap.size) (hm : wb.ownsRow wa.heap.size 102 3 mv s.minds.length (flatE encMi s.minds)) (hb : Gr wa wb)
 (hc : Ch [gb] wb wc) (hd : Gr wc wd) (ho : we.ownsRow w0.heap.size 73 3 sv (Lp.sites.length + 1) (flatE encLS (Lp.sites ++ [{ s with mv := mv }]))) (he : Ch Lp.sv.ownBlock.toList wd we) (hn : sv.ownBlock = Lp.sv.ownBlock ∨ sv.ownBlock = some wd.heap.size) :
 Cp S w0 w1 L (i + 1) j { Lp with sites := Lp.sites ++ [{ s with mv := mv }], sv := sv } we := by
 obtain ⟨s', hs'⟩ : ∃ s', { s with mv := mv } = s' := ⟨_, rfl⟩
 rw [hs'] at ho ⊢
 have e1 : s'.minds = s.minds := by rw [← hs']
 have e2 : s'.mv = mv := by rw [← hs']
 have hg1 := h.gr
 have hwr : w0.heap.size ≤ wr.heap.size := Nat.le_trans h.up.size hg1.size
 have hmn := own_new hm
 have hyo : ∀ g ∈ blkR (s'.row :: Lp.rows), g ∈ blkR Lp.rows ∨ wa.heap.size ≤ g := fun g hg => by
  obtain ⟨r, hr, hx⟩ := List.mem_filterMap.1 hg
  rcases List.mem_cons.1 hr with rfl | hr
  ·change s'.mv.ownBlock = some g at hx
   rw [e2] at hx
   rcases hmn with h1 | ⟨g', h1, h2⟩
   ·rw [h1] at hx; cases hx
   ·rw [h1] at hx; injection hx with hx; subst hx; exact Or.inr h2
  ·exact Or.inl (blk_mem hr hx)
 have hold : ∀ g ∈ blkR Lp.rows, g < wr.heap.size := fun g hg => by
  obtain ⟨r, hr, hx⟩ := List.mem_filterMap.1 hg
  exact (owns_in (h.ow.rws.all r hr) hx).1
 have hcd : Ch [gb] wb wd := hc.trans (Ch.of (S := []) hd) (by simp)
 have hadd := Rws.addTo (r := s'.row) (q' := LN.sRow { Lp with sites := Lp.sites ++ [s'], sv := sv }) h.ow.rws (ha.trans hb) (by
  show wb.ownsRow w0.heap.size _ 3 s'.mv s'.minds.length (flatE encMi s'.minds)
  rw [e1, e2]
  exact own_low hm (Nat.le_trans hwr ha.size)) (by
  show s'.mv.ownBlock = none ∨ ∃ g, s'.mv.ownBlock = some g ∧ wr.heap.size ≤ g
  rw [e2]
  rcases hmn with h1 | ⟨g, h1, h2⟩
  ·exact Or.inl h1
  ·exact Or.inr ⟨g, h1, Nat.le_trans ha.size h2⟩) hcd (fun t ht hm2 => by
   rw [List.mem_singleton.1 ht] at hm2
   rcases hyo gb hm2 with h1 | h1
   ·have := hold gb h1; omega
   ·omega) he (by
  show we.ownsRow w0.heap.size _ 3 sv (Lp.sites ++ [s']).length (flatE encLS (Lp.sites ++ [s']))
  rw [List.length_append]
  exact ho) (by
  show sv.ownBlock = Lp.sv.ownBlock ∨ sv.ownBlock = none ∨ ∃ g, sv.ownBlock = some g ∧ wd.heap.size ≤ g
  rcases hn with h1 | h1
  ·exact Or.inl h1
  ·exact Or.inr (Or.inr ⟨_, h1, Nat.le_refl _⟩))
 have hsz : w1.heap.size ≤ wr.heap.size := hg1.size
 have hda : wa.heap.size ≤ wd.heap.size := Nat.le_trans hb.size hcd.size
 have hgw : Gr w1 we := (he.up ((hcd.up ((hg1.trans ha).trans hb) (fun t ht => by rw [List.mem_singleton.1 ht]; omega))) (fun t ht => h.young t (blk_mem (r := Lp.sRow) (by simp [LN.rows]) (show Lp.sv.ownBlock = some t by simpa using ht))))
 have hp : (LN.sRow { Lp with sites := Lp.sites ++ [s'], sv := sv } :: s'.row :: Lp.tRow :: Lp.lRow :: (Lp.sites.map LS.row ++ Lp.txs.map LT.row)).Perm (LN.rows { Lp with sites := Lp.sites ++ [s'], sv := sv }) := by
  unfold LN.rows
  rw [show (LN.sites { Lp with sites := Lp.sites ++ [s'], sv := sv }).map LS.row = Lp.sites.map LS.row ++ [s'.row] from List.map_append]
  exact perm_in _ _ _ _ _ _
 refine ⟨⟨hadd.perm hp, fun t ht => Or.inl (h.pt t ht), h.up.trans hgw⟩, h.pt, hgw, h.up, ?_, h.txs, h.mail, fun g hg => ?_⟩
 ·show (Lp.sites ++ [s']).map LS.era = _
  rw [List.map_append, h.sites, List.take_add_one, List.getElem?_map, hs]
  show _ ++ [s'.era] = _ ++ [s.era]
  rw [← hs']
  rfl
 ·obtain ⟨r, hr, hx⟩ := List.mem_filterMap.1 (hp.symm.filterMap _ |>.mem_iff.1 hg)
  rcases List.mem_cons.1 hr with rfl | hr
  ·change sv.ownBlock = some g at hx
   rcases hn with h1 | h1
   ·rw [h1] at hx
    exact h.young g (blk_mem (r := Lp.sRow) (by simp [LN.rows]) hx)
   ·rw [h1] at hx
    injection hx with hx
    omega
  ·rcases List.mem_cons.1 hr with rfl | hr
   ·rcases hyo g (blk_mem (r := s'.row) (by simp) hx) with h1 | h1
    ·exact h.young g h1
    ·have := ha.size; omega
   ·exact h.young g (blk_mem (r := r) (by simp only [LN.rows, List.mem_cons]; exact Or.inr (by simpa using hr)) hx)
theorem Cp.tx (h : Cp S w0 w1 L i j Lp wr) {s : LT} (hs : L.txs[j]? = some s) (hpt : ∀ W, Ch S w0 W → RdV 2 enc2 W s.pv s.parts) {mv sv : Value} {wa wb wc wd we : World} {gb : Nat} (ha : Gr wr wa) (hgb : wr.heap.size ≤ gb) (hgb2 : gb < wa.heap.size) (hm : wb.ownsRow wa.heap.size 4 1 mv s.heard.length (flatE encBo5 s.heard)) (hb : Gr wa wb)
 (hc : Ch [gb] wb wc) (hd : Gr wc wd) (ho : we.ownsRow w0.heap.size 100 4 sv (Lp.txs.length + 1) (flatE encLT (Lp.txs ++ [{ s with hv := mv }]))) (he : Ch Lp.tv.ownBlock.toList wd we) (hn : sv.ownBlock = Lp.tv.ownBlock ∨ sv.ownBlock = some wd.heap.size) :
 Cp S w0 w1 L i (j + 1) { Lp with txs := Lp.txs ++ [{ s with hv := mv }], tv := sv } we := by
 obtain ⟨s', hs'⟩ : ∃ s', { s with hv := mv } = s' := ⟨_, rfl⟩
 rw [hs'] at ho ⊢
 have e1 : s'.heard = s.heard := by rw [← hs']
 have e2 : s'.hv = mv := by rw [← hs']
 have hg1 := h.gr
 have hwr : w0.heap.size ≤ wr.heap.size := Nat.le_trans h.up.size hg1.size
 have hmn := own_new hm
 have hyo : ∀ g ∈ blkR (s'.row :: Lp.rows), g ∈ blkR Lp.rows ∨ wa.heap.size ≤ g := fun g hg => by
  obtain ⟨r, hr, hx⟩ := List.mem_filterMap.1 hg
  rcases List.mem_cons.1 hr with rfl | hr
  ·change s'.hv.ownBlock = some g at hx
   rw [e2] at hx
   rcases hmn with h1 | ⟨g', h1, h2⟩
   ·rw [h1] at hx; cases hx
   ·rw [h1] at hx; injection hx with hx; subst hx; exact Or.inr h2
  ·exact Or.inl (blk_mem hr hx)
 have hold : ∀ g ∈ blkR Lp.rows, g < wr.heap.size := fun g hg => by
  obtain ⟨r, hr, hx⟩ := List.mem_filterMap.1 hg
  exact (owns_in (h.ow.rws.all r hr) hx).1
 have hcd : Ch [gb] wb wd := hc.trans (Ch.of (S := []) hd) (by simp)
 have hadd := Rws.addTo (r := s'.row) (q' := LN.tRow { Lp with txs := Lp.txs ++ [s'], tv := sv }) (h.ow.rws.perm (List.Perm.swap Lp.tRow Lp.sRow _)) (ha.trans hb) (by
  show wb.ownsRow w0.heap.size _ 1 s'.hv s'.heard.length (flatE encBo5 s'.heard)
  rw [e1, e2]
  exact own_low hm (Nat.le_trans hwr ha.size)) (by
  show s'.hv.ownBlock = none ∨ ∃ g, s'.hv.ownBlock = some g ∧ wr.heap.size ≤ g
  rw [e2]
  rcases hmn with h1 | ⟨g, h1, h2⟩
  ·exact Or.inl h1
  ·exact Or.inr ⟨g, h1, Nat.le_trans ha.size h2⟩) hcd (fun t ht hm2 => by
   rw [List.mem_singleton.1 ht] at hm2
   rcases hyo gb (((List.Perm.swap Lp.sRow Lp.tRow _).cons s'.row).filterMap _ |>.mem_iff.1 hm2) with h1 | h1
   ·have := hold gb h1; omega
   ·omega) he (by
  show we.ownsRow w0.heap.size _ 4 sv (Lp.txs ++ [s']).length (flatE encLT (Lp.txs ++ [s']))
  rw [List.length_append]
  exact ho) (by
  show sv.ownBlock = Lp.tv.ownBlock ∨ sv.ownBlock = none ∨ ∃ g, sv.ownBlock = some g ∧ wd.heap.size ≤ g
  rcases hn with h1 | h1
  ·exact Or.inl h1
  ·exact Or.inr (Or.inr ⟨_, h1, Nat.le_refl _⟩))
 have hsz : w1.heap.size ≤ wr.heap.size := hg1.size
 have hda : wa.heap.size ≤ wd.heap.size := Nat.le_trans hb.size hcd.size
 have hgw : Gr w1 we := (he.up ((hcd.up ((hg1.trans ha).trans hb) (fun t ht => by rw [List.mem_singleton.1 ht]; omega))) (fun t ht => h.young t (blk_mem (r := Lp.tRow) (by simp [LN.rows]) (show Lp.tv.ownBlock = some t by simpa using ht))))
 have hp : (LN.tRow { Lp with txs := Lp.txs ++ [s'], tv := sv } :: s'.row :: Lp.sRow :: Lp.lRow :: (Lp.sites.map LS.row ++ Lp.txs.map LT.row)).Perm (LN.rows { Lp with txs := Lp.txs ++ [s'], tv := sv }) := by
  unfold LN.rows
  rw [show (LN.txs { Lp with txs := Lp.txs ++ [s'], tv := sv }).map LT.row = Lp.txs.map LT.row ++ [s'.row] from List.map_append]
  exact perm_in2 _ _ _ _ _ _
 have hpt2 : ∀ t ∈ Lp.txs ++ [s'], ∀ W, Ch S w0 W → RdV 2 enc2 W t.pv t.parts := fun t ht => by
  rcases List.mem_append.1 ht with ht | ht
  ·exact h.pt t ht
  ·rw [List.mem_singleton.1 ht, ← hs']
   exact hpt
 refine ⟨⟨hadd.perm hp, fun t ht => Or.inl (hpt2 t ht), h.up.trans hgw⟩, hpt2, hgw, h.up, h.sites, ?_, h.mail, fun g hg => ?_⟩
 ·show (Lp.txs ++ [s']).map LT.era = _
  rw [List.map_append, h.txs, List.take_add_one, List.getElem?_map, hs]
  show _ ++ [s'.era] = _ ++ [s.era]
  rw [← hs']
  rfl
 ·obtain ⟨r, hr, hx⟩ := List.mem_filterMap.1 (hp.symm.filterMap _ |>.mem_iff.1 hg)
  rcases List.mem_cons.1 hr with rfl | hr
  ·change sv.ownBlock = some g at hx
   rcases hn with h1 | h1
   ·rw [h1] at hx
    exact h.young g (blk_mem (r := Lp.tRow) (by simp [LN.rows]) hx)
   ·rw [h1] at hx
    injection hx with hx
    omega
  ·rcases List.mem_cons.1 hr with rfl | hr
   ·rcases hyo g (blk_mem (r := s'.row) (by simp) hx) with h1 | h1
    ·exact h.young g h1
    ·have := ha.size; omega
   ·exact h.young g (blk_mem (r := r) (by simp only [LN.rows, List.mem_cons] at hr ⊢; exact hr.elim Or.inl (fun h1 => Or.inr (Or.inr h1))) hx)
theorem Cp.done {lv : Value} {W : World} (h : Cp S w0 w1 L L.sites.length L.txs.length Lp wr) (hl : W.ownsRow wr.heap.size 59 5 lv L.mail.length (flatE enc5m L.mail)) (hg : Gr wr W) : XOw S w0 W { Lp with mail := L.mail, lv := lv } ∧ (∀ g ∈ blkR (LN.rows { Lp with mail := L.mail, lv := lv }), w1.heap.size ≤ g) ∧ LN.era { Lp with mail := L.mail, lv := lv } = L.era ∧ Gr w1 W := by
 have hn := own_new hl
 have hsz := h.gr.size
 have hlv : Lp.lv.ownBlock = none := by rw [h.mail.2]; rfl
 refine ⟨h.ow.letters L.mail lv (by rw [hlv]; exact Ch.of hg) (own_low hl (Nat.le_trans h.up.size hsz)) ?_, fun g hg2 => ?_, ?_, h.gr.trans hg⟩
 ·rcases hn with h1 | ⟨g, h1, h2⟩
  ·exact Or.inr (Or.inl h1)
  ·exact Or.inr (Or.inr ⟨g, h1, h2⟩)
 ·rcases blk_lv (L := Lp) (ml := L.mail) (lv := lv) (n := wr.heap.size) (by
   rcases hn with h1 | ⟨g, h1, h2⟩
   ·exact Or.inr (Or.inl h1)
   ·exact Or.inr (Or.inr ⟨g, h1, h2⟩)) g hg2 with h1 | h1
  ·exact h.young g h1
  ·omega
 ·unfold LN.era
  dsimp only
  rw [h.sites, h.txs, List.take_of_length_le (by rw [List.length_map]; exact Nat.le_refl _), List.take_of_length_le (by rw [List.length_map]; exact Nat.le_refl _)]
end

set_option maxRecDepth 100000
set_option maxHeartbeats 80000000

theorem Tryz.infoXMi : (Tryz.prog.info? 102).map (fun i => (i.zero, i.size, i.bytes)) = some (some (.agg #[.int .i64 0, .int .i64 0, .int .i64 0]), 3, 24) := by kernel_rfl
theorem Tryz.infoXSi : (Tryz.prog.info? 73).map (fun i => (i.zero, i.size, i.bytes)) = some (some (.agg #[.int .i64 0, .bool false, .slice none 0 0]), 3, 40) := by kernel_rfl
theorem Tryz.infoXTx : (Tryz.prog.info? 100).map (fun i => (i.zero, i.size, i.bytes)) = some (some (.agg #[.int .i64 0, .int .i64 0, .slice none 0 0, .slice none 0 0]), 4, 64) := by kernel_rfl
theorem Tryz.infoXBo : (Tryz.prog.info? 4).map (fun i => (i.zero, i.size, i.bytes)) = some (some (.bool false), 1, 1) := by kernel_rfl
theorem encMi_one (m : Int × (Int × Int)) : ∀ u ∈ encMi m, u.oneCell' = true := by intro u hu; simp [encMi] at hu; rcases hu with rfl | rfl | rfl <;> rfl
theorem encBo5_one (b : Bool) : ∀ u ∈ encBo5 b, u.oneCell' = true := by intro u hu; simp [encBo5] at hu; subst hu; rfl
theorem put1of3 {w W : World} {g : Nat} {t : TypeId} {a b c z : Value} (h : Blk w g t #[a, b, c]) (hW : w.setCell ⟨g, 2, none⟩ z = W) : Blk W g t #[a, b, z] ∧ Ch [g] w W := by
 subst hW
 exact ⟨h.put 2 z, Ch.refl.set (p := ⟨g, 2, none⟩) (by simp) z⟩
theorem put1of4 {w W : World} {g : Nat} {t : TypeId} {a b c d z : Value} (h : Blk w g t #[a, b, c, d]) (hW : w.setCell ⟨g, 3, none⟩ z = W) : Blk W g t #[a, b, c, z] ∧ Ch [g] w W := by
 subst hW
 exact ⟨h.put 3 z, Ch.refl.set (p := ⟨g, 3, none⟩) (by simp) z⟩
theorem xcopy_any (S : List Nat) (w0 w : World) (L : LN) (h : XAt S w0 L) (hg0 : Gr w0 w) (hl : XLe L.era) :
 Calls Tryz.prog 59 #[L.v] w fun e w' => ∃ L', e = .returned L'.v ∧ XOw S w0 w' L' ∧ (∀ g ∈ blkR L'.rows, w.heap.size ≤ g) ∧ L'.era = L.era ∧ Gr w w' := by
 have hr := (h.gr hg0).rd
 obtain ⟨As, At, Al, n, m, l, cs, ct, cl, hsh⟩ := hr.shp
 have HRD : Hid (∀ W, Gr w W → XRd W L) := Lib.hid (fun W hW => (h.gr (hg0.trans hW)).rd)
 have HSH := Lib.hid hsh
 have HL := Lib.hid hl
 have HH := Lib.hid h
 have HG0 := Lib.hid hg0
 have h8 : n ≤ 8 := by have := hl.s8; rw [lens_era.1, hsh.n] at this; exact this
 have h256 : m ≤ 256 := by have := hl.tx; rw [lens_era.2.1, hsh.m] at this; exact this
 have hml : l ≤ 1024 := by have := hl.ml; rw [lens_era.2.2, hsh.l] at this; exact this
 rw [hsh.v]
 obtain ⟨M, hM⟩ : ∃ M, (fun (e : Ending) (w' : World) => ∃ L', e = .returned L'.v ∧ XOw S w0 w' L' ∧ (∀ g ∈ blkR L'.rows, w.heap.size ≤ g) ∧ L'.era = L.era ∧ Gr w w') = M := ⟨_, rfl⟩
 rw [hM]
 have HM := Lib.hid hM
 clear h hr hsh hl hg0 hM
 go_enter Tryz.func59, Tryz.ntmps59
 go_upto_region 2 with fail
 generalize hW1 : World.alloc (World.alloc (World.alloc w _) _) _ = w1
 obtain ⟨g, hg⟩ : ∃ g, w.heap.size = g := ⟨_, rfl⟩
 obtain ⟨hg1, k1, k2, k3, hs1⟩ := box3m hg hW1
 have HG1 := Lib.hid hg1
 have HS := Lib.hid hg
 have HS1 := Lib.hid hs1
 have HK1 := Lib.hid k1
 have HK2 := Lib.hid k2
 have HK3 := Lib.hid k3
 rw [hg]
 have hcp0 : Cp S w0 w1 L 0 0 ⟨[], [], [], .slice none 0 0, .slice none 0 0, .slice none 0 0⟩ w1 := Cp.start (HG0.out.trans hg1)
 have HCP0 := Lib.hid hcp0
 clear hW1 hg hg1 k1 k2 k3 hs1 hcp0
 go_wp2_with fail
 go_loopw [4, 7] (fun v z wr => ∃ (i : Nat) (Lp : LN), i ≤ n ∧ z = .int .i64 (i : Int) ∧ v = Lp.sv ∧ Hid (Lp.tv = .slice none 0 0) ∧ Hid (Cp S w0 w1 L i 0 Lp wr)) (fun _ z _ => n - (intOf z).toNat)
 case atStart => exact ⟨0, _, Nat.zero_le _, rfl, rfl, Lib.hid rfl, HCP0⟩
 case round =>
  obtain ⟨i, Lp, hi, rfl, rfl, HTV, HCP⟩ := hrel
  have k1 := HK1.out.keep HCP.out.gr
  have b0 := k1.cell 0
  simp only [List.getElem?_toArray, List.getElem?_cons_succ, List.getElem?_cons_zero] at b0
  by_cases hlt : i < n
  ·have hii : (i : Int) < (n : Int) := by omega
   have hi0 : (0 : Int) ≤ (i : Int) := by omega
   obtain ⟨s, hs⟩ := site_at (L := L) i (by rw [HSH.out.n]; exact hlt)
   have hrd := HRD.out wr (HG1.out.trans HCP.out.gr)
   obtain ⟨b, off, c', hsv, -, c0, c1, c2⟩ := hrd.site3 hs
   rw [HSH.out.sv, HSH.out.n] at hsv
   injection hsv with hAs _ hcs
   subst hAs
   subst hcs
   obtain ⟨Am, cm, hmv, -, -, hmr⟩ := hrd.mv s (List.mem_of_getElem? hs)
   have hmn : s.minds.length = m := by rw [HL.out.minds hs]; exact HSH.out.m
   rw [hmv, hmn] at c2
   obtain ⟨Av, cv, hvv, hvc, -⟩ := RdV.of (k := 3) encLS_len (HCP.out.ow.rws.all Lp.sRow (by simp [LN.rows]))
   have hli := (HCP.out.lens (by rw [HSH.out.n]; exact hi) (Nat.zero_le _)).1
   replace hvv : Lp.sv = .slice Av Lp.sites.length cv := hvv
   rw [hli] at hvv
   have HSI := Lib.hid hs
   have HMR := Lib.hid hmr
   have HMV := Lib.hid (And.intro hmv (And.intro hmn (And.intro hvv hli)))
   have HRO : Hid (wr.ownsRow w0.heap.size 73 3 (.slice Av i cv) i (flatE encLS Lp.sites)) := Lib.hid (by
    have := HCP.out.ow.rws.all Lp.sRow (by simp [LN.rows])
    change wr.ownsRow _ _ 3 Lp.sv Lp.sites.length _ at this
    rw [hvv, hli] at this
    exact this)
   have hal := (Gr.refl wr).alloc (.cells #[.int .i64 0, .bool false, .slice none 0 0] 73)
   rw [hvv]
   clear hs hrd hmr hmv hmn hvv hli k1 hvc
   go_upto_region 9 with fail
   generalize hWa : World.alloc wr _ = wa
   obtain ⟨gb, hgb⟩ : ∃ gb, wr.heap.size = gb := ⟨_, rfl⟩
   have ka : Blk wa gb 73 #[.int .i64 s.stock, .bool s.down, .slice Am m cm] := by rw [← hWa]; exact Blk.new _ _ _ hgb
   have hga : Gr wr wa := by rw [← hWa]; exact (Gr.refl wr).alloc _
   rw [hgb]
   have HGB := Lib.hid hgb
   have HKA := Lib.hid ka
   have HGA := Lib.hid hga
   have a2 := ka.cell 2
   simp only [List.getElem?_toArray, List.getElem?_cons_succ, List.getElem?_cons_zero] at a2
   clear b0 c0 c1 c2 hal hWa hgb ka hga
   obtain ⟨i0, hi', hz0, hz1, hz2⟩ := info_parts Tryz.infoXMi
   have HMA := Lib.hid (HMR.out.keep HGA.out)
   go_wp2_with (at_builtin; refine step_app (by rfl) (.tmp 25) (.tmp 27) 71 (by rfl) wa.heap.size 102 i0 _ 24 Tryz.underlying71 hi' hz0 hz1 hz2 rfl (by decide) encMi_len encMi_one (.slice none 0 0) 0 [] rfl (by rfl) (World.ownsRow_nil wa _ _ _) (Nat.le_refl _) Am m cm s.minds (by rfl) HMV.out.2.1 HMA.out (by unfold maxLen; omega) (by omega) ?_)
   intro A' c2' wb hown' hgrow
   try simp only [List.nil_append, Nat.zero_add] at hown' ⊢
   have hgbb : Gr wa wb := (Below.refl _ wa).grown hgrow (Nat.le_refl _) (fun t ht => by simp [Value.ownBlock] at ht)
   have HOW := Lib.hid hown'
   have HGBB := Lib.hid hgbb
   have kb := HKA.out.keep hgbb
   have HKB := Lib.hid kb
   have a2 := kb.cell 2
   have f2 := kb.free 2
   simp only [List.getElem?_toArray, List.getElem?_cons_succ, List.getElem?_cons_zero] at a2
   clear hown' hgrow hgbb kb hi' hz0 hz1 hz2
   go_upto_region 12 with fail
   generalize hWc : World.setCell wb _ _ = wc
   obtain ⟨kc, hcc⟩ := put1of3 HKB.out hWc
   have HCC := Lib.hid hcc
   have a0 := kc.cell 0
   have a1 := kc.cell 1
   have a2 := kc.cell 2
   simp only [List.getElem?_toArray, List.getElem?_cons_succ, List.getElem?_cons_zero] at a0 a1 a2
   have HSC : Hid (wc.ownsRow w0.heap.size 73 3 (.slice Av i cv) i (flatE encLS Lp.sites)) := Lib.hid (owns_ch (owns_gr (owns_gr HRO.out HGA.out) HGBB.out) hcc (fun x hx hm => by
    have h1 := (owns_in HRO.out hx).1
    have h2 := HGB.out
    rw [List.mem_singleton.1 hm] at h1
    omega))
   obtain ⟨i1, hj, jz0, jz1, jz2⟩ := info_parts Tryz.infoXSi
   have hbw : w0.heap.size ≤ wc.heap.size := Nat.le_trans HCP.out.up.size (Nat.le_trans HCP.out.gr.size (Nat.le_trans HGA.out.size (Nat.le_trans HGBB.out.size hcc.size)))
   clear f2 hWc kc hcc
   go_wp2_with (at_builtin; refine wpList_append_own_at _ rfl _ _ 29 rfl w0.heap.size 73 i1 _ 3 40 Tryz.underlying29 hj jz0 jz1 jz2 rfl (by decide) _ _ _ rfl (HSC.out.alloc _) ⟨wc.heap.size, 0, none⟩ 1 1 (encLS { s with mv := .slice A' m c2' }) rfl rfl ?q1 ?q2 ?q3 ?q4 ?q5 ?_)
   case q1 => intro j u hu; first | (rw [Addr.add_lit]; exact alloc_new rfl (by rw [Nat.zero_add]; simpa [encLS] using hu)) | (simpa [encLS] using hu)
   case q2 => intro u hu; simp [encLS] at hu; rcases hu with rfl | rfl | rfl <;> rfl
   case q3 => unfold maxLen; omega
   case q4 => omega
   case q5 => simp; omega
   intro v' we hown2 hgrow2 _ hat
   obtain ⟨g3, c3, rfl, -⟩ := owns_shape hown2 (by omega)
   have HO2 := Lib.hid hown2
   have HG2 := Lib.hid hgrow2
   have HAT := Lib.hid hat
   clear hown2 hgrow2 hat hj jz0 jz1 jz2 hbw a0 a1 a2
   go_wp2_with fail
   go_roundw
   case rel =>
    refine ⟨i + 1, { Lp with sites := Lp.sites ++ [{ s with mv := .slice A' m c2' }], sv := .slice (some ⟨g3, 0, none⟩) (i + 1) c3 }, by omega, by go_num, rfl, HTV, Lib.hid ?_⟩
    refine HCP.out.site HSI.out (wd := wc.alloc (.cells #[.int .i64 s.stock, .bool s.down, .slice A' m c2'] 73)) (gb := gb) HGA.out (by rw [HGB.out]; exact Nat.le_refl _) HKA.out.lt ?_ HGBB.out HCC.out ((Gr.refl wc).alloc _) ?_ ?_ ?_
    ·rw [HMV.out.2.1]
     exact HOW.out
    ·rw [HMV.out.2.2.2, flatE_snoc]
     exact HO2.out
    ·exact Ch.row HG2.out (fun t ht => by rw [HMV.out.2.2.1]; simp [ht])
    ·rw [HMV.out.2.2.1]
     rw [show ∀ o, (wc.alloc o).heap.size = wc.heap.size + 1 from fun o => by simp]
     exact HAT.out
   case measure => simp [intOf]; omega
  ·obtain rfl : n = i := by omega
   have HCPn := HCP
   have hnl : Lp.sites.length = n := (HCP.out.lens (by rw [HSH.out.n]; exact Nat.le_refl _) (Nat.zero_le _)).1
   obtain ⟨Asv, csv, hsv2⟩ : ∃ A c, Lp.sv = .slice A n c := by
    obtain ⟨A, c, e, -⟩ := RdV.of (k := 3) encLS_len (HCP.out.ow.rws.all Lp.sRow (by simp [LN.rows]))
    exact ⟨A, c, by rw [← hnl]; exact e⟩
   have htv0 : Lp.tv = .slice none 0 0 ∨ True := Or.inr trivial
   have HSZ0 := Lib.hid hsv2
   rw [hsv2]
   clear hsv2 hnl htv0
   go_wp2_with fail
   go_loopw [5, 10] (fun v z wr => ∃ (j : Nat) (Lp : LN), j ≤ m ∧ z = .int .i64 (j : Int) ∧ v = Lp.tv ∧ Hid (Lp.sv = .slice Asv n csv) ∧ Hid (Cp S w0 w1 L n j Lp wr)) (fun _ z _ => m - (intOf z).toNat)
   case atStart => exact ⟨0, Lp, Nat.zero_le _, rfl, HTV.out.symm, HSZ0, HCPn⟩
   case round =>
    clear HCP HCPn HSZ0 HTV
    obtain ⟨j, Lp, hj, rfl, rfl, HSZ, HCP⟩ := hrel
    have k1 := HK1.out.keep HCP.out.gr
    have b1 := k1.cell 1
    simp only [List.getElem?_toArray, List.getElem?_cons_succ, List.getElem?_cons_zero] at b1
    by_cases hlt : j < m
    ·have hji : (j : Int) < (m : Int) := by omega
     have hj0 : (0 : Int) ≤ (j : Int) := by omega
     obtain ⟨s, hs⟩ := tx_at (L := L) j (by rw [HSH.out.m]; exact hlt)
     have hrd := HRD.out wr (HG1.out.trans HCP.out.gr)
     obtain ⟨b, off, c', hsv, -, c0, c1, c2, c3⟩ := hrd.tx4 hs
     rw [HSH.out.tv, HSH.out.m] at hsv
     injection hsv with hAs _ hcs
     subst hAs
     subst hcs
     obtain ⟨Am, cm, hmv, -, -, hmr⟩ := hrd.hv s (List.mem_of_getElem? hs)
     obtain ⟨Ap, cp, hpv, -⟩ := hrd.pv s (List.mem_of_getElem? hs)
     have hq8 := (HL.out.parts hs).1
     have hhp := (HL.out.parts hs).2
     obtain ⟨q, hqp⟩ : ∃ q, s.parts.length = q := ⟨_, rfl⟩
     have hmn : s.heard.length = q := by rw [hhp]; exact hqp
     rw [hmv, hmn] at c3
     rw [hpv, hqp] at c2
     rw [hqp] at hq8 hpv
     clear hhp
     have HPV := Lib.hid hpv
     obtain ⟨Av, cv, hvv, hvc, -⟩ := RdV.of (k := 4) encLT_len (HCP.out.ow.rws.all Lp.tRow (by simp [LN.rows]))
     have hli := (HCP.out.lens (by rw [HSH.out.n]; exact Nat.le_refl _) (by rw [HSH.out.m]; exact hj)).2
     replace hvv : Lp.tv = .slice Av Lp.txs.length cv := hvv
     rw [hli] at hvv
     have HSI := Lib.hid hs
     have HMR := Lib.hid hmr
     have HMV := Lib.hid (And.intro hmv (And.intro hmn (And.intro hvv hli)))
     have HRO : Hid (wr.ownsRow w0.heap.size 100 4 (.slice Av j cv) j (flatE encLT Lp.txs)) := Lib.hid (by
      have := HCP.out.ow.rws.all Lp.tRow (by simp [LN.rows])
      change wr.ownsRow _ _ 4 Lp.tv Lp.txs.length _ at this
      rw [hvv, hli] at this
      exact this)
     have hal := (Gr.refl wr).alloc (.cells #[.int .i64 0, .int .i64 0, .slice none 0 0, .slice none 0 0] 100)
     rw [hvv]
     clear hs hrd hmr hmv hmn hvv hli k1 hvc hpv hqp
     go_upto_region 17 with fail
     generalize hWa : World.alloc wr _ = wa
     obtain ⟨gb, hgb⟩ : ∃ gb, wr.heap.size = gb := ⟨_, rfl⟩
     have ka : Blk wa gb 100 #[.int .i64 s.at5, .int .i64 s.is, .slice Ap q cp, .slice Am q cm] := by rw [← hWa]; exact Blk.new _ _ _ hgb
     have hga : Gr wr wa := by rw [← hWa]; exact (Gr.refl wr).alloc _
     rw [hgb]
     have HGB := Lib.hid hgb
     have HKA := Lib.hid ka
     have HGA := Lib.hid hga
     have a3 := ka.cell 3
     simp only [List.getElem?_toArray, List.getElem?_cons_succ, List.getElem?_cons_zero] at a3
     clear b1 c0 c1 c2 c3 hal hWa hgb ka hga
     obtain ⟨i0, hi', hz0, hz1, hz2⟩ := info_parts Tryz.infoXBo
     have HMA := Lib.hid (HMR.out.keep HGA.out)
     go_wp2_with (at_builtin; refine step_app (by rfl) (.tmp 47) (.tmp 49) 98 (by rfl) wa.heap.size 4 i0 _ 1 Tryz.underlying98 hi' hz0 hz1 hz2 rfl (by decide) encBo5_len encBo5_one (.slice none 0 0) 0 [] rfl (by rfl) (World.ownsRow_nil wa _ _ _) (Nat.le_refl _) Am q cm s.heard (by rfl) HMV.out.2.1 HMA.out (by unfold maxLen; omega) (by omega) ?_)
     intro A' c2' wb hown' hgrow
     try simp only [List.nil_append, Nat.zero_add] at hown' ⊢
     have hgbb : Gr wa wb := (Below.refl _ wa).grown hgrow (Nat.le_refl _) (fun t ht => by simp [Value.ownBlock] at ht)
     have HOW := Lib.hid hown'
     have HGBB := Lib.hid hgbb
     have kb := HKA.out.keep hgbb
     have HKB := Lib.hid kb
     have a3 := kb.cell 3
     have f3 := kb.free 3
     simp only [List.getElem?_toArray, List.getElem?_cons_succ, List.getElem?_cons_zero] at a3
     clear hown' hgrow hgbb kb hi' hz0 hz1 hz2
     go_upto_region 20 with fail
     generalize hWc : World.setCell wb _ _ = wc
     obtain ⟨kc, hcc⟩ := put1of4 HKB.out hWc
     have HCC := Lib.hid hcc
     have a0 := kc.cell 0
     have a1 := kc.cell 1
     have a2 := kc.cell 2
     have a3 := kc.cell 3
     simp only [List.getElem?_toArray, List.getElem?_cons_succ, List.getElem?_cons_zero] at a0 a1 a2 a3
     have HSC : Hid (wc.ownsRow w0.heap.size 100 4 (.slice Av j cv) j (flatE encLT Lp.txs)) := Lib.hid (owns_ch (owns_gr (owns_gr HRO.out HGA.out) HGBB.out) hcc (fun x hx hm => by
      have h1 := (owns_in HRO.out hx).1
      have h2 := HGB.out
      rw [List.mem_singleton.1 hm] at h1
      omega))
     obtain ⟨i1, hj, jz0, jz1, jz2⟩ := info_parts Tryz.infoXTx
     have hbw : w0.heap.size ≤ wc.heap.size := Nat.le_trans HCP.out.up.size (Nat.le_trans HCP.out.gr.size (Nat.le_trans HGA.out.size (Nat.le_trans HGBB.out.size hcc.size)))
     clear f3 hWc kc hcc
     go_wp2_with (at_builtin; refine wpList_append_own_at _ rfl _ _ 30 rfl w0.heap.size 100 i1 _ 4 64 Tryz.underlying30 hj jz0 jz1 jz2 rfl (by decide) _ _ _ rfl (HSC.out.alloc _) ⟨wc.heap.size, 0, none⟩ 1 1 (encLT { s with hv := .slice A' q c2' }) rfl rfl ?q1 ?q2 ?q3 ?q4 ?q5 ?_)
     case q1 => intro j u hu; first | (rw [Addr.add_lit]; exact alloc_new rfl (by rw [Nat.zero_add]; simpa [encLT, HPV.out] using hu)) | (simpa [encLT, HPV.out] using hu)
     case q2 => intro u hu; simp [encLT, HPV.out] at hu; rcases hu with rfl | rfl | rfl | rfl <;> rfl
     case q3 => unfold maxLen; omega
     case q4 => omega
     case q5 => simp; omega
     intro v' we hown2 hgrow2 _ hat
     obtain ⟨g3, c3, rfl, -⟩ := owns_shape hown2 (by omega)
     have HO2 := Lib.hid hown2
     have HG2 := Lib.hid hgrow2
     have HAT := Lib.hid hat
     clear hown2 hgrow2 hat hj jz0 jz1 jz2 hbw a0 a1 a2 a3
     go_wp2_with fail
     go_roundw
     case rel =>
      refine ⟨j + 1, { Lp with txs := Lp.txs ++ [{ s with hv := .slice A' q c2' }], tv := .slice (some ⟨g3, 0, none⟩) (j + 1) c3 }, by omega, by go_num, rfl, HSZ, Lib.hid ?_⟩
      refine HCP.out.tx HSI.out (fun W hW => (HH.out W hW).pv s (List.mem_of_getElem? HSI.out)) (wd := wc.alloc (.cells #[.int .i64 s.at5, .int .i64 s.is, .slice Ap q cp, .slice A' q c2'] 100)) (gb := gb) HGA.out (by rw [HGB.out]; exact Nat.le_refl _) HKA.out.lt ?_ HGBB.out HCC.out ((Gr.refl wc).alloc _) ?_ ?_ ?_
      ·rw [HMV.out.2.1]
       exact HOW.out
      ·rw [HMV.out.2.2.2, flatE_snoc]
       exact HO2.out
      ·exact Ch.row HG2.out (fun t ht => by rw [HMV.out.2.2.1]; simp [ht])
      ·rw [HMV.out.2.2.1]
       rw [show ∀ o, (wc.alloc o).heap.size = wc.heap.size + 1 from fun o => by simp]
       exact HAT.out
     case measure => simp [intOf]; omega
    ·obtain rfl : m = j := by omega
     have hml2 : Lp.txs.length = m := (HCP.out.lens (by rw [HSH.out.n]; exact Nat.le_refl _) (by rw [HSH.out.m]; exact Nat.le_refl _)).2
     obtain ⟨Atv, ctv, htv2⟩ : ∃ A c, Lp.tv = .slice A m c := by
      obtain ⟨A, c, e, -⟩ := RdV.of (k := 4) encLT_len (HCP.out.ow.rws.all Lp.tRow (by simp [LN.rows]))
      exact ⟨A, c, by rw [← hml2]; exact e⟩
     have HT2 := Lib.hid htv2
     rw [htv2]
     have k1 := HK1.out.keep HCP.out.gr
     have k2 := HK2.out.keep HCP.out.gr
     have k3 := HK3.out.keep HCP.out.gr
     have HKK := Lib.hid (And.intro k2 k3)
     have b1 := k1.cell 1
     have b2 := k1.cell 2
     simp only [List.getElem?_toArray, List.getElem?_cons_succ, List.getElem?_cons_zero] at b1 b2
     obtain ⟨A, c, e, -, -, hlr⟩ := (HRD.out wr (HG1.out.trans HCP.out.gr)).lv
     rw [HSH.out.lv, HSH.out.l] at e
     injection e with e1 _ e3
     subst e1
     subst e3
     have HLR := Lib.hid hlr
     have HLL := Lib.hid HSH.out.l
     obtain ⟨i0, hi', hz0, hz1, hz2⟩ := info_parts Tryz.infoPtL
     clear htv2 hml2 k1 k2 k3 hlr
     go_wp2_with (at_builtin; refine step_app (by rfl) (.tmp 57) (.tmp 59) 31 (by rfl) wr.heap.size 59 i0 _ 40 Tryz.underlying31 hi' hz0 hz1 hz2 rfl (by decide) enc5m_len enc5m_one (.slice none 0 0) 0 [] rfl (by rfl) (World.ownsRow_nil wr _ _ _) (Nat.le_refl _) Al l cl L.mail (by rfl) HLL.out HLR.out (by unfold maxLen; omega) (by omega) ?_)
     intro A' c2' wb hown' hgrow
     try simp only [List.nil_append, Nat.zero_add] at hown' ⊢
     have hgbb : Gr wr wb := (Below.refl _ wr).grown hgrow (Nat.le_refl _) (fun t ht => by simp [Value.ownBlock] at ht)
     have k3 := HKK.out.2.keep hgbb
     have f0 := k3.free 0
     have f1 := k3.free 1
     have f2 := k3.free 2
     have d0 := k3.cell 0
     have d1 := k3.cell 1
     have d2 := k3.cell 2
     simp only [List.getElem?_toArray, List.getElem?_cons_succ, List.getElem?_cons_zero] at d0 d1 d2
     have HOW := Lib.hid hown'
     have HGBB := Lib.hid hgbb
     have HK3b := Lib.hid k3
     clear hown' hgrow hgbb k3 hi' hz0 hz1 hz2 b1 b2
     go_upto_region 25 with fail
     generalize hWc : World.setCell (World.setCell (World.setCell wb _ _) _ _) _ _ = wc
     obtain ⟨kc, cc⟩ := put33 HK3b.out hWc
     have k2 : Blk wc (g + 1) _ _ := (cc.block (g + 1) (HKK.out.1.keep HGBB.out).lt (by simp)).trans (HKK.out.1.keep HGBB.out)
     have HK2c := Lib.hid k2
     have HCC := Lib.hid cc
     have b0 := kc.cell 0
     have b1 := kc.cell 1
     have b2 := kc.cell 2
     have f0 := k2.free 0
     have f1 := k2.free 1
     have f2 := k2.free 2
     have d0 := k2.cell 0
     have d1 := k2.cell 1
     have d2 := k2.cell 2
     simp only [List.getElem?_toArray, List.getElem?_cons_succ, List.getElem?_cons_zero] at b0 b1 b2 d0 d1 d2
     clear hWc kc cc k2
     go_wp2_with fail
     generalize hW : World.setCell (World.setCell (World.setCell wc _ _) _ _) _ _ = W
     obtain ⟨kW, cW⟩ := put33 HK2c.out hW
     have u0 := kW.cell 0
     have u1 := kW.cell 1
     have u2 := kW.cell 2
     refine bodyPost_ret (v := .agg #[.slice Asv n csv, .slice Atv m ctv, .slice A' l c2']) ?_ ?_ ?_
     ·simp [results, Tryz.results59, go_sem, u0, u1, u2]
     ·rfl
     ·rw [← HM.out]
      have hcp : Cp S w0 w1 L L.sites.length L.txs.length Lp wr := by rw [HSH.out.n, HSH.out.m]; exact HCP.out
      obtain ⟨d1, d2, d3, d4⟩ := hcp.done (W := wb) (lv := .slice A' l c2') (by rw [HLL.out]; exact HOW.out) HGBB.out
      have hS := HS.out
      have hS1 := HS1.out
      have hcw : Ch [g + 2, g + 1] wb W := (HCC.out.mono (T := [g + 2, g + 1]) (by simp)).trans cW (fun t ht => Or.inl (by simp at ht ⊢; exact Or.inr ht))
      have hbe : ∀ t ∈ [g + 2, g + 1], w0.heap.size ≤ t ∧ t ∉ blkR (LN.rows { Lp with mail := L.mail, lv := .slice A' l c2' }) := fun t ht => by
       have := HG0.out.size
       refine ⟨by simp at ht; omega, fun hm => ?_⟩
       have := d2 t hm
       simp at ht
       omega
      refine ⟨{ Lp with mail := L.mail, lv := .slice A' l c2' }, by unfold LN.v; dsimp only; rw [HSZ.out, HT2.out], ⟨d1.rws.beside hcw (fun t ht => (hbe t ht).2), fun x hx => Or.inl (HCP.out.pt x hx), d1.up hcw (fun t ht => (hbe t ht).1)⟩, fun t ht => Nat.le_trans HG1.out.size (d2 t ht), d3, ?_⟩
      exact hcw.up (HG1.out.trans d4) (fun t ht => by simp at ht; omega)

end Go.Proofs.YtnoeiocbmhkmeaaGreat
