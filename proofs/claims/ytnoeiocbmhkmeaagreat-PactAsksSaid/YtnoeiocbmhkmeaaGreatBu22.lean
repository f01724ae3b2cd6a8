/- Layer 5: the calls of the reference and of a net. -/
import Derived.Test.YtnoeiocbmhkmeaaGreatBu21
namespace Go.Proofs.YtnoeiocbmhkmeaaGreat
set_option linter.unusedSimpArgs false
set_option maxRecDepth 100000
set_option maxHeartbeats 80000000

structure Sim (N : Nx) (X : XN) (co : Int → Int) (pa : Int → List Mv) (G : Int → Prop) (hd : Int → List Bool) : Prop where
 ok : OkN N
 inv : Inv N co pa G
 hok : HdOk N co pa hd
 eq : X = xOf N co pa hd
def xWithout (n : XN) (k : Nat) : XN := { n with mail := n.mail.eraseIdx k }
def xDeliver (n : XN) (k : Nat) : XN := match n.mail[k]? with
 | some m => if (xSite n m.2.1).down then xWithout n k else xHandle (xWithout n k) m
 | none => n
def xRepeat (n : XN) (k : Nat) : XN := match n.mail[k]? with
 | some m => if (xSite n m.2.1).down then n else xHandle n m
 | none => n
section
variable {N : Nx} {X : XN} {co : Int → Int} {pa : Int → List Mv} {G : Int → Prop} {hd : Int → List Bool}
theorem Sim.hand (h : Sim N X co pa G hd) {m : Ml} (hm : OkM N.sites.length N.begun m) (hl : LetOk (atN N m.2.2.2.1) (co m.2.2.2.1) (pa m.2.2.2.1) (G m.2.2.2.1) m) :
 ∃ G' hd', (∀ t, G t → G' t) ∧ Sim (handN N m) (if (xSite X m.2.1).down then X else xHandle X m) co pa G' hd' := by
 have hdst := hm.dst
 have hkn : m.2.1.toNat < N.sites.length := by omega
 have hs : N.sites[m.2.1.toNat]? = some (N.sites[m.2.1.toNat]'hkn) := List.getElem?_eq_getElem _
 generalize N.sites[m.2.1.toNat]'hkn = s at hs
 have hx : xSite X m.2.1 = ⟨s.stock, !s.up, mindsA N m.2.1⟩ := by
  have := xSite_of (co := co) (pa := pa) (hd := hd) hs
  rw [show ((m.2.1.toNat : Nat) : Int) = m.2.1 by omega] at this
  rw [h.eq]; exact this
 rw [hx]
 cases hu : s.up with
 | false =>
   have e : handN N m = N := by unfold handN; rw [hs]; dsimp only; rw [hu]; rfl
   rw [e]
   exact ⟨G, hd, fun _ h => h, h⟩
 | true =>
   obtain ⟨G', g1, g2⟩ := handN_inv h.inv h.ok hm hl
   obtain ⟨hd', k1, k2⟩ := hand_sim h.ok h.inv h.hok hm hl hs hu
   refine ⟨G', hd', g1, handN_ok h.ok hm, g2, k1, ?_⟩
   rw [h.eq]
   exact k2
theorem Sim.less (h : Sim N X co pa G hd) (ml : List Ml) (h1 : ml.length ≤ 1024) (h2 : ∀ x ∈ ml, x ∈ N.mail) : Sim { N with mail := ml } { X with mail := ml } co pa G hd :=
 ⟨⟨h.ok.lo, h.ok.hi, h.ok.beg, h.ok.site, h1, fun m hm => h.ok.mail m (h2 m hm)⟩, h.inv.mail ml (fun x hx => Or.inl (h2 x hx)), h.hok, by rw [h.eq]; rfl⟩
theorem Sim.mail (h : Sim N X co pa G hd) : X.mail = N.mail := by rw [h.eq]; rfl
theorem Sim.del (h : Sim N X co pa G hd) (k : Nat) : ∃ G' hd', (∀ t, G t → G' t) ∧ Sim (delN N k) (xDeliver X k) co pa G' hd' := by
 unfold delN xDeliver
 rw [h.mail]
 cases hm : N.mail[k]? with
 | none => exact ⟨G, hd, fun _ h => h, h⟩
 | some m =>
   have hmm := List.mem_of_getElem? hm
   have h1 := h.less (N.mail.eraseIdx k) (Nat.le_trans (List.length_eraseIdx_le _ _) h.ok.room) (fun x hx => List.mem_of_mem_eraseIdx hx)
   have h2 := h1.hand (m := m) (h.ok.mail m hmm) (h.inv.letOk h.ok hmm)
   have e : xWithout X k = { X with mail := N.mail.eraseIdx k } := by unfold xWithout; rw [h.mail]
   rw [e]
   exact h2
theorem Sim.rep (h : Sim N X co pa G hd) (k : Nat) : ∃ G' hd', (∀ t, G t → G' t) ∧ Sim (match N.mail[k]? with | some m => handN N m | none => N) (xRepeat X k) co pa G' hd' := by
 unfold xRepeat
 rw [h.mail]
 cases hm : N.mail[k]? with
 | none => exact ⟨G, hd, fun _ h => h, h⟩
 | some m =>
   have hmm := List.mem_of_getElem? hm
   exact h.hand (h.ok.mail m hmm) (h.inv.letOk h.ok hmm)
theorem Sim.los (h : Sim N X co pa G hd) (k : Nat) : Sim { N with mail := N.mail.eraseIdx k } (xWithout X k) co pa G hd := by
 have e : xWithout X k = { X with mail := N.mail.eraseIdx k } := by unfold xWithout; rw [h.mail]
 rw [e]
 exact h.less (N.mail.eraseIdx k) (Nat.le_trans (List.length_eraseIdx_le _ _) h.ok.room) (fun x hx => List.mem_of_mem_eraseIdx hx)
end
def xMore (x : XS) : XS := { x with minds := x.minds ++ [(0, (0, 0))] }
def xBeg (n : XN) (s : Int) (ps : List Mv) : XN := xTell { sites := n.sites.map xMore, txs := n.txs ++ [⟨s, 1, ps, List.replicate ps.length false⟩], mail := n.mail } s 1 ((n.txs.length : Int) + 1) (-1) false
section
variable {N : Nx} {X : XN} {co : Int → Int} {pa : Int → List Mv} {G : Int → Prop} {hd : Int → List Bool}
theorem Sim.beg (h : Sim N X co pa G hd) {k : Nat} {s : Sx} (hk : N.sites[k]? = some s) {ps : List Mv} (hp : okTx N ps = true) (hb : N.begun < 256) :
 Sim (begN N k ps) (xBeg X (k : Int) ps) (fun t => if t = N.begun + 1 then (k : Int) else co t) (fun t => if t = N.begun + 1 then ps else pa t) (fun t => t ≠ N.begun + 1 ∧ G t) (fun t => if t = N.begun + 1 then List.replicate ps.length false else hd t) := by
 have ho := h.ok
 have hbg := ho.beg.1
 have hP := okTx_parts hp
 have hnew := (ho.site k s hk).1.new
 have hnum := (ho.site k s hk).2
 have e0 : begN N k ps = { N with sites := N.sites.set k { s with opn := s.opn ++ [(N.begun + 1, dl0 ps)] }, mail := N.mail ++ (wrL s 1 (N.begun + 1) ps).take (1024 - N.mail.length), begun := N.begun + 1 } := by unfold begN; rw [hk]
 have hbb : (begN N k ps).begun = N.begun + 1 := by rw [e0]
 have hat : ∀ t, atN (begN N k ps) t = upd (atN N t) (k : Int) (atS { s with opn := s.opn ++ [(N.begun + 1, dl0 ps)] } t) := fun t => by
  rw [e0]; exact atN_set hk _ _ _ t
 have hold : ∀ t, t ≠ N.begun + 1 → atN (begN N k ps) t = atN N t := fun t ht => by
  rw [hat t]
  refine upd_id ?_
  rw [atN_of hk]
  unfold atS
  dsimp only
  rw [mget_snoc _ _ _ _ hnew, if_neg ht]
 have hz : ∀ i, atN N (N.begun + 1) i = at0 := fun i => h.inv.fresh _ i (Or.inl (by omega))
 have hnt : atN (begN N k ps) (N.begun + 1) (k : Int) = { at0 with op := some (dl0 ps) } := by
  rw [hat, upd_same]
  have e1 : atS s (N.begun + 1) = at0 := by rw [← atN_of hk]; exact hz _
  have : atS { s with opn := s.opn ++ [(N.begun + 1, dl0 ps)] } (N.begun + 1) = { atS s (N.begun + 1) with op := some (dl0 ps) } := by
   unfold atS
   dsimp only
   rw [mget_snoc _ _ _ _ hnew, if_pos rfl]
  rw [this, e1]
 refine ⟨begN_ok ho hk hp hb, begN_inv h.inv ho hk hp, fun t h1 h2 => ?_, ?_⟩
 ·rw [hbb] at h2
  by_cases e : t = N.begun + 1
  ·subst e
   rw [if_pos rfl, if_pos rfl, if_pos rfl, hnt]
   refine ⟨by simp, fun d hd2 i p hi => ?_, fun d hd2 => (by cases hd2)⟩
   have h5 := Option.some.inj hd2
   rw [← h5]
   show _ = some (mget (missOf ps) p.1).isNone
   rw [missOf_at, if_pos ⟨p.2, List.mem_of_getElem? hi⟩, List.getElem?_replicate, if_pos (List.getElem?_eq_some_iff.1 hi).1]
   rfl
  ·rw [if_neg e, if_neg e, if_neg e, hold t e]
   exact h.hok t h1 (by omega)
 ·rw [h.eq]
  unfold xBeg
  have hlt : (xOf N co pa hd).txs.length = N.begun.toNat := by unfold xOf; simp
  rw [hlt]
  have ebt : ((N.begun.toNat : Nat) : Int) + 1 = N.begun + 1 := by omega
  rw [ebt]
  unfold xTell
  have e1 : xTx { sites := (xOf N co pa hd).sites.map xMore, txs := (xOf N co pa hd).txs ++ [⟨(k : Int), 1, ps, List.replicate ps.length false⟩], mail := (xOf N co pa hd).mail } (N.begun + 1) = ⟨(k : Int), 1, ps, List.replicate ps.length false⟩ := by
   unfold xTx
   dsimp only
   rw [List.getD_eq_getElem?_getD, List.getElem?_append_right (by rw [hlt]; omega), hlt, show (N.begun + 1 - 1).toNat - N.begun.toNat = 0 by omega]
   rfl
  rw [e1, tellL_all _ (by simp) _ _ _ (fun r hr => (hP.part r hr).1), sends _ _ ho.room]
  have hlen : (begN N k ps).sites.length = N.sites.length := by rw [e0]; simp
  have hml : (begN N k ps).mail = N.mail ++ (wr5 (k : Int) 1 (N.begun + 1) ps).take (1024 - N.mail.length) := by rw [e0, ← hnum]; rfl
  have hbn : (begN N k ps).begun.toNat = N.begun.toNat + 1 := by omega
  unfold xOf
  dsimp only
  rw [hlen, hml, hbn]
  congr 1
  ·rw [List.map_map]
   refine List.map_congr_left (fun j hj => ?_)
   rw [List.mem_range] at hj
   have hjs : N.sites[j]? = some (N.sites[j]'hj) := List.getElem?_eq_getElem _
   simp only [Function.comp]
   unfold xMore
   dsimp only
   have e2 : ∀ dflt, ((begN N k ps).sites.getD j dflt).stock = (N.sites.getD j dflt).stock ∧ ((begN N k ps).sites.getD j dflt).up = (N.sites.getD j dflt).up := fun dflt => by
    rw [e0]
    dsimp only
    rw [List.getD_eq_getElem?_getD, List.getD_eq_getElem?_getD, List.getElem?_set]
    split
    ·rename_i e
     subst e
     rw [hk]
     split <;> exact ⟨rfl, rfl⟩
    ·exact ⟨rfl, rfl⟩
   rw [(e2 _).1, (e2 _).2]
   congr 1
   unfold mindsA
   rw [hbn, List.range_succ, List.map_append]
   congr 1
   ·refine List.map_congr_left (fun r hr => ?_)
    rw [List.mem_range] at hr
    rw [hold _ (by omega)]
   ·have e3 : mindA (atN (begN N k ps) (N.begun + 1) (j : Int)) = (0, (0, 0)) := by
     by_cases ej : (j : Int) = (k : Int)
     ·rw [ej, hnt]; rfl
     ·rw [hat, upd_ne ej, hz]; rfl
    simp only [List.map_cons, List.map_nil]
    rw [ebt, e3]
  ·rw [List.range_succ, List.map_append]
   congr 1
   ·refine List.map_congr_left (fun r hr => ?_)
    rw [List.mem_range] at hr
    have hr2 : ¬ ((r : Int) + 1 = N.begun + 1) := by omega
    unfold xtOf
    dsimp only
    rw [if_neg hr2, if_neg hr2, if_neg hr2, hold _ hr2]
   ·simp only [List.map_cons, List.map_nil]
    unfold xtOf
    dsimp only
    rw [ebt, if_pos rfl, if_pos rfl, if_pos rfl, hnt]
    rfl
end

set_option maxRecDepth 100000
set_option maxHeartbeats 80000000

def xCan (n : XN) (s tx : Int) : XN := xTell (xTurn n tx 0) s 5 tx (-1) false
def xSet (n : XN) (s : Int) (d : Bool) : XN := { n with sites := n.sites.set s.toNat { xSite n s with down := d } }
def xShut (s : Int) (t : XT) : XT := if t.at5 = s ∧ t.is = 1 then { t with is := 0, heard := List.replicate t.parts.length false } else t
def xCra (n : XN) (s : Int) : XN := { xSet n s true with txs := n.txs.map (xShut s) }
section
variable {N : Nx} {X : XN} {co : Int → Int} {pa : Int → List Mv} {G : Int → Prop} {hd : Int → List Bool}
theorem Sim.can (h : Sim N X co pa G hd) {k : Nat} {s : Sx} (hs : N.sites[k]? = some s) {t : Int} {d : Dl} (hd1 : mget s.opn t = some d) :
 Sim { N with sites := N.sites.set k { s with opn := mdel s.opn t }, mail := N.mail ++ (wrL s 5 t d.parts).take (1024 - N.mail.length) } (xCan X (k : Int) t) co pa G (fun t' => if t' = t then List.replicate (pa t).length false else hd t') := by
 have ho := h.ok
 have hi := h.inv
 have hk := ho.site k s hs
 have hdd := hk.1.opn _ (mget_some hd1)
 have h1 : 1 ≤ t := hdd.1.1
 have h2 : t ≤ N.begun := hdd.1.2
 have hat := atN_of hs
 have hop : (atS s t).op = some d := hd1
 have hI := hi.tx t h1 h2
 obtain ⟨ek, hG, hpp, -⟩ := hI.sit.op (k : Int) d (by rw [hat]; exact hop)
 have hP := (hi.ok t h1 h2).2
 have hco : co t = (k : Int) := ek.symm
 have gtn : (atS s t).gt = none := by
  cases hz : (atS s t).gt with
  | none => rfl
  | some d' => exact absurd (hI.sit.gt (k : Int) d' (by rw [hat]; exact hz)).2.1 hG
 have hoth : ∀ t', t' ≠ t → atS { s with opn := mdel s.opn t } t' = atS s t' := fun t' h => by
  unfold atS
  dsimp only
  rw [mget_del, if_neg h]
 have hnew : atS { s with opn := mdel s.opn t } t = { atS s t with op := none } := by
  unfold atS
  dsimp only
  rw [mget_del, if_pos rfl]
 have hok := ho.turn hs (s' := { s with opn := mdel s.opn t }) (l := wrL s 5 t d.parts) ⟨hk.1.num, hk.1.lo, hk.1.hi, hk.1.promA, hk.1.prom, mdel_apart hk.1.opnA, fun e he => hk.1.opn e (mdel_sub e he), hk.1.grtA, hk.1.grt, fun e he => hk.1.apart e (mdel_sub e he)⟩ rfl (wr_ok hk.1 (by omega) hdd.1 hdd.2.part)
 have hset : ∀ t', atN { N with sites := N.sites.set k { s with opn := mdel s.opn t }, mail := N.mail ++ (wrL s 5 t d.parts).take (1024 - N.mail.length) } t' = upd (atN N t') (k : Int) (atS { s with opn := mdel s.opn t } t') := fun t' => atN_set hs _ _ N.begun t'
 refine ⟨hok, ?_, fun t' a1 a2 => ?_, ?_⟩
 ·exact hi.forget hs s.up (mdel s.opn t) (fun t' => by
   rw [mget_del]
   split
   ·exact Or.inr rfl
   ·exact Or.inl rfl) (N.mail ++ (wrL s 5 t d.parts).take (1024 - N.mail.length)) (fun x hx => by
   rcases List.mem_append.1 hx with h3 | h3
   ·exact Or.inl h3
   ·obtain ⟨p, hp, rfl⟩ := wr5_mem (List.mem_of_mem_take h3)
    exact Or.inr ⟨⟨d, hd1, by dsimp only; rw [mget_del, if_pos rfl], p, hp, rfl⟩, rfl, hk.2⟩)
 ·rw [hset]
  by_cases e : t' = t
  ·subst e
   rw [if_pos rfl, hco, upd_same, hnew]
   refine ⟨by simp, fun d' h => (by cases h), fun d' h => ?_⟩
   have h5 : (atS s t').gt = some d' := h
   rw [gtn] at h5; cases h5
  ·rw [if_neg e, hoth t' e, upd_id (by rw [hat])]
   exact h.hok t' a1 a2
 ·rw [xOf_turn (co := co) (pa := pa) (hd := hd) hs (s' := { s with opn := mdel s.opn t }) rfl h1 h2 hoth _ _ (fun t' e => if_neg e), h.eq, if_pos hco, hnew]
  have e5 : stA { atS s t with op := none } = 0 := by unfold stA; dsimp only; rw [gtn]; rfl
  have e6 : mindA { atS s t with op := none } = mindA (atS s t) := rfl
  rw [e5, e6, idS hs h1, if_pos rfl]
  unfold xCan
  rw [xTurn_of h1 h2]
  unfold xTell
  rw [xTx_turn h1 h2, tellL_all _ (by simp) _ _ _ (fun r hr => (hP.part r hr).1), sends _ _ ho.room, hpp, ← hk.2]
  rfl
theorem Sim.sta (h : Sim N X co pa G hd) {k : Nat} {s : Sx} (hs : N.sites[k]? = some s) : Sim { N with sites := N.sites.set k { s with up := true } } (xSet X (k : Int) false) co pa G hd := by
 have ho := h.ok
 have hi := h.inv
 have hk := ho.site k s hs
 have hkl := (List.getElem?_eq_some_iff.1 hs).1
 have hok := ho.turn hs (s' := { s with up := true }) (l := []) ⟨hk.1.num, hk.1.lo, hk.1.hi, hk.1.promA, hk.1.prom, hk.1.opnA, hk.1.opn, hk.1.grtA, hk.1.grt, hk.1.apart⟩ rfl (fun m hm => by cases hm)
 rw [List.take_nil, List.append_nil] at hok
 have hat : ∀ t', atN { N with sites := N.sites.set k { s with up := true } } t' = atN N t' := fun t' => by
  have e := atN_set (N := N) hs { s with up := true } N.mail N.begun t'
  rw [show ({ N with sites := N.sites.set k { s with up := true }, mail := N.mail, begun := N.begun } : Nx) = { N with sites := N.sites.set k { s with up := true } } from rfl] at e
  rw [e]
  exact upd_id (by rw [atN_of hs]; rfl)
 refine ⟨hok, hi.forget hs true s.opn (fun t => Or.inl rfl) N.mail (fun x hx => Or.inl hx), fun t' a1 a2 => by rw [hat]; exact h.hok t' a1 a2, ?_⟩
 rw [h.eq]
 unfold xSet
 rw [xSite_of hs]
 unfold xOf
 dsimp only
 congr 1
 ·rw [List.length_set, show ((k : Int)).toNat = k from rfl]
  have hmd : ∀ i, mindsA { N with sites := N.sites.set k { s with up := true } } i = mindsA N i := fun i => by
   unfold mindsA
   exact List.map_congr_left (fun j _ => by rw [hat])
  refine list_set ?_ (fun i hi2 hne => ?_)
  ·rw [hmd, List.getD_eq_getElem?_getD, List.getElem?_set, if_pos rfl, if_pos hkl]
   rfl
  ·rw [hmd]
   have e1 : ∀ dflt, (N.sites.set k { s with up := true }).getD i dflt = N.sites.getD i dflt := fun dflt => by
    rw [List.getD_eq_getElem?_getD, List.getD_eq_getElem?_getD, List.getElem?_set, if_neg (fun e => hne e.symm)]
   rw [e1]
 ·refine List.map_congr_left (fun j _ => ?_)
  unfold xtOf
  rw [hat]
end

set_option maxRecDepth 100000
set_option maxHeartbeats 80000000

section
variable {N : Nx} {X : XN} {co : Int → Int} {pa : Int → List Mv} {G : Int → Prop} {hd : Int → List Bool}
theorem Sim.cra (h : Sim N X co pa G hd) {k : Nat} {s : Sx} (hs : N.sites[k]? = some s) : Sim { N with sites := N.sites.set k { s with up := false, opn := [] } } (xCra X (k : Int)) co pa G (fun t => if co t = (k : Int) ∧ (atS s t).op.isSome = true then List.replicate (pa t).length false else hd t) := by
 have ho := h.ok
 have hi := h.inv
 have hk := ho.site k s hs
 have hkl := (List.getElem?_eq_some_iff.1 hs).1
 have hok := ho.turn hs (s' := { s with up := false, opn := [] }) (l := []) ⟨hk.1.num, hk.1.lo, hk.1.hi, hk.1.promA, hk.1.prom, List.Pairwise.nil, fun e he => (by cases he), hk.1.grtA, hk.1.grt, fun e he => (by cases he)⟩ rfl (fun m hm => by cases hm)
 rw [List.take_nil, List.append_nil] at hok
 have hat : ∀ t', atN { N with sites := N.sites.set k { s with up := false, opn := [] } } t' = upd (atN N t') (k : Int) { atS s t' with op := none } := fun t' => by
  have e := atN_set (N := N) hs { s with up := false, opn := [] } N.mail N.begun t'
  rw [show ({ N with sites := N.sites.set k { s with up := false, opn := [] }, mail := N.mail, begun := N.begun } : Nx) = { N with sites := N.sites.set k { s with up := false, opn := [] } } from rfl] at e
  rw [e]
  rfl
 have gtn : ∀ t, 1 ≤ t → t ≤ N.begun → (atS s t).op.isSome = true → (atS s t).gt = none := fun t h1 h2 ho2 => by
  have hI := hi.tx t h1 h2
  cases hz : (atS s t).gt with
  | none => rfl
  | some d' =>
    exfalso
    have hg := (hI.sit.gt (k : Int) d' (by rw [atN_of hs]; exact hz)).2.1
    cases hx : (atS s t).op with
    | none => rw [hx] at ho2; cases ho2
    | some d => exact (hI.sit.op (k : Int) d (by rw [atN_of hs]; exact hx)).2.1 hg
 have hcoA : ∀ t, co t = (k : Int) → atN N t (co t) = atS s t := fun t e => by rw [e]; exact atN_of hs t
 refine ⟨hok, hi.forget hs false [] (fun t => Or.inr rfl) N.mail (fun x hx => Or.inl hx), fun t a1 a2 => ?_, ?_⟩
 ·have hT := h.hok t a1 a2
  rw [hat]
  by_cases e : co t = (k : Int)
  ·rw [e, upd_same]
   rw [hcoA t e] at hT
   by_cases hop : (atS s t).op.isSome = true
   ·rw [if_pos ⟨rfl, hop⟩]
    refine ⟨by simp, fun d' h => (by cases h), fun d' h => ?_⟩
    have h5 : (atS s t).gt = some d' := h
    rw [gtn t a1 a2 hop] at h5; cases h5
   ·rw [if_neg (fun h => hop h.2)]
    exact ⟨hT.1, fun d' h => (by cases h), hT.2.2⟩
  ·rw [upd_ne e, if_neg (fun h => e h.1)]
   exact hT
 ·rw [h.eq]
  unfold xCra xSet
  rw [xSite_of hs]
  unfold xOf
  dsimp only
  congr 1
  ·rw [List.length_set, show ((k : Int)).toNat = k from rfl]
   have hmd : ∀ i, mindsA { N with sites := N.sites.set k { s with up := false, opn := [] } } i = mindsA N i := fun i => by
    unfold mindsA
    refine List.map_congr_left (fun j _ => ?_)
    rw [hat]
    unfold upd
    split
    ·rename_i e; rw [e, atN_of hs]; rfl
    ·rfl
   refine list_set ?_ (fun i hi2 hne => ?_)
   ·rw [hmd, List.getD_eq_getElem?_getD, List.getElem?_set, if_pos rfl, if_pos hkl]
    rfl
   ·rw [hmd]
    have e1 : ∀ dflt, (N.sites.set k { s with up := false, opn := [] }).getD i dflt = N.sites.getD i dflt := fun dflt => by
     rw [List.getD_eq_getElem?_getD, List.getD_eq_getElem?_getD, List.getElem?_set, if_neg (fun e => hne e.symm)]
    rw [e1]
  ·rw [List.map_map]
   refine List.map_congr_left (fun j hj => ?_)
   rw [List.mem_range] at hj
   have h1 : (1 : Int) ≤ (j : Int) + 1 := by omega
   have h2 : (j : Int) + 1 ≤ N.begun := by omega
   simp only [Function.comp]
   generalize (j : Int) + 1 = t at h1 h2
   unfold xShut xtOf
   dsimp only
   rw [hat]
   by_cases e : co t = (k : Int)
   ·rw [hcoA t e]
    by_cases hop : (atS s t).op.isSome = true
    ·have e1 : stA (atS s t) = 1 := by unfold stA; rw [if_pos hop]
     rw [if_pos ⟨e, e1⟩, if_pos ⟨e, hop⟩, e, upd_same]
     have e2 : stA { atS s t with op := none } = 0 := by unfold stA; dsimp only; rw [gtn t h1 h2 hop]; rfl
     rw [e2]
    ·have e1 : stA (atS s t) ≠ 1 := by unfold stA; rw [if_neg hop]; split <;> decide
     have hon : (atS s t).op = none := by
      cases hx : (atS s t).op with
      | none => rfl
      | some d => rw [hx] at hop; exact absurd rfl hop
     rw [if_neg (fun h => e1 h.2), if_neg (fun h => hop h.2), e, upd_same]
     have e2 : stA { atS s t with op := none } = stA (atS s t) := by unfold stA; dsimp only; rw [hon]
     rw [e2]
   ·rw [if_neg (fun h => e h.1), if_neg (fun h => e h.1), upd_ne e]
end
theorem keysS_nums {β : Type} {l : List (Int × β)} {b : Int} (hp : l.Pairwise (fun p q => p.1 ≠ q.1)) (h : ∀ e ∈ l, 1 ≤ e.1 ∧ e.1 ≤ b) :
 keysS l = ((List.range b.toNat).map (fun (j : Nat) => (j : Int) + 1)).filter (fun t => (mget l t).isSome) := by
 have hnd : (((List.range b.toNat).map (fun (j : Nat) => (j : Int) + 1)).filter (fun t => (mget l t).isSome)).Pairwise (fun x y => x < y) := by
  refine List.Pairwise.filter _ ?_
  rw [List.pairwise_map]
  exact List.pairwise_lt_range.imp (fun h => by omega)
 have hperm : (((List.range b.toNat).map (fun (j : Nat) => (j : Int) + 1)).filter (fun t => (mget l t).isSome)).Perm (l.map Prod.fst) := by
  refine (List.perm_ext_iff_of_nodup (hnd.imp (fun h => by omega)) ?_).2 (fun t => ?_)
  ·rw [List.nodup_iff_pairwise_ne, List.pairwise_map]
   exact hp
  ·rw [List.mem_filter, List.mem_map, List.mem_map]
   refine ⟨fun ⟨_, h2⟩ => ?_, fun ⟨e, he, het⟩ => ?_⟩
   ·cases hx : mget l t with
    | none => rw [hx] at h2; cases h2
    | some y => exact ⟨_, mget_some hx, rfl⟩
   ·have hr := h e he
    refine ⟨⟨e.1.toNat - 1, List.mem_range.2 (by omega), by omega⟩, ?_⟩
    rw [← het, mget_of hp he]
    rfl
 rw [← keysS_of hperm]
 exact List.mergeSort_of_pairwise (hnd.imp (fun h => by simpa using (by omega : _ ≤ _)))

set_option maxRecDepth 100000
set_option maxHeartbeats 80000000

def numsT (b : Nat) : List Int := (List.range b).map (fun (j : Nat) => (j : Int) + 1)
def xTikL (n : XN) (s : Int) : List Ml :=
 (numsT n.txs.length).flatMap (fun t => if xState n s t = 1 then xTellL (xTx n t) s 1 t (-1) true else []) ++
 (numsT n.txs.length).flatMap (fun t => if xState n s t = 2 then xTellL (xTx n t) s 4 t (-1) true else []) ++
 (numsT n.txs.length).flatMap (fun t => if (xMindAt n s t).1 = 1 then [(s, (xMindAt n s t).2.1, 7, t, 0)] else [])
def xTik (n : XN) (s : Int) : XN := (xTikL n s).foldl xSend n
theorem flat_filter {β γ : Type} (p : β → Bool) (f : β → List γ) : ∀ (l : List β), (l.filter p).flatMap f = l.flatMap (fun x => if p x = true then f x else [])
 | [] => rfl
 | x :: r => by
   rw [List.filter_cons, List.flatMap_cons]
   split
   ·rw [List.flatMap_cons, flat_filter p f r]
   ·rw [flat_filter p f r]; rfl
theorem zip_self {β γ : Type} (g : β → γ) : ∀ (a : List β), a.zip (a.map g) = a.map (fun x => (x, g x))
 | [] => rfl
 | x :: r => by rw [List.map_cons, List.zip_cons_cons, zip_self g r]; rfl
theorem heard_map {ps : List Mv} {hs : List Bool} {d : Dl} (hl : hs.length = ps.length) (h : ∀ (i : Nat) (p : Mv), ps[i]? = some p → hs[i]? = some (mget d.miss p.1).isNone) : hs = ps.map (fun p => (mget d.miss p.1).isNone) := by
 refine List.ext_getElem? (fun i => ?_)
 by_cases hi : i < ps.length
 ·rw [List.getElem?_map, h i _ (List.getElem?_eq_getElem hi), List.getElem?_eq_getElem hi]
  rfl
 ·rw [List.getElem?_eq_none (by omega), List.getElem?_eq_none (by simp; omega)]
theorem tellL_silent {t : XT} {d : Dl} (hl : t.heard.length = t.parts.length) (hh : ∀ (i : Nat) (p : Mv), t.parts[i]? = some p → t.heard[i]? = some (mget d.miss p.1).isNone) (hk : ∀ f x, mget d.miss f = some x → x = true) (hp : ∀ p ∈ t.parts, 0 ≤ p.1) (fr kd tx : Int) :
 xTellL t fr kd tx (-1) true = wr5 fr kd tx (missL t.parts d.miss) := by
 unfold xTellL wr5 missL
 rw [heard_map hl hh, zip_self, List.filter_map, List.map_map]
 have e : t.parts.filter ((fun p : Mv × Bool => !(p.1.1 == -1 || (true && p.2))) ∘ fun p => (p, (mget d.miss p.1).isNone)) = t.parts.filter (fun p => (mget d.miss p.1).getD false) := by
  refine List.filter_congr (fun p hp2 => ?_)
  have := hp p hp2
  have e1 : (p.1 == -1) = false := by simp; omega
  simp only [Function.comp, e1]
  cases hx : mget d.miss p.1 with
  | none => rfl
  | some x => rw [hk _ _ hx]; rfl
 rw [e]
 rfl
section
variable {N : Nx} {X : XN} {co : Int → Int} {pa : Int → List Mv} {G : Int → Prop} {hd : Int → List Bool}
theorem Sim.tikL (h : Sim N X co pa G hd) {k : Nat} {s : Sx} (hs : N.sites[k]? = some s) : xTikL X (k : Int) = remL s := by
 have ho := h.ok
 have hi := h.inv
 have hk := ho.site k s hs
 have hat := atN_of hs
 have hlt : X.txs.length = N.begun.toNat := by rw [h.eq]; unfold xOf; simp
 have hin : ∀ t, t ∈ numsT N.begun.toNat → 1 ≤ t ∧ t ≤ N.begun := fun t ht => by
  obtain ⟨j, hj, rfl⟩ := List.mem_map.1 ht
  rw [List.mem_range] at hj
  omega
 have fcong : ∀ {f g : Int → List Ml} {l : List Int}, (∀ t ∈ l, f t = g t) → l.flatMap f = l.flatMap g := fun {f g l} hfg => by
  rw [List.flatMap_def, List.flatMap_def, List.map_congr_left hfg]
 have hst : ∀ t, 1 ≤ t → t ≤ N.begun → xState X (k : Int) t = if (atS s t).op.isSome then 1 else if (atS s t).gt.isSome then 2 else 0 := fun t h1 h2 => by
  rw [h.eq, xState_of h1 h2]
  by_cases e : co t = (k : Int)
  ·rw [if_pos e, e, hat]; rfl
  ·rw [if_neg e]
   have hI := hi.tx t h1 h2
   have o1 : (atS s t).op = none := by
    cases hx : (atS s t).op with
    | none => rfl
    | some d => exact absurd (hI.sit.op (k : Int) d (by rw [hat]; exact hx)).1.symm e
   have o2 : (atS s t).gt = none := by
    cases hx : (atS s t).gt with
    | none => rfl
    | some d => exact absurd (hI.sit.gt (k : Int) d (by rw [hat]; exact hx)).1.symm e
   rw [o1, o2]
   rfl
 have e1 := keysS_nums (b := N.begun) hk.1.opnA (fun e he => (hk.1.opn e he).1)
 have e2 := keysS_nums (b := N.begun) hk.1.grtA (fun e he => (hk.1.grt e he).1)
 have e3 := keysS_nums (b := N.begun) hk.1.promA (fun e he => (hk.1.prom e he).1)
 unfold xTikL remL
 rw [hlt, e1, e2, e3, flat_filter, flat_filter]
 have m7 : ∀ (l : List Int), ((l.filter (fun t => (mget s.prom t).isSome)).map (whaT s)) = l.flatMap (fun t => if (mget s.prom t).isSome = true then [whaT s t] else []) := fun l => by
  rw [← flat_filter (fun t => (mget s.prom t).isSome) (fun t => [whaT s t])]
  induction l.filter (fun t => (mget s.prom t).isSome) with
  | nil => rfl
  | cons x r ih => rw [List.map_cons, List.flatMap_cons, ih]; rfl
 rw [m7]
 congr 1
 ·congr 1
  ·refine fcong (fun t ht => ?_)
   obtain ⟨h1, h2⟩ := hin t ht
   have hT := h.hok t h1 h2
   have hP := (hi.ok t h1 h2).2
   rw [hst t h1 h2]
   cases hx : mget s.opn t with
   | none =>
     have o1 : (atS s t).op = none := hx
     have c : ¬ (if (atS s t).op.isSome = true then (1 : Int) else if (atS s t).gt.isSome = true then 2 else 0) = 1 := by
      rw [o1, if_neg (by simp)]; split <;> decide
     rw [if_neg c]
     rfl
   | some d =>
     have o1 : (atS s t).op = some d := hx
     have c : (if (atS s t).op.isSome = true then (1 : Int) else if (atS s t).gt.isSome = true then 2 else 0) = 1 := by rw [o1]; rfl
     have ea : askT s t = wrL s 1 t (missL d.parts d.miss) := by unfold askT; rw [hx]
     obtain ⟨q1, -, q3, -, q5, -⟩ := (hi.tx t h1 h2).sit.op (k : Int) d (by rw [hat]; exact o1)
     rw [if_pos c, ea, h.eq, xTx_of h1 h2]
     rw [← q1, hat] at hT
     rw [tellL_silent (d := d) (t := xtOf N co pa hd t) hT.1 (hT.2.1 d o1) (fun f x hf => (q5 f x hf).2) (fun p hp => (hP.part p hp).1)]
     show wr5 (k : Int) 1 t (missL (pa t) d.miss) = wrL s 1 t (missL d.parts d.miss)
     rw [q3, ← hk.2]
     rfl
  ·refine fcong (fun t ht => ?_)
   obtain ⟨h1, h2⟩ := hin t ht
   have hT := h.hok t h1 h2
   have hP := (hi.ok t h1 h2).2
   rw [hst t h1 h2]
   cases hx : mget s.grt t with
   | none =>
     have o1 : (atS s t).gt = none := hx
     have c : ¬ (if (atS s t).op.isSome = true then (1 : Int) else if (atS s t).gt.isSome = true then 2 else 0) = 2 := by
      rw [o1]
      split
      ·decide
      ·rw [if_neg (by simp)]; decide
     rw [if_neg c]
     rfl
   | some d =>
     have o1 : (atS s t).gt = some d := hx
     obtain ⟨q1, q2, q3, -, q5, -⟩ := (hi.tx t h1 h2).sit.gt (k : Int) d (by rw [hat]; exact o1)
     have o2 : (atS s t).op = none := by
      cases hy : (atS s t).op with
      | none => rfl
      | some d' => exact absurd q2 ((hi.tx t h1 h2).sit.op (k : Int) d' (by rw [hat]; exact hy)).2.1
     have c : (if (atS s t).op.isSome = true then (1 : Int) else if (atS s t).gt.isSome = true then 2 else 0) = 2 := by rw [o1, o2]; rfl
     have ea : comT s t = wrL s 4 t (missL d.parts d.miss) := by unfold comT; rw [hx]
     rw [if_pos c, ea, h.eq, xTx_of h1 h2]
     rw [← q1, hat] at hT
     rw [tellL_silent (d := d) (t := xtOf N co pa hd t) hT.1 (hT.2.2 d o1) (fun f x hf => (q5 f x hf).2) (fun p hp => (hP.part p hp).1)]
     show wr5 (k : Int) 4 t (missL (pa t) d.miss) = wrL s 4 t (missL d.parts d.miss)
     rw [q3, ← hk.2]
     rfl
 ·refine fcong (fun t ht => ?_)
  obtain ⟨h1, h2⟩ := hin t ht
  rw [h.eq, xMindAt_of hs h1 h2]
  cases hx : mget s.prom t with
  | none =>
    have o1 : (atS s t).pr = none := hx
    have c : ¬ (mindA (atS s t)).1 = 1 := by
     rw [mindA_none o1]
     split <;> (try split) <;> decide
    rw [if_neg c]
    rfl
  | some y =>
    have o1 : (atS s t).pr = some y := hx
    have e4 : mindA (atS s t) = (1, y) := by unfold mindA; rw [o1]
    have c : (mindA (atS s t)).1 = 1 := by rw [e4]
    have ew : whaT s t = ((k : Int), y.1, 7, t, 0) := by unfold whaT; rw [hx, hk.2]; rfl
    rw [if_pos c, e4, ew]
    rfl
theorem Sim.tik (h : Sim N X co pa G hd) {k : Nat} {s : Sx} (hs : N.sites[k]? = some s) : Sim { N with mail := N.mail ++ (remL s).take (1024 - N.mail.length) } (xTik X (k : Int)) co pa G hd := by
 have ho := h.ok
 have hi := h.inv
 refine ⟨⟨ho.lo, ho.hi, ho.beg, ho.site, take_room _ _ ho.room, fun m hm => ?_⟩, hi.mail _ (fun x hx => ?_), h.hok, ?_⟩
 ·rcases List.mem_append.1 hm with h1 | h1
  ·exact ho.mail m h1
  ·exact (remL_ok hi ho hs (List.mem_of_mem_take h1)).1
 ·rcases List.mem_append.1 hx with h1 | h1
  ·exact Or.inl h1
  ·exact Or.inr ⟨_, rfl, (remL_ok hi ho hs (List.mem_of_mem_take h1)).2⟩
 ·unfold xTik
  rw [h.tikL hs, sends _ _ (by rw [h.mail]; exact ho.room), h.eq]
  rfl
end

set_option maxRecDepth 100000
set_option maxHeartbeats 80000000

def xSettled (n : XN) : Bool := n.mail.isEmpty && (numsT n.txs.length).all (fun t => decide ((xTx n t).is = 0) && (List.range n.sites.length).all (fun (k : Nat) => !decide ((xMindAt n (k : Int) t).1 = 1)))
theorem mem_numsT {b : Nat} {t : Int} : t ∈ numsT b ↔ 1 ≤ t ∧ t ≤ (b : Int) := by
 unfold numsT
 rw [List.mem_map]
 constructor
 ·rintro ⟨j, hj, rfl⟩
  rw [List.mem_range] at hj
  omega
 ·rintro ⟨h1, h2⟩
  exact ⟨(t - 1).toNat, by rw [List.mem_range]; omega, by omega⟩
theorem none_of_keys {α : Type} {b : Int} (hb : 0 ≤ b) {l : List (Int × α)} (hk : keysS l = (numsT b.toNat).filter (fun t => (mget l t).isSome)) (h : ∀ t, 1 ≤ t → t ≤ b → mget l t = none) : l = [] := by
 have : keysS l = [] := by
  rw [hk, List.filter_eq_nil_iff]
  intro t ht
  obtain ⟨h1, h2⟩ := mem_numsT.1 ht
  rw [h t h1 (by omega)]
  simp
 have hl := keysS_len l
 rw [this] at hl
 exact List.eq_nil_of_length_eq_zero (by simpa using hl.symm)
section
variable {N : Nx} {X : XN} {co : Int → Int} {pa : Int → List Mv} {G : Int → Prop} {hd : Int → List Bool}
theorem Sim.txsLen (h : Sim N X co pa G hd) : X.txs.length = N.begun.toNat := by rw [h.eq]; unfold xOf; simp
theorem Sim.sitesLen (h : Sim N X co pa G hd) : X.sites.length = N.sites.length := by rw [h.eq]; unfold xOf; simp
theorem Sim.settled (h : Sim N X co pa G hd) : settledN N = xSettled X := by
 have ho := h.ok
 have hi := h.inv
 unfold settledN xSettled
 rw [h.mail, h.txsLen, h.sitesLen]
 congr 1
 rw [Bool.eq_iff_iff, List.all_eq_true, List.all_eq_true]
 constructor
 ·intro hs t ht
  obtain ⟨h1, h2⟩ := mem_numsT.1 ht
  have h2 : t ≤ N.begun := by omega
  rw [Bool.and_eq_true, List.all_eq_true]
  have hnil : ∀ (k : Nat) (s : Sx), N.sites[k]? = some s → (atS s t).op = none ∧ (atS s t).gt = none ∧ (atS s t).pr = none := fun k s hk => by
   have := hs s (List.mem_of_getElem? hk)
   unfold setS at this
   rw [Bool.and_eq_true, Bool.and_eq_true, List.isEmpty_iff, List.isEmpty_iff, List.isEmpty_iff] at this
   obtain ⟨⟨e1, e2⟩, e3⟩ := this
   unfold atS
   dsimp only
   rw [e1, e2, e3]
   exact ⟨rfl, rfl, rfl⟩
  constructor
  ·rw [decide_eq_true_iff, h.eq, xTx_of h1 h2]
   show stA (atN N t (co t)) = 0
   have hc := (hi.ok t h1 h2).1
   have hk : N.sites[(co t).toNat]? = some (N.sites[(co t).toNat]'(by omega)) := List.getElem?_eq_getElem _
   obtain ⟨e1, e2, -⟩ := hnil _ _ hk
   have ha := atN_of (t := t) hk
   rw [show (((co t).toNat : Nat) : Int) = co t by omega] at ha
   rw [ha]
   unfold stA
   rw [e1, e2]
   rfl
  ·intro k hk
   rw [List.mem_range] at hk
   have hk2 : N.sites[k]? = some (N.sites[k]'hk) := List.getElem?_eq_getElem _
   obtain ⟨-, -, e3⟩ := hnil _ _ hk2
   rw [h.eq, xMindAt_of hk2 h1 h2, mindA_none e3]
   split <;> (try split) <;> rfl
 ·intro hs s hm
  obtain ⟨k, hk⟩ := List.getElem?_of_mem hm
  have hkl := (List.getElem?_eq_some_iff.1 hk).1
  have hat := fun t => atN_of (t := t) hk
  have hkk := ho.site k s hk
  have hb : 0 ≤ N.begun := by have := ho.beg; omega
  have H : ∀ t, 1 ≤ t → t ≤ N.begun → (atS s t).op = none ∧ (atS s t).gt = none ∧ (atS s t).pr = none := fun t h1 h2 => by
   have := hs t (mem_numsT.2 ⟨h1, by omega⟩)
   rw [Bool.and_eq_true, List.all_eq_true, decide_eq_true_iff] at this
   obtain ⟨a1, a2⟩ := this
   have a3 := a2 k (by rw [List.mem_range]; exact hkl)
   rw [h.eq, xTx_of h1 h2] at a1
   rw [h.eq, xMindAt_of hk h1 h2] at a3
   have hI := hi.tx t h1 h2
   have b1 : stA (atN N t (co t)) = 0 := a1
   refine ⟨?_, ?_, ?_⟩
   ·cases hx : (atS s t).op with
    | none => rfl
    | some d =>
      have := (hI.sit.op (k : Int) d (by rw [hat]; exact hx)).1
      rw [← this, hat] at b1
      unfold stA at b1
      rw [hx] at b1
      simp at b1
   ·cases hx : (atS s t).gt with
    | none => rfl
    | some d =>
      have := (hI.sit.gt (k : Int) d (by rw [hat]; exact hx)).1
      rw [← this, hat] at b1
      unfold stA at b1
      rw [hx] at b1
      split at b1 <;> simp at b1
   ·cases hx : (atS s t).pr with
    | none => rfl
    | some y =>
      have e4 : mindA (atS s t) = (1, y) := by unfold mindA; rw [hx]
      rw [e4] at a3
      simp at a3
  have e1 := keysS_nums (b := N.begun) hkk.1.opnA (fun e he => (hkk.1.opn e he).1)
  have e2 := keysS_nums (b := N.begun) hkk.1.grtA (fun e he => (hkk.1.grt e he).1)
  have e3 := keysS_nums (b := N.begun) hkk.1.promA (fun e he => (hkk.1.prom e he).1)
  unfold setS
  rw [none_of_keys hb e1 (fun t h1 h2 => (H t h1 h2).1), none_of_keys hb e2 (fun t h1 h2 => (H t h1 h2).2.1), none_of_keys hb e3 (fun t h1 h2 => (H t h1 h2).2.2)]
  rfl
theorem outS_mind (s : Sx) (t : Int) : outS s t = (mindA (atS s t)).1 := by
 unfold outS mindA atS
 dsimp only
 cases mget s.prom t with
 | some y => rfl
 | none =>
   dsimp only
   rw [if_neg (by simp)]
   split
   ·rfl
   ·split <;> rfl
def xOutc (n : XN) (i t : Int) : Int := if 0 ≤ i ∧ i < (n.sites.length : Int) ∧ 1 ≤ t ∧ t ≤ (n.txs.length : Int) then (xMindAt n i t).1 else 0
theorem Sim.outc (h : Sim N X co pa G hd) (i t : Int) : outN N i t = xOutc X i t := by
 unfold outN xOutc
 rw [h.sitesLen, h.txsLen]
 have hb := h.ok.beg
 have hlo := h.ok.lo
 have hr : (refS N i ≠ 0) ↔ ¬ (0 ≤ i ∧ i < (N.sites.length : Int)) := by
  unfold refS
  split
  ·omega
  ·split
   ·simp; omega
   ·simp; omega
 by_cases hi : 0 ≤ i ∧ i < (N.sites.length : Int)
 ·have hk : N.sites[i.toNat]? = some (N.sites[i.toNat]'(by omega)) := List.getElem?_eq_getElem _
  generalize N.sites[i.toNat]'(by omega) = s at hk
  have hki : ((i.toNat : Nat) : Int) = i := by omega
  by_cases ht : 1 ≤ t ∧ t ≤ N.begun
  ·have hx := xMindAt_of (co := co) (pa := pa) (hd := hd) hk ht.1 ht.2
   rw [hki] at hx
   rw [if_neg (by rw [hr]; exact fun hn => hn hi), if_pos (by omega), hk, h.eq, hx, ← outS_mind]
   rfl
  ·have hf := h.inv.fresh t i (by omega)
   have ha := atN_of (t := t) hk
   rw [hki, hf] at ha
   have e0 : outS s t = 0 := by rw [outS_mind, ← ha]; rfl
   rw [if_neg (by rw [hr]; exact fun hn => hn hi), if_neg (by omega), hk]
   exact e0
 ·rw [if_pos (hr.2 hi), if_neg (by omega)]
theorem Sim.sto (h : Sim N X co pa G hd) {k : Nat} {s : Sx} (hs : N.sites[k]? = some s) : (xSite X (k : Int)).stock = s.stock ∧ (xSite X (k : Int)).down = !s.up := by
 rw [h.eq, xSite_of hs]
 exact ⟨rfl, rfl⟩
end

end Go.Proofs.YtnoeiocbmhkmeaaGreat
