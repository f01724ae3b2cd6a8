/- Layer 5: a site that has ticked has no letter lost. -/
import Derived.Test.YtobcdkjomehdkaaGreatBu20
namespace Go.Proofs.YtobcdkjomehdkaaGreat
set_option linter.unusedSimpArgs false
set_option maxRecDepth 100000
set_option maxHeartbeats 80000000

theorem live_none (N : Nx) (co : Int → Int) : Liv N co (fun _ => False) := fun _ _ _ => ⟨fun _ _ h => h.elim, fun _ _ h => h.elim, fun _ _ h => h.elim⟩
theorem mget_all_none {β : Type} {l : List (Int × β)} (h : ∀ t, mget l t = none) : l = [] := by
 cases l with
 | nil => rfl
 | cons p r => exact absurd rfl (mget_none.1 (h p.1) p List.mem_cons_self)
theorem live_settled {N : Nx} {co : Int → Int} {pa : Int → List Mv} {G : Int → Prop} (h : Inv N co pa G) (v : Liv N co (fun _ => True)) (hm : N.mail = []) : ∀ s ∈ N.sites, s.opn = [] ∧ s.grt = [] ∧ s.prom = [] := fun s hs => by
 obtain ⟨k, hk⟩ := List.mem_iff_getElem?.1 hs
 have key : ∀ t, mget s.opn t = none ∧ mget s.grt t = none ∧ mget s.prom t = none := fun t => by
  have e := atN_of hk t
  by_cases ht : 1 ≤ t ∧ t ≤ N.begun
  ·have := quiet (h.tx t ht.1 ht.2) (v t ht.1 ht.2) (fun m hm2 => by have := hm2.1; rw [hm] at this; cases this) (k : Int)
   rw [e] at this
   exact this
  ·have := h.fresh t (k : Int) (by omega)
   rw [e] at this
   exact ⟨congrArg At.op this, congrArg At.gt this, congrArg At.pr this⟩
 exact ⟨mget_all_none (fun t => (key t).1), mget_all_none (fun t => (key t).2.1), mget_all_none (fun t => (key t).2.2)⟩
set_option maxRecDepth 100000
set_option maxHeartbeats 80000000

def chg (ps : List Mv) (i : Int) : Int := ((ps.filter (fun p => p.1 == i)).map (·.2)).sum
theorem chg_of {q : Nat} : ∀ {ps : List Mv}, (ps.map (·.1)).Nodup → ∀ {i x : Int}, (i, x) ∈ ps → chg ps i = x
 | [], _, i, x, h => by cases h
 | p :: r, hn, i, x, h => by
   rw [List.map_cons, List.nodup_cons] at hn
   unfold chg
   rcases List.mem_cons.1 h with rfl | h
   ·have hr : r.filter (fun p => p.1 == i) = [] := by
     rw [List.filter_eq_nil_iff]
     intro y hy e
     exact hn.1 (List.mem_map.2 ⟨y, hy, by simpa using e⟩)
    rw [List.filter_cons_of_pos (by simp), hr]
    simp
   ·have hne : p.1 ≠ i := fun e => hn.1 (List.mem_map.2 ⟨(i, x), h, e.symm⟩)
    rw [List.filter_cons_of_neg (by simpa using hne)]
    exact chg_of (q := q) hn.2 h
def kpS (N : Nx) (pa : Int → List Mv) (b : Nat) (i : Int) : Int := ((List.range b).map (fun (j : Nat) => if (atN N ((j : Int) + 1) i).kp then chg (pa ((j : Int) + 1)) i else 0)).sum
theorem sum_same {b : Nat} {f g : Nat → Int} (h : ∀ j, j < b → f j = g j) : ((List.range b).map f).sum = ((List.range b).map g).sum := by
 rw [List.map_congr_left (fun j hj => h j (List.mem_range.1 hj))]
theorem sum_one : ∀ {b : Nat} {f g : Nat → Int} {j : Nat} {x : Int}, j < b → g j = f j + x → (∀ r, r < b → r ≠ j → g r = f r) → ((List.range b).map g).sum = ((List.range b).map f).sum + x
 | 0, f, g, j, x, hj, _, _ => by omega
 | b + 1, f, g, j, x, hj, h1, h2 => by
   rw [List.range_succ, List.map_append, List.map_append, List.sum_append, List.sum_append]
   simp only [List.map_cons, List.map_nil, List.sum_cons, List.sum_nil]
   by_cases e : j = b
   ·subst e
    rw [sum_same (g := f) (fun r hr => h2 r (by omega) (by omega)), h1]
    omega
   ·rw [sum_one (j := j) (x := x) (by omega) h1 (fun r hr hne => h2 r (by omega) hne), h2 b (by omega) (fun e2 => e e2.symm)]
    omega
theorem hanK_stock (s : Sx) (m : Ml) : (∃ c x, mget s.prom m.2.2.2.1 = some (c, x) ∧ (han s m).1.stock = s.stock + x ∧ ∀ t, (atS (han s m).1 t).kp = if t = m.2.2.2.1 then true else (atS s t).kp) ∨ ((han s m).1.stock = s.stock ∧ ∀ t, (atS (han s m).1 t).kp = (atS s t).kp) := by
 unfold han
 repeat' split
 ·refine Or.inr ?_
  unfold askS
  repeat' split
  all_goals exact ⟨rfl, fun _ => rfl⟩
 ·refine Or.inr ?_
  unfold agrS
  repeat' split
  all_goals exact ⟨rfl, fun _ => rfl⟩
 ·refine Or.inr ?_
  unfold disS
  repeat' split
  all_goals exact ⟨rfl, fun _ => rfl⟩
 ·unfold keepS
  cases h : mget s.prom m.2.2.2.1 with
  | none => exact Or.inr ⟨by simp, fun _ => by simp⟩
  | some d =>
    obtain ⟨c, x⟩ := d
    refine Or.inl ⟨c, x, rfl, by simp, fun t => ?_⟩
    simp only [Option.isSome_some, if_true]
    unfold atS
    dsimp only
    rw [mget_put]
    split <;> rfl
 ·refine Or.inr ?_
  unfold aboS
  repeat' split
  all_goals exact ⟨rfl, fun _ => rfl⟩
 ·refine Or.inr ?_
  unfold finS
  repeat' split
  all_goals exact ⟨rfl, fun _ => rfl⟩
 ·exact Or.inr ⟨rfl, fun _ => rfl⟩
def Stk (N : Nx) (pa : Int → List Mv) (own : List Int) : Prop := own.length = N.sites.length ∧ ∀ (k : Nat) (s : Sx), N.sites[k]? = some s → s.stock = own.getD k 0 + kpS N pa N.begun.toNat (k : Int)
theorem Stk.set {N : Nx} {pa : Int → List Mv} {own : List Int} (h : Stk N pa own) {k : Nat} {s : Sx} (hk : N.sites[k]? = some s) (s' : Sx) (ml : List Ml) (h1 : s'.stock = s.stock) (h2 : ∀ t, (atS s' t).kp = (atS s t).kp) : Stk { N with sites := N.sites.set k s', mail := ml } pa own := by
 have e : ∀ t i, (atN { N with sites := N.sites.set k s', mail := ml } t i).kp = (atN N t i).kp := fun t i => by
  have := atN_set (N := N) hk s' ml N.begun t
  rw [show ({ N with sites := N.sites.set k s', mail := ml } : Nx) = { N with sites := N.sites.set k s', mail := ml, begun := N.begun } from rfl, this]
  unfold upd
  split
  ·rename_i e; rw [e, atN_of hk]; exact h2 t
  ·rfl
 have e2 : ∀ i, kpS { N with sites := N.sites.set k s', mail := ml } pa N.begun.toNat i = kpS N pa N.begun.toNat i := fun i => by
  unfold kpS
  exact sum_same (fun j _ => by rw [e])
 refine ⟨by simpa using h.1, fun j u hu => ?_⟩
 dsimp only at hu ⊢
 rw [e2]
 rw [List.getElem?_set] at hu
 split at hu
 ·rename_i e
  subst e
  split at hu
  ·injection hu with hu
   subst hu
   rw [h1]; exact h.2 _ s hk
  ·cases hu
 ·exact h.2 j u hu
theorem hand_stk {N : Nx} {co : Int → Int} {pa : Int → List Mv} {G : Int → Prop} {own : List Int} (h : Stk N pa own) (hi : Inv N co pa G) {m : Ml} (hm : OkM N.sites.length N.begun m) : Stk (handN N m) pa own := by
 unfold handN
 split
 ·exact h
 rename_i s hs
 split
 ·rcases hanK_stock s m with ⟨c, x, h1, h2, h3⟩ | ⟨h1, h2⟩
  ·have hd := hm.dst
   have htx := hm.tx
   obtain ⟨k, hk⟩ : ∃ k : Nat, m.2.1 = (k : Int) := ⟨m.2.1.toNat, by omega⟩
   rw [hk, show ((k : Int)).toNat = k from rfl] at hs ⊢
   have hI := hi.tx _ hm.tx.1 hm.tx.2
   have hp : (atN N m.2.2.2.1 (k : Int)).pr = some (c, x) := by rw [atN_of hs]; exact h1
   have hkp : (atN N m.2.2.2.1 (k : Int)).kp = false := ((hI.sit.one (k : Int)).1 (by rw [hp]; simp)).1
   have hmem := (hI.sit.prom (k : Int) c x hp).2
   have hch : chg (pa m.2.2.2.1) (k : Int) = x := chg_of (q := N.sites.length) (hi.ok _ hm.tx.1 hm.tx.2).2.nod hmem
   refine ⟨by simpa using h.1, fun j u hu => ?_⟩
   have e : ∀ t i, atN { N with sites := N.sites.set k (han s m).1, mail := N.mail ++ (han s m).2.take (1024 - N.mail.length) } t i = upd (atN N t) (k : Int) (atS (han s m).1 t) i := fun t i => by rw [← atN_set (N := N) hs (han s m).1 _ N.begun t]
   dsimp only at hu ⊢
   rw [List.getElem?_set] at hu
   have hj0 : m.2.2.2.1.toNat - 1 < N.begun.toNat := by have := hm.tx; omega
   have hcast : (((m.2.2.2.1.toNat - 1 : Nat) : Int)) + 1 = m.2.2.2.1 := by have := hm.tx; omega
   by_cases e2 : k = j
   ·subst e2
    rw [if_pos rfl] at hu
    split at hu
    ·injection hu with hu
     subst hu
     rw [h2, h.2 _ s hs]
     have : kpS { N with sites := N.sites.set k (han s m).1, mail := N.mail ++ (han s m).2.take (1024 - N.mail.length) } pa N.begun.toNat (k : Int) = kpS N pa N.begun.toNat (k : Int) + x := by
      unfold kpS
      refine sum_one (j := m.2.2.2.1.toNat - 1) hj0 ?_ (fun r hr hne => ?_)
      ·rw [e, upd_same, h3, hcast, if_pos rfl, if_pos rfl, hkp, hch]
       simp
      ·rw [e, upd_same, h3, if_neg (show ¬ ((r : Int) + 1 = m.2.2.2.1) by omega), atN_of hs]
     rw [this]
     omega
    ·cases hu
   ·rw [if_neg e2] at hu
    rw [h.2 j u hu]
    congr 1
    unfold kpS
    refine sum_same (fun r _ => ?_)
    rw [e, upd_ne (by omega)]
  ·exact h.set hs _ _ h1 h2
 ·exact h

set_option maxRecDepth 100000
set_option maxHeartbeats 80000000

def paA (all : List (List Mv)) (t : Int) : List Mv := all.getD (t.toNat - 1) []
theorem paA_snoc (all : List (List Mv)) (ps : List Mv) {t : Int} (h1 : 1 ≤ t) (h2 : t ≤ (all.length : Int) + 1) : paA (all ++ [ps]) t = if t = (all.length : Int) + 1 then ps else paA all t := by
 unfold paA
 rw [List.getD_eq_getElem?_getD, List.getD_eq_getElem?_getD]
 split
 ·rename_i e
  rw [List.getElem?_append_right (by omega), show t.toNat - 1 - all.length = 0 by omega]
  rfl
 ·rw [List.getElem?_append_left (by omega)]
theorem Inv.pa {N : Nx} {co : Int → Int} {pa pa' : Int → List Mv} {G : Int → Prop} (h : Inv N co pa G) (e : ∀ t, 1 ≤ t → t ≤ N.begun → pa' t = pa t) : Inv N co pa' G :=
 ⟨fun t h1 h2 => by rw [e t h1 h2]; exact h.tx t h1 h2, fun t h1 h2 => by rw [e t h1 h2]; exact h.ok t h1 h2, h.fresh⟩
theorem Stk.pa {N : Nx} {pa pa' : Int → List Mv} {own : List Int} (h : Stk N pa own) (e : ∀ t, 1 ≤ t → t ≤ N.begun → pa' t = pa t) : Stk N pa' own :=
 ⟨h.1, fun k s hk => by
   rw [h.2 k s hk]
   congr 1
   unfold kpS
   exact sum_same (fun j hj => by rw [e ((j : Int) + 1) (by omega) (by omega)])⟩
theorem Stk.mail {N : Nx} {pa : Int → List Mv} {own : List Int} (h : Stk N pa own) (ml : List Ml) : Stk { N with mail := ml } pa own := h
structure Cm (N : Nx) (own : List Int) (all : List (List Mv)) (K : Int → Prop) : Prop where
 ok : OkN N
 len : N.begun = (all.length : Int)
 inv : ∃ co G, Inv N co (paA all) G ∧ Liv N co K
 stk : Stk N (paA all) own
theorem cm_new {l : List Int} (h : okStocks l = true) : Cm (newN l) l [] (fun _ => False) := by
 have hb : (newN l).begun = 0 := rfl
 obtain ⟨-, co, pa, G, hi⟩ := newN_good h
 refine ⟨newN_ok h, rfl, ⟨co, G, hi.pa (fun t h1 h2 => by omega), live_none _ _⟩, (newN_len l).symm, fun k s hk => ?_⟩
 have hkn := (List.getElem?_eq_some_iff.1 hk).1
 rw [newN_len] at hkn
 have h1 := newN_site (l := l) (k := k) (x := l[k]) (List.getElem?_eq_getElem hkn)
 rw [h1] at hk
 injection hk with hk
 subst hk
 rw [hb, List.getD_eq_getElem?_getD, List.getElem?_eq_getElem hkn]
 show l[k] = l[k] + kpS (newN l) (paA []) 0 (k : Int)
 rw [show kpS (newN l) (paA []) 0 (k : Int) = 0 from rfl]
 omega
theorem kp_beg {N : Nx} {k : Nat} {s : Sx} (hk : N.sites[k]? = some s) (ps : List Mv) (t i : Int) : (atN (begN N k ps) t i).kp = (atN N t i).kp := by
 have e0 : begN N k ps = { N with sites := N.sites.set k { s with opn := s.opn ++ [(N.begun + 1, dl0 ps)] }, mail := N.mail ++ (wrL s 1 (N.begun + 1) ps).take (1024 - N.mail.length), begun := N.begun + 1 } := by unfold begN; rw [hk]
 rw [e0, atN_set hk]
 unfold upd
 split
 ·rename_i e; rw [e, atN_of hk]; rfl
 ·rfl
theorem beg_stk {N : Nx} {co : Int → Int} {pa pa' : Int → List Mv} {G : Int → Prop} {own : List Int} (h : Stk N pa own) (hi : Inv N co pa G) (hb : 0 ≤ N.begun) {k : Nat} {s : Sx} (hk : N.sites[k]? = some s) (ps : List Mv) (e : ∀ t, 1 ≤ t → t ≤ N.begun → pa' t = pa t) : Stk (begN N k ps) pa' own := by
 have h' := h.pa e
 have hkp := kp_beg hk ps
 have e0 : begN N k ps = { N with sites := N.sites.set k { s with opn := s.opn ++ [(N.begun + 1, dl0 ps)] }, mail := N.mail ++ (wrL s 1 (N.begun + 1) ps).take (1024 - N.mail.length), begun := N.begun + 1 } := by unfold begN; rw [hk]
 have hq : ∀ i, kpS (begN N k ps) pa' (begN N k ps).begun.toNat i = kpS N pa' N.begun.toNat i := fun i => by
  have hb1 : (begN N k ps).begun.toNat = N.begun.toNat + 1 := by rw [e0]; dsimp only; omega
  rw [hb1]
  unfold kpS
  rw [List.range_succ, List.map_append, List.sum_append]
  have e1 : ((N.begun.toNat : Nat) : Int) + 1 = N.begun + 1 := by omega
  simp only [List.map_cons, List.map_nil, List.sum_cons, List.sum_nil, hkp, e1]
  rw [hi.fresh (N.begun + 1) i (Or.inl (by omega))]
  simp [at0]
 refine ⟨?_, fun j u hu => ?_⟩
 ·rw [e0]; simpa using h.1
 rw [hq]
 rw [e0] at hu
 dsimp only at hu
 rw [List.getElem?_set] at hu
 split at hu
 ·rename_i ej
  subst ej
  split at hu
  ·injection hu with hu
   subst hu
   exact h'.2 k s hk
  ·cases hu
 ·exact h'.2 j u hu
def Ups (N : Nx) : Prop := ∀ s ∈ N.sites, s.up = true
theorem ups_hand {N : Nx} (h : Ups N) (m : Ml) : Ups (handN N m) := by
 unfold handN
 split
 ·exact h
 rename_i s hs
 split
 ·intro u hu
  rcases List.mem_or_eq_of_mem_set hu with h1 | h1
  ·exact h u h1
  ·rw [h1, han_up]; exact h s (List.mem_of_getElem? hs)
 ·exact h
section
variable {N : Nx} {own : List Int} {all : List (List Mv)}
theorem Cm.settled (h : Cm N own all (fun _ => True)) (hm : N.mail = []) : ∀ s ∈ N.sites, s.opn = [] ∧ s.grt = [] ∧ s.prom = [] := by
 obtain ⟨co, G, hi, v⟩ := h.inv
 exact live_settled hi v hm
theorem Cm.isSettled (h : Cm N own all (fun _ => True)) (hm : N.mail = []) : settledN N = true := by
 unfold settledN
 rw [hm]
 show N.sites.all setS = true
 rw [List.all_eq_true]
 intro s hs
 obtain ⟨a, b, c⟩ := h.settled hm s hs
 unfold setS
 rw [a, b, c]
 rfl
theorem Cm.out2 (h : Cm N own all (fun _ => True)) (hm : N.mail = []) (t i : Int) : (outA (atN N t i) == 2) = (atN N t i).kp := by
 have hp : (atN N t i).pr = none := by
  unfold atN
  split
  ·rfl
  ·cases hs : N.sites[i.toNat]? with
   | none => rfl
   | some s =>
     have := (h.settled hm s (List.mem_of_getElem? hs)).2.2
     show mget s.prom t = none
     rw [this]; rfl
 unfold outA
 rw [hp]
 cases (atN N t i).kp with
 | true => rfl
 | false => cases (atN N t i).dr <;> rfl
theorem Cm.whole (h : Cm N own all (fun _ => True)) (hm : N.mail = []) {t : Int} (h1 : 1 ≤ t) (h2 : t ≤ N.begun) : (∀ i, isP (paA all t) i → (atN N t i).kp = true) ∨ ∀ i, (atN N t i).kp = false := by
 obtain ⟨co, G, hi, v⟩ := h.inv
 have hI := hi.tx t h1 h2
 have hq := quiet hI (v t h1 h2) (fun m hm2 => by have := hm2.1; rw [hm] at this; cases this)
 by_cases hk : ∃ i, (atN N t i).kp = true
 ·obtain ⟨i, hk⟩ := hk
  refine Or.inl (fun f hf => ?_)
  rcases hI.sit.pk (hI.sit.kp i hk) f hf with h3 | h3
  ·exact absurd (hq f).2.2 h3
  ·exact h3
 ·refine Or.inr (fun i => ?_)
  cases hx : (atN N t i).kp with
  | false => rfl
  | true => exact absurd ⟨i, hx⟩ hk
theorem Cm.part (h : Cm N own all (fun _ => True)) {t : Int} (h1 : 1 ≤ t) (h2 : t ≤ N.begun) : OkP N.sites.length (paA all t) := by
 obtain ⟨co, G, hi, v⟩ := h.inv
 exact (hi.ok t h1 h2).2
end
theorem chg_none {ps : List Mv} {i : Int} (h : ¬ isP ps i) : chg ps i = 0 := by
 unfold chg
 have : ps.filter (fun p => p.1 == i) = [] := by
  rw [List.filter_eq_nil_iff]
  intro p hp e
  exact h ⟨p.2, by rw [← (by simpa using e : p.1 = i)]; exact hp⟩
 rw [this]
 rfl
theorem chg_cons (p : Mv) (r : List Mv) (i : Int) : chg (p :: r) i = (if p.1 = i then p.2 else 0) + chg r i := by
 unfold chg
 by_cases e : p.1 = i
 ·rw [List.filter_cons_of_pos (by simpa using e), if_pos e, List.map_cons, List.sum_cons]
 ·rw [List.filter_cons_of_neg (by simpa using e), if_neg e]; omega
theorem sum_nought : ∀ (b : Nat), ((List.range b).map (fun _ => (0 : Int))).sum = 0
 | 0 => rfl
 | b + 1 => by rw [List.range_succ, List.map_append, List.sum_append, sum_nought b]; rfl
theorem chg_sum {n : Nat} : ∀ {ps : List Mv}, (∀ p ∈ ps, 0 ≤ p.1 ∧ p.1 < (n : Int)) → ((List.range n).map (fun (k : Nat) => chg ps (k : Int))).sum = (ps.map (·.2)).sum
 | [], _ => by
   rw [show (fun (k : Nat) => chg [] (k : Int)) = fun _ => 0 from rfl, sum_nought]; rfl
 | p :: r, h => by
   have hp := h p List.mem_cons_self
   have ih := chg_sum (n := n) (fun q hq => h q (List.mem_cons_of_mem p hq))
   rw [sum_one (f := fun (k : Nat) => chg r (k : Int)) (j := p.1.toNat) (x := p.2) (by omega) (by (try dsimp only); rw [chg_cons, if_pos (by omega)]; omega) (fun q hq hne => by (try dsimp only); rw [chg_cons, if_neg (by omega)]; omega), ih, List.map_cons, List.sum_cons]
   omega
theorem sum_two : ∀ (l : List Nat) (f g : Nat → Int), (l.map (fun k => f k + g k)).sum = (l.map f).sum + (l.map g).sum
 | [], _, _ => rfl
 | a :: l, f, g => by
   rw [List.map_cons, List.map_cons, List.map_cons, List.sum_cons, List.sum_cons, List.sum_cons, sum_two l f g]
   omega
theorem kpS_succ (N : Nx) (pa : Int → List Mv) (b : Nat) (i : Int) : kpS N pa (b + 1) i = kpS N pa b i + if (atN N ((b : Int) + 1) i).kp then chg (pa ((b : Int) + 1)) i else 0 := by
 unfold kpS
 rw [List.range_succ, List.map_append, List.sum_append]
 simp
theorem Cm.nought {N : Nx} {own : List Int} {all : List (List Mv)} (h : Cm N own all (fun _ => True)) (hm : N.mail = []) : ∀ b : Nat, (b : Int) ≤ N.begun → ((List.range N.sites.length).map (fun (k : Nat) => kpS N (paA all) b (k : Int))).sum = 0
 | 0, _ => by rw [show (fun (k : Nat) => kpS N (paA all) 0 (k : Int)) = fun _ => 0 from rfl, sum_nought]
 | b + 1, hb => by
   have ih := h.nought hm b (by omega)
   have e : (fun (k : Nat) => kpS N (paA all) (b + 1) (k : Int)) = fun (k : Nat) => kpS N (paA all) b (k : Int) + if (atN N ((b : Int) + 1) (k : Int)).kp then chg (paA all ((b : Int) + 1)) (k : Int) else 0 := funext fun k => kpS_succ N _ b _
   rw [e, sum_two, ih]
   have hP := h.part (t := (b : Int) + 1) (by omega) (by omega)
   rcases h.whole hm (t := (b : Int) + 1) (by omega) (by omega) with h1 | h1
   ·have e2 : (fun (k : Nat) => if (atN N ((b : Int) + 1) (k : Int)).kp then chg (paA all ((b : Int) + 1)) (k : Int) else 0) = fun (k : Nat) => chg (paA all ((b : Int) + 1)) (k : Int) := funext fun k => by
     split
     ·rfl
     ·rename_i hn
      exact (chg_none (fun hp => hn (h1 _ hp))).symm
    rw [e2, chg_sum (fun p hp => by have := hP.part p hp; omega), hP.sum]
    rfl
   ·have e2 : (fun (k : Nat) => if (atN N ((b : Int) + 1) (k : Int)).kp then chg (paA all ((b : Int) + 1)) (k : Int) else 0) = fun _ => 0 := funext fun k => by rw [h1]; rfl
    rw [e2, sum_nought]
    rfl
theorem range_list : ∀ (l : List Int), l = (List.range l.length).map (fun k => l.getD k 0) := fun l => by
 refine List.ext_getElem? (fun k => ?_)
 by_cases hk : k < l.length
 ·rw [List.getElem?_map, List.getElem?_range hk, Option.map_some, List.getD_eq_getElem?_getD, List.getElem?_eq_getElem hk]
  rfl
 ·rw [List.getElem?_eq_none (by omega), List.getElem?_eq_none (by simp; omega)]
theorem Cm.sum {N : Nx} {own : List Int} {all : List (List Mv)} (h : Cm N own all (fun _ => True)) (hm : N.mail = []) : (N.sites.map (·.stock)).sum = own.sum := by
 have hb := h.ok.beg.1
 have h0 := h.nought hm N.begun.toNat (by omega)
 have e1 : N.sites.map (·.stock) = (List.range N.sites.length).map (fun (k : Nat) => own.getD k 0 + kpS N (paA all) N.begun.toNat (k : Int)) := by
  refine List.ext_getElem? (fun k => ?_)
  by_cases hk : k < N.sites.length
  ·have hs : N.sites[k]? = some (N.sites[k]'hk) := List.getElem?_eq_getElem _
   rw [List.getElem?_map, List.getElem?_map, List.getElem?_range hk, hs, Option.map_some, Option.map_some, h.stk.2 k _ hs]
  ·rw [List.getElem?_eq_none (by simp; omega), List.getElem?_eq_none (by simp; omega)]
 rw [e1, sum_two, h0]
 conv => rhs; rw [range_list own]
 rw [h.stk.1]
 omega
def addK (c : Int → Bool) (ow : List Int) (ps : List Mv) : List Int := ps.foldl (fun o p => if c p.1 then o.set p.1.toNat (o.getD p.1.toNat 0 + p.2) else o) ow
def owT (N : Nx) (pa : Int → List Mv) (own : List Int) : Nat → List Int
 | 0 => own
 | t + 1 => addK (fun i => (atN N ((t : Int) + 1) i).kp) (owT N pa own t) (pa ((t : Int) + 1))
end Go.Proofs.YtobcdkjomehdkaaGreat
