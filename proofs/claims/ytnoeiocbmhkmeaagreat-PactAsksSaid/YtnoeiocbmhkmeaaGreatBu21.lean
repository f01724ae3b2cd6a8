/- Layer 5: what the reference makes of a letter is what a net makes of it. -/
import Derived.Test.YtnoeiocbmhkmeaaGreatBu20
namespace Go.Proofs.YtnoeiocbmhkmeaaGreat
set_option linter.unusedSimpArgs false
set_option maxRecDepth 100000
set_option maxHeartbeats 80000000

theorem mindA_one (a : At) : (mindA a).1 = 1 ↔ a.pr ≠ none := by
 unfold mindA
 cases a.pr with
 | none => simp; split <;> (try split) <;> simp
 | some y => simp
theorem mindA_none {a : At} (h : a.pr = none) : mindA a = if a.kp then (2, (0, 0)) else if a.dr then (3, (0, 0)) else (0, (0, 0)) := by
 unfold mindA; rw [h]
theorem xPart_of {ps : List Mv} {f : Int} (h : isP ps f) : ∃ (i : Nat) (p : Mv), ps[i]? = some p ∧ p.1 = f ∧ xPart ps f = (i : Int) := by
 obtain ⟨x, hx⟩ := h
 unfold xPart
 cases hc : ps.findIdx? (fun p => p.1 == f) with
 | none =>
   rw [List.findIdx?_eq_none_iff] at hc
   have := hc _ hx
   simp at this
 | some i =>
   have h2 := List.findIdx?_eq_some_iff_getElem.1 hc
   obtain ⟨hi, h3, -⟩ := h2
   exact ⟨i, ps[i], List.getElem?_eq_getElem hi, by simpa using h3, rfl⟩
theorem tellL_all (t : XT) (h : t.heard.length = t.parts.length) (fr kd tx : Int) (hp : ∀ p ∈ t.parts, 0 ≤ p.1) : xTellL t fr kd tx (-1) false = wr5 fr kd tx t.parts := by
 unfold xTellL wr5
 have e : ((t.parts.zip t.heard).filter (fun p => !(p.1.1 == -1 || (false && p.2)))) = t.parts.zip t.heard := by
  rw [List.filter_eq_self]
  intro p hp2
  have := hp p.1 (List.of_mem_zip hp2).1
  simp
  omega
 rw [e]
 have e2 : (t.parts.zip t.heard).map (fun p => (fr, p.1.1, kd, tx, if kd = 1 then p.1.2 else 0)) = ((t.parts.zip t.heard).map (·.1)).map (fun p => (fr, p.1, kd, tx, if kd = 1 then p.2 else 0)) := by
  rw [List.map_map]; rfl
 rw [e2, List.map_fst_zip (by omega)]
theorem zip_filter_fst {β : Type} (f : Mv → Bool) : ∀ (a : List Mv) (b : List β), a.length ≤ b.length → ((a.zip b).filter (fun p => f p.1)).map (·.1) = a.filter f
 | [], b, _ => by simp
 | x :: a, [], h => by simp at h
 | x :: a, y :: b, h => by
   have ih := zip_filter_fst f a b (by simpa using h)
   rw [List.zip_cons_cons, List.filter_cons, List.filter_cons]
   dsimp only
   split
   ·rw [List.map_cons, ih]
   ·exact ih
theorem tellL_but (t : XT) (h : t.heard.length = t.parts.length) (fr kd tx f : Int) : xTellL t fr kd tx f false = wr5 fr kd tx (otherL t.parts f) := by
 unfold xTellL wr5 otherL
 have e : (fun p : Mv × Bool => !(p.1.1 == f || (false && p.2))) = fun p => (fun q : Mv => q.1 != f) p.1 := by
  funext p
  simp [bne]
 rw [e, ← zip_filter_fst (fun q : Mv => q.1 != f) t.parts t.heard (by omega), List.map_map]
 rfl
section
variable {N : Nx} {co : Int → Int} {pa : Int → List Mv} {hd : Int → List Bool}
theorem idS {k : Nat} {s : Sx} (hs : N.sites[k]? = some s) {t : Int} (h1 : 1 ≤ t) : (xOf N co pa hd).sites.set k ⟨s.stock, !s.up, (mindsA N (k : Int)).set (t - 1).toNat (mindA (atS s t))⟩ = (xOf N co pa hd).sites := by
 have e : (mindsA N (k : Int)).set (t - 1).toNat (mindA (atS s t)) = mindsA N (k : Int) := by
  unfold mindsA
  refine list_set ?_ (fun _ _ _ => rfl)
  rw [show (((t - 1).toNat : Nat) : Int) + 1 = t by omega, atN_of hs]
 rw [e]
 unfold xOf
 dsimp only
 refine list_set ?_ (fun _ _ _ => rfl)
 rw [List.getD_eq_getElem?_getD, hs]
 rfl
theorem idT {t : Int} (h1 : 1 ≤ t) : (xOf N co pa hd).txs.set (t - 1).toNat (xtOf N co pa hd t) = (xOf N co pa hd).txs := by
 unfold xOf
 dsimp only
 refine list_set ?_ (fun _ _ _ => rfl)
 rw [show (((t - 1).toNat : Nat) : Int) + 1 = t by omega]
theorem xMind_of {k : Nat} {s : Sx} (hs : N.sites[k]? = some s) (t : Int) (v : Int × (Int × Int)) : xMind (xOf N co pa hd) (k : Int) t v = { xOf N co pa hd with sites := (xOf N co pa hd).sites.set k ⟨s.stock, !s.up, (mindsA N (k : Int)).set (t - 1).toNat v⟩ } := by
 unfold xMind
 rw [xSite_of hs]
 rfl
theorem xTurn_of {t : Int} (h1 : 1 ≤ t) (h2 : t ≤ N.begun) (is : Int) : xTurn (xOf N co pa hd) t is = { xOf N co pa hd with txs := (xOf N co pa hd).txs.set (t - 1).toNat ⟨co t, is, pa t, List.replicate (pa t).length false⟩ } := by
 unfold xTurn
 rw [xTx_of h1 h2]
 rfl
theorem xHear_of {t : Int} (h1 : 1 ≤ t) (h2 : t ≤ N.begun) (i : Nat) : xHear (xOf N co pa hd) t (i : Int) = { xOf N co pa hd with txs := (xOf N co pa hd).txs.set (t - 1).toNat ⟨co t, stA (atN N t (co t)), pa t, (hd t).set i true⟩ } := by
 unfold xHear
 rw [xTx_of h1 h2]
 rfl
theorem xTurn_hear {t : Int} (h1 : 1 ≤ t) (h2 : t ≤ N.begun) (i : Nat) (is : Int) : xTurn (xHear (xOf N co pa hd) t (i : Int)) t is = { xOf N co pa hd with txs := (xOf N co pa hd).txs.set (t - 1).toNat ⟨co t, is, pa t, List.replicate (pa t).length false⟩ } := by
 rw [xHear_of h1 h2]
 have hl : (t - 1).toNat < (xOf N co pa hd).txs.length := by unfold xOf; simp; omega
 unfold xTurn xTx
 dsimp only
 rw [List.getD_eq_getElem?_getD, List.getElem?_set, if_pos rfl, if_pos hl, Option.getD_some, List.set_set]
theorem xTx_turn {t : Int} (h1 : 1 ≤ t) (h2 : t ≤ N.begun) (x : XT) (S : List XS) (ml : List Ml) : xTx { sites := S, txs := (xOf N co pa hd).txs.set (t - 1).toNat x, mail := ml } t = x := by
 have hl : (t - 1).toNat < (xOf N co pa hd).txs.length := by unfold xOf; simp; omega
 unfold xTx
 dsimp only
 rw [List.getD_eq_getElem?_getD, List.getElem?_set, if_pos rfl, if_pos hl, Option.getD_some]
theorem heard_more {q : Nat} {ps : List Mv} (hP : OkP q ps) {d : Dl} {hs : List Bool} (hlen : hs.length = ps.length) (hh : ∀ (i : Nat) (p : Mv), ps[i]? = some p → hs[i]? = some (mget d.miss p.1).isNone) (hk : ∀ f x, mget d.miss f = some x → isP ps f) {i : Nat} {p : Mv} (hi : ps[i]? = some p) :
 (∀ (j : Nat) (r : Mv), ps[j]? = some r → (hs.set i true)[j]? = some (mget (mdel d.miss p.1) r.1).isNone) ∧ ((hs.set i true).all id = true ↔ mdel d.miss p.1 = []) := by
 have h1 : ∀ (j : Nat) (r : Mv), ps[j]? = some r → (hs.set i true)[j]? = some (mget (mdel d.miss p.1) r.1).isNone := fun j r hj => by
  have hjl := (List.getElem?_eq_some_iff.1 hj).1
  rw [List.getElem?_set, mget_del]
  by_cases e : i = j
  ·subst e
   rw [hi] at hj
   injection hj with hj
   subst hj
   rw [if_pos rfl, if_pos (by omega), if_pos rfl]
   rfl
  ·rw [if_neg e, hh j r hj]
   have hne : r.1 ≠ p.1 := fun e2 => by
    have h2 := hP.nod
    have hil := (List.getElem?_eq_some_iff.1 hi).1
    have e3 : (ps.map (·.1))[i]? = (ps.map (·.1))[j]? := by rw [List.getElem?_map, List.getElem?_map, hi, hj]; simp [e2]
    exact e ((List.getElem?_inj (by simpa using hil) h2).1 e3)
   rw [if_neg hne]
 refine ⟨h1, ?_⟩
 rw [List.all_eq_true]
 refine ⟨fun h => ?_, fun h b hb => ?_⟩
 ·refine mget_all_none (fun f => ?_)
  cases hf : mget (mdel d.miss p.1) f with
  | none => rfl
  | some x =>
    exfalso
    have hf2 := mdel_some (l := d.miss) (a := p.1) (f := f) (by rw [hf]; simp)
    obtain ⟨y, hy⟩ : ∃ y, mget d.miss f = some y := by
     cases hz : mget d.miss f with
     | none => exact absurd hz hf2.2
     | some y => exact ⟨y, rfl⟩
    obtain ⟨z, hz⟩ := hk f y hy
    obtain ⟨j, hj⟩ := List.mem_iff_getElem?.1 hz
    have h3 := h1 j _ hj
    dsimp only at h3
    rw [hf] at h3
    have h4 := h _ (List.mem_of_getElem? h3)
    simp at h4
 ·obtain ⟨j, hj⟩ := List.mem_iff_getElem?.1 hb
  have hjl := (List.getElem?_eq_some_iff.1 hj).1
  rw [List.length_set] at hjl
  have h3 := h1 j (ps[j]'(by omega)) (List.getElem?_eq_getElem _)
  rw [hj, h] at h3
  have h4 := Option.some.inj h3
  show b = true
  rw [h4]
  rfl
end

set_option maxRecDepth 100000
set_option maxHeartbeats 80000000

def prT (c : Int) (l : List (Int × (Int × Int))) (t : Int) : Int := match mget l t with
 | some y => if decide (y.2 < 0) = decide (c < 0) then y.2 else 0
 | none => 0
theorem sum_prom (c b : Int) : ∀ (l : List (Int × (Int × Int))), l.Pairwise (fun p q => p.1 ≠ q.1) → (∀ e ∈ l, 1 ≤ e.1 ∧ e.1 ≤ b) → ((List.range b.toNat).map (fun (j : Nat) => prT c l ((j : Int) + 1))).sum = sumP c l
 | [], _, _ => by
   rw [show (fun (j : Nat) => prT c [] ((j : Int) + 1)) = fun _ => 0 from rfl, sum_nought]
   rfl
 | e :: r, hp, hr => by
   obtain ⟨h1, h2⟩ := List.pairwise_cons.1 hp
   have ih := sum_prom c b r h2 (fun x hx => hr x (List.mem_cons_of_mem _ hx))
   have he := hr e List.mem_cons_self
   have hn : mget r e.1 = none := mget_none.2 (fun q hq e2 => h1 q hq e2.symm)
   have hj : ((e.1.toNat - 1 : Nat) : Int) + 1 = e.1 := by omega
   rw [sum_one (f := fun (j : Nat) => prT c r ((j : Int) + 1)) (j := e.1.toNat - 1) (x := addP c e) (by omega) ?_ (fun q hq hne => ?_), ih]
   ·simp only [sumP]; omega
   ·unfold prT
    rw [hj, hn, mget_cons, if_pos rfl]
    unfold addP
    simp
   ·unfold prT
    rw [mget_cons, if_neg (by omega)]
theorem xSum_eq {N : Nx} (ho : OkN N) {k : Nat} {s : Sx} (hs : N.sites[k]? = some s) (c : Int) : xSum c (mindsA N (k : Int)) = sumP c s.prom := by
 have h1 := (ho.site k s hs).1
 rw [← sum_prom c N.begun s.prom h1.promA (fun e he => (h1.prom e he).1)]
 unfold xSum mindsA
 rw [List.map_map]
 congr 1
 refine List.map_congr_left (fun j _ => ?_)
 simp only [Function.comp, atN_of hs]
 unfold mindA atS prT
 dsimp only
 cases mget s.prom ((j : Int) + 1) with
 | none => dsimp only; split <;> (try split) <;> simp
 | some y => simp
theorem xPoss_of {N : Nx} (ho : OkN N) {k : Nat} {s : Sx} (hs : N.sites[k]? = some s) (u : Bool) {c : Int} (hc : c ≠ 0) : xPoss ⟨s.stock, u, mindsA N (k : Int)⟩ c = posS s c := by
 have h1 := (ho.site k s hs).1.stock
 have hn := sumP_neg s.prom
 have hp := sumP_pos s.prom
 unfold xPoss posS
 dsimp only
 rw [xSum_eq ho hs]
 by_cases hx : c < 0
 ·rw [sumP_sign (c := c) (c' := -1) (by simp [hx])]
  have e1 : decide (0 < c) = false := decide_eq_false (by omega)
  have e2 : decide (s.stock + c + sumP (-1) s.prom ≤ 1099511627776) = true := decide_eq_true (by omega)
  simp [hx, e1, e2]
 ·rw [sumP_sign (c := c) (c' := 0) (by simp [hx])]
  have e1 : decide (0 < c) = true := decide_eq_true (by omega)
  have e2 : decide (0 ≤ s.stock + c + sumP 0 s.prom) = true := decide_eq_true (by omega)
  simp [hx, e1, e2]
theorem hand_sim {N : Nx} {co : Int → Int} {pa : Int → List Mv} {G : Int → Prop} {hd : Int → List Bool} (ho : OkN N) (hi : Inv N co pa G) (hh : HdOk N co pa hd) {m : Ml} (hm : OkM N.sites.length N.begun m) (hl : LetOk (atN N m.2.2.2.1) (co m.2.2.2.1) (pa m.2.2.2.1) (G m.2.2.2.1) m) {s : Sx} (hs0 : N.sites[m.2.1.toNat]? = some s) (hup : s.up = true) :
 ∃ hd', HdOk (handN N m) co pa hd' ∧ xHandle (xOf N co pa hd) m = xOf (handN N m) co pa hd' := by
 have hdst := hm.dst
 have htx := hm.tx
 have hkd := hm.kind
 obtain ⟨k, hk⟩ : ∃ k : Nat, m.2.1 = (k : Int) := ⟨m.2.1.toNat, by omega⟩
 have hs : N.sites[k]? = some s := by rw [hk] at hs0; exact hs0
 obtain ⟨t, ht⟩ : ∃ t, m.2.2.2.1 = t := ⟨_, rfl⟩
 have hnum := (ho.site k s hs).2
 have hst := han_step s m hm.kind
 have hoth : ∀ t', t' ≠ t → atS (han s m).1 t' = atS s t' := fun t' h => han_other s m (by rw [ht]; exact h)
 have e0 : handN N m = { N with sites := N.sites.set k (han s m).1, mail := N.mail ++ (han s m).2.take (1024 - N.mail.length) } := by
  unfold handN
  rw [hs0]
  dsimp only
  rw [if_pos hup, hk]
  rfl
 have hI := hi.tx t (by omega) (by omega)
 have hP := (hi.ok t (by omega) (by omega)).2
 have hstk := hanK_stock s m
 rw [ht] at hst hl hstk
 rw [hnum] at hst
 have h1 : 1 ≤ t := by omega
 have h2 : t ≤ N.begun := by omega
 have hat := atN_of hs
 have hroom := ho.room
 have hht := hh t h1 h2
 have hone := hI.sit.one (k : Int)
 rw [hat] at hone
 -- the net behind the letter
 have base : ∀ hd' : Int → List Bool, (∀ t', t' ≠ t → hd' t' = hd t') → xOf (handN N m) co pa hd' = { sites := (xOf N co pa hd).sites.set k ⟨(han s m).1.stock, !s.up, (mindsA N (k : Int)).set (t - 1).toNat (mindA (atS (han s m).1 t))⟩, txs := (xOf N co pa hd).txs.set (t - 1).toNat ⟨co t, stA (if co t = (k : Int) then atS (han s m).1 t else atN N t (co t)), pa t, hd' t⟩, mail := N.mail ++ (han s m).2.take (1024 - N.mail.length) } := fun hd' h => by
  rw [e0]
  exact xOf_turn hs (han_up s m) h1 h2 hoth _ hd' h
 have hdok : ∀ hd' : Int → List Bool, (∀ t', t' ≠ t → hd' t' = hd t') → HdT (if co t = (k : Int) then atS (han s m).1 t else atN N t (co t)) (pa t) (hd' t) → HdOk (handN N m) co pa hd' := fun hd' h hT t' a1 a2 => by
  have hset : atN (handN N m) t' = upd (atN N t') (k : Int) (atS (han s m).1 t') := by rw [e0]; exact atN_set hs _ _ N.begun t'
  have a2' : t' ≤ N.begun := by rw [(hand_len _ _).2] at a2; exact a2
  rw [hset]
  by_cases e : t' = t
  ·subst e
   unfold upd
   exact hT
  ·rw [h t' e, hoth t' e, upd_id (by rw [hat])]
   exact hh t' a1 a2'
 have fin : ∀ hs' : List Bool, HdT (if co t = (k : Int) then atS (han s m).1 t else atN N t (co t)) (pa t) hs' → xHandle (xOf N co pa hd) m = { sites := (xOf N co pa hd).sites.set k ⟨(han s m).1.stock, !s.up, (mindsA N (k : Int)).set (t - 1).toNat (mindA (atS (han s m).1 t))⟩, txs := (xOf N co pa hd).txs.set (t - 1).toNat ⟨co t, stA (if co t = (k : Int) then atS (han s m).1 t else atN N t (co t)), pa t, hs'⟩, mail := N.mail ++ (han s m).2.take (1024 - N.mail.length) } → ∃ hd', HdOk (handN N m) co pa hd' ∧ xHandle (xOf N co pa hd) m = xOf (handN N m) co pa hd' := fun hs' hT hx => by
  have hne : ∀ t', t' ≠ t → (fun t' => if t' = t then hs' else hd t') t' = hd t' := fun t' h => if_neg h
  refine ⟨fun t' => if t' = t then hs' else hd t', hdok _ hne (by rw [if_pos rfl]; exact hT), ?_⟩
  rw [base _ hne, hx, if_pos rfl]
 -- the coordinator's book is as it was
 have quietT : (atS (han s m).1 t).op = (atS s t).op → (atS (han s m).1 t).gt = (atS s t).gt → xHandle (xOf N co pa hd) m = { xOf N co pa hd with sites := (xOf N co pa hd).sites.set k ⟨(han s m).1.stock, !s.up, (mindsA N (k : Int)).set (t - 1).toNat (mindA (atS (han s m).1 t))⟩, mail := N.mail ++ (han s m).2.take (1024 - N.mail.length) } → ∃ hd', HdOk (handN N m) co pa hd' ∧ xHandle (xOf N co pa hd) m = xOf (handN N m) co pa hd' := fun q1 q2 hx => by
  have hsame : (if co t = (k : Int) then atS (han s m).1 t else atN N t (co t)).op = (atN N t (co t)).op ∧ (if co t = (k : Int) then atS (han s m).1 t else atN N t (co t)).gt = (atN N t (co t)).gt := by
   split
   ·rename_i e; rw [e, hat]; exact ⟨q1, q2⟩
   ·exact ⟨rfl, rfl⟩
  refine fin (hd t) ⟨hht.1, fun d h => hht.2.1 d (by rw [← hsame.1]; exact h), fun d h => hht.2.2 d (by rw [← hsame.2]; exact h)⟩ ?_
  have e3 : stA (if co t = (k : Int) then atS (han s m).1 t else atN N t (co t)) = stA (atN N t (co t)) := by unfold stA; rw [hsame.1, hsame.2]
  rw [hx, e3]
  have e4 := idT (N := N) (co := co) (pa := pa) (hd := hd) h1
  unfold xtOf at e4
  rw [e4]
 have stkS : (atS (han s m).1 t).kp = (atS s t).kp → (han s m).1.stock = s.stock := fun q => by
  rcases hstk with ⟨c, x, e1, e2, e3⟩ | ⟨e1, -⟩
  ·have e4 := e3 t
   rw [if_pos rfl, q] at e4
   have := (hone.1 (by show mget s.prom t ≠ none; rw [e1]; simp)).1
   rw [e4] at this
   cases this
  ·exact e1
 have still : atS (han s m).1 t = atS s t → xHandle (xOf N co pa hd) m = { xOf N co pa hd with mail := N.mail ++ (han s m).2.take (1024 - N.mail.length) } → ∃ hd', HdOk (handN N m) co pa hd' ∧ xHandle (xOf N co pa hd) m = xOf (handN N m) co pa hd' := fun q hx => by
  refine quietT (by rw [q]) (by rw [q]) ?_
  rw [hx, stkS (by rw [q]), q, idS hs h1]
 have hms : xMindAt (xOf N co pa hd) m.2.1 t = mindA (atS s t) := by rw [hk]; exact xMindAt_of hs h1 h2
 have hxt := xState_of (co := co) (pa := pa) (hd := hd) h1 h2 (k : Int)
 have hxs := xSite_of (co := co) (pa := pa) (hd := hd) hs
 have send : ∀ x : Ml, (han s m).2 = [x] → xSend (xOf N co pa hd) x = { xOf N co pa hd with mail := N.mail ++ (han s m).2.take (1024 - N.mail.length) } := fun x h => by
  rw [send_one _ _ hroom, h]
  rfl
 have none0 : (han s m).2 = [] → xOf N co pa hd = { xOf N co pa hd with mail := N.mail ++ (han s m).2.take (1024 - N.mail.length) } := fun h => by
  rw [h]
  simp [xOf]
 have hpart := xTx_of (co := co) (pa := pa) (hd := hd) h1 h2
 have hlen1 : (xOf N co pa hd).mail.length ≤ 1024 := hroom
 generalize ha' : atS (han s m).1 t = a' at hst fin quietT stkS still
 generalize hl5 : (han s m).2 = l at hst fin quietT still send none0
 have sendK : ∀ kd : Int, l = [rep5 (k : Int) m kd] → xSend (xOf N co pa hd) (m.2.1, m.1, kd, t, 0) = { xOf N co pa hd with mail := N.mail ++ l.take (1024 - N.mail.length) } := fun kd h => send _ (by rw [h]; unfold rep5; rw [hk, ht])
 have sendM : ∀ (v : Int × (Int × Int)) (kd : Int), l = [rep5 (k : Int) m kd] → xSend (xMind (xOf N co pa hd) m.2.1 t v) (m.2.1, m.1, kd, t, 0) = { xOf N co pa hd with sites := (xOf N co pa hd).sites.set k ⟨s.stock, !s.up, (mindsA N (k : Int)).set (t - 1).toNat v⟩, mail := N.mail ++ l.take (1024 - N.mail.length) } := fun v kd h => by
  rw [hk, xMind_of hs, send_one _ _ hroom, h]
  unfold rep5
  rw [ht]
  rfl
 have m1 : (atS s t).pr ≠ none → (xMindAt (xOf N co pa hd) m.2.1 t).1 = 1 := fun h => by rw [hms]; exact (mindA_one _).2 h
 have m0 : (atS s t).pr = none → (xMindAt (xOf N co pa hd) m.2.1 t).1 = if (atS s t).kp then 2 else if (atS s t).dr then 3 else 0 := fun h => by
  rw [hms, mindA_none h]
  split
  ·rfl
  ·split <;> rfl
 have opAt : ∀ d, (atS s t).op = some d → (k : Int) = co t ∧ xState (xOf N co pa hd) m.2.1 t = 1 := fun d h => by
  have e1 := (hI.sit.op (k : Int) d (by rw [hat]; exact h)).1
  refine ⟨e1, ?_⟩
  rw [hk, hxt, if_pos e1.symm, ← e1, hat]
  unfold stA
  rw [h]
  rfl
 have gtAt : ∀ d, (atS s t).gt = some d → (atS s t).op = none ∧ (k : Int) = co t ∧ xState (xOf N co pa hd) m.2.1 t = 2 := fun d h => by
  obtain ⟨e1, e2, -⟩ := hI.sit.gt (k : Int) d (by rw [hat]; exact h)
  have e3 : (atS s t).op = none := by
   cases hx : (atS s t).op with
   | none => rfl
   | some d' => exact absurd e2 (hI.sit.op (k : Int) d' (by rw [hat]; exact hx)).2.1
  refine ⟨e3, e1, ?_⟩
  rw [hk, hxt, if_pos e1.symm, ← e1, hat]
  unfold stA
  rw [h, e3]
  rfl
 have noAt : (atS s t).op = none → (atS s t).gt = none → xState (xOf N co pa hd) m.2.1 t = 0 := fun q1 q2 => by
  rw [hk, hxt]
  split
  ·rename_i e
   rw [e, hat]
   unfold stA
   rw [q1, q2]
   rfl
  ·rfl
 cases hst with
 | askY hk1 hp =>
   refine still rfl ?_
   unfold xHandle
   rw [if_pos hk1, ht, if_pos (m1 hp)]
   exact sendK 2 rfl
 | askK hk1 hp hkp =>
   refine still rfl ?_
   have e := m0 hp
   rw [hkp, if_pos rfl] at e
   unfold xHandle
   rw [if_pos hk1, ht, e, if_neg (by decide), if_neg (by decide), if_pos rfl]
   exact none0 rfl
 | askN hk1 hp hkp hdr =>
   refine still rfl ?_
   have e := m0 hp
   rw [hkp, hdr, if_neg (by decide), if_pos rfl] at e
   unfold xHandle
   rw [if_pos hk1, ht, e, if_neg (by decide), if_pos rfl]
   exact sendK 3 rfl
 | askP hk1 hp hkp hdr hq1 =>
   have e := m0 hp
   rw [hkp, hdr, if_neg (by decide), if_neg (by decide)] at e
   have hmem := (hl.ask hk1).2
   have hc := (hP.part _ hmem).2.2.1
   have hps : xPoss (xSite (xOf N co pa hd) m.2.1) m.2.2.2.2 = true := by rw [hk, hxs, xPoss_of ho hs _ hc]; exact hq1
   refine quietT rfl rfl ?_
   unfold xHandle
   rw [if_pos hk1, ht, e, if_neg (by decide), if_neg (by decide), if_neg (by decide), if_pos hps, sendM _ 2 rfl, stkS rfl]
   rfl
 | askR hk1 hp hkp hdr hq1 =>
   have e := m0 hp
   rw [hkp, hdr, if_neg (by decide), if_neg (by decide)] at e
   have hmem := (hl.ask hk1).2
   have hc := (hP.part _ hmem).2.2.1
   have hps : ¬ xPoss (xSite (xOf N co pa hd) m.2.1) m.2.2.2.2 = true := by rw [hk, hxs, xPoss_of ho hs _ hc, hq1]; decide
   refine quietT rfl rfl ?_
   unfold xHandle
   have e2 : mindA { atS s t with dr := true } = (3, (0, 0)) := by unfold mindA; dsimp only; rw [hp, hkp]; rfl
   rw [if_pos hk1, ht, e, if_neg (by decide), if_neg (by decide), if_neg (by decide), if_neg hps, sendM _ 3 rfl, stkS rfl, e2]
 | yesShut hk1 ho1 hg1 =>
   refine still rfl ?_
   unfold xHandle
   rw [if_neg (by omega), if_pos hk1, ht, if_pos (noAt ho1 hg1)]
   exact sendK 5 rfl
 | noShut hk1 ho1 =>
   refine still rfl ?_
   have e : xState (xOf N co pa hd) m.2.1 t ≠ 1 := by
    cases hg : (atS s t).gt with
    | none => rw [noAt ho1 hg]; decide
    | some d => rw [(gtAt d hg).2.2]; decide
   unfold xHandle
   rw [if_neg (by omega), if_neg (by omega), if_pos hk1, ht, if_neg e]
   exact none0 rfl
 | comK hk1 hp hkp =>
   refine still rfl ?_
   have e := m0 hp
   rw [hkp, if_pos rfl] at e
   unfold xHandle
   rw [if_neg (by omega), if_neg (by omega), if_neg (by omega), if_pos hk1, ht, e, if_neg (by decide), if_pos rfl]
   exact sendK 6 rfl
 | comN hk1 hp hkp =>
   refine still rfl ?_
   have e := m0 hp
   rw [hkp, if_neg (by decide)] at e
   have e1 : (xMindAt (xOf N co pa hd) m.2.1 t).1 ≠ 1 ∧ (xMindAt (xOf N co pa hd) m.2.1 t).1 ≠ 2 := by rw [e]; split <;> decide
   unfold xHandle
   rw [if_neg (by omega), if_neg (by omega), if_neg (by omega), if_pos hk1, ht, if_neg e1.1, if_neg e1.2]
   exact none0 rfl
 | aboN hk1 hp =>
   refine still rfl ?_
   have e1 : (xMindAt (xOf N co pa hd) m.2.1 t).1 ≠ 1 := by rw [m0 hp]; split <;> (try split) <;> decide
   unfold xHandle
   rw [if_neg (by omega), if_neg (by omega), if_neg (by omega), if_neg (by omega), if_pos hk1, ht, if_neg e1]
   exact none0 rfl
 | telG d hk1 hg1 =>
   refine still rfl ?_
   unfold xHandle
   rw [if_neg (by omega), if_neg (by omega), if_neg (by omega), if_neg (by omega), if_neg (by omega), if_neg (by omega), if_pos hk1, ht, if_pos (gtAt d hg1).2.2]
   exact sendK 4 rfl
 | telO d hk1 hg1 ho1 =>
   refine still rfl ?_
   unfold xHandle
   rw [if_neg (by omega), if_neg (by omega), if_neg (by omega), if_neg (by omega), if_neg (by omega), if_neg (by omega), if_pos hk1, ht, (opAt d ho1).2, if_neg (by decide), if_neg (by decide)]
   exact none0 rfl
 | telN hk1 hg1 ho1 =>
   refine still rfl ?_
   unfold xHandle
   rw [if_neg (by omega), if_neg (by omega), if_neg (by omega), if_neg (by omega), if_neg (by omega), if_neg (by omega), if_pos hk1, ht, noAt ho1 hg1, if_neg (by decide), if_pos rfl]
   exact sendK 5 rfl
 | yesMiss d hk1 ho1 hg1 hmi =>
   refine still rfl ?_
   obtain ⟨-, ek, est⟩ := gtAt d hg1
   obtain ⟨i, p, hip, hpf, hxp⟩ := xPart_of (hl.yes hk1).2.1
   have hhd := hht.2.2 d (by rw [← ek, hat]; exact hg1) i p hip
   have hb : (hd t).getD i false = false := by
    rw [List.getD_eq_getElem?_getD, hhd, hpf]
    cases hz : mget d.miss m.1 with
    | none => rw [hz] at hmi; cases hmi
    | some z => rfl
   unfold xHandle
   rw [if_neg (by omega), if_pos hk1, ht, est, if_neg (by decide), hpart]
   unfold xtOf
   dsimp only
   rw [hxp, if_neg (by omega), if_pos rfl, show ((i : Int)).toNat = i from rfl, hb, if_neg (by decide)]
   exact sendK 4 rfl
 | yesHad d hk1 ho1 hg1 hmi =>
   refine still rfl ?_
   obtain ⟨-, ek, est⟩ := gtAt d hg1
   obtain ⟨i, p, hip, hpf, hxp⟩ := xPart_of (hl.yes hk1).2.1
   have hhd := hht.2.2 d (by rw [← ek, hat]; exact hg1) i p hip
   have hb : (hd t).getD i false = true := by
    rw [List.getD_eq_getElem?_getD, hhd, hpf]
    cases hz : mget d.miss m.1 with
    | none => rfl
    | some z =>
      have := (hI.sit.gt (k : Int) d (by rw [hat]; exact hg1)).2.2.2.2.1 _ _ hz
      rw [hz, this.2] at hmi
      cases hmi
   unfold xHandle
   rw [if_neg (by omega), if_pos hk1, ht, est, if_neg (by decide), hpart]
   unfold xtOf
   dsimp only
   rw [hxp, if_neg (by omega), if_pos rfl, show ((i : Int)).toNat = i from rfl, hb, if_pos rfl]
   exact none0 rfl
 | finNo hk1 hg1 =>
   refine still rfl ?_
   have e : xState (xOf N co pa hd) m.2.1 t ≠ 2 := by
    cases hg : (atS s t).op with
    | none => rw [noAt hg hg1]; decide
    | some d => rw [(opAt d hg).2]; decide
   unfold xHandle
   rw [if_neg (by omega), if_neg (by omega), if_neg (by omega), if_neg (by omega), if_neg (by omega), if_pos hk1, ht, if_neg (fun h => e h.1)]
   exact none0 rfl
 | aboP hk1 hp =>
   refine quietT rfl rfl ?_
   have e2 : mindA { atS s t with pr := none, dr := true } = (3, (0, 0)) := by
    unfold mindA
    dsimp only
    rw [(hone.1 hp).1]
    rfl
   unfold xHandle
   rw [if_neg (by omega), if_neg (by omega), if_neg (by omega), if_neg (by omega), if_pos hk1, ht, if_pos (m1 hp), hk, xMind_of hs, stkS rfl, e2]
   simp [xOf]
 | comP hk1 hp =>
   refine quietT rfl rfl ?_
   have e2 : mindA { atS s t with pr := none, kp := true } = (2, (0, 0)) := rfl
   obtain ⟨c, x, hpx⟩ : ∃ c x, mget s.prom t = some (c, x) := by
    cases hz : mget s.prom t with
    | none => exact absurd hz hp
    | some y => exact ⟨y.1, y.2, rfl⟩
   have hst2 : (han s m).1.stock = s.stock + x := by
    rcases hstk with ⟨c', x', q1, q2, -⟩ | ⟨-, q2⟩
    ·rw [hpx] at q1
     injection q1 with q1
     injection q1 with q3 q4
     rw [q2, q4]
    ·have q3 := q2 t
     rw [ha'] at q3
     have q4 := (hone.1 hp).1
     rw [← q3] at q4
     cases q4
   have hmx : (xMindAt (xOf N co pa hd) m.2.1 t).2.2 = x := by
    rw [hms]
    unfold mindA atS
    dsimp only
    rw [hpx]
   have hkl : k < (xOf N co pa hd).sites.length := by
    have := (List.getElem?_eq_some_iff.1 hs).1
    unfold xOf; simpa using this
   unfold xHandle
   rw [if_neg (by omega), if_neg (by omega), if_neg (by omega), if_pos hk1, ht, if_pos (m1 hp), hmx, hst2, e2, hk]
   have hadd : xMind (xAdd (xOf N co pa hd) (k : Int) x) (k : Int) t (2, (0, 0)) = { xOf N co pa hd with sites := (xOf N co pa hd).sites.set k ⟨s.stock + x, !s.up, (mindsA N (k : Int)).set (t - 1).toNat (2, (0, 0))⟩ } := by
    unfold xMind xAdd
    rw [hxs]
    unfold xSite
    dsimp only
    rw [show ((k : Int)).toNat = k from rfl, List.getD_eq_getElem?_getD, List.getElem?_set, if_pos rfl, if_pos hkl, Option.getD_some, List.set_set]
   rw [hadd, send_one _ _ hroom]
   unfold rep5
   rw [ht]
   rfl
 | yesMore d hk1 hop hmi =>
   obtain ⟨ek, est⟩ := opAt d hop
   obtain ⟨-, hG, -, -, hkeys, -⟩ := hI.sit.op (k : Int) d (by rw [hat]; exact hop)
   obtain ⟨i, p, hip, hpf, hxp⟩ := xPart_of (hl.yes hk1).2.1
   obtain ⟨q1, q2⟩ := heard_more hP hht.1 (hht.2.1 d (by rw [← ek, hat]; exact hop)) (fun f x h => (hkeys f x h).1) hip
   rw [hpf] at q1 q2
   have gtn : (atS s t).gt = none := by
    cases hz : (atS s t).gt with
    | none => rfl
    | some d' => exact absurd (hI.sit.gt (k : Int) d' (by rw [hat]; exact hz)).2.1 hG
   have hco : co t = (k : Int) := ek.symm
   refine fin ((hd t).set i true) ?_ ?_
   ·rw [if_pos hco]
    refine ⟨by rw [List.length_set]; exact hht.1, fun d' h => ?_, fun d' h => ?_⟩
    ·have h5 := Option.some.inj h
     rw [← h5]
     exact q1
    ·have h5 : (atS s t).gt = some d' := h
     rw [gtn] at h5; cases h5
   ·have e3 : stA (atN N t (co t)) = 1 := by rw [hco, hat]; unfold stA; rw [hop]; rfl
    unfold xHandle
    rw [if_neg (by omega), if_pos hk1, ht, est, if_neg (by decide), hpart]
    unfold xtOf
    dsimp only
    rw [hxp, if_neg (by omega), if_neg (by decide), show ((i : Int)).toNat = i from rfl, if_neg (fun h => hmi (q2.1 h)), xHear_of h1 h2, stkS rfl, if_pos hco, e3]
    have e4 := idS (co := co) (pa := pa) (hd := hd) hs h1
    have e5 : stA { atS s t with op := some { d with miss := mdel d.miss m.1 }, gt := (atS s t).gt } = 1 := rfl
    rw [e5]
    have e6 : mindA { atS s t with op := some { d with miss := mdel d.miss m.1 }, gt := (atS s t).gt } = mindA (atS s t) := rfl
    rw [e6, e4]
    simp [xOf]
 | yesAll d hk1 hop hmi =>
   obtain ⟨ek, est⟩ := opAt d hop
   obtain ⟨-, -, hpp, -, hkeys, -⟩ := hI.sit.op (k : Int) d (by rw [hat]; exact hop)
   obtain ⟨i, p, hip, hpf, hxp⟩ := xPart_of (hl.yes hk1).2.1
   obtain ⟨q1, q2⟩ := heard_more hP hht.1 (hht.2.1 d (by rw [← ek, hat]; exact hop)) (fun f x h => (hkeys f x h).1) hip
   rw [hpf] at q1 q2
   have hco : co t = (k : Int) := ek.symm
   refine fin (List.replicate (pa t).length false) ?_ ?_
   ·rw [if_pos hco]
    refine ⟨by simp, fun d' h => (by cases h), fun d' h j r hj => ?_⟩
    have h5 := Option.some.inj h
    rw [← h5]
    show _ = some (mget (missOf d.parts) r.1).isNone
    rw [hpp, missOf_at, if_pos ⟨r.2, List.mem_of_getElem? hj⟩, List.getElem?_replicate, if_pos (List.getElem?_eq_some_iff.1 hj).1]
    rfl
   ·unfold xHandle
    rw [if_neg (by omega), if_pos hk1, ht, est, if_neg (by decide), hpart]
    unfold xtOf
    dsimp only
    rw [hxp, if_neg (by omega), if_neg (by decide), show ((i : Int)).toNat = i from rfl, if_pos (q2.2 hmi), xTurn_hear h1 h2, stkS rfl, if_pos hco]
    have e5 : stA { atS s t with op := none, gt := some (dl0 d.parts) } = 2 := rfl
    have e6 : mindA { atS s t with op := none, gt := some (dl0 d.parts) } = mindA (atS s t) := rfl
    rw [e5, e6, idS hs h1]
    unfold xTell
    rw [xTx_turn h1 h2, tellL_all _ (by simp) _ _ _ (fun r hr => (hP.part r hr).1), sends _ _ hroom, hpp, hk]
    rfl
 | noOpen d hk1 hop =>
   obtain ⟨ek, est⟩ := opAt d hop
   obtain ⟨-, hG, hpp, -⟩ := hI.sit.op (k : Int) d (by rw [hat]; exact hop)
   have gtn : (atS s t).gt = none := by
    cases hz : (atS s t).gt with
    | none => rfl
    | some d' => exact absurd (hI.sit.gt (k : Int) d' (by rw [hat]; exact hz)).2.1 hG
   have hco : co t = (k : Int) := ek.symm
   refine fin (List.replicate (pa t).length false) ?_ ?_
   ·rw [if_pos hco]
    refine ⟨by simp, fun d' h => (by cases h), fun d' h => ?_⟩
    have h5 : (atS s t).gt = some d' := h
    rw [gtn] at h5; cases h5
   ·unfold xHandle
    rw [if_neg (by omega), if_neg (by omega), if_pos hk1, ht, if_pos est, xTurn_of h1 h2, stkS rfl, if_pos hco]
    have e5 : stA { atS s t with op := none, gt := (atS s t).gt } = 0 := by unfold stA; dsimp only; rw [gtn]; rfl
    have e6 : mindA { atS s t with op := none, gt := (atS s t).gt } = mindA (atS s t) := rfl
    rw [e5, e6, idS hs h1]
    unfold xTell
    rw [xTx_turn h1 h2, tellL_but _ (by simp), sends _ _ hroom, hpp, hk]
    rfl
 | finMore d hk1 hg1 hmi =>
   obtain ⟨hon, ek, est⟩ := gtAt d hg1
   obtain ⟨-, -, -, -, hkeys, -⟩ := hI.sit.gt (k : Int) d (by rw [hat]; exact hg1)
   obtain ⟨i, p, hip, hpf, hxp⟩ := xPart_of (hl.don hk1).2.1
   obtain ⟨q1, q2⟩ := heard_more hP hht.1 (hht.2.2 d (by rw [← ek, hat]; exact hg1)) (fun f x h => (hkeys f x h).1) hip
   rw [hpf] at q1 q2
   have hco : co t = (k : Int) := ek.symm
   refine fin ((hd t).set i true) ?_ ?_
   ·rw [if_pos hco]
    refine ⟨by rw [List.length_set]; exact hht.1, fun d' h => ?_, fun d' h => ?_⟩
    ·have h5 : (atS s t).op = some d' := h
     rw [hon] at h5; cases h5
    ·have h5 := Option.some.inj h
     rw [← h5]
     exact q1
   ·have e3 : stA (atN N t (co t)) = 2 := by rw [hco, hat]; unfold stA; rw [hon, hg1]; rfl
    unfold xHandle
    rw [if_neg (by omega), if_neg (by omega), if_neg (by omega), if_neg (by omega), if_neg (by omega), if_pos hk1, ht, est, hpart]
    unfold xtOf
    dsimp only
    rw [hxp, if_pos ⟨rfl, by omega⟩, show ((i : Int)).toNat = i from rfl, if_neg (fun h => hmi (q2.1 h)), xHear_of h1 h2, stkS rfl, if_pos hco, e3]
    have e5 : stA { atS s t with op := (atS s t).op, gt := some { d with miss := mdel d.miss m.1 } } = 2 := by unfold stA; dsimp only; rw [hon]; rfl
    have e6 : mindA { atS s t with op := (atS s t).op, gt := some { d with miss := mdel d.miss m.1 } } = mindA (atS s t) := rfl
    rw [e5, e6, idS hs h1]
    simp [xOf]
 | finAll d hk1 hg1 hmi =>
   obtain ⟨hon, ek, est⟩ := gtAt d hg1
   obtain ⟨-, -, -, -, hkeys, -⟩ := hI.sit.gt (k : Int) d (by rw [hat]; exact hg1)
   obtain ⟨i, p, hip, hpf, hxp⟩ := xPart_of (hl.don hk1).2.1
   obtain ⟨q1, q2⟩ := heard_more hP hht.1 (hht.2.2 d (by rw [← ek, hat]; exact hg1)) (fun f x h => (hkeys f x h).1) hip
   rw [hpf] at q1 q2
   have hco : co t = (k : Int) := ek.symm
   refine fin (List.replicate (pa t).length false) ?_ ?_
   ·rw [if_pos hco]
    refine ⟨by simp, fun d' h => ?_, fun d' h => (by cases h)⟩
    have h5 : (atS s t).op = some d' := h
    rw [hon] at h5; cases h5
   ·unfold xHandle
    rw [if_neg (by omega), if_neg (by omega), if_neg (by omega), if_neg (by omega), if_neg (by omega), if_pos hk1, ht, est, hpart]
    unfold xtOf
    dsimp only
    rw [hxp, if_pos ⟨rfl, by omega⟩, show ((i : Int)).toNat = i from rfl, if_pos (q2.2 hmi), xTurn_hear h1 h2, stkS rfl, if_pos hco]
    have e5 : stA { atS s t with op := (atS s t).op, gt := none } = 0 := by unfold stA; dsimp only; rw [hon]; rfl
    have e6 : mindA { atS s t with op := (atS s t).op, gt := none } = mindA (atS s t) := rfl
    rw [e5, e6, idS hs h1]
    simp [xOf]

end Go.Proofs.YtnoeiocbmhkmeaaGreat
