/- Layer 5: every transaction of a net is in order, and stays so: letters handled, lost, repeated; a beginning. -/
import Derived.Test.YtobcdkjomehdkaaGreatBu14
namespace Go.Proofs.YtobcdkjomehdkaaGreat
set_option linter.unusedSimpArgs false
set_option maxRecDepth 100000
set_option maxHeartbeats 80000000

def atN (N : Nx) (tx i : Int) : At := if i < 0 then at0 else (N.sites[i.toNat]?.map (fun s => atS s tx)).getD at0
def lets (N : Nx) (t : Int) (m : Ml) : Prop := m ∈ N.mail ∧ m.2.2.2.1 = t
theorem atN_of {N : Nx} {k : Nat} {s : Sx} (h : N.sites[k]? = some s) (t : Int) : atN N t (k : Int) = atS s t := by
 unfold atN
 rw [if_neg (by omega), show ((k : Int)).toNat = k from rfl, h]
 rfl
theorem atN_set {N : Nx} {k : Nat} {s : Sx} (h : N.sites[k]? = some s) (s' : Sx) (ml : List Ml) (b : Int) (t : Int) : atN { N with sites := N.sites.set k s', mail := ml, begun := b } t = upd (atN N t) (k : Int) (atS s' t) := by
 funext i
 unfold upd
 split
 ·rename_i e
  subst e
  refine atN_of ?_ t
  dsimp only
  rw [List.getElem?_set_self (List.getElem?_eq_some_iff.1 h).1]
 ·rename_i e
  unfold atN
  split
  ·rfl
  ·dsimp only
   rw [List.getElem?_set_ne (by omega)]
theorem upd_id {A : Int → At} {k : Int} {a : At} (h : a = A k) : upd A k a = A := by
 funext i; unfold upd
 split
 ·rename_i e; rw [e, h]
 ·rfl
structure Inv (N : Nx) (co : Int → Int) (pa : Int → List Mv) (G : Int → Prop) : Prop where
 tx : ∀ t, 1 ≤ t → t ≤ N.begun → InvT (atN N t) (lets N t) (co t) (pa t) (G t)
 ok : ∀ t, 1 ≤ t → t ≤ N.begun → (0 ≤ co t ∧ co t < (N.sites.length : Int)) ∧ OkP N.sites.length (pa t)
 fresh : ∀ t i, N.begun < t ∨ t < 1 → atN N t i = at0
def Liv (N : Nx) (co : Int → Int) (K : Int → Prop) : Prop := ∀ t, 1 ≤ t → t ≤ N.begun → LivT (atN N t) (lets N t) (co t) K
theorem Inv.step {N : Nx} {co : Int → Int} {pa : Int → List Mv} {G : Int → Prop} (h : Inv N co pa G) {k : Nat} {s : Sx} (hs : N.sites[k]? = some s) (hnum : s.num = (k : Int)) {m : Ml} (hk : m.2.1 = (k : Int)) (hkd : 1 ≤ m.2.2.1 ∧ m.2.2.1 ≤ 7) (htx : 1 ≤ m.2.2.2.1 ∧ m.2.2.2.1 ≤ N.begun)
 (hl : LetOk (atN N m.2.2.2.1) (co m.2.2.2.1) (pa m.2.2.2.1) (G m.2.2.2.1) m) (ml : List Ml) (hml : ∀ x ∈ ml, x ∈ N.mail ∨ x ∈ (han s m).2) :
 ∃ G' : Int → Prop, (∀ t, G t → G' t) ∧ Inv { N with sites := N.sites.set k (han s m).1, mail := ml } co pa G' := by
 have hst := han_step s m hkd
 rw [hnum, ← atN_of hs, ← hk] at hst
 have h1 := h.tx _ htx.1 htx.2
 have hset := fun t => atN_set (N := N) hs (han s m).1 ml N.begun t
 have e1 : ({ N with sites := N.sites.set k (han s m).1, mail := ml, begun := N.begun } : Nx) = { N with sites := N.sites.set k (han s m).1, mail := ml } := rfl
 rw [e1] at hset
 obtain ⟨G0, hG0, hI⟩ := hst.safe (L' := lets { N with sites := N.sites.set k (han s m).1, mail := ml } m.2.2.2.1) h1 rfl hl (fun x hx => (hml x hx.1).imp (fun h2 => ⟨h2, hx.2⟩) id) (h.ok _ htx.1 htx.2).2.lo
 refine ⟨fun t => if t = m.2.2.2.1 then G0 else G t, fun t ht => ?_, fun t ht1 ht2 => ?_, fun t ht1 ht2 => ?_, fun t i ht => ?_⟩
 ·dsimp only
  split
  ·rename_i e; rw [e] at ht; exact hG0 ht
  ·exact ht
 ·rw [hset t]
  by_cases e : t = m.2.2.2.1
  ·subst e
   rw [if_pos rfl, ← hk]
   exact hI
  ·rw [if_neg e, upd_id (by rw [han_other s m e, atN_of hs])]
   refine (h.tx t ht1 ht2).same (fun x hx => Or.inl ⟨?_, hx.2⟩)
   rcases hml x hx.1 with h2 | h2
   ·exact h2
   ·exact absurd (hx.2.symm.trans (hst.tx x h2)) e
 ·dsimp only
  rw [List.length_set]
  exact h.ok t ht1 ht2
 ·rw [hset t, upd_id (by rw [han_other s m (by dsimp only at ht; omega), atN_of hs])]
  exact h.fresh t i ht
theorem Inv.mail {N : Nx} {co : Int → Int} {pa : Int → List Mv} {G : Int → Prop} (h : Inv N co pa G) (ml : List Ml) (hml : ∀ x ∈ ml, x ∈ N.mail ∨ ∃ t, x.2.2.2.1 = t ∧ LetOk (atN N t) (co t) (pa t) (G t) x) : Inv { N with mail := ml } co pa G := by
 refine ⟨fun t h1 h2 => (h.tx t h1 h2).same (fun x hx => ?_), h.ok, h.fresh⟩
 rcases hml x hx.1 with h3 | ⟨t', h3, h4⟩
 ·exact Or.inl ⟨h3, hx.2⟩
 ·rw [← h3, hx.2] at h4; exact Or.inr h4
theorem Inv.letOk {N : Nx} {co : Int → Int} {pa : Int → List Mv} {G : Int → Prop} (h : Inv N co pa G) (ho : OkN N) {m : Ml} (hm : m ∈ N.mail) : LetOk (atN N m.2.2.2.1) (co m.2.2.2.1) (pa m.2.2.2.1) (G m.2.2.2.1) m :=
 (h.tx _ (ho.mail m hm).tx.1 (ho.mail m hm).tx.2).let5 m ⟨hm, rfl⟩
theorem handN_inv {N : Nx} {co : Int → Int} {pa : Int → List Mv} {G : Int → Prop} (h : Inv N co pa G) (ho : OkN N) {m : Ml} (hm : OkM N.sites.length N.begun m) (hl : LetOk (atN N m.2.2.2.1) (co m.2.2.2.1) (pa m.2.2.2.1) (G m.2.2.2.1) m) :
 ∃ G' : Int → Prop, (∀ t, G t → G' t) ∧ Inv (handN N m) co pa G' := by
 unfold handN
 split
 ·exact ⟨G, fun _ h => h, h⟩
 rename_i s hs
 split
 ·refine h.step hs (ho.site _ _ hs).2 (by have := hm.dst; omega) hm.kind hm.tx hl _ (fun x hx => ?_)
  rcases List.mem_append.1 hx with h1 | h1
  ·exact Or.inl h1
  ·exact Or.inr (List.mem_of_mem_take h1)
 ·exact ⟨G, fun _ h => h, h⟩
theorem mem_erase {α : Type} {l : List α} {k : Nat} {m x : α} (hm : l[k]? = some m) (hx : x ∈ l) (hne : x ≠ m) : x ∈ l.eraseIdx k := by
 obtain ⟨j, hj⟩ := List.mem_iff_getElem?.1 hx
 rw [List.mem_iff_getElem?]
 rcases Nat.lt_trichotomy j k with h1 | h1 | h1
 ·exact ⟨j, by rw [List.getElem?_eraseIdx, if_pos h1]; exact hj⟩
 ·subst h1; rw [hm] at hj; injection hj with hj; exact absurd hj.symm hne
 ·exact ⟨j - 1, by rw [List.getElem?_eraseIdx, if_neg (by omega), show j - 1 + 1 = j by omega]; exact hj⟩
theorem quiet {A : Int → At} {L : Ml → Prop} {c : Int} {ps : List Mv} {G : Prop} (h : InvT A L c ps G) (v : LivT A L c (fun _ => True)) (hn : ∀ m, ¬ L m) : ∀ k, (A k).op = none ∧ (A k).gt = none ∧ (A k).pr = none := by
 have hF : ∀ kd f, ¬ Fr L kd f := fun kd f ⟨m, h1, _⟩ => hn m h1
 have hT : ∀ kd f, ¬ To L kd f := fun kd f ⟨m, h1, _⟩ => hn m h1
 have some_key : ∀ {l : List (Int × Bool)}, l ≠ [] → ∃ f, mget l f ≠ none := fun {l} hl => by
  cases l with
  | nil => exact absurd rfl hl
  | cons p r => exact ⟨p.1, fun h => mget_none.1 h p List.mem_cons_self rfl⟩
 have ho : ∀ k, (A k).op = none := fun k => Classical.byContradiction fun hne => by
  cases hx : (A k).op with
  | none => exact hne hx
  | some d =>
    obtain ⟨a1, a2, a3, a4, a5, a6⟩ := h.sit.op k d hx
    obtain ⟨f, hf⟩ := some_key a4
    rcases v.op d (by rw [← a1]; exact hx) trivial f hf with h1 | h1 | h1
    ·exact hT _ _ h1
    ·exact hF _ _ h1
    ·exact hF _ _ h1
 refine fun k => ⟨ho k, ?_, ?_⟩
 ·refine Classical.byContradiction fun hne => ?_
  cases hx : (A k).gt with
  | none => exact hne hx
  | some d =>
    obtain ⟨a1, a2, a3, a4, a5, a6⟩ := h.sit.gt k d hx
    obtain ⟨f, hf⟩ := some_key a4
    rcases v.gt d (by rw [← a1]; exact hx) trivial f hf with h1 | h1
    ·exact hT _ _ h1
    ·exact hF _ _ h1
 ·refine Classical.byContradiction fun hne => ?_
  rcases v.pr k hne trivial with h1 | h1 | h1 | h1 | h1
  ·exact h1 (ho c)
  ·exact hF _ _ h1
  ·exact hF _ _ h1
  ·exact hT _ _ h1
  ·exact hT _ _ h1

set_option maxRecDepth 100000
set_option maxHeartbeats 80000000

theorem mget_snoc {β : Type} (l : List (Int × β)) (a b : Int) (x : β) (h : mget l a = none) : mget (l ++ [(a, x)]) b = if b = a then some x else mget l b := by
 rw [← mput_new x h, mget_put]
theorem OkS.new {q : Nat} {b : Int} {s : Sx} (h : OkS q b s) : mget s.opn (b + 1) = none := mget_none.2 (fun p hp => by have := (h.opn p hp).1; omega)
theorem begN_inv {N : Nx} {co : Int → Int} {pa : Int → List Mv} {G : Int → Prop} (h : Inv N co pa G) (ho : OkN N) {k : Nat} {s : Sx} (hk : N.sites[k]? = some s) {ps : List Mv} (hp : okTx N ps = true) :
 Inv (begN N k ps) (fun t => if t = N.begun + 1 then (k : Int) else co t) (fun t => if t = N.begun + 1 then ps else pa t) (fun t => t ≠ N.begun + 1 ∧ G t) := by
 have hP := okTx_parts hp
 have hs := ho.site k s hk
 have hnew := hs.1.new
 have hkn := (List.getElem?_eq_some_iff.1 hk).1
 have e0 : begN N k ps = { N with sites := N.sites.set k { s with opn := s.opn ++ [(N.begun + 1, dl0 ps)] }, mail := N.mail ++ (wrL s 1 (N.begun + 1) ps).take (1024 - N.mail.length), begun := N.begun + 1 } := by unfold begN; rw [hk]
 have hat : ∀ t, atN (begN N k ps) t = upd (atN N t) (k : Int) (atS { s with opn := s.opn ++ [(N.begun + 1, dl0 ps)] } t) := fun t => by
  rw [e0]; exact atN_set hk _ _ _ t
 have hold : ∀ t, t ≠ N.begun + 1 → atN (begN N k ps) t = atN N t := fun t ht => by
  rw [hat t]
  refine upd_id ?_
  rw [atN_of hk]
  unfold atS
  dsimp only
  rw [mget_snoc _ _ _ _ hnew, if_neg ht]
 have hb : (begN N k ps).begun = N.begun + 1 := by rw [e0]
 have hlen : (begN N k ps).sites.length = N.sites.length := by rw [e0]; simp
 have hnt : atN (begN N k ps) (N.begun + 1) = upd (fun _ => at0) (k : Int) { at0 with op := some (dl0 ps) } := by
  rw [hat]
  have e1 : atN N (N.begun + 1) = fun _ => at0 := funext fun i => h.fresh _ i (Or.inl (by omega))
  have e2 : atS s (N.begun + 1) = at0 := by rw [← atN_of hk]; exact h.fresh _ _ (Or.inl (by omega))
  rw [e1]
  congr 1
  have : atS { s with opn := s.opn ++ [(N.begun + 1, dl0 ps)] } (N.begun + 1) = { atS s (N.begun + 1) with op := some (dl0 ps) } := by
   unfold atS
   dsimp only
   rw [mget_snoc _ _ _ _ hnew, if_pos rfl]
  rw [this, e2]
 refine ⟨fun t h1 h2 => ?_, fun t h1 h2 => ?_, fun t i ht => ?_⟩
 ·rw [hb] at h2
  by_cases e : t = N.begun + 1
  ·subst e
   rw [if_pos rfl, if_pos rfl, hnt]
   have hz : ∀ i, (upd (fun _ => at0) (k : Int) { at0 with op := some (dl0 ps) } i).pr = none ∧ (upd (fun _ => at0) (k : Int) { at0 with op := some (dl0 ps) } i).kp = false ∧ (upd (fun _ => at0) (k : Int) { at0 with op := some (dl0 ps) } i).dr = false ∧ (upd (fun _ => at0) (k : Int) { at0 with op := some (dl0 ps) } i).gt = none := fun i => by
    unfold upd
    split <;> exact ⟨rfl, rfl, rfl, rfl⟩
   refine ⟨⟨fun i => ⟨fun hi => absurd (hz i).1 hi, fun hi => by rw [(hz i).2.1] at hi; cases hi⟩, fun i t' x hi => (by rw [(hz i).1] at hi; cases hi), fun i hi => (by rw [(hz i).2.1] at hi; cases hi), fun i hi => (by rw [(hz i).2.2.1] at hi; cases hi), fun i d hi => ?_, fun i d hi => (by rw [(hz i).2.2.2] at hi; cases hi), fun hg => absurd rfl hg.1, fun i hi => (by rw [(hz i).2.1] at hi; cases hi), fun hg => absurd rfl hg.1⟩, fun m hm => ?_⟩
   ·by_cases e : i = (k : Int)
    ·subst e
     rw [upd_same] at hi
     injection hi with hi
     subst hi
     refine ⟨rfl, fun hg => hg.1 rfl, rfl, missOf_ne hP.lo, fun f x hf => ?_, fun f hf hf2 => ?_⟩
     ·have hf : mget (missOf ps) f = some x := hf
      rw [missOf_at] at hf
      split at hf
      ·rename_i hh; injection hf with hf; exact ⟨hh, hf.symm⟩
      ·cases hf
     ·have hf2 : mget (missOf ps) f = none := hf2
      rw [missOf_at, if_pos (show ∃ x, (f, x) ∈ ps from hf)] at hf2
      cases hf2
    ·rw [upd_ne e] at hi; cases hi
   ·obtain ⟨hm1, hm2⟩ := hm
    rw [e0] at hm1
    dsimp only at hm1
    rcases List.mem_append.1 hm1 with h3 | h3
    ·have := (ho.mail m h3).tx; omega
    ·obtain ⟨p, hp, rfl⟩ := wr5_mem (List.mem_of_mem_take h3)
     exact ⟨fun _ => ⟨hs.2, by simpa using hp⟩, fun e => by simp at e, fun e => by simp at e, fun e => by simp at e, fun e => by simp at e, fun e => by simp at e, fun e => by simp at e⟩
  ·rw [if_neg e, if_neg e, hold t e]
   have h3 := h.tx t h1 (by omega)
   have h4 : InvT (atN N t) (lets N t) (co t) (pa t) (t ≠ N.begun + 1 ∧ G t) := by
    have : (t ≠ N.begun + 1 ∧ G t) = G t := propext ⟨fun h => h.2, fun h => ⟨e, h⟩⟩
    rw [this]; exact h3
   refine h4.same (fun m hm => Or.inl ⟨?_, hm.2⟩)
   have hm1 := hm.1
   rw [e0] at hm1
   dsimp only at hm1
   rcases List.mem_append.1 hm1 with h5 | h5
   ·exact h5
   ·obtain ⟨p, -, rfl⟩ := wr5_mem (List.mem_of_mem_take h5)
    exact absurd hm.2.symm e
 ·rw [hb] at h2
  rw [hlen]
  by_cases e : t = N.begun + 1
  ·rw [if_pos e, if_pos e]
   exact ⟨⟨by omega, by omega⟩, hP⟩
  ·rw [if_neg e, if_neg e]
   exact h.ok t h1 (by omega)
 ·rw [hb] at ht
  have hb0 := ho.beg.1
  rw [hold t (by omega)]
  exact h.fresh t i (by omega)
theorem begN_live {N : Nx} {co : Int → Int} {pa : Int → List Mv} {G : Int → Prop} (h : Inv N co pa G) (ho : OkN N) (v : Liv N co (fun _ => True)) {k : Nat} {s : Sx} (hk : N.sites[k]? = some s) {ps : List Mv} (hp : okTx N ps = true) (hroom : N.mail.length + 8 ≤ 1024) :
 Liv (begN N k ps) (fun t => if t = N.begun + 1 then (k : Int) else co t) (fun _ => True) := by
 have hP := okTx_parts hp
 have hs := ho.site k s hk
 have hnew := hs.1.new
 have h8 := ho.hi
 have hfew := hP.few
 have e0 : begN N k ps = { N with sites := N.sites.set k { s with opn := s.opn ++ [(N.begun + 1, dl0 ps)] }, mail := N.mail ++ (wrL s 1 (N.begun + 1) ps).take (1024 - N.mail.length), begun := N.begun + 1 } := by unfold begN; rw [hk]
 have hall : (wrL s 1 (N.begun + 1) ps).take (1024 - N.mail.length) = wrL s 1 (N.begun + 1) ps := List.take_of_length_le (by unfold wrL; rw [List.length_map]; omega)
 have hat : ∀ t, atN (begN N k ps) t = upd (atN N t) (k : Int) (atS { s with opn := s.opn ++ [(N.begun + 1, dl0 ps)] } t) := fun t => by
  rw [e0]; exact atN_set hk _ _ _ t
 intro t h1 h2
 have hb : (begN N k ps).begun = N.begun + 1 := by rw [e0]
 rw [hb] at h2
 by_cases e : t = N.begun + 1
 ·subst e
  dsimp only
  rw [if_pos rfl, hat]
  have e1 : atN N (N.begun + 1) = fun _ => at0 := funext fun i => h.fresh _ i (Or.inl (by omega))
  have e2 : atS s (N.begun + 1) = at0 := by rw [← atN_of hk]; exact h.fresh _ _ (Or.inl (by omega))
  have e3 : atS { s with opn := s.opn ++ [(N.begun + 1, dl0 ps)] } (N.begun + 1) = { at0 with op := some (dl0 ps) } := by
   have : atS { s with opn := s.opn ++ [(N.begun + 1, dl0 ps)] } (N.begun + 1) = { atS s (N.begun + 1) with op := some (dl0 ps) } := by
    unfold atS
    dsimp only
    rw [mget_snoc _ _ _ _ hnew, if_pos rfl]
   rw [this, e2]
  rw [e1, e3]
  refine ⟨fun d hd _ f hf => ?_, fun d hd _ f hf => ?_, fun f hf _ => ?_⟩
  ·rw [upd_same] at hd
   injection hd with hd
   subst hd
   have hf : mget (missOf ps) f ≠ none := hf
   rw [missOf_at] at hf
   split at hf
   ·rename_i hx
    obtain ⟨x, hx⟩ := hx
    refine Or.inl ⟨(s.num, f, 1, N.begun + 1, if (1 : Int) = 1 then x else 0), ⟨?_, rfl⟩, rfl, rfl⟩
    rw [e0]
    dsimp only
    rw [hall]
    exact List.mem_append_right _ (List.mem_map_of_mem (f := wrM s 1 (N.begun + 1)) hx)
   ·exact absurd rfl hf
  ·rw [upd_same] at hd; cases hd
  ·by_cases e : f = (k : Int)
   ·rw [e, upd_same] at hf; exact absurd rfl hf
   ·rw [upd_ne e] at hf; exact absurd rfl hf
 ·dsimp only
  rw [if_neg e, hat t, upd_id (by
   rw [atN_of hk]; unfold atS; dsimp only; rw [mget_snoc _ _ _ _ hnew, if_neg e])]
  have v1 := v t h1 (by omega)
  have hO : ∀ x, lets N t x → lets (begN N k ps) t x := fun x hx => ⟨by rw [e0]; exact List.mem_append_left _ hx.1, hx.2⟩
  have fr : ∀ {kd f}, Fr (lets N t) kd f → Fr (lets (begN N k ps) t) kd f := fun ⟨x, h1, h2⟩ => ⟨x, hO x h1, h2⟩
  have tt : ∀ {kd f}, To (lets N t) kd f → To (lets (begN N k ps) t) kd f := fun ⟨x, h1, h2⟩ => ⟨x, hO x h1, h2⟩
  exact ⟨fun d hd hK f hf => (v1.op d hd hK f hf).imp tt (fun h1 => h1.imp fr fr), fun d hd hK f hf => (v1.gt d hd hK f hf).imp tt fr, fun f hf hK => (v1.pr f hf hK).imp id (fun h1 => h1.imp fr (fun h1 => h1.imp fr (fun h1 => h1.imp tt tt)))⟩

def wt (m : Ml) : Nat := if m.2.2.1 = 1 then 4 else if m.2.2.1 = 2 then 3 else if m.2.2.1 = 3 then 1 else if m.2.2.1 = 4 then 2 else if m.2.2.1 = 5 then 1 else if m.2.2.1 = 6 then 1 else 3
def wts (l : List Ml) : Nat := (l.map wt).sum
def opens (N : Nx) : Nat := (N.sites.map (fun s => s.opn.length)).sum
def phi (N : Nx) : Nat := wts N.mail + 17 * opens N
theorem opens_set {N : Nx} {k : Nat} {s : Sx} (h : N.sites[k]? = some s) (s' : Sx) : ((N.sites.set k s').map (fun s => s.opn.length)).sum + s.opn.length = opens N + s'.opn.length := by
 unfold opens
 conv => rhs; rw [split_at h]
 rw [set_at h]
 simp only [List.map_append, List.sum_append, List.map_cons, List.map_nil, List.sum_cons, List.sum_nil]
 omega
theorem mdel_len {β : Type} {l : List (Int × β)} {a : Int} {x : β} (hp : l.Pairwise (fun p q => p.1 ≠ q.1)) (h : mget l a = some x) : (mdel l a).length + 1 = l.length := by
 obtain ⟨l1, l2, e, ed⟩ := mget_split hp h
 rw [ed, e]
 simp only [List.length_append, List.length_cons]
 omega
theorem mput_len {β : Type} {l : List (Int × β)} {a : Int} {x y : β} (h : mget l a = some x) : (mput l a y).length = l.length := by
 unfold mput
 rw [if_pos (by rw [h]; rfl), List.length_map]
end Go.Proofs.YtobcdkjomehdkaaGreat
