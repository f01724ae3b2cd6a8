/- Layer 5: every transaction of a net is in order, whatever happens. -/
import Derived.Test.YtnoeiocbmhkmeaaGreatBu13
namespace Go.Proofs.YtnoeiocbmhkmeaaGreat
set_option linter.unusedSimpArgs false
set_option maxRecDepth 100000
set_option maxHeartbeats 80000000

theorem wr5_mem {num k tx : Int} {ps : List Mv} {x : Ml} (h : x ∈ wr5 num k tx ps) : ∃ p ∈ ps, x = (num, p.1, k, tx, if k = 1 then p.2 else 0) := by
 obtain ⟨p, hp, rfl⟩ := List.mem_map.1 h
 exact ⟨p, hp, rfl⟩
theorem mdel_nil {β : Type} {l : List (Int × β)} {a : Int} (h : mdel l a = []) {f : Int} (hf : f ≠ a) : mget l f = none := by
 have := mget_del l a f
 rw [h, if_neg hf] at this
 rw [← this]; rfl
open Classical in
theorem missOf_get : ∀ (ps : List Mv) (l : List (Int × Bool)) (f : Int), mget (ps.foldl (fun m p => mput m p.1 true) l) f = if ∃ x, (f, x) ∈ ps then some true else mget l f
 | [], l, f => by simp
 | p :: r, l, f => by
   rw [List.foldl_cons, missOf_get r, mget_put]
   by_cases h1 : ∃ x, (f, x) ∈ r
   ·have h2 : ∃ x, (f, x) ∈ p :: r := by obtain ⟨x, hx⟩ := h1; exact ⟨x, List.mem_cons_of_mem _ hx⟩
    rw [if_pos h1, if_pos h2]
   ·rw [if_neg h1]
    by_cases h2 : f = p.1
    ·have h3 : ∃ x, (f, x) ∈ p :: r := ⟨p.2, by rw [h2]; exact List.mem_cons_self⟩
     rw [if_pos h2, if_pos h3]
    ·have h3 : ¬ ∃ x, (f, x) ∈ p :: r := fun ⟨x, hx⟩ => by
      rcases List.mem_cons.1 hx with h4 | h4
      ·exact h2 (by rw [← h4])
      ·exact h1 ⟨x, h4⟩
     rw [if_neg h2, if_neg h3]
open Classical in
theorem missOf_at (ps : List Mv) (f : Int) : mget (missOf ps) f = if ∃ x, (f, x) ∈ ps then some true else none := missOf_get ps [] f
theorem missOf_ne {ps : List Mv} (h : 1 ≤ ps.length) : missOf ps ≠ [] := fun e => by
 cases ps with
 | nil => simp at h
 | cons p r =>
   have h1 := missOf_at (p :: r) p.1
   rw [e, if_pos ⟨p.2, List.mem_cons_self⟩] at h1
   cases h1
theorem StepT.safe {A : Int → At} {L L' : Ml → Prop} {c : Int} {ps : List Mv} {G : Prop} {k : Int} {q : Bool} {m : Ml} {a' : At} {l : List Ml} (hs : StepT (A k) k q m a' l) (h : InvT A L c ps G) (hk : m.2.1 = k) (hm : LetOk A c ps G m) (hL : ∀ x, L' x → L x ∨ x ∈ l) (h1 : 1 ≤ ps.length) :
 ∃ G' : Prop, (G → G') ∧ InvT (upd A k a') L' c ps G' := by
 have same : ∀ {l : List Ml}, (∀ x, L' x → L x ∨ x ∈ l) → (∀ x ∈ l, LetOk A c ps G x) → ∃ G' : Prop, (G → G') ∧ InvT (upd A k (A k)) L' c ps G' := fun {l} hL hx => by
  have e : upd A k (A k) = A := by funext i; unfold upd; split; · rename_i e; rw [e]
                                   ·rfl
  rw [e]
  exact ⟨G, id, h.same (fun x hx' => (hL x hx').imp id (hx x))⟩
 have turn : ∀ {l : List Ml} {G' : Prop}, (∀ x, L' x → L x ∨ x ∈ l) → SitOk (upd A k a') c ps G' ∧ GoOn A (upd A k a') c G G' → (G → G') → (∀ x ∈ l, LetOk (upd A k a') c ps G' x) → ∃ G' : Prop, (G → G') ∧ InvT (upd A k a') L' c ps G' := fun {l G'} hL hst hg hx => ⟨G', hg, h.on hst (fun x hx' => (hL x hx').imp id (hx x))⟩
 subst hk
 cases hs with
 | askY hk hp =>
   obtain ⟨h2, h3⟩ := hm.ask hk
   refine same hL (fun x hx => ?_)
   rw [List.mem_singleton.1 hx]
   exact ⟨fun e => by simp [rep5] at e, fun _ => ⟨h2, ⟨_, h3⟩, fun _ => hp⟩, fun e => by simp [rep5] at e, fun e => by simp [rep5] at e, fun e => by simp [rep5] at e, fun e => by simp [rep5] at e, fun e => by simp [rep5] at e⟩
 | askK hk hp hkp => exact same hL (fun x hx => by cases hx)
 | askN hk hp hkp hd =>
   obtain ⟨h2, h3⟩ := hm.ask hk
   refine same hL (fun x hx => ?_)
   rw [List.mem_singleton.1 hx]
   exact ⟨fun e => by simp [rep5] at e, fun e => by simp [rep5] at e, fun _ => ⟨h2, ⟨_, h3⟩, hd⟩, fun e => by simp [rep5] at e, fun e => by simp [rep5] at e, fun e => by simp [rep5] at e, fun e => by simp [rep5] at e⟩
 | askP hk hp hkp hd hq =>
   obtain ⟨h2, h3⟩ := hm.ask hk
   have hst := h.sit.promise h3 hp hkp hd
   rw [← h2] at hst
   refine turn hL (by rw [← h2]; exact hst) id (fun x hx => ?_)
   rw [List.mem_singleton.1 hx]
   refine ⟨fun e => by simp [rep5] at e, fun _ => ⟨h2, ⟨_, h3⟩, fun _ => ?_⟩, fun e => by simp [rep5] at e, fun e => by simp [rep5] at e, fun e => by simp [rep5] at e, fun e => by simp [rep5] at e, fun e => by simp [rep5] at e⟩
   show (upd A m.2.1 _ m.2.1).pr ≠ none
   rw [upd_same]; simp
 | askR hk hp hkp hd hq =>
   obtain ⟨h2, h3⟩ := hm.ask hk
   refine turn hL (h.sit.refuse ⟨_, h3⟩ hp hkp) id (fun x hx => ?_)
   rw [List.mem_singleton.1 hx]
   refine ⟨fun e => by simp [rep5] at e, fun e => by simp [rep5] at e, fun _ => ⟨h2, ⟨_, h3⟩, ?_⟩, fun e => by simp [rep5] at e, fun e => by simp [rep5] at e, fun e => by simp [rep5] at e, fun e => by simp [rep5] at e⟩
   show (upd A m.2.1 _ m.2.1).dr = true
   rw [upd_same]
 | yesMore d hk ho hne =>
   obtain ⟨h2, h3, h4⟩ := hm.yes hk
   have hpr := h4 (by rw [← h2, ho]; simp)
   obtain ⟨a1, a2, a3, a4, a5, a6⟩ := h.sit.op _ d ho
   have hst := h.sit.coord (some { d with miss := mdel d.miss m.1 }) (A c).gt (G' := G)
    (fun d' e => by
      injection e with e; subst e
      refine ⟨a2, a3, hne, fun f x hf => ?_, fun f hf hf2 => ?_⟩
      ·have := hf
       dsimp only at this
       rw [mget_del] at this
       split at this
       ·cases this
       ·exact a5 f x this
      ·dsimp only at hf2
       rw [mget_del] at hf2
       split at hf2
       ·rename_i e; rw [e]; exact hpr
       ·exact a6 f hf hf2)
    (fun d' e => (h.sit.gt c d' e).2) (fun hg hn => h.sit.fin hg hn) id (fun hg hn => absurd hg hn) (fun hg hn => absurd hg hn) (fun _ => by rw [← h2, ho]; simp)
   rw [← h2] at hst
   exact turn hL (by rw [← h2]; exact hst) id (fun x hx => by cases hx)
 | yesAll d hk ho hz =>
   obtain ⟨h2, h3, h4⟩ := hm.yes hk
   have hpr := h4 (by rw [← h2, ho]; simp)
   obtain ⟨a1, a2, a3, a4, a5, a6⟩ := h.sit.op _ d ho
   have hall : ∀ f, isP ps f → (A f).pr ≠ none := fun f hf => by
    by_cases hfe : f = m.1
    ·rw [hfe]; exact hpr
    ·exact a6 f hf (mdel_nil hz hfe)
   have hst := h.sit.coord none (some (dl0 d.parts)) (G' := True) (fun d' e => by cases e)
    (fun d' e => by
      injection e with e; subst e
      refine ⟨trivial, a3, ?_, fun f x hf => ?_, fun f hf hf2 => ?_⟩
      ·show missOf d.parts ≠ []
       rw [a3]; exact missOf_ne h1
      ·have hf : mget (missOf d.parts) f = some x := hf
       rw [missOf_at, a3] at hf
       split at hf
       ·rename_i hh; injection hf with hf; exact ⟨hh, hf.symm⟩
       ·cases hf
      ·have hf2 : mget (missOf d.parts) f = none := hf2
       rw [missOf_at, a3, if_pos (show ∃ x, (f, x) ∈ ps from hf)] at hf2
       cases hf2)
    (fun _ hn => by cases hn) (fun _ => trivial) (fun _ _ => hall) (fun _ _ => by rw [← h2, ho]; simp) (fun e => absurd rfl e)
   rw [← h2] at hst
   refine turn hL (by rw [← h2]; exact hst) (fun _ => trivial) (fun x hx => ?_)
   obtain ⟨p, hp, rfl⟩ := wr5_mem hx
   rw [a3] at hp
   exact ⟨fun e => by simp at e, fun e => by simp at e, fun e => by simp at e, fun _ => ⟨h2, ⟨p.2, hp⟩, trivial⟩, fun e => by simp at e, fun e => by simp at e, fun e => by simp at e⟩
 | yesShut hk ho hg =>
   obtain ⟨h2, h3, h4⟩ := hm.yes hk
   refine same hL (fun x hx => ?_)
   rw [List.mem_singleton.1 hx]
   exact ⟨fun e => by simp [rep5] at e, fun e => by simp [rep5] at e, fun e => by simp [rep5] at e, fun e => by simp [rep5] at e, fun _ => ⟨h2, h3, by rw [← h2]; exact ho, fun hG => h.sit.fin hG (by rw [← h2]; exact hg)⟩, fun e => by simp [rep5] at e, fun e => by simp [rep5] at e⟩
 | yesMiss d hk ho hg hv =>
   obtain ⟨h2, h3, h4⟩ := hm.yes hk
   refine same hL (fun x hx => ?_)
   rw [List.mem_singleton.1 hx]
   exact ⟨fun e => by simp [rep5] at e, fun e => by simp [rep5] at e, fun e => by simp [rep5] at e, fun _ => ⟨h2, h3, (h.sit.gt _ d hg).2.1⟩, fun e => by simp [rep5] at e, fun e => by simp [rep5] at e, fun e => by simp [rep5] at e⟩
 | yesHad d hk ho hg hv => exact same hL (fun x hx => by cases hx)
 | noOpen d hk ho =>
   obtain ⟨h2, h3, h4⟩ := hm.no hk
   obtain ⟨a1, a2, a3, a4, a5, a6⟩ := h.sit.op _ d ho
   have hst := h.sit.coord none (A c).gt (G' := G) (fun d' e => by cases e) (fun d' e => (h.sit.gt c d' e).2) (fun hg hn => h.sit.fin hg hn) id (fun hg hn => absurd hg hn) (fun hg hn => absurd hg hn) (fun e => absurd rfl e)
   rw [← h2] at hst
   refine turn hL (by rw [← h2]; exact hst) id (fun x hx => ?_)
   obtain ⟨p, hp, rfl⟩ := wr5_mem hx
   have hp2 := (List.mem_filter.1 hp).1
   rw [a3] at hp2
   refine ⟨fun e => by simp at e, fun e => by simp at e, fun e => by simp at e, fun e => by simp at e, fun _ => ⟨h2, ⟨p.2, hp2⟩, ?_, fun hG => absurd hG a2⟩, fun e => by simp at e, fun e => by simp at e⟩
   rw [h2, upd_same]
 | noShut hk ho => exact same hL (fun x hx => by cases hx)
 | comP hk hp =>
   obtain ⟨h2, h3, h4⟩ := hm.com hk
   have hst := h.sit.keep hp h4
   refine turn hL hst id (fun x hx => ?_)
   rw [List.mem_singleton.1 hx]
   refine ⟨fun e => by simp [rep5] at e, fun e => by simp [rep5] at e, fun e => by simp [rep5] at e, fun e => by simp [rep5] at e, fun e => by simp [rep5] at e, fun _ => ⟨h2, h3, ?_⟩, fun e => by simp [rep5] at e⟩
   show (upd A m.2.1 _ m.2.1).kp = true
   rw [upd_same]
 | comK hk hp hkp =>
   obtain ⟨h2, h3, h4⟩ := hm.com hk
   refine same hL (fun x hx => ?_)
   rw [List.mem_singleton.1 hx]
   exact ⟨fun e => by simp [rep5] at e, fun e => by simp [rep5] at e, fun e => by simp [rep5] at e, fun e => by simp [rep5] at e, fun e => by simp [rep5] at e, fun _ => ⟨h2, h3, hkp⟩, fun e => by simp [rep5] at e⟩
 | comN hk hp hkp => exact same hL (fun x hx => by cases hx)
 | aboP hk hp =>
   obtain ⟨h2, h3, h4, h5⟩ := hm.abo hk
   exact turn hL (h.sit.abort hp h4 h5) id (fun x hx => by cases hx)
 | aboN hk hp => exact same hL (fun x hx => by cases hx)
 | finMore d hk hg hne =>
   obtain ⟨h2, h3, h4⟩ := hm.don hk
   obtain ⟨a1, a2, a3, a4, a5, a6⟩ := h.sit.gt _ d hg
   have hst := h.sit.coord (A c).op (some { d with miss := mdel d.miss m.1 }) (G' := G) (fun d' e => (h.sit.op c d' e).2)
    (fun d' e => by
      injection e with e; subst e
      refine ⟨a2, a3, hne, fun f x hf => ?_, fun f hf hf2 => ?_⟩
      ·have := hf
       dsimp only at this
       rw [mget_del] at this
       split at this
       ·cases this
       ·exact a5 f x this
      ·dsimp only at hf2
       rw [mget_del] at hf2
       split at hf2
       ·rename_i e; rw [e]; exact h4
       ·exact a6 f hf hf2)
    (fun _ hn => by cases hn) id (fun hg hn => absurd hg hn) (fun hg hn => absurd hg hn) id
   rw [← h2] at hst
   exact turn hL (by rw [← h2]; exact hst) id (fun x hx => by cases hx)
 | finAll d hk hg hz =>
   obtain ⟨h2, h3, h4⟩ := hm.don hk
   obtain ⟨a1, a2, a3, a4, a5, a6⟩ := h.sit.gt _ d hg
   have hst := h.sit.coord (A c).op none (G' := G) (fun d' e => (h.sit.op c d' e).2) (fun d' e => by cases e)
    (fun _ _ f hf => by
      by_cases hfe : f = m.1
      ·rw [hfe]; exact h4
      ·exact a6 f hf (mdel_nil hz hfe)) id (fun hg hn => absurd hg hn) (fun hg hn => absurd hg hn) id
   rw [← h2] at hst
   exact turn hL (by rw [← h2]; exact hst) id (fun x hx => by cases hx)
 | finNo hk hg => exact same hL (fun x hx => by cases hx)
 | telG d hk hg =>
   obtain ⟨h2, h3⟩ := hm.wha hk
   refine same hL (fun x hx => ?_)
   rw [List.mem_singleton.1 hx]
   exact ⟨fun e => by simp [rep5] at e, fun e => by simp [rep5] at e, fun e => by simp [rep5] at e, fun _ => ⟨h2, h3, (h.sit.gt _ d hg).2.1⟩, fun e => by simp [rep5] at e, fun e => by simp [rep5] at e, fun e => by simp [rep5] at e⟩
 | telO d hk hg ho => exact same hL (fun x hx => by cases hx)
 | telN hk hg ho =>
   obtain ⟨h2, h3⟩ := hm.wha hk
   refine same hL (fun x hx => ?_)
   rw [List.mem_singleton.1 hx]
   exact ⟨fun e => by simp [rep5] at e, fun e => by simp [rep5] at e, fun e => by simp [rep5] at e, fun e => by simp [rep5] at e, fun _ => ⟨h2, h3, by rw [← h2]; exact ho, fun hG => h.sit.fin hG (by rw [← h2]; exact hg)⟩, fun e => by simp [rep5] at e, fun e => by simp [rep5] at e⟩

set_option maxRecDepth 100000
set_option maxHeartbeats 80000000

def Fr (L : Ml → Prop) (kd f : Int) : Prop := ∃ m, L m ∧ m.2.2.1 = kd ∧ m.1 = f
def To (L : Ml → Prop) (kd f : Int) : Prop := ∃ m, L m ∧ m.2.2.1 = kd ∧ m.2.1 = f
structure LivT (A : Int → At) (L : Ml → Prop) (c : Int) (K : Int → Prop) : Prop where
 op : ∀ d, (A c).op = some d → K c → ∀ f, mget d.miss f ≠ none → To L 1 f ∨ Fr L 2 f ∨ Fr L 3 f
 gt : ∀ d, (A c).gt = some d → K c → ∀ f, mget d.miss f ≠ none → To L 4 f ∨ Fr L 6 f
 pr : ∀ f, (A f).pr ≠ none → K f → (A c).op ≠ none ∨ Fr L 2 f ∨ Fr L 7 f ∨ To L 4 f ∨ To L 5 f
section
variable {L L' : Ml → Prop} {m : Ml}
end
theorem mdel_some {β : Type} {l : List (Int × β)} {a f : Int} (h : mget (mdel l a) f ≠ none) : f ≠ a ∧ mget l f ≠ none := by
 rw [mget_del] at h
 split at h
 ·exact absurd rfl h
 ·rename_i e; exact ⟨e, h⟩
set_option maxRecDepth 100000
set_option maxHeartbeats 80000000

def atN (N : Nx) (tx i : Int) : At := if i < 0 then at0 else (N.sites[i.toNat]?.map (fun s => atS s tx)).getD at0
def lets (N : Nx) (t : Int) (m : Ml) : Prop := m ∈ N.mail ∧ m.2.2.2.1 = t
theorem atN_of {N : Nx} {k : Nat} {s : Sx} (h : N.sites[k]? = some s) (t : Int) : atN N t (k : Int) = atS s t := by
 unfold atN
 rw [if_neg (by omega), show ((k : Int)).toNat = k from rfl, h]
 rfl
theorem atN_set {N : Nx} {k : Nat} {s : Sx} (h : N.sites[k]? = some s) (s' : Sx) (ml : List Ml) (b : Int) (t : Int) : atN { N with sites := N.sites.set k s', mail := ml, begun := b } t = upd (atN N t) (k : Int) (atS s' t) := by
 funext i
 unfold upd
 split
 ·rename_i e
  subst e
  refine atN_of ?_ t
  dsimp only
  rw [List.getElem?_set_self (List.getElem?_eq_some_iff.1 h).1]
 ·rename_i e
  unfold atN
  split
  ·rfl
  ·dsimp only
   rw [List.getElem?_set_ne (by omega)]
theorem upd_id {A : Int → At} {k : Int} {a : At} (h : a = A k) : upd A k a = A := by
 funext i; unfold upd
 split
 ·rename_i e; rw [e, h]
 ·rfl
structure Inv (N : Nx) (co : Int → Int) (pa : Int → List Mv) (G : Int → Prop) : Prop where
 tx : ∀ t, 1 ≤ t → t ≤ N.begun → InvT (atN N t) (lets N t) (co t) (pa t) (G t)
 ok : ∀ t, 1 ≤ t → t ≤ N.begun → (0 ≤ co t ∧ co t < (N.sites.length : Int)) ∧ OkP N.sites.length (pa t)
 fresh : ∀ t i, N.begun < t ∨ t < 1 → atN N t i = at0
def Liv (N : Nx) (co : Int → Int) (K : Int → Prop) : Prop := ∀ t, 1 ≤ t → t ≤ N.begun → LivT (atN N t) (lets N t) (co t) K
theorem Inv.step {N : Nx} {co : Int → Int} {pa : Int → List Mv} {G : Int → Prop} (h : Inv N co pa G) {k : Nat} {s : Sx} (hs : N.sites[k]? = some s) (hnum : s.num = (k : Int)) {m : Ml} (hk : m.2.1 = (k : Int)) (hkd : 1 ≤ m.2.2.1 ∧ m.2.2.1 ≤ 7) (htx : 1 ≤ m.2.2.2.1 ∧ m.2.2.2.1 ≤ N.begun)
 (hl : LetOk (atN N m.2.2.2.1) (co m.2.2.2.1) (pa m.2.2.2.1) (G m.2.2.2.1) m) (ml : List Ml) (hml : ∀ x ∈ ml, x ∈ N.mail ∨ x ∈ (han s m).2) :
 ∃ G' : Int → Prop, (∀ t, G t → G' t) ∧ Inv { N with sites := N.sites.set k (han s m).1, mail := ml } co pa G' := by
 have hst := han_step s m hkd
 rw [hnum, ← atN_of hs, ← hk] at hst
 have h1 := h.tx _ htx.1 htx.2
 have hset := fun t => atN_set (N := N) hs (han s m).1 ml N.begun t
 have e1 : ({ N with sites := N.sites.set k (han s m).1, mail := ml, begun := N.begun } : Nx) = { N with sites := N.sites.set k (han s m).1, mail := ml } := rfl
 rw [e1] at hset
 obtain ⟨G0, hG0, hI⟩ := hst.safe (L' := lets { N with sites := N.sites.set k (han s m).1, mail := ml } m.2.2.2.1) h1 rfl hl (fun x hx => (hml x hx.1).imp (fun h2 => ⟨h2, hx.2⟩) id) (h.ok _ htx.1 htx.2).2.lo
 refine ⟨fun t => if t = m.2.2.2.1 then G0 else G t, fun t ht => ?_, fun t ht1 ht2 => ?_, fun t ht1 ht2 => ?_, fun t i ht => ?_⟩
 ·dsimp only
  split
  ·rename_i e; rw [e] at ht; exact hG0 ht
  ·exact ht
 ·rw [hset t]
  by_cases e : t = m.2.2.2.1
  ·subst e
   rw [if_pos rfl, ← hk]
   exact hI
  ·rw [if_neg e, upd_id (by rw [han_other s m e, atN_of hs])]
   refine (h.tx t ht1 ht2).same (fun x hx => Or.inl ⟨?_, hx.2⟩)
   rcases hml x hx.1 with h2 | h2
   ·exact h2
   ·exact absurd (hx.2.symm.trans (hst.tx x h2)) e
 ·dsimp only
  rw [List.length_set]
  exact h.ok t ht1 ht2
 ·rw [hset t, upd_id (by rw [han_other s m (by dsimp only at ht; omega), atN_of hs])]
  exact h.fresh t i ht
theorem Inv.mail {N : Nx} {co : Int → Int} {pa : Int → List Mv} {G : Int → Prop} (h : Inv N co pa G) (ml : List Ml) (hml : ∀ x ∈ ml, x ∈ N.mail ∨ ∃ t, x.2.2.2.1 = t ∧ LetOk (atN N t) (co t) (pa t) (G t) x) : Inv { N with mail := ml } co pa G := by
 refine ⟨fun t h1 h2 => (h.tx t h1 h2).same (fun x hx => ?_), h.ok, h.fresh⟩
 rcases hml x hx.1 with h3 | ⟨t', h3, h4⟩
 ·exact Or.inl ⟨h3, hx.2⟩
 ·rw [← h3, hx.2] at h4; exact Or.inr h4
theorem Inv.letOk {N : Nx} {co : Int → Int} {pa : Int → List Mv} {G : Int → Prop} (h : Inv N co pa G) (ho : OkN N) {m : Ml} (hm : m ∈ N.mail) : LetOk (atN N m.2.2.2.1) (co m.2.2.2.1) (pa m.2.2.2.1) (G m.2.2.2.1) m :=
 (h.tx _ (ho.mail m hm).tx.1 (ho.mail m hm).tx.2).let5 m ⟨hm, rfl⟩
theorem handN_inv {N : Nx} {co : Int → Int} {pa : Int → List Mv} {G : Int → Prop} (h : Inv N co pa G) (ho : OkN N) {m : Ml} (hm : OkM N.sites.length N.begun m) (hl : LetOk (atN N m.2.2.2.1) (co m.2.2.2.1) (pa m.2.2.2.1) (G m.2.2.2.1) m) :
 ∃ G' : Int → Prop, (∀ t, G t → G' t) ∧ Inv (handN N m) co pa G' := by
 unfold handN
 split
 ·exact ⟨G, fun _ h => h, h⟩
 rename_i s hs
 split
 ·refine h.step hs (ho.site _ _ hs).2 (by have := hm.dst; omega) hm.kind hm.tx hl _ (fun x hx => ?_)
  rcases List.mem_append.1 hx with h1 | h1
  ·exact Or.inl h1
  ·exact Or.inr (List.mem_of_mem_take h1)
 ·exact ⟨G, fun _ h => h, h⟩
set_option maxRecDepth 100000
set_option maxHeartbeats 80000000

theorem mget_snoc {β : Type} (l : List (Int × β)) (a b : Int) (x : β) (h : mget l a = none) : mget (l ++ [(a, x)]) b = if b = a then some x else mget l b := by
 rw [← mput_new x h, mget_put]
theorem OkS.new {q : Nat} {b : Int} {s : Sx} (h : OkS q b s) : mget s.opn (b + 1) = none := mget_none.2 (fun p hp => by have := (h.opn p hp).1; omega)
theorem begN_inv {N : Nx} {co : Int → Int} {pa : Int → List Mv} {G : Int → Prop} (h : Inv N co pa G) (ho : OkN N) {k : Nat} {s : Sx} (hk : N.sites[k]? = some s) {ps : List Mv} (hp : okTx N ps = true) :
 Inv (begN N k ps) (fun t => if t = N.begun + 1 then (k : Int) else co t) (fun t => if t = N.begun + 1 then ps else pa t) (fun t => t ≠ N.begun + 1 ∧ G t) := by
 have hP := okTx_parts hp
 have hs := ho.site k s hk
 have hnew := hs.1.new
 have hkn := (List.getElem?_eq_some_iff.1 hk).1
 have e0 : begN N k ps = { N with sites := N.sites.set k { s with opn := s.opn ++ [(N.begun + 1, dl0 ps)] }, mail := N.mail ++ (wrL s 1 (N.begun + 1) ps).take (1024 - N.mail.length), begun := N.begun + 1 } := by unfold begN; rw [hk]
 have hat : ∀ t, atN (begN N k ps) t = upd (atN N t) (k : Int) (atS { s with opn := s.opn ++ [(N.begun + 1, dl0 ps)] } t) := fun t => by
  rw [e0]; exact atN_set hk _ _ _ t
 have hold : ∀ t, t ≠ N.begun + 1 → atN (begN N k ps) t = atN N t := fun t ht => by
  rw [hat t]
  refine upd_id ?_
  rw [atN_of hk]
  unfold atS
  dsimp only
  rw [mget_snoc _ _ _ _ hnew, if_neg ht]
 have hb : (begN N k ps).begun = N.begun + 1 := by rw [e0]
 have hlen : (begN N k ps).sites.length = N.sites.length := by rw [e0]; simp
 have hnt : atN (begN N k ps) (N.begun + 1) = upd (fun _ => at0) (k : Int) { at0 with op := some (dl0 ps) } := by
  rw [hat]
  have e1 : atN N (N.begun + 1) = fun _ => at0 := funext fun i => h.fresh _ i (Or.inl (by omega))
  have e2 : atS s (N.begun + 1) = at0 := by rw [← atN_of hk]; exact h.fresh _ _ (Or.inl (by omega))
  rw [e1]
  congr 1
  have : atS { s with opn := s.opn ++ [(N.begun + 1, dl0 ps)] } (N.begun + 1) = { atS s (N.begun + 1) with op := some (dl0 ps) } := by
   unfold atS
   dsimp only
   rw [mget_snoc _ _ _ _ hnew, if_pos rfl]
  rw [this, e2]
 refine ⟨fun t h1 h2 => ?_, fun t h1 h2 => ?_, fun t i ht => ?_⟩
 ·rw [hb] at h2
  by_cases e : t = N.begun + 1
  ·subst e
   rw [if_pos rfl, if_pos rfl, hnt]
   have hz : ∀ i, (upd (fun _ => at0) (k : Int) { at0 with op := some (dl0 ps) } i).pr = none ∧ (upd (fun _ => at0) (k : Int) { at0 with op := some (dl0 ps) } i).kp = false ∧ (upd (fun _ => at0) (k : Int) { at0 with op := some (dl0 ps) } i).dr = false ∧ (upd (fun _ => at0) (k : Int) { at0 with op := some (dl0 ps) } i).gt = none := fun i => by
    unfold upd
    split <;> exact ⟨rfl, rfl, rfl, rfl⟩
   refine ⟨⟨fun i => ⟨fun hi => absurd (hz i).1 hi, fun hi => by rw [(hz i).2.1] at hi; cases hi⟩, fun i t' x hi => (by rw [(hz i).1] at hi; cases hi), fun i hi => (by rw [(hz i).2.1] at hi; cases hi), fun i hi => (by rw [(hz i).2.2.1] at hi; cases hi), fun i d hi => ?_, fun i d hi => (by rw [(hz i).2.2.2] at hi; cases hi), fun hg => absurd rfl hg.1, fun i hi => (by rw [(hz i).2.1] at hi; cases hi), fun hg => absurd rfl hg.1⟩, fun m hm => ?_⟩
   ·by_cases e : i = (k : Int)
    ·subst e
     rw [upd_same] at hi
     injection hi with hi
     subst hi
     refine ⟨rfl, fun hg => hg.1 rfl, rfl, missOf_ne hP.lo, fun f x hf => ?_, fun f hf hf2 => ?_⟩
     ·have hf : mget (missOf ps) f = some x := hf
      rw [missOf_at] at hf
      split at hf
      ·rename_i hh; injection hf with hf; exact ⟨hh, hf.symm⟩
      ·cases hf
     ·have hf2 : mget (missOf ps) f = none := hf2
      rw [missOf_at, if_pos (show ∃ x, (f, x) ∈ ps from hf)] at hf2
      cases hf2
    ·rw [upd_ne e] at hi; cases hi
   ·obtain ⟨hm1, hm2⟩ := hm
    rw [e0] at hm1
    dsimp only at hm1
    rcases List.mem_append.1 hm1 with h3 | h3
    ·have := (ho.mail m h3).tx; omega
    ·obtain ⟨p, hp, rfl⟩ := wr5_mem (List.mem_of_mem_take h3)
     exact ⟨fun _ => ⟨hs.2, by simpa using hp⟩, fun e => by simp at e, fun e => by simp at e, fun e => by simp at e, fun e => by simp at e, fun e => by simp at e, fun e => by simp at e⟩
  ·rw [if_neg e, if_neg e, hold t e]
   have h3 := h.tx t h1 (by omega)
   have h4 : InvT (atN N t) (lets N t) (co t) (pa t) (t ≠ N.begun + 1 ∧ G t) := by
    have : (t ≠ N.begun + 1 ∧ G t) = G t := propext ⟨fun h => h.2, fun h => ⟨e, h⟩⟩
    rw [this]; exact h3
   refine h4.same (fun m hm => Or.inl ⟨?_, hm.2⟩)
   have hm1 := hm.1
   rw [e0] at hm1
   dsimp only at hm1
   rcases List.mem_append.1 hm1 with h5 | h5
   ·exact h5
   ·obtain ⟨p, -, rfl⟩ := wr5_mem (List.mem_of_mem_take h5)
    exact absurd hm.2.symm e
 ·rw [hb] at h2
  rw [hlen]
  by_cases e : t = N.begun + 1
  ·rw [if_pos e, if_pos e]
   exact ⟨⟨by omega, by omega⟩, hP⟩
  ·rw [if_neg e, if_neg e]
   exact h.ok t h1 (by omega)
 ·rw [hb] at ht
  have hb0 := ho.beg.1
  rw [hold t (by omega)]
  exact h.fresh t i (by omega)
def wt (m : Ml) : Nat := if m.2.2.1 = 1 then 4 else if m.2.2.1 = 2 then 3 else if m.2.2.1 = 3 then 1 else if m.2.2.1 = 4 then 2 else if m.2.2.1 = 5 then 1 else if m.2.2.1 = 6 then 1 else 3
def wts (l : List Ml) : Nat := (l.map wt).sum
def opens (N : Nx) : Nat := (N.sites.map (fun s => s.opn.length)).sum
def phi (N : Nx) : Nat := wts N.mail + 17 * opens N
end Go.Proofs.YtnoeiocbmhkmeaaGreat
