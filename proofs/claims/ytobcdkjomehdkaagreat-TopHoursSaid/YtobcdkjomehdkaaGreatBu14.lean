/- Layer 5: every transaction of a net is in order, whatever happens. -/
import Derived.Test.YtobcdkjomehdkaaGreatBu13
namespace Go.Proofs.YtobcdkjomehdkaaGreat
set_option linter.unusedSimpArgs false
set_option maxRecDepth 100000
set_option maxHeartbeats 80000000

theorem wr5_mem {num k tx : Int} {ps : List Mv} {x : Ml} (h : x ∈ wr5 num k tx ps) : ∃ p ∈ ps, x = (num, p.1, k, tx, if k = 1 then p.2 else 0) := by
 obtain ⟨p, hp, rfl⟩ := List.mem_map.1 h
 exact ⟨p, hp, rfl⟩
theorem mdel_nil {β : Type} {l : List (Int × β)} {a : Int} (h : mdel l a = []) {f : Int} (hf : f ≠ a) : mget l f = none := by
 have := mget_del l a f
 rw [h, if_neg hf] at this
 rw [← this]; rfl
open Classical in
theorem missOf_get : ∀ (ps : List Mv) (l : List (Int × Bool)) (f : Int), mget (ps.foldl (fun m p => mput m p.1 true) l) f = if ∃ x, (f, x) ∈ ps then some true else mget l f
 | [], l, f => by simp
 | p :: r, l, f => by
   rw [List.foldl_cons, missOf_get r, mget_put]
   by_cases h1 : ∃ x, (f, x) ∈ r
   ·have h2 : ∃ x, (f, x) ∈ p :: r := by obtain ⟨x, hx⟩ := h1; exact ⟨x, List.mem_cons_of_mem _ hx⟩
    rw [if_pos h1, if_pos h2]
   ·rw [if_neg h1]
    by_cases h2 : f = p.1
    ·have h3 : ∃ x, (f, x) ∈ p :: r := ⟨p.2, by rw [h2]; exact List.mem_cons_self⟩
     rw [if_pos h2, if_pos h3]
    ·have h3 : ¬ ∃ x, (f, x) ∈ p :: r := fun ⟨x, hx⟩ => by
      rcases List.mem_cons.1 hx with h4 | h4
      ·exact h2 (by rw [← h4])
      ·exact h1 ⟨x, h4⟩
     rw [if_neg h2, if_neg h3]
open Classical in
theorem missOf_at (ps : List Mv) (f : Int) : mget (missOf ps) f = if ∃ x, (f, x) ∈ ps then some true else none := missOf_get ps [] f
theorem missOf_ne {ps : List Mv} (h : 1 ≤ ps.length) : missOf ps ≠ [] := fun e => by
 cases ps with
 | nil => simp at h
 | cons p r =>
   have h1 := missOf_at (p :: r) p.1
   rw [e, if_pos ⟨p.2, List.mem_cons_self⟩] at h1
   cases h1
theorem StepT.safe {A : Int → At} {L L' : Ml → Prop} {c : Int} {ps : List Mv} {G : Prop} {k : Int} {q : Bool} {m : Ml} {a' : At} {l : List Ml} (hs : StepT (A k) k q m a' l) (h : InvT A L c ps G) (hk : m.2.1 = k) (hm : LetOk A c ps G m) (hL : ∀ x, L' x → L x ∨ x ∈ l) (h1 : 1 ≤ ps.length) :
 ∃ G' : Prop, (G → G') ∧ InvT (upd A k a') L' c ps G' := by
 have same : ∀ {l : List Ml}, (∀ x, L' x → L x ∨ x ∈ l) → (∀ x ∈ l, LetOk A c ps G x) → ∃ G' : Prop, (G → G') ∧ InvT (upd A k (A k)) L' c ps G' := fun {l} hL hx => by
  have e : upd A k (A k) = A := by funext i; unfold upd; split; · rename_i e; rw [e]
                                   ·rfl
  rw [e]
  exact ⟨G, id, h.same (fun x hx' => (hL x hx').imp id (hx x))⟩
 have turn : ∀ {l : List Ml} {G' : Prop}, (∀ x, L' x → L x ∨ x ∈ l) → SitOk (upd A k a') c ps G' ∧ GoOn A (upd A k a') c G G' → (G → G') → (∀ x ∈ l, LetOk (upd A k a') c ps G' x) → ∃ G' : Prop, (G → G') ∧ InvT (upd A k a') L' c ps G' := fun {l G'} hL hst hg hx => ⟨G', hg, h.on hst (fun x hx' => (hL x hx').imp id (hx x))⟩
 subst hk
 cases hs with
 | askY hk hp =>
   obtain ⟨h2, h3⟩ := hm.ask hk
   refine same hL (fun x hx => ?_)
   rw [List.mem_singleton.1 hx]
   exact ⟨fun e => by simp [rep5] at e, fun _ => ⟨h2, ⟨_, h3⟩, fun _ => hp⟩, fun e => by simp [rep5] at e, fun e => by simp [rep5] at e, fun e => by simp [rep5] at e, fun e => by simp [rep5] at e, fun e => by simp [rep5] at e⟩
 | askK hk hp hkp => exact same hL (fun x hx => by cases hx)
 | askN hk hp hkp hd =>
   obtain ⟨h2, h3⟩ := hm.ask hk
   refine same hL (fun x hx => ?_)
   rw [List.mem_singleton.1 hx]
   exact ⟨fun e => by simp [rep5] at e, fun e => by simp [rep5] at e, fun _ => ⟨h2, ⟨_, h3⟩, hd⟩, fun e => by simp [rep5] at e, fun e => by simp [rep5] at e, fun e => by simp [rep5] at e, fun e => by simp [rep5] at e⟩
 | askP hk hp hkp hd hq =>
   obtain ⟨h2, h3⟩ := hm.ask hk
   have hst := h.sit.promise h3 hp hkp hd
   rw [← h2] at hst
   refine turn hL (by rw [← h2]; exact hst) id (fun x hx => ?_)
   rw [List.mem_singleton.1 hx]
   refine ⟨fun e => by simp [rep5] at e, fun _ => ⟨h2, ⟨_, h3⟩, fun _ => ?_⟩, fun e => by simp [rep5] at e, fun e => by simp [rep5] at e, fun e => by simp [rep5] at e, fun e => by simp [rep5] at e, fun e => by simp [rep5] at e⟩
   show (upd A m.2.1 _ m.2.1).pr ≠ none
   rw [upd_same]; simp
 | askR hk hp hkp hd hq =>
   obtain ⟨h2, h3⟩ := hm.ask hk
   refine turn hL (h.sit.refuse ⟨_, h3⟩ hp hkp) id (fun x hx => ?_)
   rw [List.mem_singleton.1 hx]
   refine ⟨fun e => by simp [rep5] at e, fun e => by simp [rep5] at e, fun _ => ⟨h2, ⟨_, h3⟩, ?_⟩, fun e => by simp [rep5] at e, fun e => by simp [rep5] at e, fun e => by simp [rep5] at e, fun e => by simp [rep5] at e⟩
   show (upd A m.2.1 _ m.2.1).dr = true
   rw [upd_same]
 | yesMore d hk ho hne =>
   obtain ⟨h2, h3, h4⟩ := hm.yes hk
   have hpr := h4 (by rw [← h2, ho]; simp)
   obtain ⟨a1, a2, a3, a4, a5, a6⟩ := h.sit.op _ d ho
   have hst := h.sit.coord (some { d with miss := mdel d.miss m.1 }) (A c).gt (G' := G)
    (fun d' e => by
      injection e with e; subst e
      refine ⟨a2, a3, hne, fun f x hf => ?_, fun f hf hf2 => ?_⟩
      ·have := hf
       dsimp only at this
       rw [mget_del] at this
       split at this
       ·cases this
       ·exact a5 f x this
      ·dsimp only at hf2
       rw [mget_del] at hf2
       split at hf2
       ·rename_i e; rw [e]; exact hpr
       ·exact a6 f hf hf2)
    (fun d' e => (h.sit.gt c d' e).2) (fun hg hn => h.sit.fin hg hn) id (fun hg hn => absurd hg hn) (fun hg hn => absurd hg hn) (fun _ => by rw [← h2, ho]; simp)
   rw [← h2] at hst
   exact turn hL (by rw [← h2]; exact hst) id (fun x hx => by cases hx)
 | yesAll d hk ho hz =>
   obtain ⟨h2, h3, h4⟩ := hm.yes hk
   have hpr := h4 (by rw [← h2, ho]; simp)
   obtain ⟨a1, a2, a3, a4, a5, a6⟩ := h.sit.op _ d ho
   have hall : ∀ f, isP ps f → (A f).pr ≠ none := fun f hf => by
    by_cases hfe : f = m.1
    ·rw [hfe]; exact hpr
    ·exact a6 f hf (mdel_nil hz hfe)
   have hst := h.sit.coord none (some (dl0 d.parts)) (G' := True) (fun d' e => by cases e)
    (fun d' e => by
      injection e with e; subst e
      refine ⟨trivial, a3, ?_, fun f x hf => ?_, fun f hf hf2 => ?_⟩
      ·show missOf d.parts ≠ []
       rw [a3]; exact missOf_ne h1
      ·have hf : mget (missOf d.parts) f = some x := hf
       rw [missOf_at, a3] at hf
       split at hf
       ·rename_i hh; injection hf with hf; exact ⟨hh, hf.symm⟩
       ·cases hf
      ·have hf2 : mget (missOf d.parts) f = none := hf2
       rw [missOf_at, a3, if_pos (show ∃ x, (f, x) ∈ ps from hf)] at hf2
       cases hf2)
    (fun _ hn => by cases hn) (fun _ => trivial) (fun _ _ => hall) (fun _ _ => by rw [← h2, ho]; simp) (fun e => absurd rfl e)
   rw [← h2] at hst
   refine turn hL (by rw [← h2]; exact hst) (fun _ => trivial) (fun x hx => ?_)
   obtain ⟨p, hp, rfl⟩ := wr5_mem hx
   rw [a3] at hp
   exact ⟨fun e => by simp at e, fun e => by simp at e, fun e => by simp at e, fun _ => ⟨h2, ⟨p.2, hp⟩, trivial⟩, fun e => by simp at e, fun e => by simp at e, fun e => by simp at e⟩
 | yesShut hk ho hg =>
   obtain ⟨h2, h3, h4⟩ := hm.yes hk
   refine same hL (fun x hx => ?_)
   rw [List.mem_singleton.1 hx]
   exact ⟨fun e => by simp [rep5] at e, fun e => by simp [rep5] at e, fun e => by simp [rep5] at e, fun e => by simp [rep5] at e, fun _ => ⟨h2, h3, by rw [← h2]; exact ho, fun hG => h.sit.fin hG (by rw [← h2]; exact hg)⟩, fun e => by simp [rep5] at e, fun e => by simp [rep5] at e⟩
 | yesMiss d hk ho hg hv =>
   obtain ⟨h2, h3, h4⟩ := hm.yes hk
   refine same hL (fun x hx => ?_)
   rw [List.mem_singleton.1 hx]
   exact ⟨fun e => by simp [rep5] at e, fun e => by simp [rep5] at e, fun e => by simp [rep5] at e, fun _ => ⟨h2, h3, (h.sit.gt _ d hg).2.1⟩, fun e => by simp [rep5] at e, fun e => by simp [rep5] at e, fun e => by simp [rep5] at e⟩
 | yesHad d hk ho hg hv => exact same hL (fun x hx => by cases hx)
 | noOpen d hk ho =>
   obtain ⟨h2, h3, h4⟩ := hm.no hk
   obtain ⟨a1, a2, a3, a4, a5, a6⟩ := h.sit.op _ d ho
   have hst := h.sit.coord none (A c).gt (G' := G) (fun d' e => by cases e) (fun d' e => (h.sit.gt c d' e).2) (fun hg hn => h.sit.fin hg hn) id (fun hg hn => absurd hg hn) (fun hg hn => absurd hg hn) (fun e => absurd rfl e)
   rw [← h2] at hst
   refine turn hL (by rw [← h2]; exact hst) id (fun x hx => ?_)
   obtain ⟨p, hp, rfl⟩ := wr5_mem hx
   have hp2 := (List.mem_filter.1 hp).1
   rw [a3] at hp2
   refine ⟨fun e => by simp at e, fun e => by simp at e, fun e => by simp at e, fun e => by simp at e, fun _ => ⟨h2, ⟨p.2, hp2⟩, ?_, fun hG => absurd hG a2⟩, fun e => by simp at e, fun e => by simp at e⟩
   rw [h2, upd_same]
 | noShut hk ho => exact same hL (fun x hx => by cases hx)
 | comP hk hp =>
   obtain ⟨h2, h3, h4⟩ := hm.com hk
   have hst := h.sit.keep hp h4
   refine turn hL hst id (fun x hx => ?_)
   rw [List.mem_singleton.1 hx]
   refine ⟨fun e => by simp [rep5] at e, fun e => by simp [rep5] at e, fun e => by simp [rep5] at e, fun e => by simp [rep5] at e, fun e => by simp [rep5] at e, fun _ => ⟨h2, h3, ?_⟩, fun e => by simp [rep5] at e⟩
   show (upd A m.2.1 _ m.2.1).kp = true
   rw [upd_same]
 | comK hk hp hkp =>
   obtain ⟨h2, h3, h4⟩ := hm.com hk
   refine same hL (fun x hx => ?_)
   rw [List.mem_singleton.1 hx]
   exact ⟨fun e => by simp [rep5] at e, fun e => by simp [rep5] at e, fun e => by simp [rep5] at e, fun e => by simp [rep5] at e, fun e => by simp [rep5] at e, fun _ => ⟨h2, h3, hkp⟩, fun e => by simp [rep5] at e⟩
 | comN hk hp hkp => exact same hL (fun x hx => by cases hx)
 | aboP hk hp =>
   obtain ⟨h2, h3, h4, h5⟩ := hm.abo hk
   exact turn hL (h.sit.abort hp h4 h5) id (fun x hx => by cases hx)
 | aboN hk hp => exact same hL (fun x hx => by cases hx)
 | finMore d hk hg hne =>
   obtain ⟨h2, h3, h4⟩ := hm.don hk
   obtain ⟨a1, a2, a3, a4, a5, a6⟩ := h.sit.gt _ d hg
   have hst := h.sit.coord (A c).op (some { d with miss := mdel d.miss m.1 }) (G' := G) (fun d' e => (h.sit.op c d' e).2)
    (fun d' e => by
      injection e with e; subst e
      refine ⟨a2, a3, hne, fun f x hf => ?_, fun f hf hf2 => ?_⟩
      ·have := hf
       dsimp only at this
       rw [mget_del] at this
       split at this
       ·cases this
       ·exact a5 f x this
      ·dsimp only at hf2
       rw [mget_del] at hf2
       split at hf2
       ·rename_i e; rw [e]; exact h4
       ·exact a6 f hf hf2)
    (fun _ hn => by cases hn) id (fun hg hn => absurd hg hn) (fun hg hn => absurd hg hn) id
   rw [← h2] at hst
   exact turn hL (by rw [← h2]; exact hst) id (fun x hx => by cases hx)
 | finAll d hk hg hz =>
   obtain ⟨h2, h3, h4⟩ := hm.don hk
   obtain ⟨a1, a2, a3, a4, a5, a6⟩ := h.sit.gt _ d hg
   have hst := h.sit.coord (A c).op none (G' := G) (fun d' e => (h.sit.op c d' e).2) (fun d' e => by cases e)
    (fun _ _ f hf => by
      by_cases hfe : f = m.1
      ·rw [hfe]; exact h4
      ·exact a6 f hf (mdel_nil hz hfe)) id (fun hg hn => absurd hg hn) (fun hg hn => absurd hg hn) id
   rw [← h2] at hst
   exact turn hL (by rw [← h2]; exact hst) id (fun x hx => by cases hx)
 | finNo hk hg => exact same hL (fun x hx => by cases hx)
 | telG d hk hg =>
   obtain ⟨h2, h3⟩ := hm.wha hk
   refine same hL (fun x hx => ?_)
   rw [List.mem_singleton.1 hx]
   exact ⟨fun e => by simp [rep5] at e, fun e => by simp [rep5] at e, fun e => by simp [rep5] at e, fun _ => ⟨h2, h3, (h.sit.gt _ d hg).2.1⟩, fun e => by simp [rep5] at e, fun e => by simp [rep5] at e, fun e => by simp [rep5] at e⟩
 | telO d hk hg ho => exact same hL (fun x hx => by cases hx)
 | telN hk hg ho =>
   obtain ⟨h2, h3⟩ := hm.wha hk
   refine same hL (fun x hx => ?_)
   rw [List.mem_singleton.1 hx]
   exact ⟨fun e => by simp [rep5] at e, fun e => by simp [rep5] at e, fun e => by simp [rep5] at e, fun e => by simp [rep5] at e, fun _ => ⟨h2, h3, by rw [← h2]; exact ho, fun hG => h.sit.fin hG (by rw [← h2]; exact hg)⟩, fun e => by simp [rep5] at e, fun e => by simp [rep5] at e⟩

set_option maxRecDepth 100000
set_option maxHeartbeats 80000000

def Fr (L : Ml → Prop) (kd f : Int) : Prop := ∃ m, L m ∧ m.2.2.1 = kd ∧ m.1 = f
def To (L : Ml → Prop) (kd f : Int) : Prop := ∃ m, L m ∧ m.2.2.1 = kd ∧ m.2.1 = f
structure LivT (A : Int → At) (L : Ml → Prop) (c : Int) (K : Int → Prop) : Prop where
 op : ∀ d, (A c).op = some d → K c → ∀ f, mget d.miss f ≠ none → To L 1 f ∨ Fr L 2 f ∨ Fr L 3 f
 gt : ∀ d, (A c).gt = some d → K c → ∀ f, mget d.miss f ≠ none → To L 4 f ∨ Fr L 6 f
 pr : ∀ f, (A f).pr ≠ none → K f → (A c).op ≠ none ∨ Fr L 2 f ∨ Fr L 7 f ∨ To L 4 f ∨ To L 5 f
section
variable {L L' : Ml → Prop} {m : Ml}
theorem Fr.keep {kd f : Int} (h : Fr L kd f) (hO : ∀ x, L x → x ≠ m → L' x) (hn : m.2.2.1 = kd → m.1 ≠ f) : Fr L' kd f := by
 obtain ⟨x, h1, h2, h3⟩ := h
 exact ⟨x, hO x h1 (fun e => by subst e; exact hn h2 h3), h2, h3⟩
theorem To.keep {kd f : Int} (h : To L kd f) (hO : ∀ x, L x → x ≠ m → L' x) (hn : m.2.2.1 = kd → m.2.1 ≠ f) : To L' kd f := by
 obtain ⟨x, h1, h2, h3⟩ := h
 exact ⟨x, hO x h1 (fun e => by subst e; exact hn h2 h3), h2, h3⟩
theorem Fr.one {num k : Int} {l : List Ml} (hN : ∀ x ∈ l, L' x) (h : rep5 num m k ∈ l) : Fr L' k num := ⟨_, hN _ h, rfl, rfl⟩
theorem To.one {num k : Int} {l : List Ml} (hN : ∀ x ∈ l, L' x) (h : rep5 num m k ∈ l) : To L' k m.1 := ⟨_, hN _ h, rfl, rfl⟩
theorem To.wr {num k tx : Int} {ps : List Mv} (hN : ∀ x ∈ wr5 num k tx ps, L' x) {f x : Int} (h : (f, x) ∈ ps) : To L' k f := ⟨_, hN _ (List.mem_map_of_mem h), rfl, rfl⟩
end
theorem mdel_some {β : Type} {l : List (Int × β)} {a f : Int} (h : mget (mdel l a) f ≠ none) : f ≠ a ∧ mget l f ≠ none := by
 rw [mget_del] at h
 split at h
 ·exact absurd rfl h
 ·rename_i e; exact ⟨e, h⟩
theorem StepT.live {A : Int → At} {L L' : Ml → Prop} {c : Int} {ps : List Mv} {G : Prop} {k : Int} {q : Bool} {m : Ml} {a' : At} {l : List Ml} (hs : StepT (A k) k q m a' l) (h : InvT A L c ps G) (hk : m.2.1 = k) (hm : LetOk A c ps G m) (v : LivT A L c (fun _ => True)) (hO : ∀ x, L x → x ≠ m → L' x) (hN : ∀ x ∈ l, L' x) :
 LivT (upd A k a') L' c (fun _ => True) := by
 have hid : upd A k (A k) = A := by
  funext i; unfold upd
  split
  ·rename_i e; rw [e]
  ·rfl
 subst hk
 have prP : ∀ f, (A f).pr ≠ none → isP ps f := fun f hf => by
  cases hx : (A f).pr with
  | none => exact absurd hx hf
  | some y => obtain ⟨t, x⟩ := y; exact ⟨x, (h.sit.prom f t x hx).2⟩
 have opG : ∀ {k d}, (A k).op = some d → ¬ G := fun hx => (h.sit.op _ _ hx).2.1
 cases hs with
 | askY hk hp =>
   rw [hid]
   refine ⟨fun d hd _ f hf => ?_, fun d hd _ f hf => ?_, fun f hf _ => ?_⟩
   ·rcases v.op d hd trivial f hf with h1 | h1 | h1
    ·by_cases e : m.2.1 = f
     ·exact Or.inr (Or.inl (e ▸ Fr.one hN List.mem_cons_self))
     ·exact Or.inl (h1.keep hO (fun _ => e))
    ·exact Or.inr (Or.inl (h1.keep hO (fun e => by omega)))
    ·exact Or.inr (Or.inr (h1.keep hO (fun e => by omega)))
   ·exact (v.gt d hd trivial f hf).imp (fun h1 => h1.keep hO (fun e => by omega)) (fun h1 => h1.keep hO (fun e => by omega))
   ·exact (v.pr f hf trivial).imp id (fun h1 => h1.imp (fun h1 => h1.keep hO (fun e => by omega)) (fun h1 => h1.imp (fun h1 => h1.keep hO (fun e => by omega)) (fun h1 => h1.imp (fun h1 => h1.keep hO (fun e => by omega)) (fun h1 => h1.keep hO (fun e => by omega)))))
 | askK hk hp hkp =>
   rw [hid]
   refine ⟨fun d hd _ f hf => absurd (h.sit.kp _ hkp) (opG hd), fun d hd _ f hf => ?_, fun f hf _ => ?_⟩
   ·exact (v.gt d hd trivial f hf).imp (fun h1 => h1.keep hO (fun e => by omega)) (fun h1 => h1.keep hO (fun e => by omega))
   ·exact (v.pr f hf trivial).imp id (fun h1 => h1.imp (fun h1 => h1.keep hO (fun e => by omega)) (fun h1 => h1.imp (fun h1 => h1.keep hO (fun e => by omega)) (fun h1 => h1.imp (fun h1 => h1.keep hO (fun e => by omega)) (fun h1 => h1.keep hO (fun e => by omega)))))
 | askN hk hp hkp hd' =>
   rw [hid]
   refine ⟨fun d hd _ f hf => ?_, fun d hd _ f hf => ?_, fun f hf _ => ?_⟩
   ·rcases v.op d hd trivial f hf with h1 | h1 | h1
    ·by_cases e : m.2.1 = f
     ·exact Or.inr (Or.inr (e ▸ Fr.one hN List.mem_cons_self))
     ·exact Or.inl (h1.keep hO (fun _ => e))
    ·exact Or.inr (Or.inl (h1.keep hO (fun e => by omega)))
    ·exact Or.inr (Or.inr (h1.keep hO (fun e => by omega)))
   ·exact (v.gt d hd trivial f hf).imp (fun h1 => h1.keep hO (fun e => by omega)) (fun h1 => h1.keep hO (fun e => by omega))
   ·exact (v.pr f hf trivial).imp id (fun h1 => h1.imp (fun h1 => h1.keep hO (fun e => by omega)) (fun h1 => h1.imp (fun h1 => h1.keep hO (fun e => by omega)) (fun h1 => h1.imp (fun h1 => h1.keep hO (fun e => by omega)) (fun h1 => h1.keep hO (fun e => by omega)))))
 | askP hk hp hkp hd' hq =>
   have eo : (upd A m.2.1 { A m.2.1 with pr := some (m.1, m.2.2.2.2) } c).op = (A c).op ∧ (upd A m.2.1 { A m.2.1 with pr := some (m.1, m.2.2.2.2) } c).gt = (A c).gt := by
    unfold upd; split
    ·rename_i e; rw [e]; exact ⟨rfl, rfl⟩
    ·exact ⟨rfl, rfl⟩
   refine ⟨fun d hd _ f hf => ?_, fun d hd _ f hf => ?_, fun f hf _ => ?_⟩
   ·rw [eo.1] at hd
    rcases v.op d hd trivial f hf with h1 | h1 | h1
    ·by_cases e : m.2.1 = f
     ·exact Or.inr (Or.inl (e ▸ Fr.one hN List.mem_cons_self))
     ·exact Or.inl (h1.keep hO (fun _ => e))
    ·exact Or.inr (Or.inl (h1.keep hO (fun e => by omega)))
    ·exact Or.inr (Or.inr (h1.keep hO (fun e => by omega)))
   ·rw [eo.2] at hd
    exact (v.gt d hd trivial f hf).imp (fun h1 => h1.keep hO (fun e => by omega)) (fun h1 => h1.keep hO (fun e => by omega))
   ·rw [eo.1]
    by_cases e : f = m.2.1
    ·rw [e]; exact Or.inr (Or.inl (Fr.one hN List.mem_cons_self))
    ·rw [upd_ne e] at hf
     exact (v.pr f hf trivial).imp id (fun h1 => h1.imp (fun h1 => h1.keep hO (fun e => by omega)) (fun h1 => h1.imp (fun h1 => h1.keep hO (fun e => by omega)) (fun h1 => h1.imp (fun h1 => h1.keep hO (fun e => by omega)) (fun h1 => h1.keep hO (fun e => by omega)))))
 | askR hk hp hkp hd' hq =>
   have eo : (upd A m.2.1 { A m.2.1 with dr := true } c).op = (A c).op ∧ (upd A m.2.1 { A m.2.1 with dr := true } c).gt = (A c).gt := by
    unfold upd; split
    ·rename_i e; rw [e]; exact ⟨rfl, rfl⟩
    ·exact ⟨rfl, rfl⟩
   refine ⟨fun d hd _ f hf => ?_, fun d hd _ f hf => ?_, fun f hf _ => ?_⟩
   ·rw [eo.1] at hd
    rcases v.op d hd trivial f hf with h1 | h1 | h1
    ·by_cases e : m.2.1 = f
     ·exact Or.inr (Or.inr (e ▸ Fr.one hN List.mem_cons_self))
     ·exact Or.inl (h1.keep hO (fun _ => e))
    ·exact Or.inr (Or.inl (h1.keep hO (fun e => by omega)))
    ·exact Or.inr (Or.inr (h1.keep hO (fun e => by omega)))
   ·rw [eo.2] at hd
    exact (v.gt d hd trivial f hf).imp (fun h1 => h1.keep hO (fun e => by omega)) (fun h1 => h1.keep hO (fun e => by omega))
   ·rw [eo.1]
    by_cases e : f = m.2.1
    ·rw [e, upd_same] at hf; exact absurd hp hf
    ·rw [upd_ne e] at hf
     exact (v.pr f hf trivial).imp id (fun h1 => h1.imp (fun h1 => h1.keep hO (fun e => by omega)) (fun h1 => h1.imp (fun h1 => h1.keep hO (fun e => by omega)) (fun h1 => h1.imp (fun h1 => h1.keep hO (fun e => by omega)) (fun h1 => h1.keep hO (fun e => by omega)))))
 | yesMore d hk ho hne =>
   obtain ⟨h2, h3, h4⟩ := hm.yes hk
   refine ⟨fun d' hd _ f hf => ?_, fun d' hd _ f hf => ?_, fun f hf _ => Or.inl ?_⟩
   ·rw [← h2, upd_same] at hd
    injection hd with hd; subst hd
    obtain ⟨e1, e2⟩ := mdel_some hf
    rcases v.op d (by rw [← h2]; exact ho) trivial f e2 with h1 | h1 | h1
    ·exact Or.inl (h1.keep hO (fun e => by omega))
    ·exact Or.inr (Or.inl (h1.keep hO (fun _ e => e1 e.symm)))
    ·exact Or.inr (Or.inr (h1.keep hO (fun e => by omega)))
   ·rw [← h2, upd_same] at hd
    exact (v.gt d' (by rw [← h2]; exact hd) trivial f hf).imp (fun h1 => h1.keep hO (fun e => by omega)) (fun h1 => h1.keep hO (fun e => by omega))
   ·rw [← h2, upd_same]; simp
 | yesAll d hk ho hz =>
   obtain ⟨h2, h3, h4⟩ := hm.yes hk
   obtain ⟨a1, a2, a3, a4, a5, a6⟩ := h.sit.op _ d ho
   refine ⟨fun d' hd _ f hf => ?_, fun d' hd _ f hf => ?_, fun f hf _ => ?_⟩
   ·rw [← h2, upd_same] at hd; cases hd
   ·rw [← h2, upd_same] at hd
    injection hd with hd; subst hd
    have hf : mget (missOf d.parts) f ≠ none := hf
    rw [missOf_at] at hf
    split at hf
    ·rename_i hx; obtain ⟨x, hx⟩ := hx; exact Or.inl (To.wr hN hx)
    ·exact absurd rfl hf
   ·have hf' : (A f).pr ≠ none := by
     by_cases e : f = m.2.1
     ·rw [e, upd_same] at hf; rw [e]; exact hf
     ·rw [upd_ne e] at hf; exact hf
    obtain ⟨x, hx⟩ := prP f hf'
    rw [← a3] at hx
    exact Or.inr (Or.inr (Or.inr (Or.inl (To.wr hN hx))))
 | yesShut hk ho hg =>
   obtain ⟨h2, h3, h4⟩ := hm.yes hk
   rw [hid]
   refine ⟨fun d hd _ f hf => ?_, fun d hd _ f hf => ?_, fun f hf _ => ?_⟩
   ·rw [← h2, ho] at hd; cases hd
   ·rw [← h2, hg] at hd; cases hd
   ·rcases v.pr f hf trivial with h1 | h1 | h1 | h1 | h1
    ·exact absurd (by rw [← h2]; exact ho) h1
    ·by_cases e : m.1 = f
     ·exact Or.inr (Or.inr (Or.inr (Or.inr (e ▸ To.one hN List.mem_cons_self))))
     ·exact Or.inr (Or.inl (h1.keep hO (fun _ => e)))
    ·exact Or.inr (Or.inr (Or.inl (h1.keep hO (fun e => by omega))))
    ·exact Or.inr (Or.inr (Or.inr (Or.inl (h1.keep hO (fun e => by omega)))))
    ·exact Or.inr (Or.inr (Or.inr (Or.inr (h1.keep hO (fun e => by omega)))))
 | yesMiss d hk ho hg hv =>
   obtain ⟨h2, h3, h4⟩ := hm.yes hk
   rw [hid]
   refine ⟨fun d hd _ f hf => ?_, fun d hd _ f hf => ?_, fun f hf _ => ?_⟩
   ·rw [← h2, ho] at hd; cases hd
   ·exact (v.gt d hd trivial f hf).imp (fun h1 => h1.keep hO (fun e => by omega)) (fun h1 => h1.keep hO (fun e => by omega))
   ·rcases v.pr f hf trivial with h1 | h1 | h1 | h1 | h1
    ·exact absurd (by rw [← h2]; exact ho) h1
    ·by_cases e : m.1 = f
     ·exact Or.inr (Or.inr (Or.inr (Or.inl (e ▸ To.one hN List.mem_cons_self))))
     ·exact Or.inr (Or.inl (h1.keep hO (fun _ => e)))
    ·exact Or.inr (Or.inr (Or.inl (h1.keep hO (fun e => by omega))))
    ·exact Or.inr (Or.inr (Or.inr (Or.inl (h1.keep hO (fun e => by omega)))))
    ·exact Or.inr (Or.inr (Or.inr (Or.inr (h1.keep hO (fun e => by omega)))))
 | yesHad d hk ho hg hv =>
   obtain ⟨h2, h3, h4⟩ := hm.yes hk
   obtain ⟨a1, a2, a3, a4, a5, a6⟩ := h.sit.gt _ d hg
   rw [hid]
   refine ⟨fun d hd _ f hf => ?_, fun d hd _ f hf => ?_, fun f hf _ => ?_⟩
   ·rw [← h2, ho] at hd; cases hd
   ·exact (v.gt d hd trivial f hf).imp (fun h1 => h1.keep hO (fun e => by omega)) (fun h1 => h1.keep hO (fun e => by omega))
   ·rcases v.pr f hf trivial with h1 | h1 | h1 | h1 | h1
    ·exact absurd (by rw [← h2]; exact ho) h1
    ·by_cases e : m.1 = f
     ·exfalso
      subst e
      have hmn : mget d.miss m.1 = none := by
       cases hx : mget d.miss m.1 with
       | none => rfl
       | some b => have := (a5 _ _ hx).2; rw [hx, this] at hv; cases hv
      have h5 := a6 _ h3 hmn
      rw [((h.sit.one _).1 hf).1] at h5; cases h5
     ·exact Or.inr (Or.inl (h1.keep hO (fun _ => e)))
    ·exact Or.inr (Or.inr (Or.inl (h1.keep hO (fun e => by omega))))
    ·exact Or.inr (Or.inr (Or.inr (Or.inl (h1.keep hO (fun e => by omega)))))
    ·exact Or.inr (Or.inr (Or.inr (Or.inr (h1.keep hO (fun e => by omega)))))
 | noOpen d hk ho =>
   obtain ⟨h2, h3, h4⟩ := hm.no hk
   obtain ⟨a1, a2, a3, a4, a5, a6⟩ := h.sit.op _ d ho
   refine ⟨fun d' hd _ f hf => ?_, fun d' hd _ f hf => ?_, fun f hf _ => ?_⟩
   ·rw [← h2, upd_same] at hd; cases hd
   ·rw [← h2, upd_same] at hd
    exact absurd (h.sit.gt _ d' hd).2.1 a2
   ·have hf' : (A f).pr ≠ none := by
     by_cases e : f = m.2.1
     ·rw [e, upd_same] at hf; rw [e]; exact hf
     ·rw [upd_ne e] at hf; exact hf
    obtain ⟨x, hx⟩ := prP f hf'
    have hne : f ≠ m.1 := fun e => by
     have := ((h.sit.one f).1 hf').2
     rw [e, h4] at this; cases this
    refine Or.inr (Or.inr (Or.inr (Or.inr (To.wr hN (x := x) ?_))))
    unfold otherL
    rw [List.mem_filter, a3]
    exact ⟨hx, by simpa using hne⟩
 | noShut hk ho =>
   obtain ⟨h2, h3, h4⟩ := hm.no hk
   rw [hid]
   refine ⟨fun d hd _ f hf => ?_, fun d hd _ f hf => ?_, fun f hf _ => ?_⟩
   ·rw [← h2, ho] at hd; cases hd
   ·exact (v.gt d hd trivial f hf).imp (fun h1 => h1.keep hO (fun e => by omega)) (fun h1 => h1.keep hO (fun e => by omega))
   ·exact (v.pr f hf trivial).imp id (fun h1 => h1.imp (fun h1 => h1.keep hO (fun e => by omega)) (fun h1 => h1.imp (fun h1 => h1.keep hO (fun e => by omega)) (fun h1 => h1.imp (fun h1 => h1.keep hO (fun e => by omega)) (fun h1 => h1.keep hO (fun e => by omega)))))
 | comP hk hp =>
   obtain ⟨h2, h3, h4⟩ := hm.com hk
   have eo : (upd A m.2.1 { A m.2.1 with pr := none, kp := true } c).op = (A c).op ∧ (upd A m.2.1 { A m.2.1 with pr := none, kp := true } c).gt = (A c).gt := by
    unfold upd; split
    ·rename_i e; rw [e]; exact ⟨rfl, rfl⟩
    ·exact ⟨rfl, rfl⟩
   refine ⟨fun d hd _ f hf => ?_, fun d hd _ f hf => ?_, fun f hf _ => ?_⟩
   ·rw [eo.1] at hd; exact absurd h4 (opG hd)
   ·rw [eo.2] at hd
    rcases v.gt d hd trivial f hf with h1 | h1
    ·by_cases e : m.2.1 = f
     ·exact Or.inr (e ▸ Fr.one hN List.mem_cons_self)
     ·exact Or.inl (h1.keep hO (fun _ => e))
    ·exact Or.inr (h1.keep hO (fun e => by omega))
   ·rw [eo.1]
    by_cases e : f = m.2.1
    ·rw [e, upd_same] at hf; exact absurd rfl hf
    ·rw [upd_ne e] at hf
     exact (v.pr f hf trivial).imp id (fun h1 => h1.imp (fun h1 => h1.keep hO (fun e => by omega)) (fun h1 => h1.imp (fun h1 => h1.keep hO (fun e => by omega)) (fun h1 => h1.imp (fun h1 => h1.keep hO (fun _ e2 => e e2.symm)) (fun h1 => h1.keep hO (fun e => by omega)))))
 | comK hk hp hkp =>
   obtain ⟨h2, h3, h4⟩ := hm.com hk
   rw [hid]
   refine ⟨fun d hd _ f hf => absurd h4 (opG hd), fun d hd _ f hf => ?_, fun f hf _ => ?_⟩
   ·rcases v.gt d hd trivial f hf with h1 | h1
    ·by_cases e : m.2.1 = f
     ·exact Or.inr (e ▸ Fr.one hN List.mem_cons_self)
     ·exact Or.inl (h1.keep hO (fun _ => e))
    ·exact Or.inr (h1.keep hO (fun e => by omega))
   ·exact (v.pr f hf trivial).imp id (fun h1 => h1.imp (fun h1 => h1.keep hO (fun e => by omega)) (fun h1 => h1.imp (fun h1 => h1.keep hO (fun e => by omega)) (fun h1 => h1.imp (fun h1 => h1.keep hO (fun _ e2 => by rw [← e2] at hf; exact hf hp)) (fun h1 => h1.keep hO (fun e => by omega)))))
 | comN hk hp hkp =>
   obtain ⟨h2, h3, h4⟩ := hm.com hk
   rcases h.sit.pk h4 _ h3 with h5 | h5
   ·exact absurd hp h5
   ·rw [hkp] at h5; cases h5
 | aboP hk hp =>
   obtain ⟨h2, h3, h4, h5⟩ := hm.abo hk
   have eo : (upd A m.2.1 { A m.2.1 with pr := none, dr := true } c).op = (A c).op ∧ (upd A m.2.1 { A m.2.1 with pr := none, dr := true } c).gt = (A c).gt := by
    unfold upd; split
    ·rename_i e; rw [e]; exact ⟨rfl, rfl⟩
    ·exact ⟨rfl, rfl⟩
   refine ⟨fun d hd _ f hf => ?_, fun d hd _ f hf => ?_, fun f hf _ => ?_⟩
   ·rw [eo.1, h4] at hd; cases hd
   ·rw [eo.2] at hd
    exact (v.gt d hd trivial f hf).imp (fun h1 => h1.keep hO (fun e => by omega)) (fun h1 => h1.keep hO (fun e => by omega))
   ·rw [eo.1]
    by_cases e : f = m.2.1
    ·rw [e, upd_same] at hf; exact absurd rfl hf
    ·rw [upd_ne e] at hf
     exact (v.pr f hf trivial).imp id (fun h1 => h1.imp (fun h1 => h1.keep hO (fun e => by omega)) (fun h1 => h1.imp (fun h1 => h1.keep hO (fun e => by omega)) (fun h1 => h1.imp (fun h1 => h1.keep hO (fun e => by omega)) (fun h1 => h1.keep hO (fun _ e2 => e e2.symm)))))
 | aboN hk hp =>
   obtain ⟨h2, h3, h4, h5⟩ := hm.abo hk
   rw [hid]
   refine ⟨fun d hd _ f hf => ?_, fun d hd _ f hf => ?_, fun f hf _ => ?_⟩
   ·rw [h4] at hd; cases hd
   ·exact (v.gt d hd trivial f hf).imp (fun h1 => h1.keep hO (fun e => by omega)) (fun h1 => h1.keep hO (fun e => by omega))
   ·exact (v.pr f hf trivial).imp id (fun h1 => h1.imp (fun h1 => h1.keep hO (fun e => by omega)) (fun h1 => h1.imp (fun h1 => h1.keep hO (fun e => by omega)) (fun h1 => h1.imp (fun h1 => h1.keep hO (fun e => by omega)) (fun h1 => h1.keep hO (fun _ e2 => by rw [← e2] at hf; exact hf hp)))))
 | finMore d hk hg hne =>
   obtain ⟨h2, h3, h4⟩ := hm.don hk
   refine ⟨fun d' hd _ f hf => ?_, fun d' hd _ f hf => ?_, fun f hf _ => ?_⟩
   ·rw [← h2, upd_same] at hd
    exact absurd (h.sit.gt _ d hg).2.1 (opG hd)
   ·rw [← h2, upd_same] at hd
    injection hd with hd; subst hd
    obtain ⟨e1, e2⟩ := mdel_some hf
    rcases v.gt d (by rw [← h2]; exact hg) trivial f e2 with h1 | h1
    ·exact Or.inl (h1.keep hO (fun e => by omega))
    ·exact Or.inr (h1.keep hO (fun _ e => e1 e.symm))
   ·have hf' : (A f).pr ≠ none := by
     by_cases e : f = m.2.1
     ·rw [e, upd_same] at hf; rw [e]; exact hf
     ·rw [upd_ne e] at hf; exact hf
    refine (v.pr f hf' trivial).imp (fun h1 => ?_) (fun h1 => h1.imp (fun h1 => h1.keep hO (fun e => by omega)) (fun h1 => h1.imp (fun h1 => h1.keep hO (fun e => by omega)) (fun h1 => h1.imp (fun h1 => h1.keep hO (fun e => by omega)) (fun h1 => h1.keep hO (fun e => by omega)))))
    rw [← h2, upd_same]
    rw [← h2] at h1
    exact h1
 | finAll d hk hg hz =>
   obtain ⟨h2, h3, h4⟩ := hm.don hk
   refine ⟨fun d' hd _ f hf => ?_, fun d' hd _ f hf => ?_, fun f hf _ => ?_⟩
   ·rw [← h2, upd_same] at hd
    exact absurd (h.sit.gt _ d hg).2.1 (opG hd)
   ·rw [← h2, upd_same] at hd; cases hd
   ·have hf' : (A f).pr ≠ none := by
     by_cases e : f = m.2.1
     ·rw [e, upd_same] at hf; rw [e]; exact hf
     ·rw [upd_ne e] at hf; exact hf
    refine (v.pr f hf' trivial).imp (fun h1 => ?_) (fun h1 => h1.imp (fun h1 => h1.keep hO (fun e => by omega)) (fun h1 => h1.imp (fun h1 => h1.keep hO (fun e => by omega)) (fun h1 => h1.imp (fun h1 => h1.keep hO (fun e => by omega)) (fun h1 => h1.keep hO (fun e => by omega)))))
    rw [← h2, upd_same]
    rw [← h2] at h1
    exact h1
 | finNo hk hg =>
   obtain ⟨h2, h3, h4⟩ := hm.don hk
   rw [hid]
   refine ⟨fun d hd _ f hf => ?_, fun d hd _ f hf => ?_, fun f hf _ => ?_⟩
   ·exact absurd (h.sit.kp _ h4) (opG hd)
   ·rw [← h2, hg] at hd; cases hd
   ·exact (v.pr f hf trivial).imp id (fun h1 => h1.imp (fun h1 => h1.keep hO (fun e => by omega)) (fun h1 => h1.imp (fun h1 => h1.keep hO (fun e => by omega)) (fun h1 => h1.imp (fun h1 => h1.keep hO (fun e => by omega)) (fun h1 => h1.keep hO (fun e => by omega)))))
 | telG d hk hg =>
   obtain ⟨h2, h3⟩ := hm.wha hk
   rw [hid]
   refine ⟨fun d' hd _ f hf => ?_, fun d hd _ f hf => ?_, fun f hf _ => ?_⟩
   ·exact absurd (h.sit.gt _ d hg).2.1 (opG hd)
   ·exact (v.gt d hd trivial f hf).imp (fun h1 => h1.keep hO (fun e => by omega)) (fun h1 => h1.keep hO (fun e => by omega))
   ·rcases v.pr f hf trivial with h1 | h1 | h1 | h1 | h1
    ·exact Or.inl h1
    ·exact Or.inr (Or.inl (h1.keep hO (fun e => by omega)))
    ·by_cases e : m.1 = f
     ·exact Or.inr (Or.inr (Or.inr (Or.inl (e ▸ To.one hN List.mem_cons_self))))
     ·exact Or.inr (Or.inr (Or.inl (h1.keep hO (fun _ => e))))
    ·exact Or.inr (Or.inr (Or.inr (Or.inl (h1.keep hO (fun e => by omega)))))
    ·exact Or.inr (Or.inr (Or.inr (Or.inr (h1.keep hO (fun e => by omega)))))
 | telO d hk hg ho =>
   obtain ⟨h2, h3⟩ := hm.wha hk
   rw [hid]
   refine ⟨fun d' hd _ f hf => ?_, fun d hd _ f hf => ?_, fun f hf _ => Or.inl ?_⟩
   ·exact (v.op d' hd trivial f hf).imp (fun h1 => h1.keep hO (fun e => by omega)) (fun h1 => h1.imp (fun h1 => h1.keep hO (fun e => by omega)) (fun h1 => h1.keep hO (fun e => by omega)))
   ·exact (v.gt d hd trivial f hf).imp (fun h1 => h1.keep hO (fun e => by omega)) (fun h1 => h1.keep hO (fun e => by omega))
   ·rw [← h2, ho]; simp
 | telN hk hg ho =>
   obtain ⟨h2, h3⟩ := hm.wha hk
   rw [hid]
   refine ⟨fun d' hd _ f hf => ?_, fun d hd _ f hf => ?_, fun f hf _ => ?_⟩
   ·rw [← h2, ho] at hd; cases hd
   ·rw [← h2, hg] at hd; cases hd
   ·rcases v.pr f hf trivial with h1 | h1 | h1 | h1 | h1
    ·exact Or.inl h1
    ·exact Or.inr (Or.inl (h1.keep hO (fun e => by omega)))
    ·by_cases e : m.1 = f
     ·exact Or.inr (Or.inr (Or.inr (Or.inr (e ▸ To.one hN List.mem_cons_self))))
     ·exact Or.inr (Or.inr (Or.inl (h1.keep hO (fun _ => e))))
    ·exact Or.inr (Or.inr (Or.inr (Or.inl (h1.keep hO (fun e => by omega)))))
    ·exact Or.inr (Or.inr (Or.inr (Or.inr (h1.keep hO (fun e => by omega)))))

end Go.Proofs.YtobcdkjomehdkaaGreat
