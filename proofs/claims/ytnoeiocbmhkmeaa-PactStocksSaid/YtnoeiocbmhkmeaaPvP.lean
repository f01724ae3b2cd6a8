/- Layer 5: a site that has ticked has no letter lost.
Layer 5: what a site has is what it had and the changes that it kept.
Layer 5: nets whose transactions have known parts: what the calls of a law make of them, and what they are when all is settled. -/
import Derived.Test.YtnoeiocbmhkmeaaPvM
namespace Go.Proofs.Ytnoeiocbmhkmeaa
set_option linter.unusedSimpArgs false

theorem keyS_mem {β : Type} {l : List (Int × β)} {t : Int} {x : β} (h : mget l t = some x) : t ∈ keysS l := (keysS_perm l).mem_iff.2 (List.mem_map.2 ⟨(t, x), mget_some h, rfl⟩)
theorem tik_all {N : Nx} {i : Int} {k : Nat} {s : Sx} (hr : refD N i = 0) (hi : i = (k : Int)) (hk : N.sites[k]? = some s) (ho : OkN N) (hm : (tikI N i).mail.length < 1024) : tikI N i = { N with mail := N.mail ++ remL s } := by
  subst hi
  unfold tikI at hm ⊢
  rw [if_pos hr, show ((k : Int)).toNat = k from rfl, hk] at hm ⊢
  dsimp only at hm ⊢
  have h1 := ho.room
  rw [List.length_append, List.length_take] at hm
  rw [List.take_of_length_le (by omega)]
/-- A tick speaks of all that the site waits for. -/
theorem tik_live {N : Nx} {co : Int → Int} {pa : Int → List Mv} {G : Int → Prop} {K : Int → Prop} (h : Inv N co pa G) (ho : OkN N) (v : Liv N co K) {k : Nat} {s : Sx} (hk : N.sites[k]? = some s) : Liv { N with mail := N.mail ++ remL s } co (fun f => K f ∨ f = (k : Int)) := by
  have hs := ho.site k s hk
  intro t h1 h2
  have v1 := v t h1 h2
  have hI := (h.tx t h1 h2).sit
  have hO : ∀ x, lets N t x → lets { N with mail := N.mail ++ remL s } t x := fun x hx => ⟨List.mem_append_left _ hx.1, hx.2⟩
  have fr : ∀ {kd f}, Fr (lets N t) kd f → Fr (lets { N with mail := N.mail ++ remL s } t) kd f := fun ⟨x, h1, h2⟩ => ⟨x, hO x h1, h2⟩
  have tt : ∀ {kd f}, To (lets N t) kd f → To (lets { N with mail := N.mail ++ remL s } t) kd f := fun ⟨x, h1, h2⟩ => ⟨x, hO x h1, h2⟩
  have hat : atN { N with mail := N.mail ++ remL s } t = atN N t := rfl
  rw [hat]
  refine ⟨fun d hd hK f hf => ?_, fun d hd hK f hf => ?_, fun f hf hK => ?_⟩
  · rcases hK with hK | hK
    · exact (v1.op d hd hK f hf).imp tt (fun h1 => h1.imp fr fr)
    · obtain ⟨-, -, a3, -, a5, -⟩ := hI.op _ d hd
      rw [hK, atN_of hk] at hd
      have hd : mget s.opn t = some d := hd
      obtain ⟨x, hx⟩ : ∃ x, mget d.miss f = some x := by
        cases hq : mget d.miss f with
        | none => exact absurd hq hf
        | some x => exact ⟨x, rfl⟩
      obtain ⟨⟨y, hy⟩, rfl⟩ := a5 f x hx
      have hp : (f, y) ∈ missL d.parts d.miss := List.mem_filter.2 ⟨by rw [a3]; exact hy, by dsimp only; rw [hx]; rfl⟩
      refine Or.inl ⟨wrM s 1 t (f, y), ⟨List.mem_append_right _ ?_, rfl⟩, rfl, rfl⟩
      unfold remL
      refine List.mem_append_left _ (List.mem_append_left _ (List.mem_flatMap.2 ⟨t, keyS_mem hd, ?_⟩))
      unfold askT
      rw [hd]
      exact List.mem_map_of_mem hp
  · rcases hK with hK | hK
    · exact (v1.gt d hd hK f hf).imp tt fr
    · obtain ⟨-, -, a3, -, a5, -⟩ := hI.gt _ d hd
      rw [hK, atN_of hk] at hd
      have hd : mget s.grt t = some d := hd
      obtain ⟨x, hx⟩ : ∃ x, mget d.miss f = some x := by
        cases hq : mget d.miss f with
        | none => exact absurd hq hf
        | some x => exact ⟨x, rfl⟩
      obtain ⟨⟨y, hy⟩, rfl⟩ := a5 f x hx
      have hp : (f, y) ∈ missL d.parts d.miss := List.mem_filter.2 ⟨by rw [a3]; exact hy, by dsimp only; rw [hx]; rfl⟩
      refine Or.inl ⟨wrM s 4 t (f, y), ⟨List.mem_append_right _ ?_, rfl⟩, rfl, rfl⟩
      unfold remL
      refine List.mem_append_left _ (List.mem_append_right _ (List.mem_flatMap.2 ⟨t, keyS_mem hd, ?_⟩))
      unfold comT
      rw [hd]
      exact List.mem_map_of_mem hp
  · rcases hK with hK | hK
    · exact (v1.pr f hf hK).imp id (fun h1 => h1.imp fr (fun h1 => h1.imp fr (fun h1 => h1.imp tt tt)))
    · rw [hK, atN_of hk] at hf
      obtain ⟨x, hx⟩ : ∃ x, mget s.prom t = some x := by
        cases hq : mget s.prom t with
        | none => exact absurd hq hf
        | some x => exact ⟨x, rfl⟩
      refine Or.inr (Or.inr (Or.inl ⟨whaT s t, ⟨List.mem_append_right _ ?_, rfl⟩, rfl, ?_⟩))
      · unfold remL
        exact List.mem_append_right _ (List.mem_map_of_mem (keyS_mem hx))
      · show s.num = f
        rw [hK, hs.2]
/-- Nothing is asked of sites that have not ticked. -/
theorem live_none (N : Nx) (co : Int → Int) : Liv N co (fun _ => False) := fun _ _ _ => ⟨fun _ _ h => h.elim, fun _ _ h => h.elim, fun _ _ h => h.elim⟩
/-- All sites of the net have ticked. -/
theorem live_all {N : Nx} {co : Int → Int} {pa : Int → List Mv} {G : Int → Prop} {K : Int → Prop} (h : Inv N co pa G) (v : Liv N co K) (hK : ∀ f, 0 ≤ f → f < (N.sites.length : Int) → K f) : Liv N co (fun _ => True) := fun t h1 h2 => by
  have v1 := v t h1 h2
  have hc := (h.ok t h1 h2).1
  have hKc := hK _ hc.1 hc.2
  refine ⟨fun d hd _ f hf => v1.op d hd hKc f hf, fun d hd _ f hf => v1.gt d hd hKc f hf, fun f hf _ => v1.pr f hf ?_⟩
  by_cases hr : f < 0 ∨ (N.sites.length : Int) ≤ f
  · rw [atN_out hr] at hf
    exact absurd rfl hf
  · exact hK f (by omega) (by omega)
theorem mget_all_none {β : Type} {l : List (Int × β)} (h : ∀ t, mget l t = none) : l = [] := by
  cases l with
  | nil => rfl
  | cons p r => exact absurd rfl (mget_none.1 (h p.1) p List.mem_cons_self)
/-- Without letters, and with all ticked, the net is settled. -/
theorem live_settled {N : Nx} {co : Int → Int} {pa : Int → List Mv} {G : Int → Prop} (h : Inv N co pa G) (v : Liv N co (fun _ => True)) (hm : N.mail = []) : ∀ s ∈ N.sites, s.opn = [] ∧ s.grt = [] ∧ s.prom = [] := fun s hs => by
  obtain ⟨k, hk⟩ := List.mem_iff_getElem?.1 hs
  have key : ∀ t, mget s.opn t = none ∧ mget s.grt t = none ∧ mget s.prom t = none := fun t => by
    have e := atN_of hk t
    by_cases ht : 1 ≤ t ∧ t ≤ N.begun
    · have := quiet (h.tx t ht.1 ht.2) (v t ht.1 ht.2) (fun m hm2 => by have := hm2.1; rw [hm] at this; cases this) (k : Int)
      rw [e] at this
      exact this
    · have := h.fresh t (k : Int) (by omega)
      rw [e] at this
      exact ⟨congrArg At.op this, congrArg At.gt this, congrArg At.pr this⟩
  exact ⟨mget_all_none (fun t => (key t).1), mget_all_none (fun t => (key t).2.1), mget_all_none (fun t => (key t).2.2)⟩
/-- How many letters may still come, at most. -/
theorem phi_max {N : Nx} (ho : OkN N) {b : Nat} (hb : N.begun ≤ (b : Int)) (h8 : N.sites.length ≤ 8) : phi N ≤ 4096 + 136 * b := by
  have hw : ∀ l : List Ml, wts l ≤ 4 * l.length := fun l => by
    induction l with
    | nil => simp [wts]
    | cons m r ih =>
      have e : wts (m :: r) = wt m + wts r := by simp [wts]
      have : wt m ≤ 4 := by unfold wt; repeat' split
                            all_goals omega
      rw [e, List.length_cons]; omega
  have hs : ∀ s ∈ N.sites, s.opn.length ≤ b := fun s hs => by
    obtain ⟨k, hk⟩ := List.mem_iff_getElem?.1 hs
    have h1 := (ho.site k s hk).1
    have h2 : (s.opn.map (fun p => p.1.toNat)).Nodup := by
      rw [List.nodup_iff_pairwise_ne, List.pairwise_map]
      refine h1.opnA.imp_of_mem ?_
      intro p r hp hr hne e
      have := (h1.opn p hp).1
      have := (h1.opn r hr).1
      omega
    have h3 := List.Nodup.length_le_of_subset h2 (l₂ := (List.range b).map (· + 1)) (fun x hx => by
      obtain ⟨e, he, rfl⟩ := List.mem_map.1 hx
      have := (h1.opn e he).1
      refine List.mem_map.2 ⟨e.1.toNat - 1, List.mem_range.2 (by omega), by omega⟩)
    simpa using h3
  have ho2 : ∀ l : List Sx, (∀ s ∈ l, s.opn.length ≤ b) → (l.map (fun s => s.opn.length)).sum ≤ l.length * b := fun l => by
    induction l with
    | nil => intro _; simp
    | cons s r ih =>
      intro hl
      have h1 := ih (fun x hx => hl x (List.mem_cons_of_mem _ hx))
      have h2 := hl s List.mem_cons_self
      rw [List.map_cons, List.sum_cons, List.length_cons, Nat.add_mul]
      omega
  have h1 := hw N.mail
  have h2 := ho2 N.sites hs
  have h3 := ho.room
  have h4 : N.sites.length * b ≤ 8 * b := Nat.mul_le_mul_right _ h8
  unfold phi opens
  omega

end Go.Proofs.Ytnoeiocbmhkmeaa

namespace Go.Proofs.Ytnoeiocbmhkmeaa
set_option linter.unusedSimpArgs false

/-- A transaction's change at a site. -/
def chg (ps : List Mv) (i : Int) : Int := ((ps.filter (fun p => p.1 == i)).map (·.2)).sum
theorem chg_of {q : Nat} : ∀ {ps : List Mv}, (ps.map (·.1)).Nodup → ∀ {i x : Int}, (i, x) ∈ ps → chg ps i = x
  | [], _, i, x, h => by cases h
  | p :: r, hn, i, x, h => by
    rw [List.map_cons, List.nodup_cons] at hn
    unfold chg
    rcases List.mem_cons.1 h with rfl | h
    · have hr : r.filter (fun p => p.1 == i) = [] := by
        rw [List.filter_eq_nil_iff]
        intro y hy e
        exact hn.1 (List.mem_map.2 ⟨y, hy, by simpa using e⟩)
      rw [List.filter_cons_of_pos (by simp), hr]
      simp
    · have hne : p.1 ≠ i := fun e => hn.1 (List.mem_map.2 ⟨(i, x), h, e.symm⟩)
      rw [List.filter_cons_of_neg (by simpa using hne)]
      exact chg_of (q := q) hn.2 h
/-- The changes that a site kept. -/
def kpS (N : Nx) (pa : Int → List Mv) (b : Nat) (i : Int) : Int := ((List.range b).map (fun (j : Nat) => if (atN N ((j : Int) + 1) i).kp then chg (pa ((j : Int) + 1)) i else 0)).sum
theorem sum_same {b : Nat} {f g : Nat → Int} (h : ∀ j, j < b → f j = g j) : ((List.range b).map f).sum = ((List.range b).map g).sum := by
  rw [List.map_congr_left (fun j hj => h j (List.mem_range.1 hj))]
theorem sum_one : ∀ {b : Nat} {f g : Nat → Int} {j : Nat} {x : Int}, j < b → g j = f j + x → (∀ r, r < b → r ≠ j → g r = f r) → ((List.range b).map g).sum = ((List.range b).map f).sum + x
  | 0, f, g, j, x, hj, _, _ => by omega
  | b + 1, f, g, j, x, hj, h1, h2 => by
    rw [List.range_succ, List.map_append, List.map_append, List.sum_append, List.sum_append]
    simp only [List.map_cons, List.map_nil, List.sum_cons, List.sum_nil]
    by_cases e : j = b
    · subst e
      rw [sum_same (g := f) (fun r hr => h2 r (by omega) (by omega)), h1]
      omega
    · rw [sum_one (j := j) (x := x) (by omega) h1 (fun r hr hne => h2 r (by omega) hne), h2 b (by omega) (fun e2 => e e2.symm)]
      omega
/-- What a letter makes of a stock. -/
theorem hanK_stock (s : Sx) (m : Ml) : (∃ c x, mget s.prom m.2.2.2.1 = some (c, x) ∧ (han s m).1.stock = s.stock + x ∧ ∀ t, (atS (han s m).1 t).kp = if t = m.2.2.2.1 then true else (atS s t).kp) ∨ ((han s m).1.stock = s.stock ∧ ∀ t, (atS (han s m).1 t).kp = (atS s t).kp) := by
  unfold han
  repeat' split
  · refine Or.inr ?_
    unfold askS
    repeat' split
    all_goals exact ⟨rfl, fun _ => rfl⟩
  · refine Or.inr ?_
    unfold agrS
    repeat' split
    all_goals exact ⟨rfl, fun _ => rfl⟩
  · refine Or.inr ?_
    unfold disS
    repeat' split
    all_goals exact ⟨rfl, fun _ => rfl⟩
  · unfold keepS
    cases h : mget s.prom m.2.2.2.1 with
    | none => exact Or.inr ⟨by simp, fun _ => by simp⟩
    | some d =>
      obtain ⟨c, x⟩ := d
      refine Or.inl ⟨c, x, rfl, by simp, fun t => ?_⟩
      simp only [Option.isSome_some, if_true]
      unfold atS
      dsimp only
      rw [mget_put]
      split <;> rfl
  · refine Or.inr ?_
    unfold aboS
    repeat' split
    all_goals exact ⟨rfl, fun _ => rfl⟩
  · refine Or.inr ?_
    unfold finS
    repeat' split
    all_goals exact ⟨rfl, fun _ => rfl⟩
  · exact Or.inr ⟨rfl, fun _ => rfl⟩
/-- Every stock is what it was, and the changes that the site kept. -/
def Stk (N : Nx) (pa : Int → List Mv) (own : List Int) : Prop := own.length = N.sites.length ∧ ∀ (k : Nat) (s : Sx), N.sites[k]? = some s → s.stock = own.getD k 0 + kpS N pa N.begun.toNat (k : Int)
theorem Stk.set {N : Nx} {pa : Int → List Mv} {own : List Int} (h : Stk N pa own) {k : Nat} {s : Sx} (hk : N.sites[k]? = some s) (s' : Sx) (ml : List Ml) (h1 : s'.stock = s.stock) (h2 : ∀ t, (atS s' t).kp = (atS s t).kp) : Stk { N with sites := N.sites.set k s', mail := ml } pa own := by
  have e : ∀ t i, (atN { N with sites := N.sites.set k s', mail := ml } t i).kp = (atN N t i).kp := fun t i => by
    have := atN_set (N := N) hk s' ml N.begun t
    rw [show ({ N with sites := N.sites.set k s', mail := ml } : Nx) = { N with sites := N.sites.set k s', mail := ml, begun := N.begun } from rfl, this]
    unfold upd
    split
    · rename_i e; rw [e, atN_of hk]; exact h2 t
    · rfl
  have e2 : ∀ i, kpS { N with sites := N.sites.set k s', mail := ml } pa N.begun.toNat i = kpS N pa N.begun.toNat i := fun i => by
    unfold kpS
    exact sum_same (fun j _ => by rw [e])
  refine ⟨by simpa using h.1, fun j u hu => ?_⟩
  dsimp only at hu ⊢
  rw [e2]
  rw [List.getElem?_set] at hu
  split at hu
  · rename_i e
    subst e
    split at hu
    · injection hu with hu
      subst hu
      rw [h1]; exact h.2 _ s hk
    · cases hu
  · exact h.2 j u hu
theorem hand_stk {N : Nx} {co : Int → Int} {pa : Int → List Mv} {G : Int → Prop} {own : List Int} (h : Stk N pa own) (hi : Inv N co pa G) {m : Ml} (hm : OkM N.sites.length N.begun m) : Stk (handN N m) pa own := by
  unfold handN
  split
  · exact h
  rename_i s hs
  split
  · rcases hanK_stock s m with ⟨c, x, h1, h2, h3⟩ | ⟨h1, h2⟩
    · have hd := hm.dst
      have htx := hm.tx
      obtain ⟨k, hk⟩ : ∃ k : Nat, m.2.1 = (k : Int) := ⟨m.2.1.toNat, by omega⟩
      rw [hk, show ((k : Int)).toNat = k from rfl] at hs ⊢
      have hI := hi.tx _ hm.tx.1 hm.tx.2
      have hp : (atN N m.2.2.2.1 (k : Int)).pr = some (c, x) := by rw [atN_of hs]; exact h1
      have hkp : (atN N m.2.2.2.1 (k : Int)).kp = false := ((hI.sit.one (k : Int)).1 (by rw [hp]; simp)).1
      have hmem := (hI.sit.prom (k : Int) c x hp).2
      have hch : chg (pa m.2.2.2.1) (k : Int) = x := chg_of (q := N.sites.length) (hi.ok _ hm.tx.1 hm.tx.2).2.nod hmem
      refine ⟨by simpa using h.1, fun j u hu => ?_⟩
      have e : ∀ t i, atN { N with sites := N.sites.set k (han s m).1, mail := N.mail ++ (han s m).2.take (1024 - N.mail.length) } t i = upd (atN N t) (k : Int) (atS (han s m).1 t) i := fun t i => by rw [← atN_set (N := N) hs (han s m).1 _ N.begun t]
      dsimp only at hu ⊢
      rw [List.getElem?_set] at hu
      have hj0 : m.2.2.2.1.toNat - 1 < N.begun.toNat := by have := hm.tx; omega
      have hcast : (((m.2.2.2.1.toNat - 1 : Nat) : Int)) + 1 = m.2.2.2.1 := by have := hm.tx; omega
      by_cases e2 : k = j
      · subst e2
        rw [if_pos rfl] at hu
        split at hu
        · injection hu with hu
          subst hu
          rw [h2, h.2 _ s hs]
          have : kpS { N with sites := N.sites.set k (han s m).1, mail := N.mail ++ (han s m).2.take (1024 - N.mail.length) } pa N.begun.toNat (k : Int) = kpS N pa N.begun.toNat (k : Int) + x := by
            unfold kpS
            refine sum_one (j := m.2.2.2.1.toNat - 1) hj0 ?_ (fun r hr hne => ?_)
            · rw [e, upd_same, h3, hcast, if_pos rfl, if_pos rfl, hkp, hch]
              simp
            · rw [e, upd_same, h3, if_neg (show ¬ ((r : Int) + 1 = m.2.2.2.1) by omega), atN_of hs]
          rw [this]
          omega
        · cases hu
      · rw [if_neg e2] at hu
        rw [h.2 j u hu]
        congr 1
        unfold kpS
        refine sum_same (fun r _ => ?_)
        rw [e, upd_ne (by omega)]
    · exact h.set hs _ _ h1 h2
  · exact h

end Go.Proofs.Ytnoeiocbmhkmeaa

namespace Go.Proofs.Ytnoeiocbmhkmeaa
set_option linter.unusedSimpArgs false

/-- The parts of the transactions, by their numbers. -/
def paA (all : List (List Mv)) (t : Int) : List Mv := all.getD (t.toNat - 1) []
theorem paA_snoc (all : List (List Mv)) (ps : List Mv) {t : Int} (h1 : 1 ≤ t) (h2 : t ≤ (all.length : Int) + 1) : paA (all ++ [ps]) t = if t = (all.length : Int) + 1 then ps else paA all t := by
  unfold paA
  rw [List.getD_eq_getElem?_getD, List.getD_eq_getElem?_getD]
  split
  · rename_i e
    rw [List.getElem?_append_right (by omega), show t.toNat - 1 - all.length = 0 by omega]
    rfl
  · rw [List.getElem?_append_left (by omega)]
theorem Inv.pa {N : Nx} {co : Int → Int} {pa pa' : Int → List Mv} {G : Int → Prop} (h : Inv N co pa G) (e : ∀ t, 1 ≤ t → t ≤ N.begun → pa' t = pa t) : Inv N co pa' G :=
  ⟨fun t h1 h2 => by rw [e t h1 h2]; exact h.tx t h1 h2, fun t h1 h2 => by rw [e t h1 h2]; exact h.ok t h1 h2, h.fresh⟩
theorem Stk.pa {N : Nx} {pa pa' : Int → List Mv} {own : List Int} (h : Stk N pa own) (e : ∀ t, 1 ≤ t → t ≤ N.begun → pa' t = pa t) : Stk N pa' own :=
  ⟨h.1, fun k s hk => by
    rw [h.2 k s hk]
    congr 1
    unfold kpS
    exact sum_same (fun j hj => by rw [e ((j : Int) + 1) (by omega) (by omega)])⟩
theorem Stk.mail {N : Nx} {pa : Int → List Mv} {own : List Int} (h : Stk N pa own) (ml : List Ml) : Stk { N with mail := ml } pa own := h
theorem LivT.mono {A : Int → At} {L : Ml → Prop} {c : Int} {K K' : Int → Prop} (v : LivT A L c K) (h : ∀ f, K' f → K f) : LivT A L c K' :=
  ⟨fun d hd hK f hf => v.op d hd (h _ hK) f hf, fun d hd hK f hf => v.gt d hd (h _ hK) f hf, fun f hf hK => v.pr f hf (h _ hK)⟩
theorem Liv.mono {N : Nx} {co : Int → Int} {K K' : Int → Prop} (v : Liv N co K) (h : ∀ f, K' f → K f) : Liv N co K' := fun t h1 h2 => (v t h1 h2).mono h
/-- What is true of a net whose transactions have these parts. -/
structure Cm (N : Nx) (own : List Int) (all : List (List Mv)) (K : Int → Prop) : Prop where
  ok : OkN N
  len : N.begun = (all.length : Int)
  inv : ∃ co G, Inv N co (paA all) G ∧ Liv N co K
  stk : Stk N (paA all) own
theorem Cm.good {N : Nx} {own : List Int} {all : List (List Mv)} {K : Int → Prop} (h : Cm N own all K) : Good N := by
  obtain ⟨co, G, hi, -⟩ := h.inv
  exact ⟨h.ok, co, _, G, hi⟩
theorem Cm.mono {N : Nx} {own : List Int} {all : List (List Mv)} {K K' : Int → Prop} (h : Cm N own all K) (hK : ∀ f, K' f → K f) : Cm N own all K' := by
  obtain ⟨co, G, hi, v⟩ := h.inv
  exact ⟨h.ok, h.len, ⟨co, G, hi, v.mono hK⟩, h.stk⟩
/-- A new net. -/
theorem cm_new {l : List Int} (h : okStocks l = true) : Cm (newN l) l [] (fun _ => False) := by
  have hb : (newN l).begun = 0 := rfl
  obtain ⟨-, co, pa, G, hi⟩ := newN_good h
  refine ⟨newN_ok h, rfl, ⟨co, G, hi.pa (fun t h1 h2 => by omega), live_none _ _⟩, (newN_len l).symm, fun k s hk => ?_⟩
  have hkn := (List.getElem?_eq_some_iff.1 hk).1
  rw [newN_len] at hkn
  have h1 := newN_site (l := l) (k := k) (x := l[k]) (List.getElem?_eq_getElem hkn)
  rw [h1] at hk
  injection hk with hk
  subst hk
  rw [hb, List.getD_eq_getElem?_getD, List.getElem?_eq_getElem hkn]
  show l[k] = l[k] + kpS (newN l) (paA []) 0 (k : Int)
  rw [show kpS (newN l) (paA []) 0 (k : Int) = 0 from rfl]
  omega
theorem kp_beg {N : Nx} {k : Nat} {s : Sx} (hk : N.sites[k]? = some s) (ps : List Mv) (t i : Int) : (atN (begN N k ps) t i).kp = (atN N t i).kp := by
  have e0 : begN N k ps = { N with sites := N.sites.set k { s with opn := s.opn ++ [(N.begun + 1, dl0 ps)] }, mail := N.mail ++ (wrL s 1 (N.begun + 1) ps).take (1024 - N.mail.length), begun := N.begun + 1 } := by unfold begN; rw [hk]
  rw [e0, atN_set hk]
  unfold upd
  split
  · rename_i e; rw [e, atN_of hk]; rfl
  · rfl
theorem beg_stk {N : Nx} {co : Int → Int} {pa pa' : Int → List Mv} {G : Int → Prop} {own : List Int} (h : Stk N pa own) (hi : Inv N co pa G) (hb : 0 ≤ N.begun) {k : Nat} {s : Sx} (hk : N.sites[k]? = some s) (ps : List Mv) (e : ∀ t, 1 ≤ t → t ≤ N.begun → pa' t = pa t) : Stk (begN N k ps) pa' own := by
  have h' := h.pa e
  have hkp := kp_beg hk ps
  have e0 : begN N k ps = { N with sites := N.sites.set k { s with opn := s.opn ++ [(N.begun + 1, dl0 ps)] }, mail := N.mail ++ (wrL s 1 (N.begun + 1) ps).take (1024 - N.mail.length), begun := N.begun + 1 } := by unfold begN; rw [hk]
  have hq : ∀ i, kpS (begN N k ps) pa' (begN N k ps).begun.toNat i = kpS N pa' N.begun.toNat i := fun i => by
    have hb1 : (begN N k ps).begun.toNat = N.begun.toNat + 1 := by rw [e0]; dsimp only; omega
    rw [hb1]
    unfold kpS
    rw [List.range_succ, List.map_append, List.sum_append]
    have e1 : ((N.begun.toNat : Nat) : Int) + 1 = N.begun + 1 := by omega
    simp only [List.map_cons, List.map_nil, List.sum_cons, List.sum_nil, hkp, e1]
    rw [hi.fresh (N.begun + 1) i (Or.inl (by omega))]
    simp [at0]
  refine ⟨?_, fun j u hu => ?_⟩
  · rw [e0]; simpa using h.1
  rw [hq]
  rw [e0] at hu
  dsimp only at hu
  rw [List.getElem?_set] at hu
  split at hu
  · rename_i ej
    subst ej
    split at hu
    · injection hu with hu
      subst hu
      exact h'.2 k s hk
    · cases hu
  · exact h'.2 j u hu
theorem Cm.act {ps : List Mv} {N N' : Nx} {own : List Int} {all : List (List Mv)} (h : Cm N own all (fun _ => False)) (ha : ActR ps N N') : (N'.begun = N.begun ∧ Cm N' own all (fun _ => False)) ∨ (N'.begun = N.begun + 1 ∧ Cm N' own (all ++ [ps]) (fun _ => False)) := by
  have hgd := (ha.good h.good).1
  obtain ⟨co, G, hi, -⟩ := h.inv
  have ho := h.ok
  have same : N'.begun = N.begun → (∃ co G, Inv N' co (paA all) G) → Stk N' (paA all) own → (N'.begun = N.begun ∧ Cm N' own all (fun _ => False)) ∨ (N'.begun = N.begun + 1 ∧ Cm N' own (all ++ [ps]) (fun _ => False)) := fun hb ⟨co, G, hi⟩ hs =>
    Or.inl ⟨hb, hgd, by rw [hb]; exact h.len, ⟨co, G, hi, live_none _ _⟩, hs⟩
  rcases ha with ⟨i, rfl⟩ | ⟨i, tx, rfl⟩ | ⟨i, rfl⟩ | ⟨i, rfl⟩ | ⟨i, rfl⟩ | ⟨i, rfl⟩ | ⟨i, rfl⟩ | ⟨i, rfl⟩
  · by_cases he : begE N i ps = 0
    · have hE := he
      unfold begE at he
      by_cases h1 : refD N i = 0
      · rw [h1, if_neg (by simp)] at he
        obtain ⟨k, s, rfl, hk, -, -⟩ := refD_zero h1
        by_cases h2 : okTx N ps = false
        · rw [if_pos h2] at he; cases he
        have h2 : okTx N ps = true := by simpa using h2
        have eB : begI N (k : Int) ps = begN N k ps := by unfold begI; rw [if_pos hE]; rfl
        rw [eB] at hgd ⊢
        have hbb : (begN N k ps).begun = N.begun + 1 := by unfold begN; rw [hk]
        have hbg := ho.beg.1
        have hl := h.len
        have epa : ∀ t, 1 ≤ t → t ≤ N.begun + 1 → paA (all ++ [ps]) t = if t = N.begun + 1 then ps else paA all t := fun t h1 h2 => by
          rw [paA_snoc all ps h1 (by omega), ← hl]
        refine Or.inr ⟨hbb, hgd, by rw [hbb, hl, List.length_append]; rfl, ⟨_, _, (begN_inv hi ho hk h2).pa (fun t h1 h3 => epa t h1 (by rw [hbb] at h3; exact h3)), live_none _ _⟩, ?_⟩
        exact beg_stk h.stk hi hbg hk ps (fun t h1 h3 => by rw [epa t h1 (by omega), if_neg (by omega)])
      · rw [if_pos h1] at he; exact absurd he h1
    · have eB : begI N i ps = N := by unfold begI; rw [if_neg he]
      rw [eB] at same ⊢
      exact same rfl ⟨co, G, hi⟩ h.stk
  · unfold canI at same ⊢
    split at same
    · rename_i he
      rw [if_pos he]
      split at same
      · rename_i s hs
        split at same
        · rename_i d hd
          have hkn := ho.site _ s hs
          refine same rfl ⟨co, G, ?_⟩ (h.stk.set hs _ _ rfl (fun t => rfl))
          exact hi.forget hs s.up (mdel s.opn tx) (fun t => by
            rw [mget_del]
            split
            · exact Or.inr rfl
            · exact Or.inl rfl) (N.mail ++ (wrL s 5 tx d.parts).take (1024 - N.mail.length)) (fun x hx => by
            rcases List.mem_append.1 hx with h3 | h3
            · exact Or.inl h3
            · obtain ⟨p, hp, rfl⟩ := wr5_mem (List.mem_of_mem_take h3)
              exact Or.inr ⟨⟨d, hd, by dsimp only; rw [mget_del, if_pos rfl], p, hp, rfl⟩, rfl, hkn.2⟩)
        · exact same rfl ⟨co, G, hi⟩ h.stk
      · exact same rfl ⟨co, G, hi⟩ h.stk
    · rename_i he
      rw [if_neg he]
      exact same rfl ⟨co, G, hi⟩ h.stk
  · unfold delI at same ⊢
    split at same
    · rename_i he
      rw [if_pos he]
      obtain ⟨G', -, h2⟩ := delN_inv hi ho i.toNat
      unfold delN at same h2 ⊢
      split at same
      · exact same rfl ⟨co, G, hi⟩ h.stk
      · rename_i m hm
        have hmm := List.mem_of_getElem? hm
        rw [hm] at h2
        refine same (hand_len _ _).2 ⟨co, G', h2⟩ (hand_stk (h.stk.mail _) (hi.mail _ (fun x hx => Or.inl (List.mem_of_mem_eraseIdx hx))) (ho.mail m hmm))
    · rename_i he
      rw [if_neg he]
      exact same rfl ⟨co, G, hi⟩ h.stk
  · unfold repI at same ⊢
    split at same
    · rename_i he
      rw [if_pos he]
      split at same
      · rename_i m hm
        have hmm := List.mem_of_getElem? hm
        obtain ⟨G', -, h2⟩ := handN_inv hi ho (ho.mail m hmm) (hi.letOk ho hmm)
        exact same (hand_len _ _).2 ⟨co, G', h2⟩ (hand_stk h.stk hi (ho.mail m hmm))
      · exact same rfl ⟨co, G, hi⟩ h.stk
    · rename_i he
      rw [if_neg he]
      exact same rfl ⟨co, G, hi⟩ h.stk
  · unfold losI at same ⊢
    split at same
    · rename_i he
      rw [if_pos he]
      exact same rfl ⟨co, G, hi.mail _ (fun x hx => Or.inl (List.mem_of_mem_eraseIdx hx))⟩ (h.stk.mail _)
    · rename_i he
      rw [if_neg he]
      exact same rfl ⟨co, G, hi⟩ h.stk
  · unfold tikI at same ⊢
    split at same
    · rename_i he
      rw [if_pos he]
      split at same
      · rename_i s hs
        refine same rfl ⟨co, G, hi.mail _ (fun x hx => ?_)⟩ (h.stk.mail _)
        rcases List.mem_append.1 hx with h1 | h1
        · exact Or.inl h1
        · exact Or.inr ⟨_, rfl, (remL_ok hi ho hs (List.mem_of_mem_take h1)).2⟩
      · exact same rfl ⟨co, G, hi⟩ h.stk
    · rename_i he
      rw [if_neg he]
      exact same rfl ⟨co, G, hi⟩ h.stk
  · unfold craI atI at same ⊢
    split at same
    · rename_i he
      rw [if_pos he]
      split at same
      · rename_i s hs
        exact same rfl ⟨co, G, hi.forget hs false [] (fun t => Or.inr rfl) N.mail (fun x hx => Or.inl hx)⟩ (h.stk.set hs _ _ rfl (fun t => rfl))
      · exact same rfl ⟨co, G, hi⟩ h.stk
    · rename_i he
      rw [if_neg he]
      exact same rfl ⟨co, G, hi⟩ h.stk
  · unfold staI atI at same ⊢
    split at same
    · rename_i he
      rw [if_pos he]
      split at same
      · rename_i s hs
        exact same rfl ⟨co, G, hi.forget hs true s.opn (fun t => Or.inl rfl) N.mail (fun x hx => Or.inl hx)⟩ (h.stk.set hs _ _ rfl (fun t => rfl))
      · exact same rfl ⟨co, G, hi⟩ h.stk
    · rename_i he
      rw [if_neg he]
      exact same rfl ⟨co, G, hi⟩ h.stk
/-- A tick of a site that is up. -/
theorem Cm.tik {N : Nx} {own : List Int} {all : List (List Mv)} {K : Int → Prop} (h : Cm N own all K) {k : Nat} {s : Sx} (hk : N.sites[k]? = some s) (hr : refD N (k : Int) = 0) (hm : (tikI N (k : Int)).mail.length < 1024) : Cm (tikI N (k : Int)) own all (fun f => K f ∨ f = (k : Int)) := by
  have e := tik_all hr rfl hk h.ok hm
  have hg := (h.good.tik (k : Int)).1
  rw [e] at hg ⊢
  obtain ⟨co, G, hi, v⟩ := h.inv
  refine ⟨hg, h.len, ⟨co, G, hi.mail _ (fun x hx => ?_), tik_live hi h.ok v hk⟩, h.stk.mail _⟩
  rcases List.mem_append.1 hx with h1 | h1
  · exact Or.inl h1
  · exact Or.inr ⟨_, rfl, (remL_ok hi h.ok hk h1).2⟩
/-- All sites are up. -/
def Ups (N : Nx) : Prop := ∀ s ∈ N.sites, s.up = true
theorem ups_hand {N : Nx} (h : Ups N) (m : Ml) : Ups (handN N m) := by
  unfold handN
  split
  · exact h
  rename_i s hs
  split
  · intro u hu
    rcases List.mem_or_eq_of_mem_set hu with h1 | h1
    · exact h u h1
    · rw [h1, han_up]; exact h s (List.mem_of_getElem? hs)
  · exact h
theorem ups_del {N : Nx} (h : Ups N) (k : Nat) : Ups (delN N k) := by
  unfold delN
  split
  · exact h
  · rename_i m _
    exact ups_hand (N := { N with mail := N.mail.eraseIdx k }) h m
/-- A letter delivered while all is up. -/
theorem Cm.del {N : Nx} {own : List Int} {all : List (List Mv)} (h : Cm N own all (fun _ => N.mail.length < 1024)) (hl : N.mail.length < 1024) (hup : Ups N) (k : Nat) : Cm (delN N k) own all (fun _ => (delN N k).mail.length < 1024) := by
  obtain ⟨co, G, hi, v⟩ := h.inv
  have ho := h.ok
  have v1 : Liv N co (fun _ => True) := v.mono (fun _ _ => hl)
  obtain ⟨G', -, h2⟩ := delN_inv hi ho k
  have hb : (delN N k).begun = N.begun := by
    unfold delN
    split
    · rfl
    · exact (hand_len _ _).2
  refine ⟨delN_ok ho k, by rw [hb]; exact h.len, ⟨co, G', h2, ?_⟩, ?_⟩
  · by_cases hn : (delN N k).mail.length < 1024
    · exact (delN_live hi ho v1 hup (Or.inr hn)).mono (fun _ _ => trivial)
    · exact (live_none _ _).mono (fun _ hf => hn hf)
  · unfold delN
    split
    · exact h.stk
    · rename_i m hm
      exact hand_stk (h.stk.mail _) (hi.mail _ (fun x hx => Or.inl (List.mem_of_mem_eraseIdx hx))) (ho.mail m (List.mem_of_getElem? hm))
section
variable {N : Nx} {own : List Int} {all : List (List Mv)}
theorem Cm.settled (h : Cm N own all (fun _ => True)) (hm : N.mail = []) : ∀ s ∈ N.sites, s.opn = [] ∧ s.grt = [] ∧ s.prom = [] := by
  obtain ⟨co, G, hi, v⟩ := h.inv
  exact live_settled hi v hm
theorem Cm.isSettled (h : Cm N own all (fun _ => True)) (hm : N.mail = []) : settledN N = true := by
  unfold settledN
  rw [hm]
  show N.sites.all setS = true
  rw [List.all_eq_true]
  intro s hs
  obtain ⟨a, b, c⟩ := h.settled hm s hs
  unfold setS
  rw [a, b, c]
  rfl
/-- Without promises a site's outcome is kept just when it kept it. -/
theorem Cm.out2 (h : Cm N own all (fun _ => True)) (hm : N.mail = []) (t i : Int) : (outA (atN N t i) == 2) = (atN N t i).kp := by
  have hp : (atN N t i).pr = none := by
    unfold atN
    split
    · rfl
    · cases hs : N.sites[i.toNat]? with
      | none => rfl
      | some s =>
        have := (h.settled hm s (List.mem_of_getElem? hs)).2.2
        show mget s.prom t = none
        rw [this]; rfl
  unfold outA
  rw [hp]
  cases (atN N t i).kp with
  | true => rfl
  | false => cases (atN N t i).dr <;> rfl
/-- A transaction is kept at all of its sites, or nowhere. -/
theorem Cm.whole (h : Cm N own all (fun _ => True)) (hm : N.mail = []) {t : Int} (h1 : 1 ≤ t) (h2 : t ≤ N.begun) : (∀ i, isP (paA all t) i → (atN N t i).kp = true) ∨ ∀ i, (atN N t i).kp = false := by
  obtain ⟨co, G, hi, v⟩ := h.inv
  have hI := hi.tx t h1 h2
  have hq := quiet hI (v t h1 h2) (fun m hm2 => by have := hm2.1; rw [hm] at this; cases this)
  by_cases hk : ∃ i, (atN N t i).kp = true
  · obtain ⟨i, hk⟩ := hk
    refine Or.inl (fun f hf => ?_)
    rcases hI.sit.pk (hI.sit.kp i hk) f hf with h3 | h3
    · exact absurd (hq f).2.2 h3
    · exact h3
  · refine Or.inr (fun i => ?_)
    cases hx : (atN N t i).kp with
    | false => rfl
    | true => exact absurd ⟨i, hx⟩ hk
theorem Cm.part (h : Cm N own all (fun _ => True)) {t : Int} (h1 : 1 ≤ t) (h2 : t ≤ N.begun) : OkP N.sites.length (paA all t) := by
  obtain ⟨co, G, hi, v⟩ := h.inv
  exact (hi.ok t h1 h2).2
theorem Cm.kpart (h : Cm N own all (fun _ => True)) {t : Int} (h1 : 1 ≤ t) (h2 : t ≤ N.begun) {i : Int} (hk : (atN N t i).kp = true) : isP (paA all t) i := by
  obtain ⟨co, G, hi, v⟩ := h.inv
  exact (hi.tx t h1 h2).sit.kpart i hk
end
theorem chg_none {ps : List Mv} {i : Int} (h : ¬ isP ps i) : chg ps i = 0 := by
  unfold chg
  have : ps.filter (fun p => p.1 == i) = [] := by
    rw [List.filter_eq_nil_iff]
    intro p hp e
    exact h ⟨p.2, by rw [← (by simpa using e : p.1 = i)]; exact hp⟩
  rw [this]
  rfl
theorem chg_cons (p : Mv) (r : List Mv) (i : Int) : chg (p :: r) i = (if p.1 = i then p.2 else 0) + chg r i := by
  unfold chg
  by_cases e : p.1 = i
  · rw [List.filter_cons_of_pos (by simpa using e), if_pos e, List.map_cons, List.sum_cons]
  · rw [List.filter_cons_of_neg (by simpa using e), if_neg e]; omega
theorem sum_nought : ∀ (b : Nat), ((List.range b).map (fun _ => (0 : Int))).sum = 0
  | 0 => rfl
  | b + 1 => by rw [List.range_succ, List.map_append, List.sum_append, sum_nought b]; rfl
theorem chg_sum {n : Nat} : ∀ {ps : List Mv}, (∀ p ∈ ps, 0 ≤ p.1 ∧ p.1 < (n : Int)) → ((List.range n).map (fun (k : Nat) => chg ps (k : Int))).sum = (ps.map (·.2)).sum
  | [], _ => by
    rw [show (fun (k : Nat) => chg [] (k : Int)) = fun _ => 0 from rfl, sum_nought]; rfl
  | p :: r, h => by
    have hp := h p List.mem_cons_self
    have ih := chg_sum (n := n) (fun q hq => h q (List.mem_cons_of_mem p hq))
    rw [sum_one (f := fun (k : Nat) => chg r (k : Int)) (j := p.1.toNat) (x := p.2) (by omega) (by (try dsimp only); rw [chg_cons, if_pos (by omega)]; omega) (fun q hq hne => by (try dsimp only); rw [chg_cons, if_neg (by omega)]; omega), ih, List.map_cons, List.sum_cons]
    omega
theorem sum_two : ∀ (l : List Nat) (f g : Nat → Int), (l.map (fun k => f k + g k)).sum = (l.map f).sum + (l.map g).sum
  | [], _, _ => rfl
  | a :: l, f, g => by
    rw [List.map_cons, List.map_cons, List.map_cons, List.sum_cons, List.sum_cons, List.sum_cons, sum_two l f g]
    omega
theorem kpS_succ (N : Nx) (pa : Int → List Mv) (b : Nat) (i : Int) : kpS N pa (b + 1) i = kpS N pa b i + if (atN N ((b : Int) + 1) i).kp then chg (pa ((b : Int) + 1)) i else 0 := by
  unfold kpS
  rw [List.range_succ, List.map_append, List.sum_append]
  simp
/-- The changes of all sites add up to nothing. -/
theorem Cm.nought {N : Nx} {own : List Int} {all : List (List Mv)} (h : Cm N own all (fun _ => True)) (hm : N.mail = []) : ∀ b : Nat, (b : Int) ≤ N.begun → ((List.range N.sites.length).map (fun (k : Nat) => kpS N (paA all) b (k : Int))).sum = 0
  | 0, _ => by rw [show (fun (k : Nat) => kpS N (paA all) 0 (k : Int)) = fun _ => 0 from rfl, sum_nought]
  | b + 1, hb => by
    have ih := h.nought hm b (by omega)
    have e : (fun (k : Nat) => kpS N (paA all) (b + 1) (k : Int)) = fun (k : Nat) => kpS N (paA all) b (k : Int) + if (atN N ((b : Int) + 1) (k : Int)).kp then chg (paA all ((b : Int) + 1)) (k : Int) else 0 := funext fun k => kpS_succ N _ b _
    rw [e, sum_two, ih]
    have hP := h.part (t := (b : Int) + 1) (by omega) (by omega)
    rcases h.whole hm (t := (b : Int) + 1) (by omega) (by omega) with h1 | h1
    · have e2 : (fun (k : Nat) => if (atN N ((b : Int) + 1) (k : Int)).kp then chg (paA all ((b : Int) + 1)) (k : Int) else 0) = fun (k : Nat) => chg (paA all ((b : Int) + 1)) (k : Int) := funext fun k => by
        split
        · rfl
        · rename_i hn
          exact (chg_none (fun hp => hn (h1 _ hp))).symm
      rw [e2, chg_sum (fun p hp => by have := hP.part p hp; omega), hP.sum]
      rfl
    · have e2 : (fun (k : Nat) => if (atN N ((b : Int) + 1) (k : Int)).kp then chg (paA all ((b : Int) + 1)) (k : Int) else 0) = fun _ => 0 := funext fun k => by rw [h1]; rfl
      rw [e2, sum_nought]
      rfl
theorem range_list : ∀ (l : List Int), l = (List.range l.length).map (fun k => l.getD k 0) := fun l => by
  refine List.ext_getElem? (fun k => ?_)
  by_cases hk : k < l.length
  · rw [List.getElem?_map, List.getElem?_range hk, Option.map_some, List.getD_eq_getElem?_getD, List.getElem?_eq_getElem hk]
    rfl
  · rw [List.getElem?_eq_none (by omega), List.getElem?_eq_none (by simp; omega)]
/-- The sum of all stocks is what it was. -/
theorem Cm.sum {N : Nx} {own : List Int} {all : List (List Mv)} (h : Cm N own all (fun _ => True)) (hm : N.mail = []) : (N.sites.map (·.stock)).sum = own.sum := by
  have hb := h.ok.beg.1
  have h0 := h.nought hm N.begun.toNat (by omega)
  have e1 : N.sites.map (·.stock) = (List.range N.sites.length).map (fun (k : Nat) => own.getD k 0 + kpS N (paA all) N.begun.toNat (k : Int)) := by
    refine List.ext_getElem? (fun k => ?_)
    by_cases hk : k < N.sites.length
    · have hs : N.sites[k]? = some (N.sites[k]'hk) := List.getElem?_eq_getElem _
      rw [List.getElem?_map, List.getElem?_map, List.getElem?_range hk, hs, Option.map_some, Option.map_some, h.stk.2 k _ hs]
    · rw [List.getElem?_eq_none (by simp; omega), List.getElem?_eq_none (by simp; omega)]
  rw [e1, sum_two, h0]
  conv => rhs; rw [range_list own]
  rw [h.stk.1]
  omega
/-- The law's own list: the changes of one transaction where it was kept. -/
def addK (c : Int → Bool) (ow : List Int) (ps : List Mv) : List Int := ps.foldl (fun o p => if c p.1 then o.set p.1.toNat (o.getD p.1.toNat 0 + p.2) else o) ow
theorem addK_snoc (c : Int → Bool) (ow : List Int) (ps : List Mv) (p : Mv) : addK c ow (ps ++ [p]) = if c p.1 then (addK c ow ps).set p.1.toNat ((addK c ow ps).getD p.1.toNat 0 + p.2) else addK c ow ps := by
  unfold addK
  rw [List.foldl_append]
  rfl
theorem addK_len (c : Int → Bool) : ∀ (ps : List Mv) (ow : List Int), (addK c ow ps).length = ow.length
  | [], _ => rfl
  | p :: r, ow => by
    show (addK c (if c p.1 then ow.set p.1.toNat (ow.getD p.1.toNat 0 + p.2) else ow) r).length = _
    rw [addK_len c r]
    split <;> simp
theorem getD_set (l : List Int) (j k : Nat) (x : Int) : (l.set j x).getD k 0 = if j = k ∧ j < l.length then x else l.getD k 0 := by
  rw [List.getD_eq_getElem?_getD, List.getD_eq_getElem?_getD, List.getElem?_set]
  by_cases e : j = k
  · subst e
    by_cases hj : j < l.length
    · simp [hj]
    · simp [hj]
  · simp [e]
theorem addK_at (c : Int → Bool) : ∀ (ps : List Mv) (ow : List Int) (k : Nat), (∀ p ∈ ps, 0 ≤ p.1) → k < ow.length → (addK c ow ps).getD k 0 = ow.getD k 0 + if c (k : Int) then chg ps (k : Int) else 0
  | [], ow, k, _, _ => by
    show ow.getD k 0 = _
    rw [show chg [] (k : Int) = 0 from rfl]
    split <;> omega
  | p :: r, ow, k, h, hk => by
    have hp := h p List.mem_cons_self
    show (addK c (if c p.1 then ow.set p.1.toNat (ow.getD p.1.toNat 0 + p.2) else ow) r).getD k 0 = _
    have hlen : k < (if c p.1 then ow.set p.1.toNat (ow.getD p.1.toNat 0 + p.2) else ow).length := by
      split
      · rw [List.length_set]; exact hk
      · exact hk
    rw [addK_at c r (if c p.1 then ow.set p.1.toNat (ow.getD p.1.toNat 0 + p.2) else ow) k (fun q hq => h q (List.mem_cons_of_mem p hq)) hlen, chg_cons]
    by_cases e : p.1 = (k : Int)
    · have e2 : p.1.toNat = k := by omega
      rw [e]
      cases hc : c (k : Int) with
      | false => simp
      | true =>
        rw [if_pos rfl, if_pos rfl, if_pos rfl, if_pos rfl, show ((k : Int)).toNat = k from rfl, getD_set, if_pos ⟨rfl, hk⟩]
        omega
    · rw [if_neg e]
      have : (if c p.1 then ow.set p.1.toNat (ow.getD p.1.toNat 0 + p.2) else ow).getD k 0 = ow.getD k 0 := by
        split
        · rw [getD_set, if_neg (by omega)]
        · rfl
      rw [this]
      split <;> omega
theorem addK_rng (c : Int → Bool) (M : Int) : ∀ (ps : List Mv) (ow : List Int) (b : Int), 0 ≤ b → (∀ p ∈ ps, -M ≤ p.2 ∧ p.2 ≤ M) → (∀ k, -b ≤ ow.getD k 0 ∧ ow.getD k 0 ≤ b) → 0 ≤ M → ∀ k, -(b + ps.length * M) ≤ (addK c ow ps).getD k 0 ∧ (addK c ow ps).getD k 0 ≤ b + ps.length * M
  | [], ow, b, _, _, h, _ => fun k => by
    have := h k
    show _ ≤ ow.getD k 0 ∧ ow.getD k 0 ≤ _
    simp only [List.length_nil]
    omega
  | p :: r, ow, b, hb, hp, h, hM => fun k => by
    have h0 := hp p List.mem_cons_self
    have ih := addK_rng c M r (if c p.1 then ow.set p.1.toNat (ow.getD p.1.toNat 0 + p.2) else ow) (b + M) (by omega) (fun q hq => hp q (List.mem_cons_of_mem p hq)) (fun k => by
      have := h k
      split
      · rw [getD_set]
        split
        · have := h p.1.toNat
          omega
        · omega
      · omega) hM k
    have e : ((p :: r).length : Int) * M = M + (r.length : Int) * M := by
      rw [List.length_cons, Int.natCast_add, Int.add_mul]
      omega
    rw [e]
    exact ⟨by have := ih.1; show _ ≤ (addK c (if c p.1 then ow.set p.1.toNat (ow.getD p.1.toNat 0 + p.2) else ow) r).getD k 0; omega, by have := ih.2; show (addK c (if c p.1 then ow.set p.1.toNat (ow.getD p.1.toNat 0 + p.2) else ow) r).getD k 0 ≤ _; omega⟩
/-- The law's own list behind the first transactions. -/
def owT (N : Nx) (pa : Int → List Mv) (own : List Int) : Nat → List Int
  | 0 => own
  | t + 1 => addK (fun i => (atN N ((t : Int) + 1) i).kp) (owT N pa own t) (pa ((t : Int) + 1))
theorem owT_len (N : Nx) (pa : Int → List Mv) (own : List Int) : ∀ t, (owT N pa own t).length = own.length
  | 0 => rfl
  | t + 1 => by unfold owT; rw [addK_len, owT_len N pa own t]
theorem owT_at (N : Nx) (pa : Int → List Mv) (own : List Int) (k : Nat) (hk : k < own.length) : ∀ t, (∀ j : Nat, j < t → ∀ p ∈ pa ((j : Int) + 1), 0 ≤ p.1) → (owT N pa own t).getD k 0 = own.getD k 0 + kpS N pa t (k : Int)
  | 0, _ => by
    show own.getD k 0 = own.getD k 0 + kpS N pa 0 (k : Int)
    rw [show kpS N pa 0 (k : Int) = 0 from rfl]
    omega
  | t + 1, h => by
    unfold owT
    rw [addK_at _ _ _ k (h t (by omega)) (by rw [owT_len]; exact hk), owT_at N pa own k hk t (fun j hj => h j (by omega)), kpS_succ]
    omega
theorem owT_rng (N : Nx) (pa : Int → List Mv) (own : List Int) (hown : ∀ k, 0 ≤ own.getD k 0 ∧ own.getD k 0 ≤ 1099511627776) : ∀ t : Nat, (∀ j : Nat, j < t → (pa ((j : Int) + 1)).length ≤ 8 ∧ ∀ p ∈ pa ((j : Int) + 1), -1099511627776 ≤ p.2 ∧ p.2 ≤ 1099511627776) → ∀ k, -((8 * (t : Int) + 1) * 1099511627776) ≤ (owT N pa own t).getD k 0 ∧ (owT N pa own t).getD k 0 ≤ (8 * (t : Int) + 1) * 1099511627776
  | 0, _ => fun k => by
    have := hown k
    show _ ≤ own.getD k 0 ∧ own.getD k 0 ≤ _
    omega
  | t + 1, h => fun k => by
    have ht := h t (by omega)
    have ih := addK_rng (fun i => (atN N ((t : Int) + 1) i).kp) 1099511627776 (pa ((t : Int) + 1)) (owT N pa own t) ((8 * (t : Int) + 1) * 1099511627776) (by omega) ht.2 (owT_rng N pa own hown t (fun j hj => h j (by omega))) (by omega) k
    unfold owT
    omega

end Go.Proofs.Ytnoeiocbmhkmeaa
