/- Layer 5: every call keeps a net in order; what a site knows of a transaction only grows.
Layer 5: what a site knows of a transaction only grows.
Layer 5: the lists of outcomes that a law keeps, while it goes over them. -/
import Derived.Test.YtnoeiocbmhkmeaaPvJ
import Derived.Test.YtnoeiocbmhkmeaaPtAU
namespace Go.Proofs.Ytnoeiocbmhkmeaa
set_option linter.unusedSimpArgs false

/-- A site forgets open transactions: all is in order still. -/
theorem Inv.forget {N : Nx} {co : Int → Int} {pa : Int → List Mv} {G : Int → Prop} (h : Inv N co pa G) {k : Nat} {s : Sx} (hk : N.sites[k]? = some s) (u : Bool) (l' : List (Int × Dl)) (hl : ∀ t, mget l' t = mget s.opn t ∨ mget l' t = none) (ml : List Ml)
    (hml : ∀ x ∈ ml, x ∈ N.mail ∨ ((∃ d, mget s.opn x.2.2.2.1 = some d ∧ mget l' x.2.2.2.1 = none ∧ ∃ p ∈ d.parts, x.2.1 = p.1) ∧ x.2.2.1 = 5 ∧ x.1 = (k : Int))) :
    Inv { N with sites := N.sites.set k { s with up := u, opn := l' }, mail := ml } co pa G := by
  have hset : ∀ t, atN { N with sites := N.sites.set k { s with up := u, opn := l' }, mail := ml } t = upd (atN N t) (k : Int) { atS s t with op := mget l' t } := fun t => atN_set (N := N) hk { s with up := u, opn := l' } ml N.begun t
  have hsame : ∀ t, mget l' t = mget s.opn t → atN { N with sites := N.sites.set k { s with up := u, opn := l' }, mail := ml } t = atN N t := fun t ht => by
    rw [hset t]
    refine upd_id ?_
    rw [atN_of hk, ht]
    rfl
  refine ⟨fun t h1 h2 => ?_, fun t h1 h2 => ?_, fun t i ht => ?_⟩
  · have hI := h.tx t h1 h2
    by_cases he : mget l' t = mget s.opn t
    · rw [hsame t he]
      refine hI.same (fun x hx => Or.inl ⟨?_, hx.2⟩)
      rcases hml x hx.1 with h3 | ⟨⟨d, h3, h4, -⟩, -⟩
      · exact h3
      · rw [hx.2] at h3 h4
        rw [h4, h3] at he
        cases he
    · have hn : mget l' t = none := (hl t).resolve_left he
      cases hs : mget s.opn t with
      | none => rw [hs] at he; exact absurd hn he
      | some d =>
        have ha : (atN N t (k : Int)).op = some d := by rw [atN_of hk]; exact hs
        obtain ⟨a1, a2, a3, a4, a5, a6⟩ := hI.sit.op _ d ha
        have hst := hI.sit.coord none (atN N t (co t)).gt (G' := G t) (fun d' e => by cases e) (fun d' e => (hI.sit.gt _ d' e).2) (fun hg hn => hI.sit.fin hg hn) id (fun hg hn => absurd hg hn) (fun hg hn => absurd hg hn) (fun e => absurd rfl e)
        have e1 : ({ atN N t (co t) with op := none, gt := (atN N t (co t)).gt } : At) = { atS s t with op := mget l' t } := by
          rw [← a1, atN_of hk, hn]
        rw [e1, ← a1] at hst
        rw [hset t, ← a1]
        refine hI.on (A' := upd (atN N t) (k : Int) { atS s t with op := mget l' t }) (by rw [a1] at hst ⊢; exact hst) ?_ |> fun z => by rw [a1] at z ⊢; exact z
        intro x hx
        rcases hml x hx.1 with h3 | ⟨⟨d', h3, h4, p, hp, h5⟩, h6, h7⟩
        · exact Or.inl ⟨h3, hx.2⟩
        · rw [hx.2, hs] at h3
          injection h3 with h3
          subst h3
          refine Or.inr ⟨fun e => by omega, fun e => by omega, fun e => by omega, fun e => by omega, fun _ => ⟨by rw [h7, a1], ⟨p.2, by rw [h5, ← a3]; exact hp⟩, ?_, fun hG => absurd hG a2⟩, fun e => by omega, fun e => by omega⟩
          rw [← a1, upd_same]
          exact hn
  · dsimp only
    rw [List.length_set]
    exact h.ok t h1 h2
  · have : mget l' t = mget s.opn t := by
      rcases hl t with h3 | h3
      · exact h3
      · have h4 := h.fresh t (k : Int) ht
        rw [atN_of hk] at h4
        have h5 : mget s.opn t = none := congrArg At.op h4
        rw [h3, h5]
    rw [hsame t this]
    exact h.fresh t i ht
/-- A net in order. -/
def Good (N : Nx) : Prop := OkN N ∧ ∃ co pa G, Inv N co pa G
theorem Good.mail {N : Nx} (h : Good N) (ml : List Ml) (h1 : ml.length ≤ 1024) (hml : ∀ x ∈ ml, x ∈ N.mail) : Good { N with mail := ml } := by
  obtain ⟨ho, co, pa, G, hi⟩ := h
  exact ⟨⟨ho.lo, ho.hi, ho.beg, ho.site, h1, fun m hm => ho.mail m (hml m hm)⟩, co, pa, G, hi.mail ml (fun x hx => Or.inl (hml x hx))⟩
theorem Good.hand {N : Nx} (h : Good N) {m : Ml} (hm : m ∈ N.mail) : Good (handN N m) := by
  obtain ⟨ho, co, pa, G, hi⟩ := h
  obtain ⟨G', -, h2⟩ := handN_inv hi ho (ho.mail m hm) (hi.letOk ho hm)
  exact ⟨handN_ok ho (ho.mail m hm), co, pa, G', h2⟩
theorem Good.del {N : Nx} (h : Good N) (i : Int) : Good (delI N i) := by
  unfold delI
  split
  · obtain ⟨ho, co, pa, G, hi⟩ := h
    obtain ⟨G', -, h2⟩ := delN_inv hi ho i.toNat
    exact ⟨delN_ok ho _, co, pa, G', h2⟩
  · exact h
theorem Good.rep {N : Nx} (h : Good N) (i : Int) : Good (repI N i) := by
  unfold repI
  split
  · split
    · rename_i m hm
      exact h.hand (List.mem_of_getElem? hm)
    · exact h
  · exact h
theorem Good.los {N : Nx} (h : Good N) (i : Int) : Good (losI N i) := by
  unfold losI
  split
  · exact h.mail _ (Nat.le_trans (List.length_eraseIdx_le _ _) h.1.room) (fun x hx => List.mem_of_mem_eraseIdx hx)
  · exact h
theorem Good.sta {N : Nx} (h : Good N) (i : Int) : Good (staI N i) := by
  unfold staI
  split
  · unfold atI
    split
    · rename_i s hs
      obtain ⟨ho, co, pa, G, hi⟩ := h
      have hk := ho.site _ s hs
      have h1 := ho.turn hs (s' := { s with up := true }) (l := []) ⟨hk.1.num, hk.1.lo, hk.1.hi, hk.1.promA, hk.1.prom, hk.1.opnA, hk.1.opn, hk.1.grtA, hk.1.grt, hk.1.apart⟩ rfl (fun m hm => by cases hm)
      have h2 := hi.forget hs true s.opn (fun t => Or.inl rfl) N.mail (fun x hx => Or.inl hx)
      rw [List.take_nil, List.append_nil] at h1
      exact ⟨h1, co, pa, G, h2⟩
    · exact h
  · exact h
theorem Good.cra {N : Nx} (h : Good N) (i : Int) : Good (craI N i) := by
  unfold craI
  split
  · unfold atI
    split
    · rename_i s hs
      obtain ⟨ho, co, pa, G, hi⟩ := h
      have hk := ho.site _ s hs
      have h1 := ho.turn hs (s' := { s with up := false, opn := [] }) (l := []) ⟨hk.1.num, hk.1.lo, hk.1.hi, hk.1.promA, hk.1.prom, List.Pairwise.nil, fun e he => (by cases he), hk.1.grtA, hk.1.grt, fun e he => (by cases he)⟩ rfl (fun m hm => by cases hm)
      have h2 := hi.forget hs false [] (fun t => Or.inr rfl) N.mail (fun x hx => Or.inl hx)
      rw [List.take_nil, List.append_nil] at h1
      exact ⟨h1, co, pa, G, h2⟩
    · exact h
  · exact h
theorem Good.can {N : Nx} (h : Good N) (i tx : Int) : Good (canI N i tx) := by
  unfold canI
  split
  · split
    · rename_i s hs
      split
      · rename_i d hd
        obtain ⟨ho, co, pa, G, hi⟩ := h
        have hk := ho.site _ s hs
        have hdd := hk.1.opn _ (mget_some hd)
        have h1 := ho.turn hs (s' := { s with opn := mdel s.opn tx }) (l := wrL s 5 tx d.parts) ⟨hk.1.num, hk.1.lo, hk.1.hi, hk.1.promA, hk.1.prom, mdel_apart hk.1.opnA, fun e he => hk.1.opn e (mdel_sub e he), hk.1.grtA, hk.1.grt, fun e he => hk.1.apart e (mdel_sub e he)⟩ rfl (wr_ok hk.1 (by omega) hdd.1 hdd.2.part)
        have h2 := hi.forget hs s.up (mdel s.opn tx) (fun t => by
          rw [mget_del]
          split
          · exact Or.inr rfl
          · exact Or.inl rfl) (N.mail ++ (wrL s 5 tx d.parts).take (1024 - N.mail.length)) (fun x hx => by
          rcases List.mem_append.1 hx with h3 | h3
          · exact Or.inl h3
          · obtain ⟨p, hp, rfl⟩ := wr5_mem (List.mem_of_mem_take h3)
            exact Or.inr ⟨⟨d, hd, by dsimp only; rw [mget_del, if_pos rfl], p, hp, rfl⟩, rfl, hk.2⟩)
        exact ⟨h1, co, pa, G, h2⟩
      · exact h
    · exact h
  · exact h
theorem remL_ok {N : Nx} {co : Int → Int} {pa : Int → List Mv} {G : Int → Prop} (hi : Inv N co pa G) (ho : OkN N) {k : Nat} {s : Sx} (hk : N.sites[k]? = some s) {x : Ml} (hx : x ∈ remL s) :
    OkM N.sites.length N.begun x ∧ LetOk (atN N x.2.2.2.1) (co x.2.2.2.1) (pa x.2.2.2.1) (G x.2.2.2.1) x := by
  have hs := ho.site k s hk
  unfold remL at hx
  rcases List.mem_append.1 hx with hx | hx
  · rcases List.mem_append.1 hx with hx | hx
    · obtain ⟨tx, -, hx⟩ := List.mem_flatMap.1 hx
      unfold askT at hx
      split at hx
      · rename_i d hd
        have hdd := hs.1.opn _ (mget_some hd)
        obtain ⟨p, hp, rfl⟩ := wr5_mem hx
        have hpp : p ∈ d.parts := (List.mem_filter.1 hp).1
        have hok := wr_ok hs.1 (k := 1) (tx := tx) (ps := d.parts) (by omega) hdd.1 hdd.2.part _ (List.mem_map_of_mem (f := wrM s 1 tx) hpp)
        refine ⟨hok, ?_⟩
        obtain ⟨a1, -, a3, -⟩ := (hi.tx tx hdd.1.1 hdd.1.2).sit.op (k : Int) d (by rw [atN_of hk]; exact hd)
        exact ⟨fun _ => ⟨hs.2.trans a1, by rw [← a3]; simpa using hpp⟩, fun e => by simp at e, fun e => by simp at e, fun e => by simp at e, fun e => by simp at e, fun e => by simp at e, fun e => by simp at e⟩
      · cases hx
    · obtain ⟨tx, -, hx⟩ := List.mem_flatMap.1 hx
      unfold comT at hx
      split at hx
      · rename_i d hd
        have hdd := hs.1.grt _ (mget_some hd)
        obtain ⟨p, hp, rfl⟩ := wr5_mem hx
        have hpp : p ∈ d.parts := (List.mem_filter.1 hp).1
        have hok := wr_ok hs.1 (k := 4) (tx := tx) (ps := d.parts) (by omega) hdd.1 hdd.2.part _ (List.mem_map_of_mem (f := wrM s 4 tx) hpp)
        refine ⟨hok, ?_⟩
        obtain ⟨a1, a2, a3, -⟩ := (hi.tx tx hdd.1.1 hdd.1.2).sit.gt (k : Int) d (by rw [atN_of hk]; exact hd)
        exact ⟨fun e => by simp at e, fun e => by simp at e, fun e => by simp at e, fun _ => ⟨hs.2.trans a1, ⟨p.2, by rw [← a3]; simpa using hpp⟩, a2⟩, fun e => by simp at e, fun e => by simp at e, fun e => by simp at e⟩
      · cases hx
  · obtain ⟨tx, htx, rfl⟩ := List.mem_map.1 hx
    have h1 : tx ∈ s.prom.map Prod.fst := (keysS_perm s.prom).mem_iff.1 htx
    obtain ⟨e, he, rfl⟩ := List.mem_map.1 h1
    have hm := mget_of hs.1.promA he
    have hp := hs.1.prom e he
    obtain ⟨tx, t, c⟩ := e
    dsimp only at hm hp
    have ew : whaT s tx = (s.num, t, 7, tx, 0) := by unfold whaT; rw [hm]; rfl
    dsimp only
    rw [ew]
    refine ⟨⟨hs.1.num, hp.2.1, by simp, hp.1, by simp⟩, ?_⟩
    obtain ⟨a1, a2⟩ := (hi.tx tx hp.1.1 hp.1.2).sit.prom (k : Int) t c (by rw [atN_of hk]; exact hm)
    exact ⟨fun e => by simp at e, fun e => by simp at e, fun e => by simp at e, fun e => by simp at e, fun e => by simp at e, fun e => by simp at e, fun _ => ⟨a1, ⟨c, by dsimp only; rw [hs.2]; exact a2⟩⟩⟩
theorem Good.tik {N : Nx} (h : Good N) (i : Int) : Good (tikI N i) := by
  unfold tikI
  split
  · split
    · rename_i s hs
      obtain ⟨ho, co, pa, G, hi⟩ := h
      refine ⟨⟨ho.lo, ho.hi, ho.beg, ho.site, take_room _ _ ho.room, fun m hm => ?_⟩, co, pa, G, hi.mail _ (fun x hx => ?_)⟩
      · rcases List.mem_append.1 hm with h1 | h1
        · exact ho.mail m h1
        · exact (remL_ok hi ho hs (List.mem_of_mem_take h1)).1
      · rcases List.mem_append.1 hx with h1 | h1
        · exact Or.inl h1
        · exact Or.inr ⟨_, rfl, (remL_ok hi ho hs (List.mem_of_mem_take h1)).2⟩
    · exact h
  · exact h
theorem Good.beg {N : Nx} (h : Good N) (i : Int) (ps : List Mv) : Good (begI N i ps) := by
  unfold begI
  split
  · rename_i he
    unfold begE at he
    split at he
    · rename_i h1; exact absurd he h1
    · rename_i h1
      have h1 : refD N i = 0 := Classical.not_not.1 h1
      split at he
      · cases he
      · rename_i h2
        split at he
        · cases he
        · rename_i h3
          obtain ⟨k, s, rfl, hk, hkn, -⟩ := refD_zero h1
          obtain ⟨ho, co, pa, G, hi⟩ := h
          have h2 : okTx N ps = true := by simpa using h2
          exact ⟨begN_ok ho hk h2 (by omega), _, _, _, begN_inv hi ho hk h2⟩
  · exact h
/-- No transaction is kept here and dropped there. -/
theorem Good.safe {N : Nx} (h : Good N) {t : Int} (h1 : 1 ≤ t) (h2 : t ≤ N.begun) {i j : Int} (hk : (atN N t i).kp = true) (hd : (atN N t j).dr = true) : False := by
  obtain ⟨ho, co, pa, G, hi⟩ := h
  have hI := (hi.tx t h1 h2).sit
  have hG := hI.kp i hk
  rcases hI.pk hG j (hI.dpart j hd) with h3 | h3
  · have := ((hI.one j).1 h3).2; rw [hd] at this; cases this
  · have := (hI.one j).2 h3; rw [hd] at this; cases this

end Go.Proofs.Ytnoeiocbmhkmeaa

namespace Go.Proofs.Ytnoeiocbmhkmeaa
set_option linter.unusedSimpArgs false

def outA (a : At) : Int := if a.pr.isSome then 1 else if a.kp then 2 else if a.dr then 3 else 0
theorem outS_at (s : Sx) (t : Int) : outS s t = outA (atS s t) := rfl
theorem outA_rng (a : At) : 0 ≤ outA a ∧ outA a ≤ 3 := by
  unfold outA
  repeat' split
  all_goals omega
/-- An outcome goes on: kept and dropped stay, promised is not forgotten. -/
def outM (o o' : Int) : Prop := (1 < o → o' = o) ∧ (o = 1 → o' ≠ 0)
theorem outM.refl (o : Int) : outM o o := ⟨fun _ => rfl, fun h => by omega⟩
theorem outA_same {a a' : At} (h1 : a'.pr = a.pr) (h2 : a'.kp = a.kp) (h3 : a'.dr = a.dr) : outM (outA a) (outA a') := by
  have : outA a' = outA a := by unfold outA; rw [h1, h2, h3]
  rw [this]
  exact outM.refl _
theorem StepT.out {a a' : At} {num : Int} {q : Bool} {m : Ml} {l : List Ml} (h : StepT a num q m a' l) : outM (outA a) (outA a') := by
  have z : ∀ {a a' : At}, outA a = 0 → outM (outA a) (outA a') := fun e => ⟨fun h => by omega, fun h => by omega⟩
  cases h with
  | askP hk hp hkp hd hq => exact z (by unfold outA; rw [hp, hkp, hd]; rfl)
  | askR hk hp hkp hd hq => exact z (by unfold outA; rw [hp, hkp, hd]; rfl)
  | comP hk hp =>
    have e : outA a = 1 := by
      unfold outA
      cases hx : a.pr with
      | none => exact absurd hx hp
      | some x => rfl
    have e2 : outA { a with pr := none, kp := true } = 2 := rfl
    rw [e, e2]
    exact ⟨fun h => by omega, fun _ => by omega⟩
  | aboP hk hp =>
    have e : outA a = 1 := by
      unfold outA
      cases hx : a.pr with
      | none => exact absurd hx hp
      | some x => rfl
    have e2 : outA { a with pr := none, dr := true } ≠ 0 := by
      unfold outA
      dsimp only
      cases a.kp <;> simp
    rw [e]
    exact ⟨fun h => by omega, fun _ => e2⟩
  | _ => first
    | exact outM.refl _
    | exact outA_same rfl rfl rfl
theorem out_set {N : Nx} {k : Nat} {s : Sx} (hk : N.sites[k]? = some s) (s' : Sx) (ml : List Ml) (b : Int) (h : ∀ t, outM (outA (atS s t)) (outA (atS s' t))) (t i : Int) : outM (outA (atN N t i)) (outA (atN { N with sites := N.sites.set k s', mail := ml, begun := b } t i)) := by
  rw [atN_set hk]
  unfold upd
  split
  · rename_i e
    rw [e, atN_of hk]
    exact h t
  · exact outM.refl _
/-- What an act makes of a net. -/
def ActR (ps : List Mv) (N N' : Nx) : Prop :=
  (∃ i, N' = begI N i ps) ∨ (∃ i tx, N' = canI N i tx) ∨ (∃ i, N' = delI N i) ∨ (∃ i, N' = repI N i) ∨ (∃ i, N' = losI N i) ∨ (∃ i, N' = tikI N i) ∨ (∃ i, N' = craI N i) ∨ (∃ i, N' = staI N i)
theorem ActR.good {ps : List Mv} {N N' : Nx} (h : ActR ps N N') (g : Good N) : Good N' := by
  rcases h with ⟨i, rfl⟩ | ⟨i, tx, rfl⟩ | ⟨i, rfl⟩ | ⟨i, rfl⟩ | ⟨i, rfl⟩ | ⟨i, rfl⟩ | ⟨i, rfl⟩ | ⟨i, rfl⟩
  · exact g.beg i ps
  · exact g.can i tx
  · exact g.del i
  · exact g.rep i
  · exact g.los i
  · exact g.tik i
  · exact g.cra i
  · exact g.sta i
theorem hand_out {N : Nx} {m : Ml} (hm : OkM N.sites.length N.begun m) (t i : Int) : outM (outA (atN N t i)) (outA (atN (handN N m) t i)) := by
  unfold handN
  split
  · exact outM.refl _
  rename_i s hs
  split
  · refine out_set hs (han s m).1 _ N.begun (fun t => ?_) t i
    by_cases ht : t = m.2.2.2.1
    · rw [ht]; exact (han_step s m hm.kind).out
    · rw [han_other s m ht]; exact outM.refl _
  · exact outM.refl _
theorem hand_len (N : Nx) (m : Ml) : (handN N m).sites.length = N.sites.length ∧ (handN N m).begun = N.begun := by
  unfold handN
  repeat' split
  all_goals simp
theorem ActR.len {ps : List Mv} {N N' : Nx} (h : ActR ps N N') : N'.sites.length = N.sites.length ∧ N.begun ≤ N'.begun ∧ N'.begun ≤ N.begun + 1 := by
  have key : ∀ {M : Nx}, M.sites.length = N.sites.length ∧ M.begun = N.begun → M.sites.length = N.sites.length ∧ N.begun ≤ M.begun ∧ M.begun ≤ N.begun + 1 := fun h => ⟨h.1, by omega, by omega⟩
  rcases h with ⟨i, rfl⟩ | ⟨i, tx, rfl⟩ | ⟨i, rfl⟩ | ⟨i, rfl⟩ | ⟨i, rfl⟩ | ⟨i, rfl⟩ | ⟨i, rfl⟩ | ⟨i, rfl⟩
  · unfold begI begN
    repeat' split
    · exact key ⟨rfl, rfl⟩
    · exact ⟨by simp, by dsimp only; omega, by dsimp only; omega⟩
    · exact key ⟨rfl, rfl⟩
  · refine key ?_
    unfold canI
    repeat' split
    all_goals simp
  · refine key ?_
    unfold delI delN
    repeat' split
    all_goals first
      | exact ⟨rfl, rfl⟩
      | exact hand_len _ _
  · refine key ?_
    unfold repI
    repeat' split
    all_goals first
      | exact ⟨rfl, rfl⟩
      | exact hand_len _ _
  · refine key ?_
    unfold losI
    split <;> exact ⟨rfl, rfl⟩
  · refine key ?_
    unfold tikI
    repeat' split
    all_goals exact ⟨rfl, rfl⟩
  · refine key ?_
    unfold craI atI
    repeat' split
    all_goals simp
  · refine key ?_
    unfold staI atI
    repeat' split
    all_goals simp
theorem ActR.out {ps : List Mv} {N N' : Nx} (h : ActR ps N N') (g : Good N) (t i : Int) : outM (outA (atN N t i)) (outA (atN N' t i)) := by
  rcases h with ⟨j, rfl⟩ | ⟨j, tx, rfl⟩ | ⟨j, rfl⟩ | ⟨j, rfl⟩ | ⟨j, rfl⟩ | ⟨j, rfl⟩ | ⟨j, rfl⟩ | ⟨j, rfl⟩
  · unfold begI begN
    repeat' split
    · exact outM.refl _
    · rename_i s hs
      refine out_set hs _ _ _ (fun t => ?_) t i
      exact outA_same rfl rfl rfl
    · exact outM.refl _
  · unfold canI
    split
    · split
      · rename_i s hs
        split
        · refine out_set hs _ _ N.begun (fun t => ?_) t i
          exact outA_same rfl rfl rfl
        · exact outM.refl _
      · exact outM.refl _
    · exact outM.refl _
  · unfold delI delN
    split
    · split
      · exact outM.refl _
      · rename_i m hm
        have h1 := hand_out (N := { N with mail := N.mail.eraseIdx j.toNat }) (g.1.mail m (List.mem_of_getElem? hm)) t i
        exact h1
    · exact outM.refl _
  · unfold repI
    split
    · split
      · rename_i m hm
        exact hand_out (g.1.mail m (List.mem_of_getElem? hm)) t i
      · exact outM.refl _
    · exact outM.refl _
  · unfold losI
    split <;> exact outM.refl _
  · unfold tikI
    repeat' split
    all_goals exact outM.refl _
  · unfold craI atI
    split
    · split
      · rename_i s hs
        refine out_set hs _ N.mail N.begun (fun t => ?_) t i
        exact outA_same rfl rfl rfl
      · exact outM.refl _
    · exact outM.refl _
  · unfold staI atI
    split
    · split
      · rename_i s hs
        refine out_set hs _ N.mail N.begun (fun t => ?_) t i
        exact outA_same rfl rfl rfl
      · exact outM.refl _
    · exact outM.refl _
theorem newN_good {l : List Int} (h : okStocks l = true) : Good (newN l) :=
  ⟨newN_ok h, fun _ => 0, fun _ => [], fun _ => False, ⟨fun t h1 h2 => by have : (newN l).begun = 0 := rfl; omega, fun t h1 h2 => by have : (newN l).begun = 0 := rfl; omega, fun t i _ => by
    unfold atN
    split
    · rfl
    · cases hk : (newN l).sites[i.toNat]? with
      | none => rfl
      | some s =>
        have hkn := (List.getElem?_eq_some_iff.1 hk).1
        rw [newN_len] at hkn
        have := newN_site (l := l) (k := i.toNat) (x := l[i.toNat]) (List.getElem?_eq_getElem hkn)
        rw [this] at hk
        injection hk with hk
        subst hk
        rfl⟩⟩
theorem out_at {N : Nx} {i : Int} (h : 0 ≤ i ∧ i < (N.sites.length : Int)) (t : Int) : outN N i t = outA (atN (nzN N) t i) := by
  obtain ⟨k, rfl⟩ : ∃ k : Nat, i = (k : Int) := ⟨i.toNat, by omega⟩
  have hk : k < N.sites.length := by omega
  have hs : N.sites[k]? = some (N.sites[k]'hk) := List.getElem?_eq_getElem _
  generalize N.sites[k]'hk = s at hs
  unfold outN
  have : refS N (k : Int) = 0 := by unfold refS; rw [if_neg (by omega), if_neg (by omega)]
  rw [this, show ((k : Int)).toNat = k from rfl, hs, atN_of (nz_site hs)]
  rfl

end Go.Proofs.Ytnoeiocbmhkmeaa

namespace Go.Proofs.Ytnoeiocbmhkmeaa
set_option linter.unusedSimpArgs false

def wasF (o o' : Int → Int → Int) (T T' tx s r : Nat) : List Int := (List.range (if T' < tx ∨ (T' = tx ∧ r < s) then T' else T)).map (fun j => if j + 1 < tx ∨ (j + 1 = tx ∧ r < s) then o' ((j : Int) + 1) r else o ((j : Int) + 1) r)
def lsF (o o' : Int → Int → Int) (k T T' tx s : Nat) : List (List Int) := (List.range 5).map (fun r => if r < k then wasF o o' T T' tx s r else [])
def lsE (o : Int → Int → Int) (k T : Nat) : List (List Int) := (List.range 5).map (fun r => if r < k then (List.range T).map (fun (j : Nat) => o ((j : Int) + 1) r) else [])
section
variable {o o' : Int → Int → Int} {k T T' tx s : Nat}
theorem lsF_len : (lsF o o' k T T' tx s).length = 5 := by unfold lsF; simp
theorem ls_eq {f g : Nat → List Int} (h : ∀ r, r < k → f r = g r) : (List.range 5).map (fun r => if r < k then f r else []) = (List.range 5).map (fun r => if r < k then g r else []) := by
  refine List.map_congr_left (fun r _ => ?_)
  by_cases hr : r < k
  · rw [if_pos hr, if_pos hr, h r hr]
  · rw [if_neg hr, if_neg hr]
theorem lsF_start (hT : T ≤ T') : lsF o o' k T T' 1 0 = lsE o k T := by
  refine ls_eq (fun r hr => ?_)
  unfold wasF
  have e : (if T' < 1 ∨ (T' = 1 ∧ r < 0) then T' else T) = T := by
    split
    · omega
    · rfl
  rw [e]
  refine List.map_congr_left (fun j _ => ?_)
  rw [if_neg (by omega)]
theorem lsF_next : lsF o o' k T T' tx k = lsF o o' k T T' (tx + 1) 0 := by
  refine ls_eq (fun r hr => ?_)
  unfold wasF
  have e : (if T' < tx ∨ (T' = tx ∧ r < k) then T' else T) = (if T' < tx + 1 ∨ (T' = tx + 1 ∧ r < 0) then T' else T) := by
    by_cases h : T' < tx ∨ (T' = tx ∧ r < k)
    · rw [if_pos h, if_pos (by omega)]
    · rw [if_neg h, if_neg (by omega)]
  rw [e]
  refine List.map_congr_left (fun j _ => ?_)
  by_cases h : j + 1 < tx ∨ (j + 1 = tx ∧ r < k)
  · rw [if_pos h, if_pos (by omega)]
  · rw [if_neg h, if_neg (by omega)]
theorem lsF_end : lsF o o' k T T' (T' + 1) 0 = lsE o' k T' := by
  refine ls_eq (fun r hr => ?_)
  unfold wasF
  rw [if_pos (by omega)]
  refine List.map_congr_left (fun j hj => ?_)
  rw [List.mem_range] at hj
  rw [if_pos (by omega)]
theorem lsF_at (hs : s < k) (hk : k ≤ 5) : (lsF o o' k T T' tx s)[s]? = some (wasF o o' T T' tx s s) := by
  unfold lsF
  rw [List.getElem?_map, List.getElem?_range (by omega), Option.map_some, if_pos hs]
theorem wasF_len (ht : tx ≤ T') : (wasF o o' T T' tx s s).length = T := by
  unfold wasF
  rw [if_neg (by omega)]
  simp
theorem wasF_get (ht : tx ≤ T') (h1 : 1 ≤ tx) (h2 : tx ≤ T) : (wasF o o' T T' tx s s)[tx - 1]? = some (o (tx : Int) s) := by
  unfold wasF
  rw [if_neg (by omega), List.getElem?_map, List.getElem?_range (by omega), Option.map_some, if_neg (by omega)]
  congr 2
  omega
theorem lsF_set (hs : s < k) (hk : k ≤ 5) {l : List Int} (hl : wasF o o' T T' tx (s + 1) s = l) : lsF o o' k T T' tx (s + 1) = (lsF o o' k T T' tx s).set s l := by
  refine List.ext_getElem? (fun r => ?_)
  rw [List.getElem?_set, lsF_len]
  by_cases e : s = r
  · subst e
    rw [if_pos rfl, if_pos (by omega)]
    unfold lsF
    rw [List.getElem?_map, List.getElem?_range (by omega), Option.map_some, if_pos hs, hl]
  · rw [if_neg e]
    by_cases hr : r < 5
    · unfold lsF
      rw [List.getElem?_map, List.getElem?_map, List.getElem?_range hr, Option.map_some, Option.map_some]
      by_cases hrk : r < k
      · rw [if_pos hrk, if_pos hrk]
        have key : wasF o o' T T' tx (s + 1) r = wasF o o' T T' tx s r := by
          unfold wasF
          have e1 : (if T' < tx ∨ (T' = tx ∧ r < s + 1) then T' else T) = (if T' < tx ∨ (T' = tx ∧ r < s) then T' else T) := by
            by_cases h : T' < tx ∨ (T' = tx ∧ r < s)
            · rw [if_pos h, if_pos (by omega)]
            · rw [if_neg h, if_neg (by omega)]
          rw [e1]
          refine List.map_congr_left (fun j _ => ?_)
          by_cases h : j + 1 < tx ∨ (j + 1 = tx ∧ r < s)
          · rw [if_pos h, if_pos (by omega)]
          · rw [if_neg h, if_neg (by omega)]
        rw [key]
      · rw [if_neg hrk, if_neg hrk]
    · rw [List.getElem?_eq_none (by rw [lsF_len]; omega), List.getElem?_eq_none (by rw [lsF_len]; omega)]
theorem lsF_old (hs : s < k) (hk : k ≤ 5) (hT : T ≤ T') (hT2 : T' ≤ T + 1) (h1 : 1 ≤ tx) (h2 : tx ≤ T) : lsF o o' k T T' tx (s + 1) = (lsF o o' k T T' tx s).set s ((wasF o o' T T' tx s s).set (tx - 1) (o' (tx : Int) s)) := by
  refine lsF_set hs hk (List.ext_getElem? (fun j => ?_))
  have e : (if T' < tx ∨ (T' = tx ∧ s < s + 1) then T' else T) = T := by
    split
    · omega
    · rfl
  have e0 : (if T' < tx ∨ (T' = tx ∧ s < s) then T' else T) = T := if_neg (by omega)
  rw [List.getElem?_set, wasF_len (by omega)]
  unfold wasF
  rw [e, e0]
  by_cases hj : j < T
  · rw [List.getElem?_map, List.getElem?_range hj, Option.map_some]
    by_cases ej : tx - 1 = j
    · rw [if_pos ej, if_pos (by omega), if_pos (by omega)]
      congr 2
      omega
    · rw [if_neg ej, List.getElem?_map, List.getElem?_range hj, Option.map_some]
      by_cases h : j + 1 < tx ∨ (j + 1 = tx ∧ s < s)
      · rw [if_pos h, if_pos (by omega)]
      · rw [if_neg h, if_neg (by omega)]
  · rw [List.getElem?_eq_none (by simp; omega), if_neg (by omega), List.getElem?_eq_none (by simp; omega)]
theorem lsF_new (hs : s < k) (hk : k ≤ 5) (hT : T' = T + 1) (h1 : tx = T + 1) : lsF o o' k T T' tx (s + 1) = (lsF o o' k T T' tx s).set s ((wasF o o' T T' tx s s ++ [0]).set (tx - 1) (o' (tx : Int) s)) := by
  subst hT h1
  refine lsF_set hs hk (List.ext_getElem? (fun j => ?_))
  rw [List.getElem?_set, List.length_append, wasF_len (by omega)]
  have e1 : (if T + 1 < T + 1 ∨ (T + 1 = T + 1 ∧ s < s + 1) then T + 1 else T) = T + 1 := if_pos (by omega)
  have e2 : (if T + 1 < T + 1 ∨ (T + 1 = T + 1 ∧ s < s) then T + 1 else T) = T := if_neg (by omega)
  have e3 : T + 1 - 1 = T := by omega
  unfold wasF
  rw [e1, e2, e3]
  by_cases hj : j < T
  · rw [List.getElem?_map, List.getElem?_range (by omega), Option.map_some, if_pos (by omega), if_neg (by omega), List.getElem?_append_left (by simp; omega), List.getElem?_map, List.getElem?_range hj, Option.map_some, if_pos (by omega)]
  · by_cases ej : j = T
    · subst ej
      rw [List.getElem?_map, List.getElem?_range (by omega), Option.map_some, if_pos (show j = j from rfl), if_pos (by omega), if_pos (by simp)]
      congr 2
    · rw [List.getElem?_eq_none (by simp; omega), if_neg (by omega), List.getElem?_eq_none (by simp; omega)]
end
theorem lsE_zero (o : Int → Int → Int) (k : Nat) : lsE o k 0 = [[], [], [], [], []] := by
  unfold lsE
  simp [List.range_succ]

end Go.Proofs.Ytnoeiocbmhkmeaa
