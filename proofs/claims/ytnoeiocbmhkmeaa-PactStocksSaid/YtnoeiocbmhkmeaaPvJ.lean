/- Layer 5: one transaction from beginning to end, when nothing fails.
Layer 5: from rest to rest: a transaction is kept just if every site can bear its change. -/
import Derived.Test.YtnoeiocbmhkmeaaPvH
import Derived.Test.YtnoeiocbmhkmeaaPtAL
namespace Go.Proofs.Ytnoeiocbmhkmeaa
set_option linter.unusedSimpArgs false

/-- Can every site bear its change? -/
def canP (own : List Int) (ps : List Mv) : Prop := ∀ p ∈ ps, ∀ o, own[p.1.toNat]? = some o → 0 ≤ o + p.2 ∧ o + p.2 ≤ 1099511627776
/-- A net at rest. -/
structure Calm (N : Nx) (own : List Int) (co : Int → Int) (pa : Int → List Mv) (G : Int → Prop) : Prop where
  ok : OkN N
  inv : Inv N co pa G
  liv : Liv N co (fun _ => True)
  mail : N.mail = []
  len : own.length = N.sites.length
  site : ∀ (k : Nat) (s : Sx), N.sites[k]? = some s → s.up = true ∧ s.opn = [] ∧ s.grt = [] ∧ s.prom = [] ∧ own[k]? = some s.stock
/-- A net while transaction t runs. -/
structure Run (N : Nx) (own : List Int) (t : Int) (ps : List Mv) (co : Int → Int) (pa : Int → List Mv) (G : Int → Prop) : Prop where
  ok : OkN N
  inv : Inv N co pa G
  liv : Liv N co (fun _ => True)
  beg : t = N.begun ∧ 1 ≤ t
  pat : pa t = ps
  len : own.length = N.sites.length
  up : ∀ s ∈ N.sites, s.up = true
  only : ∀ s ∈ N.sites, (∀ e ∈ s.opn, e.1 = t) ∧ (∀ e ∈ s.grt, e.1 = t) ∧ ∀ e ∈ s.prom, e.1 = t
  mailt : ∀ m ∈ N.mail, m.2.2.2.1 = t
  stk : ∀ (k : Nat) (s : Sx), N.sites[k]? = some s → ∃ o, own[k]? = some o ∧ s.stock = o + if (atS s t).kp then (mget ps (k : Int)).getD 0 else 0
  can : canP own ps → (∀ k, (atN N t k).dr = false) ∧ (∀ m ∈ N.mail, m.2.2.1 ≠ 3 ∧ (m.2.2.1 = 5 → G t)) ∧ ((atN N t (co t)).op ≠ none ∨ G t)
  bad : ∀ f x o, (f, x) ∈ ps → own[f.toNat]? = some o → ¬ (0 ≤ o + x ∧ o + x ≤ 1099511627776) → (atN N t f).pr = none ∧ (atN N t f).kp = false
theorem ps_get {q : Nat} {ps : List Mv} (h : OkP q ps) {f x : Int} (hm : (f, x) ∈ ps) : mget ps f = some x := by
  refine mget_of (p := (f, x)) ?_ hm
  have h1 := h.nod
  rw [List.nodup_iff_pairwise_ne, List.pairwise_map] at h1
  exact h1
theorem keys_empty {β : Type} {l : List (Int × β)} {t : Int} (h : ∀ e ∈ l, e.1 = t) (hg : mget l t = none) : l = [] := by
  cases l with
  | nil => rfl
  | cons p r => exact absurd (h p List.mem_cons_self) (mget_none.1 hg p List.mem_cons_self)
theorem han_keys (s : Sx) (m : Ml) : (∀ e ∈ (han s m).1.opn, e.1 = m.2.2.2.1 ∨ e ∈ s.opn) ∧ (∀ e ∈ (han s m).1.grt, e.1 = m.2.2.2.1 ∨ e ∈ s.grt) ∧ (∀ e ∈ (han s m).1.prom, e.1 = m.2.2.2.1 ∨ e ∈ s.prom) := by
  have p1 : ∀ {β : Type} {l : List (Int × β)} {a : Int} {x : β}, ∀ e ∈ mput l a x, e.1 = a ∨ e ∈ l := fun e he => (mem_mput he).imp (fun h => by rw [h]) (fun h => h.1)
  have d1 : ∀ {β : Type} {l : List (Int × β)} {a : Int}, ∀ e ∈ mdel l a, e.1 = a ∨ e ∈ l := fun e he => Or.inr (mdel_sub e he)
  have n1 : ∀ {β : Type} {l : List (Int × β)} {a : Int}, ∀ e ∈ l, e.1 = a ∨ e ∈ l := fun e he => Or.inr he
  unfold han askS agrS disS keepS aboS finS
  repeat' split
  all_goals exact ⟨by first | exact n1 | exact p1 | exact d1, by first | exact n1 | exact p1 | exact d1, by first | exact n1 | exact p1 | exact d1⟩
theorem han_stock (s : Sx) (m : Ml) : (han s m).1.stock = s.stock + if m.2.2.1 = 4 then ((mget s.prom m.2.2.2.1).getD (0, 0)).2 else 0 := by
  unfold han
  split
  · rename_i k; rw [if_neg (by omega)]; unfold askS; repeat' split
    all_goals (dsimp only; omega)
  split
  · rename_i k; rw [if_neg (by omega)]; unfold agrS; repeat' split
    all_goals (dsimp only; omega)
  split
  · rename_i k; rw [if_neg (by omega)]; unfold disS; repeat' split
    all_goals (dsimp only; omega)
  split
  · rename_i k; unfold keepS
    split
    · rfl
    · rename_i h; rw [ison h]; dsimp only [Option.getD]; omega
  split
  · unfold aboS; repeat' split
    all_goals (dsimp only; omega)
  split
  · unfold finS; repeat' split
    all_goals (dsimp only; omega)
  · dsimp only; omega
/-- A letter of the transaction is delivered. -/
theorem Run.step {N : Nx} {own : List Int} {t : Int} {ps : List Mv} {co : Int → Int} {pa : Int → List Mv} {G : Int → Prop} (h : Run N own t ps co pa G) (hfew : N.mail.length + 8 ≤ 1024) {k : Nat} (hk : k < N.mail.length) :
    ∃ G', Run (delN N k) own t ps co pa G' := by
  have hm : N.mail[k]? = some (N.mail[k]'hk) := List.getElem?_eq_getElem _
  generalize N.mail[k]'hk = m at hm
  have hmm := List.mem_of_getElem? hm
  have hok := h.ok.mail m hmm
  have hmt := h.mailt m hmm
  have hlet := h.inv.letOk h.ok hmm
  have hkn : m.2.1.toNat < N.sites.length := by have := hok.dst; omega
  have hs : N.sites[m.2.1.toNat]? = some (N.sites[m.2.1.toNat]'hkn) := List.getElem?_eq_getElem _
  generalize N.sites[m.2.1.toNat]'hkn = s at hs
  have hsm := List.mem_of_getElem? hs
  have hkk : ((m.2.1.toNat : Nat) : Int) = m.2.1 := by have := hok.dst; omega
  obtain ⟨G', hG', hI'⟩ := delN_inv h.inv h.ok k
  have hL' := delN_live h.inv h.ok h.liv (k := k) h.up (Or.inl hfew)
  have hok' := delN_ok h.ok k
  have e0 : delN N k = { N with sites := N.sites.set m.2.1.toNat (han s m).1, mail := N.mail.eraseIdx k ++ (han s m).2.take (1024 - (N.mail.eraseIdx k).length) } := by
    unfold delN; rw [hm]; dsimp only; unfold handN; dsimp only; rw [hs]; dsimp only; rw [if_pos (h.up s hsm)]
  have hat := atN_of (N := N) hs
  rw [hkk] at hat
  have hset : atN (delN N k) t = upd (atN N t) m.2.1 (atS (han s m).1 t) := by
    rw [e0, ← hkk]; exact atN_set hs _ _ N.begun t
  have hst := han_step s m hok.kind
  rw [(h.ok.site _ _ hs).2, hkk, hmt, ← hat] at hst
  rw [hmt] at hlet
  rw [h.pat] at hlet
  have hit := h.inv.tx t h.beg.2 (by rw [← h.beg.1]; exact Int.le_refl _)
  rw [h.pat] at hit
  have hit' := hI'.tx t h.beg.2 (by rw [e0, ← h.beg.1]; exact Int.le_refl _)
  rw [h.pat] at hit'
  have hP := (h.inv.ok t h.beg.2 (by rw [← h.beg.1]; exact Int.le_refl _)).2
  rw [h.pat] at hP
  obtain ⟨o, ho, hstk⟩ := h.stk _ s hs
  rw [hkk] at hstk
  have hka : (atS s t).kp = (atN N t m.2.1).kp := by rw [hat]
  rw [hka] at hstk
  have hprom0 : (atN N t m.2.1).pr = none → s.prom = [] := fun hp => by
    rw [hat] at hp
    exact keys_empty (h.only s hsm).2.2 hp
  have hpos : (atN N t m.2.1).pr = none → (atN N t m.2.1).kp = false → (posS s m.2.2.2.2 = true ↔ 0 ≤ o + m.2.2.2.2 ∧ o + m.2.2.2.2 ≤ 1099511627776) := fun h1 h2 => by
    unfold posS
    rw [hprom0 h1, hstk, h2]
    simp [sumP]
  have hmem : ∀ x ∈ (delN N k).mail, x ∈ N.mail ∨ x ∈ (han s m).2 := fun x hx => by
    rw [e0] at hx
    dsimp only at hx
    rcases List.mem_append.1 hx with h1 | h1
    · exact Or.inl (List.mem_of_mem_eraseIdx h1)
    · exact Or.inr (List.mem_of_mem_take h1)
  have hsites : ∀ y ∈ (delN N k).sites, y ∈ N.sites ∨ y = (han s m).1 := fun y hy => by
    rw [e0] at hy
    exact (List.mem_or_eq_of_mem_set hy)
  have hkeys := han_keys s m
  rw [hmt] at hkeys
  have hstock := han_stock s m
  rw [hmt] at hstock
  have hkpst : (han s m).1.stock = o + if (atS (han s m).1 t).kp then (mget ps m.2.1).getD 0 else 0 := by
    rw [hstock, hstk]
    generalize atS (han s m).1 t = a' at hst
    generalize (han s m).2 = l at hst
    have hpr : (atN N t m.2.1).pr = mget s.prom t := by rw [hat]; rfl
    cases hst with
    | comP hk4 hp =>
      have h0 := ((hit.sit.one _).1 hp).1
      rw [if_pos hk4, h0]
      cases hx : (atN N t m.2.1).pr with
      | none => exact absurd hx hp
      | some y =>
        obtain ⟨c, x⟩ := y
        rw [hpr] at hx
        rw [hx, ps_get hP (hit.sit.prom _ c x (hpr.trans hx)).2]
        simp
    | comK hk4 hp hkp => rw [if_pos hk4, ← hpr, hp]; simp
    | comN hk4 hp hkp => rw [if_pos hk4, ← hpr, hp]; simp
    | askY hk => rw [if_neg (show ¬ m.2.2.1 = 4 by omega)]; exact Int.add_zero _
    | askK hk => rw [if_neg (show ¬ m.2.2.1 = 4 by omega)]; exact Int.add_zero _
    | askN hk => rw [if_neg (show ¬ m.2.2.1 = 4 by omega)]; exact Int.add_zero _
    | askP hk => rw [if_neg (show ¬ m.2.2.1 = 4 by omega)]; exact Int.add_zero _
    | askR hk => rw [if_neg (show ¬ m.2.2.1 = 4 by omega)]; exact Int.add_zero _
    | yesMore d hk => rw [if_neg (show ¬ m.2.2.1 = 4 by omega)]; exact Int.add_zero _
    | yesAll d hk => rw [if_neg (show ¬ m.2.2.1 = 4 by omega)]; exact Int.add_zero _
    | yesShut hk => rw [if_neg (show ¬ m.2.2.1 = 4 by omega)]; exact Int.add_zero _
    | yesMiss d hk => rw [if_neg (show ¬ m.2.2.1 = 4 by omega)]; exact Int.add_zero _
    | yesHad d hk => rw [if_neg (show ¬ m.2.2.1 = 4 by omega)]; exact Int.add_zero _
    | noOpen d hk => rw [if_neg (show ¬ m.2.2.1 = 4 by omega)]; exact Int.add_zero _
    | noShut hk => rw [if_neg (show ¬ m.2.2.1 = 4 by omega)]; exact Int.add_zero _
    | aboP hk => rw [if_neg (show ¬ m.2.2.1 = 4 by omega)]; exact Int.add_zero _
    | aboN hk => rw [if_neg (show ¬ m.2.2.1 = 4 by omega)]; exact Int.add_zero _
    | finMore d hk => rw [if_neg (show ¬ m.2.2.1 = 4 by omega)]; exact Int.add_zero _
    | finAll d hk => rw [if_neg (show ¬ m.2.2.1 = 4 by omega)]; exact Int.add_zero _
    | finNo hk => rw [if_neg (show ¬ m.2.2.1 = 4 by omega)]; exact Int.add_zero _
    | telG d hk => rw [if_neg (show ¬ m.2.2.1 = 4 by omega)]; exact Int.add_zero _
    | telO d hk => rw [if_neg (show ¬ m.2.2.1 = 4 by omega)]; exact Int.add_zero _
    | telN hk => rw [if_neg (show ¬ m.2.2.1 = 4 by omega)]; exact Int.add_zero _
  refine ⟨G', ⟨hok', hI', hL', by rw [e0]; exact h.beg, h.pat, by rw [e0]; simpa using h.len, fun y hy => ?_, fun y hy => ?_, fun x hx => ?_, fun j y hy => ?_, fun hc => ?_, fun f x o' hf ho' hb => ?_⟩⟩
  · rcases hsites y hy with h1 | h1
    · exact h.up y h1
    · rw [h1, han_up]; exact h.up s hsm
  · rcases hsites y hy with h1 | h1
    · exact h.only y h1
    · rw [h1]
      have h2 := h.only s hsm
      exact ⟨fun e he => (hkeys.1 e he).elim id (h2.1 e), fun e he => (hkeys.2.1 e he).elim id (h2.2.1 e), fun e he => (hkeys.2.2 e he).elim id (h2.2.2 e)⟩
  · rcases hmem x hx with h1 | h1
    · exact h.mailt x h1
    · rw [hst.tx x h1, hmt]
  · rw [e0] at hy
    dsimp only at hy
    rw [List.getElem?_set] at hy
    split at hy
    · rename_i e
      subst e
      injection hy with hy
      subst hy
      exact ⟨o, ho, by rw [hkk]; exact hkpst⟩
    · exact h.stk j y hy
  · obtain ⟨c1, c2, c3⟩ := h.can hc
    have hno : ¬ m.2.2.1 = 3 := (c2 m hmm).1
    have h5 := (c2 m hmm).2
    have hpd : m.2.2.1 = 1 → (atN N t m.2.1).pr = none → (atN N t m.2.1).kp = false → posS s m.2.2.2.2 = true := fun hk1 h1 h2 => (hpos h1 h2).2 (hc _ (hlet.ask hk1).2 o ho)
    have hGG := hG' t
    rw [hset]
    rw [hset] at hit'
    have mold : ∀ x ∈ N.mail, x.2.2.1 ≠ 3 ∧ (x.2.2.1 = 5 → G' t) := fun x hx => ⟨(c2 x hx).1, fun e => hGG ((c2 x hx).2 e)⟩
    have mnew : ∀ {l : List Ml}, (∀ x ∈ l, x.2.2.1 ≠ 3 ∧ (x.2.2.1 = 5 → G' t)) → (∀ x ∈ (delN N k).mail, x ∈ N.mail ∨ x ∈ l) → ∀ x ∈ (delN N k).mail, x.2.2.1 ≠ 3 ∧ (x.2.2.1 = 5 → G' t) := fun hl hmm x hx => (hmm x hx).elim (mold x) (hl x)
    have one : ∀ {kd : Int}, kd ≠ 3 → (kd = 5 → G' t) → ∀ x ∈ [rep5 m.2.1 m kd], x.2.2.1 ≠ 3 ∧ (x.2.2.1 = 5 → G' t) := fun h1 h2 x hx => by rw [List.mem_singleton.1 hx]; exact ⟨h1, h2⟩
    have nil : ∀ x ∈ ([] : List Ml), x.2.2.1 ≠ 3 ∧ (x.2.2.1 = 5 → G' t) := fun x hx => by cases hx
    have wr : ∀ {kd : Int} {qs : List Mv}, kd ≠ 3 → (kd = 5 → G' t) → ∀ x ∈ wr5 m.2.1 kd m.2.2.2.1 qs, x.2.2.1 ≠ 3 ∧ (x.2.2.1 = 5 → G' t) := fun h1 h2 x hx => by obtain ⟨p, -, rfl⟩ := wr5_mem hx; exact ⟨h1, h2⟩
    have c3' : (atN N t (co t)).op ≠ none ∨ G' t := c3.imp id hGG
    have same : ∀ {l : List Ml}, (∀ x ∈ l, x.2.2.1 ≠ 3 ∧ (x.2.2.1 = 5 → G' t)) → (∀ x ∈ (delN N k).mail, x ∈ N.mail ∨ x ∈ l) → (∀ i, (upd (atN N t) m.2.1 (atN N t m.2.1) i).dr = false) ∧ (∀ x ∈ (delN N k).mail, x.2.2.1 ≠ 3 ∧ (x.2.2.1 = 5 → G' t)) ∧ ((upd (atN N t) m.2.1 (atN N t m.2.1) (co t)).op ≠ none ∨ G' t) := fun hl hmm => by
      rw [upd_id rfl]
      exact ⟨c1, mnew hl hmm, c3'⟩
    have turn : ∀ {l : List Ml} {a' : At}, (∀ x ∈ l, x.2.2.1 ≠ 3 ∧ (x.2.2.1 = 5 → G' t)) → (∀ x ∈ (delN N k).mail, x ∈ N.mail ∨ x ∈ l) → a'.dr = false → ((m.2.1 = co t → a'.op ≠ none ∨ G' t)) → (∀ i, (upd (atN N t) m.2.1 a' i).dr = false) ∧ (∀ x ∈ (delN N k).mail, x.2.2.1 ≠ 3 ∧ (x.2.2.1 = 5 → G' t)) ∧ ((upd (atN N t) m.2.1 a' (co t)).op ≠ none ∨ G' t) := fun hl hmm hd hop => by
      refine ⟨fun i => ?_, mnew hl hmm, ?_⟩
      · by_cases e : i = m.2.1
        · rw [e, upd_same]; exact hd
        · rw [upd_ne e]; exact c1 i
      · by_cases e : co t = m.2.1
        · rw [e, upd_same]; exact hop e.symm
        · rw [upd_ne e]; exact c3'
    have opk : ∀ {d : Option Dl}, d = (atN N t m.2.1).op → m.2.1 = co t → d ≠ none ∨ G' t := fun hd e => by rw [hd, e]; exact c3'
    generalize (han s m).2 = l at hst hmem
    generalize atS (han s m).1 t = a' at hst hit' ⊢
    cases hst with
    | askY hk hp => exact same (one (by decide) (fun e => absurd e (by decide))) hmem
    | askK hk hp hkp => exact same nil hmem
    | askN hk hp hkp hd => have := c1 m.2.1; rw [hd] at this; cases this
    | askP hk hp hkp hd hq => exact turn (one (by decide) (fun e => absurd e (by decide))) hmem hd (opk rfl)
    | askR hk hp hkp hd hq => rw [hpd hk hp hkp] at hq; cases hq
    | yesMore d hk ho hne => exact turn nil hmem (c1 m.2.1) (fun _ => Or.inl (by simp))
    | yesAll d hk ho hz =>
      refine turn (wr (by decide) (fun e => absurd e (by decide))) hmem (c1 m.2.1) (fun e => Or.inr ?_)
      exact (hit'.sit.gt m.2.1 (dl0 d.parts) (by rw [upd_same])).2.1
    | yesShut hk ho hg =>
      have e : m.2.1 = co t := (hlet.yes hk).1
      refine same (one (by decide) (fun _ => ?_)) hmem
      rcases c3' with h6 | h6
      · rw [← e, ho] at h6; exact absurd rfl h6
      · exact h6
    | yesMiss d hk ho hg hv => exact same (one (by decide) (fun e => absurd e (by decide))) hmem
    | yesHad d hk ho hg hv => exact same nil hmem
    | noOpen d hk ho => exact absurd hk hno
    | noShut hk ho => exact absurd hk hno
    | comP hk hp => exact turn (one (by decide) (fun e => absurd e (by decide))) hmem (c1 m.2.1) (opk rfl)
    | comK hk hp hkp => exact same (one (by decide) (fun e => absurd e (by decide))) hmem
    | comN hk hp hkp => exact same nil hmem
    | aboP hk hp =>
      have h7 := hlet.abo hk
      have h8 := h7.2.2.2 (h5 hk) m.2.1 h7.2.1
      rw [((hit.sit.one _).1 hp).1] at h8; cases h8
    | aboN hk hp => exact same nil hmem
    | finMore d hk hg hne => exact turn nil hmem (c1 m.2.1) (opk rfl)
    | finAll d hk hg hz => exact turn nil hmem (c1 m.2.1) (opk rfl)
    | finNo hk hg => exact same nil hmem
    | telG d hk hg => exact same (one (by decide) (fun e => absurd e (by decide))) hmem
    | telO d hk hg ho => exact same nil hmem
    | telN hk hg ho =>
      have e : m.2.1 = co t := (hlet.wha hk).1
      refine same (one (by decide) (fun _ => ?_)) hmem
      rcases c3' with h6 | h6
      · rw [← e, ho] at h6; exact absurd rfl h6
      · exact h6
  · obtain ⟨b1, b2⟩ := h.bad f x o' hf ho' hb
    rw [hset]
    by_cases e : f = m.2.1
    · rw [e] at b1 b2 hf ho'
      rw [e, upd_same]
      rw [ho] at ho'
      injection ho' with ho'
      subst ho'
      generalize (han s m).2 = l at hst
      generalize atS (han s m).1 t = a' at hst ⊢
      cases hst with
      | askP hk hp hkp hd hq =>
        exfalso
        have h2 := ps_get hP (hlet.ask hk).2
        rw [ps_get hP hf] at h2
        injection h2 with h2
        have h3 := (hpos hp hkp).1 hq
        rw [← h2] at h3
        exact hb h3
      | comP hk hp => exact absurd b1 hp
      | aboP hk hp => exact absurd b1 hp
      | askY hk hp => exact absurd b1 hp
      | askK hk hp hkp => exact ⟨b1, b2⟩
      | askN hk hp hkp hd => exact ⟨b1, b2⟩
      | askR hk hp hkp hd hq => exact ⟨b1, b2⟩
      | yesMore d hk ho hne => exact ⟨b1, b2⟩
      | yesAll d hk ho hz => exact ⟨b1, b2⟩
      | yesShut hk ho hg => exact ⟨b1, b2⟩
      | yesMiss d hk ho hg hv => exact ⟨b1, b2⟩
      | yesHad d hk ho hg hv => exact ⟨b1, b2⟩
      | noOpen d hk ho => exact ⟨b1, b2⟩
      | noShut hk ho => exact ⟨b1, b2⟩
      | comK hk hp hkp => exact ⟨b1, b2⟩
      | comN hk hp hkp => exact ⟨b1, b2⟩
      | aboN hk hp => exact ⟨b1, b2⟩
      | finMore d hk hg hne => exact ⟨b1, b2⟩
      | finAll d hk hg hz => exact ⟨b1, b2⟩
      | finNo hk hg => exact ⟨b1, b2⟩
      | telG d hk hg => exact ⟨b1, b2⟩
      | telO d hk hg ho => exact ⟨b1, b2⟩
      | telN hk hg ho => exact ⟨b1, b2⟩
    · rw [upd_ne e]; exact ⟨b1, b2⟩

end Go.Proofs.Ytnoeiocbmhkmeaa

namespace Go.Proofs.Ytnoeiocbmhkmeaa
set_option linter.unusedSimpArgs false

theorem calm_new {l : List Int} (h : okStocks l = true) : Calm (newN l) l (fun _ => 0) (fun _ => []) (fun _ => False) := by
  have hb : (newN l).begun = 0 := rfl
  refine ⟨newN_ok h, ⟨fun t h1 h2 => (by omega), fun t h1 h2 => (by omega), fun t i _ => ?_⟩, fun t h1 h2 => (by omega), rfl, (newN_len l).symm, fun k s hs => ?_⟩
  · unfold atN
    split
    · rfl
    · cases hx : (newN l).sites[i.toNat]? with
      | none => rfl
      | some s =>
        have hk : i.toNat < l.length := by
          have := (List.getElem?_eq_some_iff.1 hx).1
          rw [newN_len] at this; exact this
        have h2 : l[i.toNat]? = some (l[i.toNat]'hk) := List.getElem?_eq_getElem _
        rw [newN_site h2] at hx
        injection hx with hx
        subst hx
        rfl
  · have hk : k < l.length := by
      have := (List.getElem?_eq_some_iff.1 hs).1
      rw [newN_len] at this; exact this
    have h2 : l[k]? = some (l[k]'hk) := List.getElem?_eq_getElem _
    rw [newN_site h2] at hs
    injection hs with hs
    subst hs
    exact ⟨rfl, rfl, rfl, rfl, h2⟩
theorem Calm.up {N : Nx} {own : List Int} {co : Int → Int} {pa : Int → List Mv} {G : Int → Prop} (h : Calm N own co pa G) : ∀ s ∈ N.sites, s.up = true := fun s hs => by
  obtain ⟨k, hk⟩ := List.mem_iff_getElem?.1 hs
  exact (h.site k s hk).1
/-- A transaction begins at rest. -/
theorem Run.start {N : Nx} {own : List Int} {co : Int → Int} {pa : Int → List Mv} {G : Int → Prop} (h : Calm N own co pa G) {k : Nat} {s : Sx} (hk : N.sites[k]? = some s) {ps : List Mv} (hp : okTx N ps = true) (hb : N.begun < 256) :
    Run (begN N k ps) own (N.begun + 1) ps (fun t => if t = N.begun + 1 then (k : Int) else co t) (fun t => if t = N.begun + 1 then ps else pa t) (fun t => t ≠ N.begun + 1 ∧ G t) := by
  have hP := okTx_parts hp
  have hr : N.mail.length + 8 ≤ 1024 := by rw [h.mail]; decide
  have hs := h.ok.site k s hk
  have hnew := hs.1.new
  have hI := begN_inv h.inv h.ok hk hp
  have e0 : begN N k ps = { N with sites := N.sites.set k { s with opn := s.opn ++ [(N.begun + 1, dl0 ps)] }, mail := N.mail ++ (wrL s 1 (N.begun + 1) ps).take (1024 - N.mail.length), begun := N.begun + 1 } := by unfold begN; rw [hk]
  have hsites : ∀ y ∈ (begN N k ps).sites, y ∈ N.sites ∨ y = { s with opn := s.opn ++ [(N.begun + 1, dl0 ps)] } := fun y hy => by
    rw [e0] at hy
    exact List.mem_or_eq_of_mem_set hy
  have hz : ∀ i, atN (begN N k ps) (N.begun + 1) i = if i = (k : Int) then { at0 with op := some (dl0 ps) } else at0 := fun i => by
    have hat : atN (begN N k ps) (N.begun + 1) = upd (atN N (N.begun + 1)) (k : Int) (atS { s with opn := s.opn ++ [(N.begun + 1, dl0 ps)] } (N.begun + 1)) := by rw [e0]; exact atN_set hk _ _ _ _
    rw [hat]
    unfold upd
    split
    · have e2 : atS s (N.begun + 1) = at0 := by rw [← atN_of hk]; exact h.inv.fresh _ _ (Or.inl (by omega))
      have : atS { s with opn := s.opn ++ [(N.begun + 1, dl0 ps)] } (N.begun + 1) = { atS s (N.begun + 1) with op := some (dl0 ps) } := by
        unfold atS
        dsimp only
        rw [mget_snoc _ _ _ _ hnew, if_pos rfl]
      rw [this, e2]
    · exact h.inv.fresh _ _ (Or.inl (by omega))
  have hz2 : ∀ i, (atN (begN N k ps) (N.begun + 1) i).pr = none ∧ (atN (begN N k ps) (N.begun + 1) i).kp = false ∧ (atN (begN N k ps) (N.begun + 1) i).dr = false := fun i => by
    rw [hz]; split <;> exact ⟨rfl, rfl, rfl⟩
  refine ⟨begN_ok h.ok hk hp hb, hI, begN_live h.inv h.ok h.liv hk hp hr, ⟨by rw [e0], by have := h.ok.beg; omega⟩, if_pos rfl, by rw [e0]; simpa using h.len, fun y hy => ?_, fun y hy => ?_, fun m hm => ?_, fun j y hy => ?_, fun _ => ⟨fun i => (hz2 i).2.2, fun m hm => ?_, Or.inl ?_⟩, fun f x o _ _ _ => ⟨(hz2 f).1, (hz2 f).2.1⟩⟩
  · rcases hsites y hy with h1 | h1
    · exact h.up y h1
    · rw [h1]; exact h.up s (List.mem_of_getElem? hk)
  · rcases hsites y hy with h1 | h1
    · obtain ⟨j, hj⟩ := List.mem_iff_getElem?.1 h1
      obtain ⟨-, a, b, c, -⟩ := h.site j y hj
      rw [a, b, c]
      exact ⟨fun _ h => (by cases h), fun _ h => (by cases h), fun _ h => (by cases h)⟩
    · obtain ⟨-, a, b, c, -⟩ := h.site k s hk
      rw [h1]
      dsimp only
      rw [a, b, c]
      refine ⟨fun e he => ?_, fun _ h => (by cases h), fun _ h => (by cases h)⟩
      rw [List.nil_append, List.mem_singleton] at he
      rw [he]
  · rw [e0, h.mail] at hm
    dsimp only at hm
    rw [List.nil_append, wr5_eq] at hm
    obtain ⟨p, -, rfl⟩ := wr5_mem (List.mem_of_mem_take hm)
    rfl
  · have h1 := hz2 (j : Int)
    rw [atN_of hy] at h1
    rw [h1.2.1]
    rw [e0] at hy
    dsimp only at hy
    rw [List.getElem?_set] at hy
    split at hy
    · rename_i e
      subst e
      split at hy
      · injection hy with hy
        subst hy
        exact ⟨s.stock, (h.site _ s hk).2.2.2.2, by simp⟩
      · cases hy
    · exact ⟨y.stock, (h.site j y hy).2.2.2.2, by simp⟩
  · rw [e0, h.mail] at hm
    dsimp only at hm
    rw [List.nil_append, wr5_eq] at hm
    obtain ⟨p, -, rfl⟩ := wr5_mem (List.mem_of_mem_take hm)
    exact ⟨fun e => absurd (show (1 : Int) = 3 from e) (by decide), fun e => absurd (show (1 : Int) = 5 from e) (by decide)⟩
  · rw [if_pos rfl, hz, if_pos rfl]
    simp
/-- What the stocks are behind the transaction. -/
def ownEnd (N : Nx) : List Int := N.sites.map (·.stock)
/-- A transaction's last letter is gone. -/
theorem Run.done {N : Nx} {own : List Int} {t : Int} {ps : List Mv} {co : Int → Int} {pa : Int → List Mv} {G : Int → Prop} (h : Run N own t ps co pa G) (hm : N.mail = []) :
    Calm N (ownEnd N) co pa G ∧ (canP own ps → ∀ p ∈ ps, (atN N t p.1).kp = true) ∧ (¬ canP own ps → ∀ k, (atN N t k).kp = false) ∧ ∀ (k : Nat) (s : Sx), N.sites[k]? = some s → ∃ o, own[k]? = some o ∧ s.stock = o + if (atS s t).kp then (mget ps (k : Int)).getD 0 else 0 := by
  have htt : t ≤ N.begun := by rw [← h.beg.1]; exact Int.le_refl _
  have hit := h.inv.tx t h.beg.2 htt
  rw [h.pat] at hit
  have hno : ∀ m, ¬ lets N t m := fun m hx => by have := hx.1; rw [hm] at this; cases this
  have hq := quiet hit (h.liv t h.beg.2 htt) hno
  refine ⟨⟨h.ok, h.inv, h.liv, hm, by unfold ownEnd; simp, fun k s hs => ?_⟩, fun hc p hp => ?_, fun hc k => ?_, h.stk⟩
  · have h1 := hq (k : Int)
    rw [atN_of hs] at h1
    have h2 := h.only s (List.mem_of_getElem? hs)
    refine ⟨h.up s (List.mem_of_getElem? hs), keys_empty h2.1 h1.1, keys_empty h2.2.1 h1.2.1, keys_empty h2.2.2 h1.2.2, ?_⟩
    unfold ownEnd
    rw [List.getElem?_map, hs]; rfl
  · have hG : G t := by
      rcases (h.can hc).2.2 with h1 | h1
      · exact absurd (hq (co t)).1 h1
      · exact h1
    exact hit.sit.fin hG (hq (co t)).2.1 p.1 ⟨p.2, hp⟩
  · cases hk : (atN N t k).kp with
    | false => rfl
    | true =>
      exfalso
      have hG := hit.sit.kp k hk
      have hall := hit.sit.fin hG (hq (co t)).2.1
      apply hc
      intro p hp o ho
      refine Classical.byContradiction fun hn => ?_
      have := (h.bad p.1 p.2 o hp ho hn).2
      rw [hall p.1 ⟨p.2, hp⟩] at this
      cases this
/-- What is booked for parts. -/
def addP5 : List Int → List Mv → List Int
  | own, [] => own
  | own, p :: r => addP5 (own.set p.1.toNat (own.getD p.1.toNat 0 + p.2)) r
theorem addP5_len : ∀ (ps : List Mv) (own : List Int), (addP5 own ps).length = own.length
  | [], own => rfl
  | p :: r, own => by unfold addP5; rw [addP5_len r]; simp
theorem mget_cons {β : Type} (p : Int × β) (r : List (Int × β)) (a : Int) : mget (p :: r) a = if p.1 = a then some p.2 else mget r a := by
  unfold mget
  rw [List.find?_cons]
  by_cases h : p.1 = a
  · simp [h]
  · simp [h]
theorem addP5_at : ∀ (ps : List Mv) (own : List Int) (k : Nat), (ps.map (·.1)).Nodup → (∀ p ∈ ps, 0 ≤ p.1 ∧ p.1 < (own.length : Int)) → k < own.length → (addP5 own ps)[k]? = some (own.getD k 0 + (mget ps (k : Int)).getD 0)
  | [], own, k, _, _, hk => by
    unfold addP5
    rw [mget_nil, getD_of 0 hk]
    simp
  | p :: r, own, k, hn, hp, hk => by
    unfold addP5
    rw [List.map_cons, List.nodup_cons] at hn
    have h1 := hp p List.mem_cons_self
    have hlen : (own.set p.1.toNat (own.getD p.1.toNat 0 + p.2)).length = own.length := by simp
    rw [addP5_at r _ k hn.2 (fun q hq => by rw [hlen]; exact hp q (List.mem_cons_of_mem _ hq)) (by rw [hlen]; exact hk), mget_cons]
    by_cases e : p.1 = (k : Int)
    · rw [if_pos e]
      have e2 : p.1.toNat = k := by omega
      have hnone : mget r (k : Int) = none := mget_none.2 (fun q hq e3 => hn.1 (List.mem_map.2 ⟨q, hq, e3.trans e.symm⟩))
      rw [hnone, e2, List.getD_eq_getElem?_getD, List.getElem?_set_self hk]
      simp
    · rw [if_neg e, List.getD_eq_getElem?_getD, List.getElem?_set_ne (by omega), ← List.getD_eq_getElem?_getD]
theorem Run.own_kept {N : Nx} {own : List Int} {t : Int} {ps : List Mv} {co : Int → Int} {pa : Int → List Mv} {G : Int → Prop} (h : Run N own t ps co pa G) (hm : N.mail = []) (hc : canP own ps) : ownEnd N = addP5 own ps := by
  obtain ⟨-, h1, -, h3⟩ := h.done hm
  have hP := (h.inv.ok t h.beg.2 (by rw [← h.beg.1]; exact Int.le_refl _)).2
  rw [h.pat] at hP
  have htt : t ≤ N.begun := by rw [← h.beg.1]; exact Int.le_refl _
  have hit := h.inv.tx t h.beg.2 htt
  rw [h.pat] at hit
  apply List.ext_getElem?
  intro k
  by_cases hk : k < N.sites.length
  · have hs : N.sites[k]? = some (N.sites[k]'hk) := List.getElem?_eq_getElem _
    generalize N.sites[k]'hk = s at hs
    obtain ⟨o, ho, hst⟩ := h3 k s hs
    rw [addP5_at ps own k hP.nod (fun p hp => by have := hP.part p hp; rw [h.len]; exact ⟨this.1, this.2.1⟩) (by rw [h.len]; exact hk)]
    unfold ownEnd
    rw [List.getElem?_map, hs, Option.map_some, hst]
    have e1 : own.getD k 0 = o := by rw [List.getD_eq_getElem?_getD, ho]; rfl
    rw [e1]
    congr 1
    congr 1
    cases hx : mget ps (k : Int) with
    | none => simp
    | some x =>
      have h5 := h1 hc ((k : Int), x) (mget_some hx)
      rw [atN_of hs] at h5
      rw [h5]
      simp
  · unfold ownEnd
    rw [List.getElem?_eq_none (by simp; omega), List.getElem?_eq_none (by rw [addP5_len, h.len]; omega)]
theorem Run.own_left {N : Nx} {own : List Int} {t : Int} {ps : List Mv} {co : Int → Int} {pa : Int → List Mv} {G : Int → Prop} (h : Run N own t ps co pa G) (hm : N.mail = []) (hc : ¬ canP own ps) : ownEnd N = own := by
  obtain ⟨-, -, h2, h3⟩ := h.done hm
  apply List.ext_getElem?
  intro k
  by_cases hk : k < N.sites.length
  · have hs : N.sites[k]? = some (N.sites[k]'hk) := List.getElem?_eq_getElem _
    generalize N.sites[k]'hk = s at hs
    obtain ⟨o, ho, hst⟩ := h3 k s hs
    have h4 := h2 hc (k : Int)
    rw [atN_of hs] at h4
    unfold ownEnd
    rw [List.getElem?_map, hs, Option.map_some, hst, h4, ho]
    simp
  · unfold ownEnd
    rw [List.getElem?_eq_none (by simp; omega), List.getElem?_eq_none (by rw [h.len]; omega)]
/-- How many letters there may be. -/
theorem Run.few {N : Nx} {own : List Int} {co : Int → Int} {pa : Int → List Mv} {G : Int → Prop} (h : Calm N own co pa G) {k : Nat} {s : Sx} (hk : N.sites[k]? = some s) {ps : List Mv} (hp : okTx N ps = true) : phi (begN N k ps) ≤ 49 := by
  have hP := okTx_parts hp
  have h8 := h.ok.hi
  have hfew := hP.few
  unfold begN
  rw [hk]
  unfold phi opens
  dsimp only
  rw [h.mail, List.nil_append]
  have h1 := wts_take (wrL s 1 (N.begun + 1) ps) (1024 - ([] : List Ml).length)
  have h2 : wts (wrL s 1 (N.begun + 1) ps) = ps.length * 4 := by
    rw [wr5_eq]
    unfold wr5 wts
    rw [List.map_map]
    have : ∀ (qs : List Mv), (qs.map (wt ∘ fun p => (s.num, p.1, (1 : Int), N.begun + 1, if (1 : Int) = 1 then p.2 else 0))).sum = qs.length * 4 := fun qs => by
      induction qs with
      | nil => rfl
      | cons q r ih =>
        rw [List.map_cons, List.sum_cons, ih, List.length_cons, Nat.succ_mul]
        simp only [Function.comp, wt, if_true]
        omega
    exact this ps
  have h3 := opens_set hk { s with opn := s.opn ++ [(N.begun + 1, dl0 ps)] }
  have h4 : opens N = 0 := by
    unfold opens
    have : ∀ y ∈ N.sites, y.opn.length = 0 := fun y hy => by
      obtain ⟨j, hj⟩ := List.mem_iff_getElem?.1 hy
      rw [(h.site j y hj).2.1]; rfl
    have h5 : ∀ (l : List Sx), (∀ y ∈ l, y.opn.length = 0) → (l.map (fun s => s.opn.length)).sum = 0 := fun l => by
      induction l with
      | nil => intro _; rfl
      | cons y r ih =>
        intro hy
        rw [List.map_cons, List.sum_cons, hy y List.mem_cons_self, ih (fun z hz => hy z (List.mem_cons_of_mem _ hz))]
    exact h5 _ this
  have h5 : s.opn.length = 0 := by rw [(h.site k s hk).2.1]; rfl
  rw [h4, h5] at h3
  simp only [List.length_append, h5, List.length_cons, List.length_nil] at h3
  omega
theorem phi_mail (N : Nx) : N.mail.length ≤ phi N := by
  unfold phi
  have : ∀ (l : List Ml), l.length ≤ wts l := fun l => by
    induction l with
    | nil => simp
    | cons x r ih =>
      have h1 := wts_app [x] r
      rw [wts_one] at h1
      have := wt_pos x
      rw [List.length_cons]
      rw [List.singleton_append] at h1
      omega
  have := this N.mail
  omega

end Go.Proofs.Ytnoeiocbmhkmeaa
