/- Layer 5: while no letter is lost, somebody is always asked. -/
import Derived.Test.YtnoeiocbmhkmeaaPvE
namespace Go.Proofs.Ytnoeiocbmhkmeaa
set_option linter.unusedSimpArgs false

/-- A letter of a kind from a site, or to one. -/
def Fr (L : Ml → Prop) (kd f : Int) : Prop := ∃ m, L m ∧ m.2.2.1 = kd ∧ m.1 = f
def To (L : Ml → Prop) (kd f : Int) : Prop := ∃ m, L m ∧ m.2.2.1 = kd ∧ m.2.1 = f
/-- Who is missing has a letter on its way; who has promised, too. -/
structure LivT (A : Int → At) (L : Ml → Prop) (c : Int) (K : Int → Prop) : Prop where
  op : ∀ d, (A c).op = some d → K c → ∀ f, mget d.miss f ≠ none → To L 1 f ∨ Fr L 2 f ∨ Fr L 3 f
  gt : ∀ d, (A c).gt = some d → K c → ∀ f, mget d.miss f ≠ none → To L 4 f ∨ Fr L 6 f
  pr : ∀ f, (A f).pr ≠ none → K f → (A c).op ≠ none ∨ Fr L 2 f ∨ Fr L 7 f ∨ To L 4 f ∨ To L 5 f
section
variable {L L' : Ml → Prop} {m : Ml}
theorem Fr.keep {kd f : Int} (h : Fr L kd f) (hO : ∀ x, L x → x ≠ m → L' x) (hn : m.2.2.1 = kd → m.1 ≠ f) : Fr L' kd f := by
  obtain ⟨x, h1, h2, h3⟩ := h
  exact ⟨x, hO x h1 (fun e => by subst e; exact hn h2 h3), h2, h3⟩
theorem To.keep {kd f : Int} (h : To L kd f) (hO : ∀ x, L x → x ≠ m → L' x) (hn : m.2.2.1 = kd → m.2.1 ≠ f) : To L' kd f := by
  obtain ⟨x, h1, h2, h3⟩ := h
  exact ⟨x, hO x h1 (fun e => by subst e; exact hn h2 h3), h2, h3⟩
theorem Fr.one {num k : Int} {l : List Ml} (hN : ∀ x ∈ l, L' x) (h : rep5 num m k ∈ l) : Fr L' k num := ⟨_, hN _ h, rfl, rfl⟩
theorem To.one {num k : Int} {l : List Ml} (hN : ∀ x ∈ l, L' x) (h : rep5 num m k ∈ l) : To L' k m.1 := ⟨_, hN _ h, rfl, rfl⟩
theorem To.wr {num k tx : Int} {ps : List Mv} (hN : ∀ x ∈ wr5 num k tx ps, L' x) {f x : Int} (h : (f, x) ∈ ps) : To L' k f := ⟨_, hN _ (List.mem_map_of_mem h), rfl, rfl⟩
end
theorem mdel_some {β : Type} {l : List (Int × β)} {a f : Int} (h : mget (mdel l a) f ≠ none) : f ≠ a ∧ mget l f ≠ none := by
  rw [mget_del] at h
  split at h
  · exact absurd rfl h
  · rename_i e; exact ⟨e, h⟩
/-- A letter is handled, and none is lost. -/
theorem StepT.live {A : Int → At} {L L' : Ml → Prop} {c : Int} {ps : List Mv} {G : Prop} {k : Int} {q : Bool} {m : Ml} {a' : At} {l : List Ml} (hs : StepT (A k) k q m a' l) (h : InvT A L c ps G) (hk : m.2.1 = k) (hm : LetOk A c ps G m) (v : LivT A L c (fun _ => True)) (hO : ∀ x, L x → x ≠ m → L' x) (hN : ∀ x ∈ l, L' x) :
    LivT (upd A k a') L' c (fun _ => True) := by
  have hid : upd A k (A k) = A := by
    funext i; unfold upd
    split
    · rename_i e; rw [e]
    · rfl
  subst hk
  have prP : ∀ f, (A f).pr ≠ none → isP ps f := fun f hf => by
    cases hx : (A f).pr with
    | none => exact absurd hx hf
    | some y => obtain ⟨t, x⟩ := y; exact ⟨x, (h.sit.prom f t x hx).2⟩
  have opG : ∀ {k d}, (A k).op = some d → ¬ G := fun hx => (h.sit.op _ _ hx).2.1
  cases hs with
  | askY hk hp =>
    rw [hid]
    refine ⟨fun d hd _ f hf => ?_, fun d hd _ f hf => ?_, fun f hf _ => ?_⟩
    · rcases v.op d hd trivial f hf with h1 | h1 | h1
      · by_cases e : m.2.1 = f
        · exact Or.inr (Or.inl (e ▸ Fr.one hN List.mem_cons_self))
        · exact Or.inl (h1.keep hO (fun _ => e))
      · exact Or.inr (Or.inl (h1.keep hO (fun e => by omega)))
      · exact Or.inr (Or.inr (h1.keep hO (fun e => by omega)))
    · exact (v.gt d hd trivial f hf).imp (fun h1 => h1.keep hO (fun e => by omega)) (fun h1 => h1.keep hO (fun e => by omega))
    · exact (v.pr f hf trivial).imp id (fun h1 => h1.imp (fun h1 => h1.keep hO (fun e => by omega)) (fun h1 => h1.imp (fun h1 => h1.keep hO (fun e => by omega)) (fun h1 => h1.imp (fun h1 => h1.keep hO (fun e => by omega)) (fun h1 => h1.keep hO (fun e => by omega)))))
  | askK hk hp hkp =>
    rw [hid]
    refine ⟨fun d hd _ f hf => absurd (h.sit.kp _ hkp) (opG hd), fun d hd _ f hf => ?_, fun f hf _ => ?_⟩
    · exact (v.gt d hd trivial f hf).imp (fun h1 => h1.keep hO (fun e => by omega)) (fun h1 => h1.keep hO (fun e => by omega))
    · exact (v.pr f hf trivial).imp id (fun h1 => h1.imp (fun h1 => h1.keep hO (fun e => by omega)) (fun h1 => h1.imp (fun h1 => h1.keep hO (fun e => by omega)) (fun h1 => h1.imp (fun h1 => h1.keep hO (fun e => by omega)) (fun h1 => h1.keep hO (fun e => by omega)))))
  | askN hk hp hkp hd' =>
    rw [hid]
    refine ⟨fun d hd _ f hf => ?_, fun d hd _ f hf => ?_, fun f hf _ => ?_⟩
    · rcases v.op d hd trivial f hf with h1 | h1 | h1
      · by_cases e : m.2.1 = f
        · exact Or.inr (Or.inr (e ▸ Fr.one hN List.mem_cons_self))
        · exact Or.inl (h1.keep hO (fun _ => e))
      · exact Or.inr (Or.inl (h1.keep hO (fun e => by omega)))
      · exact Or.inr (Or.inr (h1.keep hO (fun e => by omega)))
    · exact (v.gt d hd trivial f hf).imp (fun h1 => h1.keep hO (fun e => by omega)) (fun h1 => h1.keep hO (fun e => by omega))
    · exact (v.pr f hf trivial).imp id (fun h1 => h1.imp (fun h1 => h1.keep hO (fun e => by omega)) (fun h1 => h1.imp (fun h1 => h1.keep hO (fun e => by omega)) (fun h1 => h1.imp (fun h1 => h1.keep hO (fun e => by omega)) (fun h1 => h1.keep hO (fun e => by omega)))))
  | askP hk hp hkp hd' hq =>
    have eo : (upd A m.2.1 { A m.2.1 with pr := some (m.1, m.2.2.2.2) } c).op = (A c).op ∧ (upd A m.2.1 { A m.2.1 with pr := some (m.1, m.2.2.2.2) } c).gt = (A c).gt := by
      unfold upd; split
      · rename_i e; rw [e]; exact ⟨rfl, rfl⟩
      · exact ⟨rfl, rfl⟩
    refine ⟨fun d hd _ f hf => ?_, fun d hd _ f hf => ?_, fun f hf _ => ?_⟩
    · rw [eo.1] at hd
      rcases v.op d hd trivial f hf with h1 | h1 | h1
      · by_cases e : m.2.1 = f
        · exact Or.inr (Or.inl (e ▸ Fr.one hN List.mem_cons_self))
        · exact Or.inl (h1.keep hO (fun _ => e))
      · exact Or.inr (Or.inl (h1.keep hO (fun e => by omega)))
      · exact Or.inr (Or.inr (h1.keep hO (fun e => by omega)))
    · rw [eo.2] at hd
      exact (v.gt d hd trivial f hf).imp (fun h1 => h1.keep hO (fun e => by omega)) (fun h1 => h1.keep hO (fun e => by omega))
    · rw [eo.1]
      by_cases e : f = m.2.1
      · rw [e]; exact Or.inr (Or.inl (Fr.one hN List.mem_cons_self))
      · rw [upd_ne e] at hf
        exact (v.pr f hf trivial).imp id (fun h1 => h1.imp (fun h1 => h1.keep hO (fun e => by omega)) (fun h1 => h1.imp (fun h1 => h1.keep hO (fun e => by omega)) (fun h1 => h1.imp (fun h1 => h1.keep hO (fun e => by omega)) (fun h1 => h1.keep hO (fun e => by omega)))))
  | askR hk hp hkp hd' hq =>
    have eo : (upd A m.2.1 { A m.2.1 with dr := true } c).op = (A c).op ∧ (upd A m.2.1 { A m.2.1 with dr := true } c).gt = (A c).gt := by
      unfold upd; split
      · rename_i e; rw [e]; exact ⟨rfl, rfl⟩
      · exact ⟨rfl, rfl⟩
    refine ⟨fun d hd _ f hf => ?_, fun d hd _ f hf => ?_, fun f hf _ => ?_⟩
    · rw [eo.1] at hd
      rcases v.op d hd trivial f hf with h1 | h1 | h1
      · by_cases e : m.2.1 = f
        · exact Or.inr (Or.inr (e ▸ Fr.one hN List.mem_cons_self))
        · exact Or.inl (h1.keep hO (fun _ => e))
      · exact Or.inr (Or.inl (h1.keep hO (fun e => by omega)))
      · exact Or.inr (Or.inr (h1.keep hO (fun e => by omega)))
    · rw [eo.2] at hd
      exact (v.gt d hd trivial f hf).imp (fun h1 => h1.keep hO (fun e => by omega)) (fun h1 => h1.keep hO (fun e => by omega))
    · rw [eo.1]
      by_cases e : f = m.2.1
      · rw [e, upd_same] at hf; exact absurd hp hf
      · rw [upd_ne e] at hf
        exact (v.pr f hf trivial).imp id (fun h1 => h1.imp (fun h1 => h1.keep hO (fun e => by omega)) (fun h1 => h1.imp (fun h1 => h1.keep hO (fun e => by omega)) (fun h1 => h1.imp (fun h1 => h1.keep hO (fun e => by omega)) (fun h1 => h1.keep hO (fun e => by omega)))))
  | yesMore d hk ho hne =>
    obtain ⟨h2, h3, h4⟩ := hm.yes hk
    refine ⟨fun d' hd _ f hf => ?_, fun d' hd _ f hf => ?_, fun f hf _ => Or.inl ?_⟩
    · rw [← h2, upd_same] at hd
      injection hd with hd; subst hd
      obtain ⟨e1, e2⟩ := mdel_some hf
      rcases v.op d (by rw [← h2]; exact ho) trivial f e2 with h1 | h1 | h1
      · exact Or.inl (h1.keep hO (fun e => by omega))
      · exact Or.inr (Or.inl (h1.keep hO (fun _ e => e1 e.symm)))
      · exact Or.inr (Or.inr (h1.keep hO (fun e => by omega)))
    · rw [← h2, upd_same] at hd
      exact (v.gt d' (by rw [← h2]; exact hd) trivial f hf).imp (fun h1 => h1.keep hO (fun e => by omega)) (fun h1 => h1.keep hO (fun e => by omega))
    · rw [← h2, upd_same]; simp
  | yesAll d hk ho hz =>
    obtain ⟨h2, h3, h4⟩ := hm.yes hk
    obtain ⟨a1, a2, a3, a4, a5, a6⟩ := h.sit.op _ d ho
    refine ⟨fun d' hd _ f hf => ?_, fun d' hd _ f hf => ?_, fun f hf _ => ?_⟩
    · rw [← h2, upd_same] at hd; cases hd
    · rw [← h2, upd_same] at hd
      injection hd with hd; subst hd
      have hf : mget (missOf d.parts) f ≠ none := hf
      rw [missOf_at] at hf
      split at hf
      · rename_i hx; obtain ⟨x, hx⟩ := hx; exact Or.inl (To.wr hN hx)
      · exact absurd rfl hf
    · have hf' : (A f).pr ≠ none := by
        by_cases e : f = m.2.1
        · rw [e, upd_same] at hf; rw [e]; exact hf
        · rw [upd_ne e] at hf; exact hf
      obtain ⟨x, hx⟩ := prP f hf'
      rw [← a3] at hx
      exact Or.inr (Or.inr (Or.inr (Or.inl (To.wr hN hx))))
  | yesShut hk ho hg =>
    obtain ⟨h2, h3, h4⟩ := hm.yes hk
    rw [hid]
    refine ⟨fun d hd _ f hf => ?_, fun d hd _ f hf => ?_, fun f hf _ => ?_⟩
    · rw [← h2, ho] at hd; cases hd
    · rw [← h2, hg] at hd; cases hd
    · rcases v.pr f hf trivial with h1 | h1 | h1 | h1 | h1
      · exact absurd (by rw [← h2]; exact ho) h1
      · by_cases e : m.1 = f
        · exact Or.inr (Or.inr (Or.inr (Or.inr (e ▸ To.one hN List.mem_cons_self))))
        · exact Or.inr (Or.inl (h1.keep hO (fun _ => e)))
      · exact Or.inr (Or.inr (Or.inl (h1.keep hO (fun e => by omega))))
      · exact Or.inr (Or.inr (Or.inr (Or.inl (h1.keep hO (fun e => by omega)))))
      · exact Or.inr (Or.inr (Or.inr (Or.inr (h1.keep hO (fun e => by omega)))))
  | yesMiss d hk ho hg hv =>
    obtain ⟨h2, h3, h4⟩ := hm.yes hk
    rw [hid]
    refine ⟨fun d hd _ f hf => ?_, fun d hd _ f hf => ?_, fun f hf _ => ?_⟩
    · rw [← h2, ho] at hd; cases hd
    · exact (v.gt d hd trivial f hf).imp (fun h1 => h1.keep hO (fun e => by omega)) (fun h1 => h1.keep hO (fun e => by omega))
    · rcases v.pr f hf trivial with h1 | h1 | h1 | h1 | h1
      · exact absurd (by rw [← h2]; exact ho) h1
      · by_cases e : m.1 = f
        · exact Or.inr (Or.inr (Or.inr (Or.inl (e ▸ To.one hN List.mem_cons_self))))
        · exact Or.inr (Or.inl (h1.keep hO (fun _ => e)))
      · exact Or.inr (Or.inr (Or.inl (h1.keep hO (fun e => by omega))))
      · exact Or.inr (Or.inr (Or.inr (Or.inl (h1.keep hO (fun e => by omega)))))
      · exact Or.inr (Or.inr (Or.inr (Or.inr (h1.keep hO (fun e => by omega)))))
  | yesHad d hk ho hg hv =>
    obtain ⟨h2, h3, h4⟩ := hm.yes hk
    obtain ⟨a1, a2, a3, a4, a5, a6⟩ := h.sit.gt _ d hg
    rw [hid]
    refine ⟨fun d hd _ f hf => ?_, fun d hd _ f hf => ?_, fun f hf _ => ?_⟩
    · rw [← h2, ho] at hd; cases hd
    · exact (v.gt d hd trivial f hf).imp (fun h1 => h1.keep hO (fun e => by omega)) (fun h1 => h1.keep hO (fun e => by omega))
    · rcases v.pr f hf trivial with h1 | h1 | h1 | h1 | h1
      · exact absurd (by rw [← h2]; exact ho) h1
      · by_cases e : m.1 = f
        · exfalso
          subst e
          have hmn : mget d.miss m.1 = none := by
            cases hx : mget d.miss m.1 with
            | none => rfl
            | some b => have := (a5 _ _ hx).2; rw [hx, this] at hv; cases hv
          have h5 := a6 _ h3 hmn
          rw [((h.sit.one _).1 hf).1] at h5; cases h5
        · exact Or.inr (Or.inl (h1.keep hO (fun _ => e)))
      · exact Or.inr (Or.inr (Or.inl (h1.keep hO (fun e => by omega))))
      · exact Or.inr (Or.inr (Or.inr (Or.inl (h1.keep hO (fun e => by omega)))))
      · exact Or.inr (Or.inr (Or.inr (Or.inr (h1.keep hO (fun e => by omega)))))
  | noOpen d hk ho =>
    obtain ⟨h2, h3, h4⟩ := hm.no hk
    obtain ⟨a1, a2, a3, a4, a5, a6⟩ := h.sit.op _ d ho
    refine ⟨fun d' hd _ f hf => ?_, fun d' hd _ f hf => ?_, fun f hf _ => ?_⟩
    · rw [← h2, upd_same] at hd; cases hd
    · rw [← h2, upd_same] at hd
      exact absurd (h.sit.gt _ d' hd).2.1 a2
    · have hf' : (A f).pr ≠ none := by
        by_cases e : f = m.2.1
        · rw [e, upd_same] at hf; rw [e]; exact hf
        · rw [upd_ne e] at hf; exact hf
      obtain ⟨x, hx⟩ := prP f hf'
      have hne : f ≠ m.1 := fun e => by
        have := ((h.sit.one f).1 hf').2
        rw [e, h4] at this; cases this
      refine Or.inr (Or.inr (Or.inr (Or.inr (To.wr hN (x := x) ?_))))
      unfold otherL
      rw [List.mem_filter, a3]
      exact ⟨hx, by simpa using hne⟩
  | noShut hk ho =>
    obtain ⟨h2, h3, h4⟩ := hm.no hk
    rw [hid]
    refine ⟨fun d hd _ f hf => ?_, fun d hd _ f hf => ?_, fun f hf _ => ?_⟩
    · rw [← h2, ho] at hd; cases hd
    · exact (v.gt d hd trivial f hf).imp (fun h1 => h1.keep hO (fun e => by omega)) (fun h1 => h1.keep hO (fun e => by omega))
    · exact (v.pr f hf trivial).imp id (fun h1 => h1.imp (fun h1 => h1.keep hO (fun e => by omega)) (fun h1 => h1.imp (fun h1 => h1.keep hO (fun e => by omega)) (fun h1 => h1.imp (fun h1 => h1.keep hO (fun e => by omega)) (fun h1 => h1.keep hO (fun e => by omega)))))
  | comP hk hp =>
    obtain ⟨h2, h3, h4⟩ := hm.com hk
    have eo : (upd A m.2.1 { A m.2.1 with pr := none, kp := true } c).op = (A c).op ∧ (upd A m.2.1 { A m.2.1 with pr := none, kp := true } c).gt = (A c).gt := by
      unfold upd; split
      · rename_i e; rw [e]; exact ⟨rfl, rfl⟩
      · exact ⟨rfl, rfl⟩
    refine ⟨fun d hd _ f hf => ?_, fun d hd _ f hf => ?_, fun f hf _ => ?_⟩
    · rw [eo.1] at hd; exact absurd h4 (opG hd)
    · rw [eo.2] at hd
      rcases v.gt d hd trivial f hf with h1 | h1
      · by_cases e : m.2.1 = f
        · exact Or.inr (e ▸ Fr.one hN List.mem_cons_self)
        · exact Or.inl (h1.keep hO (fun _ => e))
      · exact Or.inr (h1.keep hO (fun e => by omega))
    · rw [eo.1]
      by_cases e : f = m.2.1
      · rw [e, upd_same] at hf; exact absurd rfl hf
      · rw [upd_ne e] at hf
        exact (v.pr f hf trivial).imp id (fun h1 => h1.imp (fun h1 => h1.keep hO (fun e => by omega)) (fun h1 => h1.imp (fun h1 => h1.keep hO (fun e => by omega)) (fun h1 => h1.imp (fun h1 => h1.keep hO (fun _ e2 => e e2.symm)) (fun h1 => h1.keep hO (fun e => by omega)))))
  | comK hk hp hkp =>
    obtain ⟨h2, h3, h4⟩ := hm.com hk
    rw [hid]
    refine ⟨fun d hd _ f hf => absurd h4 (opG hd), fun d hd _ f hf => ?_, fun f hf _ => ?_⟩
    · rcases v.gt d hd trivial f hf with h1 | h1
      · by_cases e : m.2.1 = f
        · exact Or.inr (e ▸ Fr.one hN List.mem_cons_self)
        · exact Or.inl (h1.keep hO (fun _ => e))
      · exact Or.inr (h1.keep hO (fun e => by omega))
    · exact (v.pr f hf trivial).imp id (fun h1 => h1.imp (fun h1 => h1.keep hO (fun e => by omega)) (fun h1 => h1.imp (fun h1 => h1.keep hO (fun e => by omega)) (fun h1 => h1.imp (fun h1 => h1.keep hO (fun _ e2 => by rw [← e2] at hf; exact hf hp)) (fun h1 => h1.keep hO (fun e => by omega)))))
  | comN hk hp hkp =>
    obtain ⟨h2, h3, h4⟩ := hm.com hk
    rcases h.sit.pk h4 _ h3 with h5 | h5
    · exact absurd hp h5
    · rw [hkp] at h5; cases h5
  | aboP hk hp =>
    obtain ⟨h2, h3, h4, h5⟩ := hm.abo hk
    have eo : (upd A m.2.1 { A m.2.1 with pr := none, dr := true } c).op = (A c).op ∧ (upd A m.2.1 { A m.2.1 with pr := none, dr := true } c).gt = (A c).gt := by
      unfold upd; split
      · rename_i e; rw [e]; exact ⟨rfl, rfl⟩
      · exact ⟨rfl, rfl⟩
    refine ⟨fun d hd _ f hf => ?_, fun d hd _ f hf => ?_, fun f hf _ => ?_⟩
    · rw [eo.1, h4] at hd; cases hd
    · rw [eo.2] at hd
      exact (v.gt d hd trivial f hf).imp (fun h1 => h1.keep hO (fun e => by omega)) (fun h1 => h1.keep hO (fun e => by omega))
    · rw [eo.1]
      by_cases e : f = m.2.1
      · rw [e, upd_same] at hf; exact absurd rfl hf
      · rw [upd_ne e] at hf
        exact (v.pr f hf trivial).imp id (fun h1 => h1.imp (fun h1 => h1.keep hO (fun e => by omega)) (fun h1 => h1.imp (fun h1 => h1.keep hO (fun e => by omega)) (fun h1 => h1.imp (fun h1 => h1.keep hO (fun e => by omega)) (fun h1 => h1.keep hO (fun _ e2 => e e2.symm)))))
  | aboN hk hp =>
    obtain ⟨h2, h3, h4, h5⟩ := hm.abo hk
    rw [hid]
    refine ⟨fun d hd _ f hf => ?_, fun d hd _ f hf => ?_, fun f hf _ => ?_⟩
    · rw [h4] at hd; cases hd
    · exact (v.gt d hd trivial f hf).imp (fun h1 => h1.keep hO (fun e => by omega)) (fun h1 => h1.keep hO (fun e => by omega))
    · exact (v.pr f hf trivial).imp id (fun h1 => h1.imp (fun h1 => h1.keep hO (fun e => by omega)) (fun h1 => h1.imp (fun h1 => h1.keep hO (fun e => by omega)) (fun h1 => h1.imp (fun h1 => h1.keep hO (fun e => by omega)) (fun h1 => h1.keep hO (fun _ e2 => by rw [← e2] at hf; exact hf hp)))))
  | finMore d hk hg hne =>
    obtain ⟨h2, h3, h4⟩ := hm.don hk
    refine ⟨fun d' hd _ f hf => ?_, fun d' hd _ f hf => ?_, fun f hf _ => ?_⟩
    · rw [← h2, upd_same] at hd
      exact absurd (h.sit.gt _ d hg).2.1 (opG hd)
    · rw [← h2, upd_same] at hd
      injection hd with hd; subst hd
      obtain ⟨e1, e2⟩ := mdel_some hf
      rcases v.gt d (by rw [← h2]; exact hg) trivial f e2 with h1 | h1
      · exact Or.inl (h1.keep hO (fun e => by omega))
      · exact Or.inr (h1.keep hO (fun _ e => e1 e.symm))
    · have hf' : (A f).pr ≠ none := by
        by_cases e : f = m.2.1
        · rw [e, upd_same] at hf; rw [e]; exact hf
        · rw [upd_ne e] at hf; exact hf
      refine (v.pr f hf' trivial).imp (fun h1 => ?_) (fun h1 => h1.imp (fun h1 => h1.keep hO (fun e => by omega)) (fun h1 => h1.imp (fun h1 => h1.keep hO (fun e => by omega)) (fun h1 => h1.imp (fun h1 => h1.keep hO (fun e => by omega)) (fun h1 => h1.keep hO (fun e => by omega)))))
      rw [← h2, upd_same]
      rw [← h2] at h1
      exact h1
  | finAll d hk hg hz =>
    obtain ⟨h2, h3, h4⟩ := hm.don hk
    refine ⟨fun d' hd _ f hf => ?_, fun d' hd _ f hf => ?_, fun f hf _ => ?_⟩
    · rw [← h2, upd_same] at hd
      exact absurd (h.sit.gt _ d hg).2.1 (opG hd)
    · rw [← h2, upd_same] at hd; cases hd
    · have hf' : (A f).pr ≠ none := by
        by_cases e : f = m.2.1
        · rw [e, upd_same] at hf; rw [e]; exact hf
        · rw [upd_ne e] at hf; exact hf
      refine (v.pr f hf' trivial).imp (fun h1 => ?_) (fun h1 => h1.imp (fun h1 => h1.keep hO (fun e => by omega)) (fun h1 => h1.imp (fun h1 => h1.keep hO (fun e => by omega)) (fun h1 => h1.imp (fun h1 => h1.keep hO (fun e => by omega)) (fun h1 => h1.keep hO (fun e => by omega)))))
      rw [← h2, upd_same]
      rw [← h2] at h1
      exact h1
  | finNo hk hg =>
    obtain ⟨h2, h3, h4⟩ := hm.don hk
    rw [hid]
    refine ⟨fun d hd _ f hf => ?_, fun d hd _ f hf => ?_, fun f hf _ => ?_⟩
    · exact absurd (h.sit.kp _ h4) (opG hd)
    · rw [← h2, hg] at hd; cases hd
    · exact (v.pr f hf trivial).imp id (fun h1 => h1.imp (fun h1 => h1.keep hO (fun e => by omega)) (fun h1 => h1.imp (fun h1 => h1.keep hO (fun e => by omega)) (fun h1 => h1.imp (fun h1 => h1.keep hO (fun e => by omega)) (fun h1 => h1.keep hO (fun e => by omega)))))
  | telG d hk hg =>
    obtain ⟨h2, h3⟩ := hm.wha hk
    rw [hid]
    refine ⟨fun d' hd _ f hf => ?_, fun d hd _ f hf => ?_, fun f hf _ => ?_⟩
    · exact absurd (h.sit.gt _ d hg).2.1 (opG hd)
    · exact (v.gt d hd trivial f hf).imp (fun h1 => h1.keep hO (fun e => by omega)) (fun h1 => h1.keep hO (fun e => by omega))
    · rcases v.pr f hf trivial with h1 | h1 | h1 | h1 | h1
      · exact Or.inl h1
      · exact Or.inr (Or.inl (h1.keep hO (fun e => by omega)))
      · by_cases e : m.1 = f
        · exact Or.inr (Or.inr (Or.inr (Or.inl (e ▸ To.one hN List.mem_cons_self))))
        · exact Or.inr (Or.inr (Or.inl (h1.keep hO (fun _ => e))))
      · exact Or.inr (Or.inr (Or.inr (Or.inl (h1.keep hO (fun e => by omega)))))
      · exact Or.inr (Or.inr (Or.inr (Or.inr (h1.keep hO (fun e => by omega)))))
  | telO d hk hg ho =>
    obtain ⟨h2, h3⟩ := hm.wha hk
    rw [hid]
    refine ⟨fun d' hd _ f hf => ?_, fun d hd _ f hf => ?_, fun f hf _ => Or.inl ?_⟩
    · exact (v.op d' hd trivial f hf).imp (fun h1 => h1.keep hO (fun e => by omega)) (fun h1 => h1.imp (fun h1 => h1.keep hO (fun e => by omega)) (fun h1 => h1.keep hO (fun e => by omega)))
    · exact (v.gt d hd trivial f hf).imp (fun h1 => h1.keep hO (fun e => by omega)) (fun h1 => h1.keep hO (fun e => by omega))
    · rw [← h2, ho]; simp
  | telN hk hg ho =>
    obtain ⟨h2, h3⟩ := hm.wha hk
    rw [hid]
    refine ⟨fun d' hd _ f hf => ?_, fun d hd _ f hf => ?_, fun f hf _ => ?_⟩
    · rw [← h2, ho] at hd; cases hd
    · rw [← h2, hg] at hd; cases hd
    · rcases v.pr f hf trivial with h1 | h1 | h1 | h1 | h1
      · exact Or.inl h1
      · exact Or.inr (Or.inl (h1.keep hO (fun e => by omega)))
      · by_cases e : m.1 = f
        · exact Or.inr (Or.inr (Or.inr (Or.inr (e ▸ To.one hN List.mem_cons_self))))
        · exact Or.inr (Or.inr (Or.inl (h1.keep hO (fun _ => e))))
      · exact Or.inr (Or.inr (Or.inr (Or.inl (h1.keep hO (fun e => by omega)))))
      · exact Or.inr (Or.inr (Or.inr (Or.inr (h1.keep hO (fun e => by omega)))))

end Go.Proofs.Ytnoeiocbmhkmeaa
