/- Layer 5: one transaction: what its sites and letters say of each other, whatever happens. -/
import Derived.Test.YtnoeiocbmhkmeaaGreatBu12
namespace Go.Proofs.YtnoeiocbmhkmeaaGreat
set_option linter.unusedSimpArgs false
set_option maxRecDepth 100000
set_option maxHeartbeats 80000000

structure At where
 pr : Option (Int × Int)
 kp : Bool
 dr : Bool
 op : Option Dl
 gt : Option Dl
def at0 : At := ⟨none, false, false, none, none⟩
def atS (s : Sx) (tx : Int) : At := ⟨mget s.prom tx, (mget s.kept tx).getD false, (mget s.drop tx).getD false, mget s.opn tx, mget s.grt tx⟩
def isP (ps : List Mv) (f : Int) : Prop := ∃ x, (f, x) ∈ ps
structure LetOk (A : Int → At) (c : Int) (ps : List Mv) (G : Prop) (m : Ml) : Prop where
 ask : m.2.2.1 = 1 → m.1 = c ∧ (m.2.1, m.2.2.2.2) ∈ ps
 yes : m.2.2.1 = 2 → m.2.1 = c ∧ isP ps m.1 ∧ ((A c).op ≠ none → (A m.1).pr ≠ none)
 no : m.2.2.1 = 3 → m.2.1 = c ∧ isP ps m.1 ∧ (A m.1).dr = true
 com : m.2.2.1 = 4 → m.1 = c ∧ isP ps m.2.1 ∧ G
 abo : m.2.2.1 = 5 → m.1 = c ∧ isP ps m.2.1 ∧ (A c).op = none ∧ (G → ∀ f, isP ps f → (A f).kp = true)
 don : m.2.2.1 = 6 → m.2.1 = c ∧ isP ps m.1 ∧ (A m.1).kp = true
 wha : m.2.2.1 = 7 → m.2.1 = c ∧ isP ps m.1
structure SitOk (A : Int → At) (c : Int) (ps : List Mv) (G : Prop) : Prop where
 one : ∀ k, ((A k).pr ≠ none → (A k).kp = false ∧ (A k).dr = false) ∧ ((A k).kp = true → (A k).dr = false)
 prom : ∀ k t x, (A k).pr = some (t, x) → t = c ∧ (k, x) ∈ ps
 kpart : ∀ k, (A k).kp = true → isP ps k
 dpart : ∀ k, (A k).dr = true → isP ps k
 op : ∀ k d, (A k).op = some d → k = c ∧ ¬ G ∧ d.parts = ps ∧ d.miss ≠ [] ∧ (∀ f x, mget d.miss f = some x → isP ps f ∧ x = true) ∧ ∀ f, isP ps f → mget d.miss f = none → (A f).pr ≠ none
 gt : ∀ k d, (A k).gt = some d → k = c ∧ G ∧ d.parts = ps ∧ d.miss ≠ [] ∧ (∀ f x, mget d.miss f = some x → isP ps f ∧ x = true) ∧ ∀ f, isP ps f → mget d.miss f = none → (A f).kp = true
 fin : G → (A c).gt = none → ∀ f, isP ps f → (A f).kp = true
 kp : ∀ k, (A k).kp = true → G
 pk : G → ∀ f, isP ps f → (A f).pr ≠ none ∨ (A f).kp = true
structure GoOn (A A' : Int → At) (c : Int) (G G' : Prop) : Prop where
 dr : ∀ f, (A f).dr = true → (A' f).dr = true
 kp : ∀ f, (A f).kp = true → (A' f).kp = true
 op : (A' c).op ≠ none → (A c).op ≠ none ∧ ∀ f, (A f).pr ≠ none → (A' f).pr ≠ none
 gg : G → G'
 new : G' → ¬ G → (A c).op ≠ none
theorem GoOn.refl (A : Int → At) (c : Int) (G : Prop) : GoOn A A c G G := ⟨fun _ h => h, fun _ h => h, fun h => ⟨h, fun _ h => h⟩, id, fun h n => absurd h n⟩
theorem LetOk.go {A A' : Int → At} {c : Int} {ps : List Mv} {G G' : Prop} {m : Ml} (h : LetOk A c ps G m) (g : GoOn A A' c G G') : LetOk A' c ps G' m := by
 refine ⟨h.ask, fun k => ?_, fun k => ?_, fun k => ?_, fun k => ?_, fun k => ?_, h.wha⟩
 ·obtain ⟨h1, h2, h3⟩ := h.yes k
  exact ⟨h1, h2, fun ho => (g.op ho).2 _ (h3 (g.op ho).1)⟩
 ·obtain ⟨h1, h2, h3⟩ := h.no k
  exact ⟨h1, h2, g.dr _ h3⟩
 ·obtain ⟨h1, h2, h3⟩ := h.com k
  exact ⟨h1, h2, g.gg h3⟩
 ·obtain ⟨h1, h2, h3, h4⟩ := h.abo k
  refine ⟨h1, h2, ?_, fun hg f hf => ?_⟩
  ·exact Classical.byContradiction fun hn => (g.op hn).1 h3
  ·by_cases hG : G
   ·exact g.kp f (h4 hG f hf)
   ·exact absurd h3 (g.new hg hG)
 ·obtain ⟨h1, h2, h3⟩ := h.don k
  exact ⟨h1, h2, g.kp _ h3⟩
def upd (A : Int → At) (k : Int) (a : At) : Int → At := fun i => if i = k then a else A i
theorem upd_same (A : Int → At) (k : Int) (a : At) : upd A k a k = a := if_pos rfl
theorem upd_ne {A : Int → At} {k : Int} {a : At} {i : Int} (h : i ≠ k) : upd A k a i = A i := if_neg h

section
variable {A : Int → At} {c : Int} {ps : List Mv} {G : Prop}
theorem SitOk.promise (h : SitOk A c ps G) {k n : Int} (hp : (k, n) ∈ ps) (h1 : (A k).pr = none) (h2 : (A k).kp = false) (h3 : (A k).dr = false) :
 SitOk (upd A k { A k with pr := some (c, n) }) c ps G ∧ GoOn A (upd A k { A k with pr := some (c, n) }) c G G := by
 have hG : ¬ G := fun hg => by
  rcases h.pk hg k ⟨n, hp⟩ with h4 | h4
  ·exact h4 h1
  ·rw [h2] at h4; cases h4
 have e : ∀ i, (upd A k { A k with pr := some (c, n) } i).kp = (A i).kp ∧ (upd A k { A k with pr := some (c, n) } i).dr = (A i).dr ∧ (upd A k { A k with pr := some (c, n) } i).op = (A i).op ∧ (upd A k { A k with pr := some (c, n) } i).gt = (A i).gt ∧ ((A i).pr ≠ none → (upd A k { A k with pr := some (c, n) } i).pr ≠ none) := fun i => by
  unfold upd
  split
  ·rename_i e; subst e; exact ⟨rfl, rfl, rfl, rfl, fun _ => by simp⟩
  ·exact ⟨rfl, rfl, rfl, rfl, id⟩
 refine ⟨⟨fun i => ?_, fun i t x hi => ?_, fun i hi => h.kpart i (by rw [← (e i).1]; exact hi), fun i hi => h.dpart i (by rw [← (e i).2.1]; exact hi), fun i d hi => ?_, fun i d hi => ?_, fun hg => absurd hg hG, fun i hi => h.kp i (by rw [← (e i).1]; exact hi), fun hg => absurd hg hG⟩, ⟨fun i hi => by rw [(e i).2.1]; exact hi, fun i hi => by rw [(e i).1]; exact hi, fun ho => ⟨by rw [← (e c).2.2.1]; exact ho, fun i hi => (e i).2.2.2.2 hi⟩, id, fun hg n => absurd hg n⟩⟩
 ·rw [(e i).1, (e i).2.1]
  refine ⟨fun hi => ?_, (h.one i).2⟩
  by_cases hik : i = k
  ·subst hik; exact ⟨h2, h3⟩
  ·rw [upd_ne hik] at hi; exact (h.one i).1 hi
 ·by_cases hik : i = k
  ·subst hik
   rw [upd_same] at hi
   injection hi with hi
   injection hi with h5 h6
   subst h5 h6
   exact ⟨rfl, hp⟩
  ·rw [upd_ne hik] at hi; exact h.prom i t x hi
 ·rw [(e i).2.2.1] at hi
  obtain ⟨a1, a2, a3, a4, a5, a6⟩ := h.op i d hi
  exact ⟨a1, a2, a3, a4, a5, fun f hf hm => (e f).2.2.2.2 (a6 f hf hm)⟩
 ·rw [(e i).2.2.2.1] at hi
  exact absurd (h.gt i d hi).2.1 hG
theorem SitOk.refuse (h : SitOk A c ps G) {k : Int} (hp : isP ps k) (h1 : (A k).pr = none) (h2 : (A k).kp = false) :
 SitOk (upd A k { A k with dr := true }) c ps G ∧ GoOn A (upd A k { A k with dr := true }) c G G := by
 have hG : ¬ G := fun hg => by
  rcases h.pk hg k hp with h4 | h4
  ·exact h4 h1
  ·rw [h2] at h4; cases h4
 have e : ∀ i, (upd A k { A k with dr := true } i).kp = (A i).kp ∧ (upd A k { A k with dr := true } i).pr = (A i).pr ∧ (upd A k { A k with dr := true } i).op = (A i).op ∧ (upd A k { A k with dr := true } i).gt = (A i).gt ∧ ((A i).dr = true → (upd A k { A k with dr := true } i).dr = true) := fun i => by
  unfold upd
  split
  ·rename_i e; subst e; exact ⟨rfl, rfl, rfl, rfl, fun _ => rfl⟩
  ·exact ⟨rfl, rfl, rfl, rfl, id⟩
 refine ⟨⟨fun i => ?_, fun i t x hi => h.prom i t x (by rw [← (e i).2.1]; exact hi), fun i hi => h.kpart i (by rw [← (e i).1]; exact hi), fun i hi => ?_, fun i d hi => ?_, fun i d hi => ?_, fun hg => absurd hg hG, fun i hi => h.kp i (by rw [← (e i).1]; exact hi), fun hg => absurd hg hG⟩, ⟨fun i hi => (e i).2.2.2.2 hi, fun i hi => by rw [(e i).1]; exact hi, fun ho => ⟨by rw [← (e c).2.2.1]; exact ho, fun i hi => by rw [(e i).2.1]; exact hi⟩, id, fun hg n => absurd hg n⟩⟩
 ·rw [(e i).1, (e i).2.1]
  by_cases hik : i = k
  ·subst hik
   exact ⟨fun hi => absurd h1 hi, fun hi => by rw [h2] at hi; cases hi⟩
  ·rw [upd_ne hik]; exact h.one i
 ·by_cases hik : i = k
  ·subst hik; exact hp
  ·rw [upd_ne hik] at hi; exact h.dpart i hi
 ·rw [(e i).2.2.1] at hi
  obtain ⟨a1, a2, a3, a4, a5, a6⟩ := h.op i d hi
  exact ⟨a1, a2, a3, a4, a5, fun f hf hm => by rw [(e f).2.1]; exact a6 f hf hm⟩
 ·rw [(e i).2.2.2.1] at hi
  exact absurd (h.gt i d hi).2.1 hG
theorem SitOk.keep (h : SitOk A c ps G) {k : Int} (h1 : (A k).pr ≠ none) (hG : G) :
 SitOk (upd A k { A k with pr := none, kp := true }) c ps G ∧ GoOn A (upd A k { A k with pr := none, kp := true }) c G G := by
 have hp : isP ps k := by
  cases hx : (A k).pr with
  | none => exact absurd hx h1
  | some x => obtain ⟨t, x⟩ := x; exact ⟨x, (h.prom k t x hx).2⟩
 have hop : ∀ i, (A i).op = none := fun i => Classical.byContradiction fun hn => by
  cases hx : (A i).op with
  | none => exact hn hx
  | some d => exact (h.op i d hx).2.1 hG
 have e : ∀ i, ((A i).kp = true → (upd A k { A k with pr := none, kp := true } i).kp = true) ∧ (upd A k { A k with pr := none, kp := true } i).dr = (A i).dr ∧ (upd A k { A k with pr := none, kp := true } i).op = (A i).op ∧ (upd A k { A k with pr := none, kp := true } i).gt = (A i).gt := fun i => by
  unfold upd
  split
  ·rename_i e; subst e; exact ⟨fun _ => rfl, rfl, rfl, rfl⟩
  ·exact ⟨id, rfl, rfl, rfl⟩
 refine ⟨⟨fun i => ?_, fun i t x hi => ?_, fun i hi => ?_, fun i hi => h.dpart i (by rw [← (e i).2.1]; exact hi), fun i d hi => ?_, fun i d hi => ?_, fun _ hn f hf => (e f).1 (h.fin hG (by rw [← (e c).2.2.2]; exact hn) f hf), fun i _ => hG, fun _ f hf => ?_⟩, ⟨fun i hi => by rw [(e i).2.1]; exact hi, fun i hi => (e i).1 hi, fun ho => absurd (hop c) (by rw [← (e c).2.2.1]; exact ho), id, fun hg n => absurd hg n⟩⟩
 ·by_cases hik : i = k
  ·subst hik
   rw [upd_same]
   exact ⟨fun hi => absurd rfl hi, fun _ => ((h.one i).1 h1).2⟩
  ·rw [upd_ne hik]; exact h.one i
 ·by_cases hik : i = k
  ·subst hik; rw [upd_same] at hi; cases hi
  ·rw [upd_ne hik] at hi; exact h.prom i t x hi
 ·by_cases hik : i = k
  ·subst hik; exact hp
  ·rw [upd_ne hik] at hi; exact h.kpart i hi
 ·rw [(e i).2.2.1, hop i] at hi; cases hi
 ·rw [(e i).2.2.2] at hi
  obtain ⟨a1, a2, a3, a4, a5, a6⟩ := h.gt i d hi
  exact ⟨a1, a2, a3, a4, a5, fun f hf hm => (e f).1 (a6 f hf hm)⟩
 ·by_cases hik : f = k
  ·subst hik; rw [upd_same]; exact Or.inr rfl
  ·rw [upd_ne hik]; exact h.pk hG f hf
theorem SitOk.abort (h : SitOk A c ps G) {k : Int} (h1 : (A k).pr ≠ none) (ho : (A c).op = none) (hg : G → ∀ f, isP ps f → (A f).kp = true) :
 SitOk (upd A k { A k with pr := none, dr := true }) c ps G ∧ GoOn A (upd A k { A k with pr := none, dr := true }) c G G := by
 have hp : isP ps k := by
  cases hx : (A k).pr with
  | none => exact absurd hx h1
  | some x => obtain ⟨t, x⟩ := x; exact ⟨x, (h.prom k t x hx).2⟩
 have hk := ((h.one k).1 h1).1
 have hG : ¬ G := fun hh => by have := hg hh k hp; rw [hk] at this; cases this
 have hop : ∀ i, (A i).op = none := fun i => Classical.byContradiction fun hn => by
  cases hx : (A i).op with
  | none => exact hn hx
  | some d =>
    have h2 := (h.op i d hx).1
    rw [h2, ho] at hx; cases hx
 have e : ∀ i, (upd A k { A k with pr := none, dr := true } i).kp = (A i).kp ∧ ((A i).dr = true → (upd A k { A k with pr := none, dr := true } i).dr = true) ∧ (upd A k { A k with pr := none, dr := true } i).op = (A i).op ∧ (upd A k { A k with pr := none, dr := true } i).gt = (A i).gt := fun i => by
  unfold upd
  split
  ·rename_i e; subst e; exact ⟨rfl, fun _ => rfl, rfl, rfl⟩
  ·exact ⟨rfl, id, rfl, rfl⟩
 refine ⟨⟨fun i => ?_, fun i t x hi => ?_, fun i hi => h.kpart i (by rw [← (e i).1]; exact hi), fun i hi => ?_, fun i d hi => ?_, fun i d hi => ?_, fun hh => absurd hh hG, fun i hi => h.kp i (by rw [← (e i).1]; exact hi), fun hh => absurd hh hG⟩, ⟨fun i hi => (e i).2.1 hi, fun i hi => by rw [(e i).1]; exact hi, fun ho' => absurd (hop c) (by rw [← (e c).2.2.1]; exact ho'), id, fun hg n => absurd hg n⟩⟩
 ·by_cases hik : i = k
  ·subst hik
   rw [upd_same]
   exact ⟨fun hi => absurd rfl hi, fun hi => by rw [show ({ A i with pr := none, dr := true } : At).kp = (A i).kp from rfl, hk] at hi; cases hi⟩
  ·rw [upd_ne hik]; exact h.one i
 ·by_cases hik : i = k
  ·subst hik; rw [upd_same] at hi; cases hi
  ·rw [upd_ne hik] at hi; exact h.prom i t x hi
 ·by_cases hik : i = k
  ·subst hik; exact hp
  ·rw [upd_ne hik] at hi; exact h.dpart i hi
 ·rw [(e i).2.2.1, hop i] at hi; cases hi
 ·rw [(e i).2.2.2] at hi
  exact absurd (h.gt i d hi).2.1 hG
theorem SitOk.coord (h : SitOk A c ps G) (o g : Option Dl) {G' : Prop}
 (hop : ∀ d, o = some d → ¬ G' ∧ d.parts = ps ∧ d.miss ≠ [] ∧ (∀ f x, mget d.miss f = some x → isP ps f ∧ x = true) ∧ ∀ f, isP ps f → mget d.miss f = none → (A f).pr ≠ none)
 (hgt : ∀ d, g = some d → G' ∧ d.parts = ps ∧ d.miss ≠ [] ∧ (∀ f x, mget d.miss f = some x → isP ps f ∧ x = true) ∧ ∀ f, isP ps f → mget d.miss f = none → (A f).kp = true)
 (hfin : G' → g = none → ∀ f, isP ps f → (A f).kp = true) (hgg : G → G') (hpk : G' → ¬ G → ∀ f, isP ps f → (A f).pr ≠ none) (hnew : G' → ¬ G → (A c).op ≠ none) (hoo : o ≠ none → (A c).op ≠ none) :
 SitOk (upd A c { A c with op := o, gt := g }) c ps G' ∧ GoOn A (upd A c { A c with op := o, gt := g }) c G G' := by
 have e : ∀ i, (upd A c { A c with op := o, gt := g } i).kp = (A i).kp ∧ (upd A c { A c with op := o, gt := g } i).dr = (A i).dr ∧ (upd A c { A c with op := o, gt := g } i).pr = (A i).pr := fun i => by
  unfold upd
  split
  ·rename_i e; subst e; exact ⟨rfl, rfl, rfl⟩
  ·exact ⟨rfl, rfl, rfl⟩
 refine ⟨⟨fun i => by rw [(e i).1, (e i).2.1, (e i).2.2]; exact h.one i, fun i t x hi => h.prom i t x (by rw [← (e i).2.2]; exact hi), fun i hi => h.kpart i (by rw [← (e i).1]; exact hi), fun i hi => h.dpart i (by rw [← (e i).2.1]; exact hi), fun i d hi => ?_, fun i d hi => ?_, fun hg hn f hf => ?_, fun i hi => hgg (h.kp i (by rw [← (e i).1]; exact hi)), fun hg f hf => ?_⟩, ⟨fun i hi => by rw [(e i).2.1]; exact hi, fun i hi => by rw [(e i).1]; exact hi, fun ho => ⟨hoo (by rw [upd_same] at ho; exact ho), fun i hi => by rw [(e i).2.2]; exact hi⟩, hgg, hnew⟩⟩
 ·by_cases hic : i = c
  ·subst hic
   rw [upd_same] at hi
   obtain ⟨a1, a2, a3, a4, a5⟩ := hop d hi
   exact ⟨rfl, a1, a2, a3, a4, fun f hf hm => by rw [(e f).2.2]; exact a5 f hf hm⟩
  ·rw [upd_ne hic] at hi
   exact absurd (h.op i d hi).1 hic
 ·by_cases hic : i = c
  ·subst hic
   rw [upd_same] at hi
   obtain ⟨a1, a2, a3, a4, a5⟩ := hgt d hi
   exact ⟨rfl, a1, a2, a3, a4, fun f hf hm => by rw [(e f).1]; exact a5 f hf hm⟩
  ·rw [upd_ne hic] at hi
   exact absurd (h.gt i d hi).1 hic
 ·rw [(e f).1]
  rw [upd_same] at hn
  exact hfin hg hn f hf
 ·rw [(e f).1, (e f).2.2]
  by_cases hG : G
  ·exact h.pk hG f hf
  ·exact Or.inl (hpk hg hG f hf)
end

structure InvT (A : Int → At) (L : Ml → Prop) (c : Int) (ps : List Mv) (G : Prop) : Prop where
 sit : SitOk A c ps G
 let5 : ∀ m, L m → LetOk A c ps G m
theorem InvT.on {A A' : Int → At} {L L' : Ml → Prop} {c : Int} {ps : List Mv} {G G' : Prop} (h : InvT A L c ps G) (h1 : SitOk A' c ps G' ∧ GoOn A A' c G G') (h2 : ∀ m, L' m → L m ∨ LetOk A' c ps G' m) : InvT A' L' c ps G' :=
 ⟨h1.1, fun m hm => (h2 m hm).elim (fun hl => (h.let5 m hl).go h1.2) id⟩
theorem InvT.same {A : Int → At} {L L' : Ml → Prop} {c : Int} {ps : List Mv} {G : Prop} (h : InvT A L c ps G) (h2 : ∀ m, L' m → L m ∨ LetOk A c ps G m) : InvT A L' c ps G :=
 h.on ⟨h.sit, GoOn.refl A c G⟩ h2

set_option maxRecDepth 100000
set_option maxHeartbeats 80000000

def rep5 (num : Int) (m : Ml) (k : Int) : Ml := (num, m.1, k, m.2.2.2.1, 0)
def wr5 (num k tx : Int) (ps : List Mv) : List Ml := ps.map fun p => (num, p.1, k, tx, if k = 1 then p.2 else 0)
inductive StepT (a : At) (num : Int) (q : Bool) (m : Ml) : At → List Ml → Prop
 | askY : m.2.2.1 = 1 → a.pr ≠ none → StepT a num q m a [rep5 num m 2]
 | askK : m.2.2.1 = 1 → a.pr = none → a.kp = true → StepT a num q m a []
 | askN : m.2.2.1 = 1 → a.pr = none → a.kp = false → a.dr = true → StepT a num q m a [rep5 num m 3]
 | askP : m.2.2.1 = 1 → a.pr = none → a.kp = false → a.dr = false → q = true → StepT a num q m { a with pr := some (m.1, m.2.2.2.2) } [rep5 num m 2]
 | askR : m.2.2.1 = 1 → a.pr = none → a.kp = false → a.dr = false → q = false → StepT a num q m { a with dr := true } [rep5 num m 3]
 | yesMore (d : Dl) : m.2.2.1 = 2 → a.op = some d → mdel d.miss m.1 ≠ [] → StepT a num q m { a with op := some { d with miss := mdel d.miss m.1 }, gt := a.gt } []
 | yesAll (d : Dl) : m.2.2.1 = 2 → a.op = some d → mdel d.miss m.1 = [] → StepT a num q m { a with op := none, gt := some (dl0 d.parts) } (wr5 num 4 m.2.2.2.1 d.parts)
 | yesShut : m.2.2.1 = 2 → a.op = none → a.gt = none → StepT a num q m a [rep5 num m 5]
 | yesMiss (d : Dl) : m.2.2.1 = 2 → a.op = none → a.gt = some d → (mget d.miss m.1).getD false = true → StepT a num q m a [rep5 num m 4]
 | yesHad (d : Dl) : m.2.2.1 = 2 → a.op = none → a.gt = some d → (mget d.miss m.1).getD false = false → StepT a num q m a []
 | noOpen (d : Dl) : m.2.2.1 = 3 → a.op = some d → StepT a num q m { a with op := none, gt := a.gt } (wr5 num 5 m.2.2.2.1 (otherL d.parts m.1))
 | noShut : m.2.2.1 = 3 → a.op = none → StepT a num q m a []
 | comP : m.2.2.1 = 4 → a.pr ≠ none → StepT a num q m { a with pr := none, kp := true } [rep5 num m 6]
 | comK : m.2.2.1 = 4 → a.pr = none → a.kp = true → StepT a num q m a [rep5 num m 6]
 | comN : m.2.2.1 = 4 → a.pr = none → a.kp = false → StepT a num q m a []
 | aboP : m.2.2.1 = 5 → a.pr ≠ none → StepT a num q m { a with pr := none, dr := true } []
 | aboN : m.2.2.1 = 5 → a.pr = none → StepT a num q m a []
 | finMore (d : Dl) : m.2.2.1 = 6 → a.gt = some d → mdel d.miss m.1 ≠ [] → StepT a num q m { a with op := a.op, gt := some { d with miss := mdel d.miss m.1 } } []
 | finAll (d : Dl) : m.2.2.1 = 6 → a.gt = some d → mdel d.miss m.1 = [] → StepT a num q m { a with op := a.op, gt := none } []
 | finNo : m.2.2.1 = 6 → a.gt = none → StepT a num q m a []
 | telG (d : Dl) : m.2.2.1 = 7 → a.gt = some d → StepT a num q m a [rep5 num m 4]
 | telO (d : Dl) : m.2.2.1 = 7 → a.gt = none → a.op = some d → StepT a num q m a []
 | telN : m.2.2.1 = 7 → a.gt = none → a.op = none → StepT a num q m a [rep5 num m 5]

section
variable (s : Sx) (m : Ml)
theorem iso {β : Type} {o : Option β} (h : o.isSome = true) : o ≠ none := by cases o <;> simp_all
theorem ison {β : Type} {o : Option β} (h : ¬ o.isSome = true) : o = none := by cases o <;> simp_all
theorem ask_step (hk : m.2.2.1 = 1) : StepT (atS s m.2.2.2.1) s.num (posS s m.2.2.2.2) m (atS (askS s m) m.2.2.2.1) (askL s m) := by
 unfold askS askL outS
 by_cases h1 : (mget s.prom m.2.2.2.1).isSome = true
 ·rw [if_pos h1]
  simp only [ne_eq, if_true, show ((1 : Int) = 0) = False by simp, not_false_eq_true]
  exact StepT.askY hk (iso h1)
 ·rw [if_neg h1]
  have h1' : (atS s m.2.2.2.1).pr = none := ison h1
  by_cases h2 : (mget s.kept m.2.2.2.1).getD false = true
  ·rw [if_pos h2]
   simp only [ne_eq, if_true, show ((2 : Int) = 0) = False by simp, show ((2 : Int) = 1) = False by simp, if_false, not_false_eq_true]
   exact StepT.askK hk h1' h2
  ·rw [if_neg h2]
   have h2' : (atS s m.2.2.2.1).kp = false := Bool.eq_false_iff.2 h2
   by_cases h3 : (mget s.drop m.2.2.2.1).getD false = true
   ·rw [if_pos h3]
    simp only [ne_eq, if_true, show ((3 : Int) = 0) = False by simp, show ((3 : Int) = 1) = False by simp, show ((3 : Int) = 2) = False by simp, if_false, not_false_eq_true]
    exact StepT.askN hk h1' h2' h3
   ·rw [if_neg h3]
    have h3' : (atS s m.2.2.2.1).dr = false := Bool.eq_false_iff.2 h3
    simp only [ne_eq, show ((0 : Int) = 1) = False by simp, show ((0 : Int) = 2) = False by simp, show ((0 : Int) = 3) = False by simp, if_false, not_true_eq_false]
    cases hp : posS s m.2.2.2.2 with
    | true =>
      rw [if_pos rfl, if_pos rfl]
      have e : atS { s with prom := mput s.prom m.2.2.2.1 (m.1, m.2.2.2.2) } m.2.2.2.1 = { atS s m.2.2.2.1 with pr := some (m.1, m.2.2.2.2) } := by
       unfold atS; dsimp only; rw [mget_put, if_pos rfl]
      rw [e]
      exact StepT.askP hk h1' h2' h3' rfl
    | false =>
      rw [if_neg (by simp), if_neg (by simp)]
      have e : atS { s with drop := mput s.drop m.2.2.2.1 true } m.2.2.2.1 = { atS s m.2.2.2.1 with dr := true } := by
       unfold atS; dsimp only; rw [mget_put, if_pos rfl]; rfl
      rw [e]
      exact StepT.askR hk h1' h2' h3' rfl
theorem emp {β : Type} {l : List β} (h : l.isEmpty = true) : l = [] := by simpa using h
theorem nemp {β : Type} {l : List β} (h : ¬ l.isEmpty = true) : l ≠ [] := by simpa using h
theorem agr_step (hk : m.2.2.1 = 2) : StepT (atS s m.2.2.2.1) s.num (posS s m.2.2.2.2) m (atS (agrS s m.1 m.2.2.2.1) m.2.2.2.1) (agrL s m) := by
 unfold agrS agrL
 cases ho : mget s.opn m.2.2.2.1 with
 | some d =>
   dsimp only
   by_cases he : (mdel d.miss m.1).isEmpty = true
   ·rw [if_pos he, if_pos he]
    have e : atS { s with opn := mdel s.opn m.2.2.2.1, grt := mput s.grt m.2.2.2.1 (dl0 d.parts) } m.2.2.2.1 = { atS s m.2.2.2.1 with op := none, gt := some (dl0 d.parts) } := by
     unfold atS; dsimp only; rw [mget_put, if_pos rfl, mget_del, if_pos rfl]
    rw [e]
    exact StepT.yesAll d hk ho (emp he)
   ·rw [if_neg he, if_neg he]
    have e : atS { s with opn := mput s.opn m.2.2.2.1 { d with miss := mdel d.miss m.1 } } m.2.2.2.1 = { atS s m.2.2.2.1 with op := some { d with miss := mdel d.miss m.1 }, gt := (atS s m.2.2.2.1).gt } := by
     unfold atS; dsimp only; rw [mget_put, if_pos rfl]
    rw [e]
    exact StepT.yesMore d hk ho (nemp he)
 | none =>
   dsimp only
   cases hg : mget s.grt m.2.2.2.1 with
   | none => exact StepT.yesShut hk ho hg
   | some d =>
     dsimp only
     split
     ·rename_i hv; exact StepT.yesMiss d hk ho hg hv
     ·rename_i hv; exact StepT.yesHad d hk ho hg (by simpa using hv)
theorem dis_step (hk : m.2.2.1 = 3) : StepT (atS s m.2.2.2.1) s.num (posS s m.2.2.2.2) m (atS (disS s m.2.2.2.1) m.2.2.2.1) (disL s m.1 m.2.2.2.1) := by
 unfold disS disL
 cases ho : mget s.opn m.2.2.2.1 with
 | some d =>
   dsimp only
   have e : atS { s with opn := mdel s.opn m.2.2.2.1 } m.2.2.2.1 = { atS s m.2.2.2.1 with op := none, gt := (atS s m.2.2.2.1).gt } := by
    unfold atS; dsimp only; rw [mget_del, if_pos rfl]
   rw [e]
   exact StepT.noOpen d hk ho
 | none => exact StepT.noShut hk ho
theorem com_step (hk : m.2.2.1 = 4) : StepT (atS s m.2.2.2.1) s.num (posS s m.2.2.2.2) m (atS (keepS s m.2.2.2.1) m.2.2.2.1) (keepL s m) := by
 unfold keepL
 by_cases h1 : (mget s.prom m.2.2.2.1).isSome = true
 ·have e : atS (keepS s m.2.2.2.1) m.2.2.2.1 = { atS s m.2.2.2.1 with pr := none, kp := true } := by
   unfold keepS; rw [if_pos h1]; unfold atS; dsimp only; rw [mget_put, if_pos rfl, mget_del, if_pos rfl]; rfl
  have hk2 : (mget (keepS s m.2.2.2.1).kept m.2.2.2.1).getD false = true := congrArg At.kp e
  rw [if_pos hk2, e]
  exact StepT.comP hk (iso h1)
 ·have e : keepS s m.2.2.2.1 = s := by unfold keepS; rw [if_neg h1]
  rw [e]
  split
  ·rename_i hv; exact StepT.comK hk (ison h1) hv
  ·rename_i hv; exact StepT.comN hk (ison h1) (Bool.eq_false_iff.2 hv)
theorem abo_step (hk : m.2.2.1 = 5) : StepT (atS s m.2.2.2.1) s.num (posS s m.2.2.2.2) m (atS (aboS s m.2.2.2.1) m.2.2.2.1) [] := by
 unfold aboS
 split
 ·rename_i h1
  have e : atS { s with prom := mdel s.prom m.2.2.2.1, drop := mput s.drop m.2.2.2.1 true } m.2.2.2.1 = { atS s m.2.2.2.1 with pr := none, dr := true } := by
   unfold atS; dsimp only; rw [mget_put, if_pos rfl, mget_del, if_pos rfl]; rfl
  rw [e]
  exact StepT.aboP hk (iso h1)
 ·rename_i h1; exact StepT.aboN hk (ison h1)
theorem fin_step (hk : m.2.2.1 = 6) : StepT (atS s m.2.2.2.1) s.num (posS s m.2.2.2.2) m (atS (finS s m.1 m.2.2.2.1) m.2.2.2.1) [] := by
 unfold finS
 cases hg : mget s.grt m.2.2.2.1 with
 | none => exact StepT.finNo hk hg
 | some d =>
   dsimp only
   split
   ·rename_i he
    have e : atS { s with grt := mdel s.grt m.2.2.2.1 } m.2.2.2.1 = { atS s m.2.2.2.1 with op := (atS s m.2.2.2.1).op, gt := none } := by
     unfold atS; dsimp only; rw [mget_del, if_pos rfl]
    rw [e]
    exact StepT.finAll d hk hg (emp he)
   ·rename_i he
    have e : atS { s with grt := mput s.grt m.2.2.2.1 { d with miss := mdel d.miss m.1 } } m.2.2.2.1 = { atS s m.2.2.2.1 with op := (atS s m.2.2.2.1).op, gt := some { d with miss := mdel d.miss m.1 } } := by
     unfold atS; dsimp only; rw [mget_put, if_pos rfl]
    rw [e]
    exact StepT.finMore d hk hg (nemp he)
theorem tel_step (hk : m.2.2.1 = 7) : StepT (atS s m.2.2.2.1) s.num (posS s m.2.2.2.2) m (atS s m.2.2.2.1) (telL s m) := by
 unfold telL
 cases hg : mget s.grt m.2.2.2.1 with
 | some d => exact StepT.telG d hk hg
 | none =>
   cases ho : mget s.opn m.2.2.2.1 with
   | some d => exact StepT.telO d hk hg ho
   | none => exact StepT.telN hk hg ho
theorem han_step (hk : 1 ≤ m.2.2.1 ∧ m.2.2.1 ≤ 7) : StepT (atS s m.2.2.2.1) s.num (posS s m.2.2.2.2) m (atS (han s m).1 m.2.2.2.1) (han s m).2 := by
 unfold han
 repeat' split
 ·rename_i k; exact ask_step s m k
 ·rename_i _ k; exact agr_step s m k
 ·rename_i _ _ k; exact dis_step s m k
 ·rename_i _ _ _ k; exact com_step s m k
 ·rename_i _ _ _ _ k; exact abo_step s m k
 ·rename_i _ _ _ _ _ k; exact fin_step s m k
 ·exact tel_step s m (by omega)
theorem han_other {t : Int} (ht : t ≠ m.2.2.2.1) : atS (han s m).1 t = atS s t := by
 unfold han askS agrS disS keepS aboS finS
 repeat' split
 all_goals (unfold atS; dsimp only; try simp only [mget_put, mget_del, if_neg ht])
theorem wr5_tx {num k tx : Int} {ps : List Mv} : ∀ l ∈ wr5 num k tx ps, l.2.2.2.1 = tx := fun l hl => by
 obtain ⟨p, -, rfl⟩ := List.mem_map.1 hl; rfl
theorem StepT.tx {a a' : At} {num : Int} {q : Bool} {m : Ml} {l : List Ml} (h : StepT a num q m a' l) : ∀ x ∈ l, x.2.2.2.1 = m.2.2.2.1 := by
 cases h <;> intro x hx <;> first
  | (cases hx; done)
  | (rw [List.mem_singleton.1 hx]; rfl)
  | exact wr5_tx x hx
end

end Go.Proofs.YtnoeiocbmhkmeaaGreat
