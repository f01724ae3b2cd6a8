/- Maps, by their entries in the order in which their keys came: look-up, store, delete, length, range. Nothing of the program. -/
import Derived.Test.YtnoeiocbmhkmeaaGreatBu0
import Derived.Maps.RangeWalk
import Derived.WideKeyEntry
import Derived.Deep.RegionHeld3
namespace Go.Proofs.YtnoeiocbmhkmeaaGreat
open Go.RowKit Go.MapKept Go.ChangeMaps
open Go.Maps (Keyed)
set_option linter.unusedSimpArgs false
set_option maxRecDepth 100000
set_option maxHeartbeats 80000000

section
variable {α β : Type}

def mget [DecidableEq α] (l : List (α × β)) (a : α) : Option β := (l.find? fun p => decide (p.1 = a)).map (·.2)
def mput [DecidableEq α] (l : List (α × β)) (a : α) (x : β) : List (α × β) :=
 if (mget l a).isSome then l.map fun p => if p.1 = a then (a, x) else p else l ++ [(a, x)]
def mdel [DecidableEq α] (l : List (α × β)) (a : α) : List (α × β) := l.filter fun p => !decide (p.1 = a)

theorem mget_of [DecidableEq α] : ∀ {l : List (α × β)}, l.Pairwise (fun p q => p.1 ≠ q.1) → ∀ {p : α × β}, p ∈ l → mget l p.1 = some p.2
 | [], _, _, h => by cases h
 | q :: r, hp, p, h => by
   obtain ⟨h1, h2⟩ := List.pairwise_cons.1 hp
   unfold mget
   rcases List.mem_cons.1 h with rfl | h
   ·simp
   ·rw [List.find?_cons_of_neg (by simpa using h1 p h)]
    exact mget_of h2 h
theorem mget_none [DecidableEq α] {l : List (α × β)} {a : α} : mget l a = none ↔ ∀ p ∈ l, p.1 ≠ a := by
 unfold mget
 simp
theorem mget_some [DecidableEq α] {l : List (α × β)} {a : α} {x : β} (h : mget l a = some x) : (a, x) ∈ l := by
 unfold mget at h
 obtain ⟨p, hp, rfl⟩ := Option.map_eq_some_iff.1 h
 have h1 := List.find?_some hp
 have h2 := List.mem_of_find?_eq_some hp
 simp at h1
 rw [← h1]
 exact h2
theorem mget_put [DecidableEq α] (l : List (α × β)) (a b : α) (x : β) : mget (mput l a x) b = if b = a then some x else mget l b := by
 unfold mput
 split
 ·rename_i h
  obtain ⟨y, hy⟩ := Option.isSome_iff_exists.1 h
  clear h
  by_cases hb : b = a
  ·subst hb
   rw [if_pos rfl]
   unfold mget at hy ⊢
   rw [List.find?_map]
   have e : ((fun p : α × β => decide (p.1 = b)) ∘ fun p => if p.1 = b then (b, x) else p) = fun p => decide (p.1 = b) := by
    funext p
    simp only [Function.comp]
    split <;> simp_all
   rw [e]
   obtain ⟨p, hp, rfl⟩ := Option.map_eq_some_iff.1 hy
   rw [hp]
   have := List.find?_some hp
   simp at this
   simp [this]
  ·rw [if_neg hb]
   unfold mget
   rw [List.find?_map]
   have e : ((fun p : α × β => decide (p.1 = b)) ∘ fun p => if p.1 = a then (a, x) else p) = fun p => decide (p.1 = b) := by
    funext p
    simp only [Function.comp]
    split
    ·rename_i h; rw [h]
    ·rfl
   rw [e]
   cases hf : l.find? (fun p => decide (p.1 = b)) with
   | none => rfl
   | some p =>
     have := List.find?_some hf
     simp at this
     have hpa : ¬ p.1 = a := by rw [this]; exact hb
     simp [hpa]
 ·rename_i h
  have hn : mget l a = none := by
   cases hc : mget l a with
   | none => rfl
   | some y => rw [hc] at h; exact absurd rfl h
  unfold mget at hn ⊢
  rw [List.find?_append]
  by_cases hb : b = a
  ·subst hb
   rw [if_pos rfl]
   rw [Option.map_eq_none_iff.1 hn]
   simp
  ·rw [if_neg hb]
   have : ¬ a = b := fun h => hb h.symm
   cases hf : l.find? (fun p => decide (p.1 = b)) with
   | none => simp [this]
   | some p => simp
theorem mget_del [DecidableEq α] (l : List (α × β)) (a b : α) : mget (mdel l a) b = if b = a then none else mget l b := by
 unfold mdel mget
 rw [List.find?_filter]
 by_cases hb : b = a
 ·subst hb
  rw [if_pos rfl, Option.map_eq_none_iff, List.find?_eq_none]
  intro p _
  simp
 ·rw [if_neg hb]
  congr 2
  funext p
  by_cases h : p.1 = b
  ·simp [h, hb]
  ·simp [h]
variable {P : Program} {k : TypeId} {K : α → Value} {V : β → Value} {w : World} {g : Nat} {l : List (α × β)}

def Mp (P : Program) (k : TypeId) (K : α → Value) (V : β → Value) (w : World) (g : Nat) (l : List (α × β)) : Prop :=
 ∃ es clock, w.heap[g]? = some (.map es clock) ∧ Stamped es clock ∧ es.toList.map (fun e => (e.key, e.val)) = l.map (fun p => (K p.1, V p.2)) ∧ ∀ p ∈ l, ∃ kl, keyOf P k (K p.1) = some kl

theorem Mp.lt (h : Mp P k K V w g l) : g < w.heap.size := by
 obtain ⟨es, clock, hb, -⟩ := h
 exact (Array.getElem?_eq_some_iff.1 hb).1
theorem Mp.keep {w' : World} (h : Mp P k K V w g l) (hg : Gr w w') : Mp P k K V w' g l := by
 have hlt := h.lt
 obtain ⟨es, clock, hb, r⟩ := h
 exact ⟨es, clock, (Below.block hg g hlt).trans hb, r⟩
theorem Mp.setCell (h : Mp P k K V w g l) {a : Addr} (ha : g ≠ a.block) (u : Value) : Mp P k K V (w.setCell a u) g l := by
 obtain ⟨es, clock, hb, r⟩ := h
 exact ⟨es, clock, by rw [Below.heap_setCell _ _ _ _ ha]; exact hb, r⟩
theorem Mp_made (w : World) : Mp P k K V (w.alloc (.map #[] 0)) w.heap.size ([] : List (α × β)) :=
 ⟨#[], 0, (MapKept.heap_alloc w _).1, stamped_empty 0, rfl, fun p hp => by cases hp⟩

theorem Mp.apart (h : Mp P k K V w g l) : l.Pairwise (fun p q => p.1 ≠ q.1) := by
 obtain ⟨es, clock, -, hs, hm, -⟩ := h
 have h3 := ((stamped_iff es clock).1 hs).2.2
 have h4 : (es.toList.map (fun e => (e.key, e.val))).Pairwise (fun p q => p.1 ≠ q.1) := List.pairwise_map.2 h3
 rw [hm, List.pairwise_map] at h4
 exact h4.imp fun h e => h (by rw [e])
theorem ents_get {es : Array MapEntry} (hm : es.toList.map (fun e => (e.key, e.val)) = l.map (fun p => (K p.1, V p.2))) {j : Nat} {e : MapEntry} (h : es.toList[j]? = some e) : ∃ p, l[j]? = some p ∧ e.key = K p.1 ∧ e.val = V p.2 := by
 have h1 : (es.toList.map (fun e => (e.key, e.val)))[j]? = some (e.key, e.val) := by rw [List.getElem?_map, h]; rfl
 rw [hm, List.getElem?_map] at h1
 obtain ⟨p, hp, h2⟩ := Option.map_eq_some_iff.1 h1
 exact ⟨p, hp, (congrArg Prod.fst h2).symm, (congrArg Prod.snd h2).symm⟩
theorem ents_get' {es : Array MapEntry} (hm : es.toList.map (fun e => (e.key, e.val)) = l.map (fun p => (K p.1, V p.2))) {j : Nat} {p : α × β} (h : l[j]? = some p) : ∃ e, es.toList[j]? = some e ∧ e.key = K p.1 ∧ e.val = V p.2 := by
 have h1 : (l.map (fun p => (K p.1, V p.2)))[j]? = some (K p.1, V p.2) := by rw [List.getElem?_map, h]; rfl
 rw [← hm, List.getElem?_map] at h1
 obtain ⟨e, he, h2⟩ := Option.map_eq_some_iff.1 h1
 exact ⟨e, he, congrArg Prod.fst h2, congrArg Prod.snd h2⟩
theorem ents_keys {es : Array MapEntry} (hm : es.toList.map (fun e => (e.key, e.val)) = l.map (fun p => (K p.1, V p.2))) (hk : ∀ p ∈ l, ∃ kl, keyOf P k (K p.1) = some kl) : ∀ e ∈ es.toList, ∃ kl, keyOf P k e.key = some kl := fun e he => by
 obtain ⟨j, hj, he⟩ := List.mem_iff_getElem.1 he
 obtain ⟨p, hp, h1, -⟩ := ents_get hm (show es.toList[j]? = some e by rw [List.getElem?_eq_getElem hj, he])
 rw [h1]
 exact hk p (List.mem_of_getElem? hp)

theorem Mp.find [DecidableEq α] (hK : ∀ a b, K a = K b → a = b) (Kd : Keyed P k) {es : Array MapEntry} (hm : es.toList.map (fun e => (e.key, e.val)) = l.map (fun p => (K p.1, V p.2))) (hk : ∀ p ∈ l, ∃ kl, keyOf P k (K p.1) = some kl)
 (hap : l.Pairwise (fun p q => p.1 ≠ q.1)) (w : World) {a : α} {kl : Lit} (ha : keyOf P k (K a) = some kl) :
 ((Instr.findKey k (K a) es.toList).run P w = .ok none w ∧ mget l a = none ∧ ∀ e ∈ es.toList, e.key ≠ K a) ∨
 ∃ j e x, (Instr.findKey k (K a) es.toList).run P w = .ok (some (j, V x)) w ∧ es.toList[j]? = some e ∧ e.key = K a ∧ e.val = V x ∧ l[j]? = some (a, x) ∧ mget l a = some x := by
 rcases Kd.find w ha es.toList (ents_keys hm hk) with ⟨h1, h2⟩ | ⟨j, e, h1, h2, h3⟩
 ·refine Or.inl ⟨h1, mget_none.2 fun p hp hpa => ?_, h2⟩
  obtain ⟨j, hj, hje⟩ := List.mem_iff_getElem.1 hp
  obtain ⟨e, he, h3, -⟩ := ents_get' hm (show l[j]? = some p by rw [List.getElem?_eq_getElem hj, hje])
  exact h2 e (List.mem_of_getElem? he) (by rw [h3, hpa])
 ·obtain ⟨p, hp, h4, h5⟩ := ents_get hm h2
  have hpa : p.1 = a := hK _ _ (h4.symm.trans h3)
  have hpe : p = (a, p.2) := by rw [← hpa]
  refine Or.inr ⟨j, e, p.2, by rw [← h5]; exact h1, h2, h3, h5, by rw [← hpe]; exact hp, ?_⟩
  rw [← hpa]
  exact mget_of hap (List.mem_of_getElem? hp)

theorem Mp.look [DecidableEq α] (h : Mp P k K V w g l) (hK : ∀ a b, K a = K b → a = b) (Kd : Keyed P k) {t e : TypeId} (ht : P.underlying t = some (.map k e)) {z : Value} (hz : (zeroValue e).run P w = .ok z w) (c : Bool) {a : α} {kl : Lit} (ha : keyOf P k (K a) = some kl) :
 (Instr.lookup t (.map (some g)) (K a) c).run P w = .ok (if c then .tuple #[((mget l a).map V).getD z, .bool (mget l a).isSome] else ((mget l a).map V).getD z) w := by
 have hap := h.apart
 obtain ⟨es, clock, hb, hs, hm, hk⟩ := h
 rcases Mp.find hK Kd hm hk hap w ha with ⟨h1, h2, -⟩ | ⟨j, e, x, h1, -, -, -, -, h2⟩
 ·rw [h2]
  simp [Instr.lookup, run_underlying ht, MapKept.run_getObj_map hb, Kd.check w _ ha, h1, hz, Result.andThen]
 ·rw [h2]
  simp [Instr.lookup, run_underlying ht, MapKept.run_getObj_map hb, Kd.check w _ ha, h1, Result.andThen]

theorem Mp.store [DecidableEq α] (h : Mp P k K V w g l) (hK : ∀ a b, K a = K b → a = b) (Kd : Keyed P k) {t e : TypeId} (ht : P.underlying t = some (.map k e)) {a : α} {kl : Lit} (ha : keyOf P k (K a) = some kl) (x : β) :
 ∃ w', (Instr.mapUpdate t (.map (some g)) (K a) (V x)).run P w = .ok () w' ∧ Mp P k K V w' g (mput l a x) ∧ Gb g w w' := by
 have hap := h.apart
 obtain ⟨es, clock, hb, hs, hm, hk⟩ := h
 have hgr : ∀ es' clock', Gb g w (setBlock w g (.map es' clock')) := fun es' clock' => ⟨rfl, rfl, rfl, by simp [setBlock], fun i _ hi => heap_setBlock_other hb _ (fun e => hi (by rw [e]))⟩
 have hsz : es.size = l.length := by
  have := congrArg List.length hm
  simpa using this
 rcases Mp.find hK Kd hm hk hap w ha with ⟨h1, h2, h3⟩ | ⟨j, e, y, h1, h4, h5, h6, h7, h2⟩
 ·refine ⟨setBlock w g (.map (es.push { key := K a, val := V x, born := clock }) (clock + 1)), ?_, ⟨_, _, heap_setBlock_same hb _, stamped_push hs h3, ?_, ?_⟩, hgr _ _⟩
  ·simp [Instr.mapUpdate, run_underlying ht, MapKept.run_getObj_map hb, Kd.check w _ ha, h1, MapKept.run_setObj_map _ hb, Result.andThen, setBlock]
  ·unfold mput
   rw [h2]
   simp [hm]
  ·unfold mput
   rw [h2]
   intro p hp
   rcases List.mem_append.1 (show p ∈ l ++ [(a, x)] from hp) with hp | hp
   ·exact hk p hp
   ·rw [List.mem_singleton.1 hp]; exact ⟨kl, ha⟩
 ·have hjs : j < es.size := by
   have := (List.getElem?_eq_some_iff.1 h4).1
   simpa using this
  have hej : es[j]? = some e := by rw [← Array.getElem?_toList]; exact h4
  have hst : (Instr.keyThatStays (K a) (K a)).run P w = .ok (K a) w := Kd.stays w ha
  have hlist : (es.modify j fun e => { e with key := K a, val := V x }).toList = es.toList.set j { e with key := K a, val := V x } := by
   rw [Array.toList_modify, modify_eq_set _ _ _ _ h4]
  refine ⟨setBlock w g (.map (es.modify j fun e => { e with key := K a, val := V x }) clock), ?_, ⟨_, _, heap_setBlock_same hb _, ?_, ?_, ?_⟩, hgr _ _⟩
  ·simp [Instr.mapUpdate, run_underlying ht, MapKept.run_getObj_map hb, Kd.check w _ ha, h1, hej, h5, hst, MapKept.run_setObj_map _ hb, Result.andThen, setBlock]
  ·exact stamped_modify hs j _ (fun _ _ => rfl) (fun e' _ he' => by
    rw [hej] at he'
    obtain rfl := Option.some.inj he'
    exact h5.symm)
  ·unfold mput
   rw [h2, if_pos (by rfl), hlist]
   apply List.ext_getElem?
   intro i
   rw [List.getElem?_map, List.getElem?_map, List.getElem?_map, List.getElem?_set]
   by_cases hij : j = i
   ·subst hij
    rw [if_pos rfl, if_pos (by simpa using hjs), h7]
    simp
   ·rw [if_neg hij]
    have := congrArg (fun l => l[i]?) hm
    simp only [List.getElem?_map] at this
    rw [this]
    cases hq : l[i]? with
    | none => rfl
    | some q =>
      have hqa : ¬ q.1 = a := fun e => by
       obtain ⟨hi, hqi⟩ := List.getElem?_eq_some_iff.1 hq
       obtain ⟨hj, hqj⟩ := List.getElem?_eq_some_iff.1 h7
       rw [List.pairwise_iff_getElem] at hap
       rcases Nat.lt_or_gt_of_ne hij with hlt | hlt
       ·exact hap j i hj hi hlt (by rw [hqi, hqj]; exact e.symm)
       ·exact hap i j hi hj hlt (by rw [hqi, hqj]; exact e)
      simp [hqa]
  ·intro p hp
   unfold mput at hp
   rw [h2, if_pos (by rfl)] at hp
   obtain ⟨q, hq, rfl⟩ := List.mem_map.1 hp
   split
   ·exact ⟨kl, ha⟩
   ·exact hk q hq

theorem Mp.size (h : Mp P k K V w g l) : ∃ es clock, w.heap[g]? = some (.map es clock) ∧ es.size = l.length := by
 obtain ⟨es, clock, hb, -, hm, -⟩ := h
 exact ⟨es, clock, hb, by simpa using congrArg List.length hm⟩
theorem Mp.len (h : Mp P k K V w g l) {t e : TypeId} (ht : P.underlying t = some (.map k e)) (ty : TypeId) : (Builtin.len_ #[t] ty #[.map (some g)]).run P w = .ok (.int .i64 (l.length : Int)) w := by
 obtain ⟨es, clock, hb, hs⟩ := h.size
 rw [← hs]
 simp [Builtin.len_, run_underlying ht, MapKept.run_getObj_map hb, goInt, Result.andThen]

theorem Mp.drop [DecidableEq α] (h : Mp P k K V w g l) (hK : ∀ a b, K a = K b → a = b) (Kd : Keyed P k) {t e : TypeId} (ht : P.underlying t = some (.map k e)) (ty : TypeId) {a : α} {kl : Lit} (ha : keyOf P k (K a) = some kl) :
 ∃ w', (Builtin.delete_ #[t, k] ty #[.map (some g), K a]).run P w = .ok (.tuple #[]) w' ∧ Mp P k K V w' g (mdel l a) ∧ Gb g w w' := by
 have hap := h.apart
 obtain ⟨es, clock, hb, hs, hm, hk⟩ := h
 have hgr : ∀ es' clock', Gb g w (setBlock w g (.map es' clock')) := fun es' clock' => ⟨rfl, rfl, rfl, by simp [setBlock], fun i _ hi => heap_setBlock_other hb _ (fun e => hi (by rw [e]))⟩
 rcases Mp.find hK Kd hm hk hap w ha with ⟨h1, h2, h3⟩ | ⟨j, e, y, h1, h4, h5, h6, h7, h2⟩
 ·refine ⟨setBlock w g (.map es clock), ?_, ⟨_, _, heap_setBlock_same hb _, hs, ?_, ?_⟩, hgr _ _⟩
  ·simp [Builtin.delete_, run_underlying ht, MapKept.run_getObj_map hb, Kd.check w _ ha, h1, MapKept.run_setObj_map _ hb, Result.andThen, setBlock]
  ·unfold mdel
   rw [List.filter_eq_self.2 (fun p hp => by simpa using mget_none.1 h2 p hp)]
   exact hm
  ·intro p hp
   exact hk p (List.mem_filter.1 hp).1
 ·have hjs : j < es.size := by
   have := (List.getElem?_eq_some_iff.1 h4).1
   simpa using this
  have hsub : (es.eraseIdxIfInBounds j).toList = es.toList.eraseIdx j := by
   unfold Array.eraseIdxIfInBounds
   rw [dif_pos hjs]
   simp
  have hdel : mdel l a = l.eraseIdx j := by
   unfold mdel
   exact filter_eq_eraseIdx (fun p : α × β => decide (p.1 = a)) l j (a, y) h7 (by simp) (hap.imp fun h1 h2 => by simp at h2; exact h1 (h2.1.trans h2.2.symm))
  refine ⟨setBlock w g (.map (es.eraseIdxIfInBounds j) clock), ?_, ⟨_, _, heap_setBlock_same hb _, stamped_erase hs j, ?_, ?_⟩, hgr _ _⟩
  ·simp [Builtin.delete_, run_underlying ht, MapKept.run_getObj_map hb, Kd.check w _ ha, h1, MapKept.run_setObj_map _ hb, Result.andThen, setBlock]
  ·rw [hsub, hdel, map_eraseIdx, map_eraseIdx, hm]
  ·intro p hp
   unfold mdel at hp
   exact hk p (List.mem_filter.1 hp).1

def Rng (P : Program) (k : TypeId) (K : α → Value) (V : β → Value) (w : World) (g r : Nat) (l todo : List (α × β)) : Prop :=
 ∃ es clock since seen c0, w.heap[g]? = some (.map es clock) ∧ Stamped es clock ∧ es.toList.map (fun e => (e.key, e.val)) = l.map (fun p => (K p.1, V p.2)) ∧ (∀ p ∈ l, ∃ kl, keyOf P k (K p.1) = some kl) ∧
  w.heap[r]? = some (.mapIter (some g) since seen c0) ∧ (∀ x ∈ es.toList, x.born < since) ∧ since ≤ c0 ∧ since ≤ clock ∧ todo.Sublist l ∧ (leftOf es seen).toList.map (fun e => (e.key, e.val)) = todo.map (fun p => (K p.1, V p.2))

theorem Rng.map {r : Nat} {todo : List (α × β)} (h : Rng P k K V w g r l todo) : Mp P k K V w g l := by
 obtain ⟨es, clock, since, seen, c0, hb, hs, hm, hk, -⟩ := h
 exact ⟨es, clock, hb, hs, hm, hk⟩
theorem Rng.lt {r : Nat} {todo : List (α × β)} (h : Rng P k K V w g r l todo) : r < w.heap.size := by
 obtain ⟨es, clock, since, seen, c0, -, -, -, -, hr, -⟩ := h
 exact (Array.getElem?_eq_some_iff.1 hr).1
theorem Rng.ne {r : Nat} {todo : List (α × β)} (h : Rng P k K V w g r l todo) : r ≠ g := by
 obtain ⟨es, clock, since, seen, c0, hb, -, -, -, hr, -⟩ := h
 intro e
 rw [e, hb] at hr
 cases hr
theorem Rng.keep {r : Nat} {todo : List (α × β)} {w' : World} (h : Rng P k K V w g r l todo) (hg : Gr w w') : Rng P k K V w' g r l todo := by
 have hl1 := h.map.lt
 have hl2 := h.lt
 obtain ⟨es, clock, since, seen, c0, hb, hs, hm, hk, hr, rest⟩ := h
 exact ⟨es, clock, since, seen, c0, (Below.block hg g hl1).trans hb, hs, hm, hk, (Below.block hg r hl2).trans hr, rest⟩

theorem Mp.range (h : Mp P k K V w g l) {t e : TypeId} (ht : P.underlying t = some (.map k e)) :
 ∃ w', (Instr.range t (.map (some g))).run P w = .ok (.pointer (some ⟨w.heap.size, 0, none⟩)) w' ∧ Rng P k K V w' g w.heap.size l l ∧ Gr w w' ∧ w'.heap.size = w.heap.size + 1 := by
 have hlt := h.lt
 obtain ⟨es, clock, hb, hs, hm, hk⟩ := h
 refine ⟨_, run_range_map w t k e g es clock ht hb, ⟨es, clock, clock, #[], clock, ((MapKept.heap_alloc w _).2 g hlt).trans hb, hs, hm, hk, (MapKept.heap_alloc w _).1, hs.1, Nat.le_refl _, Nat.le_refl _, List.Sublist.refl _, ?_⟩, (Gr.refl w).alloc _, by simp⟩
 rw [← hm]
 congr 1
 unfold leftOf
 rw [Array.toList_filter, List.filter_eq_self]
 intro x _
 simp

theorem left_push {es : Array MapEntry} {clock : Nat} (hs : Stamped es clock) {seen : Array Nat} {e : MapEntry} {i : Nat} (hi : (leftOf es seen).toList[i]? = some e) : (leftOf es (seen.push e.born)).toList = (leftOf es seen).toList.eraseIdx i := by
 have hn := ((stamped_iff es clock).1 hs).2.1
 have e1 : (leftOf es (seen.push e.born)).toList = (leftOf es seen).toList.filter (fun x => !(x.born == e.born)) := by
  unfold leftOf
  rw [Array.toList_filter, Array.toList_filter, List.filter_filter]
  congr 1
  funext x
  rw [contains_push]
  cases seen.contains x.born <;> simp
 have hsub : (leftOf es seen).toList.Sublist es.toList := by
  unfold leftOf
  rw [Array.toList_filter]
  exact List.filter_sublist
 have hap : (leftOf es seen).toList.Pairwise (fun x y => x.born ≠ y.born) := (List.pairwise_map.1 hn).sublist hsub
 rw [e1]
 exact filter_eq_eraseIdx (fun x : MapEntry => x.born == e.born) _ i e hi (by simp) (hap.imp fun h1 h2 => by simp at h2; exact h1 (h2.1.trans h2.2.symm))

theorem Rng.next {r : Nat} {todo : List (α × β)} (h : Rng P k K V w g r l todo) (ty : TypeId) :
 (todo = [] ∧ (Instr.next (.pointer (some ⟨r, 0, none⟩)) false ty).run P w = .ok (.tuple #[.bool false]) w) ∨
 ∃ i p w', todo[i]? = some p ∧ p ∈ l ∧ (Instr.next (.pointer (some ⟨r, 0, none⟩)) false ty).run P w = .ok (.tuple #[.bool true, K p.1, V p.2]) w' ∧ Rng P k K V w' g r l (todo.eraseIdx i) ∧ Gb r w w' ∧ w'.heap.size = w.heap.size ∧
  (Instr.entry (.pointer (some ⟨r, 0, none⟩))).run P w' = .ok (.tuple #[K p.1, V p.2]) w' := by
 have hne := h.ne
 obtain ⟨es, clock, since, seen, c0, hb, hs, hm, hk, hr, hold, hsc, hsk, hsub, hl⟩ := h
 rcases run_next_at (P := P) w ty r g since c0 seen es clock hr hb hold hsc with ⟨h0, hrun⟩ | ⟨e, he, w1, hal, hrun⟩
 ·refine Or.inl ⟨?_, hrun⟩
  have h1 := congrArg List.length hl
  simp only [List.length_map, Array.length_toList] at h1
  exact List.length_eq_zero_iff.1 (by omega)
 ·obtain ⟨hem, hes⟩ := mem_left he
  obtain ⟨i, hi, hie⟩ := List.mem_iff_getElem.1 he
  have hi' : (leftOf es seen).toList[i]? = some e := by rw [List.getElem?_eq_getElem hi, hie]
  obtain ⟨p, hp, hpk, hpv⟩ := ents_get hl hi'
  have hpl : p ∈ l := hsub.subset (List.mem_of_getElem? hp)
  have hr1 : w1.heap[r]? = some (.mapIter (some g) since seen c0) := by rcases hal with rfl | rfl <;> exact hr
  have hb1 : w1.heap[g]? = some (.map es clock) := by rcases hal with rfl | rfl <;> exact hb
  have hset := heap_set (o' := .mapIter (some g) since (seen.push e.born) clock) hr1
  have hb' : (setBlock w1 r (.mapIter (some g) since (seen.push e.born) clock)).heap[g]? = some (.map es clock) := (hset.2 g (fun e1 => hne e1.symm)).trans hb1
  have hr' : (setBlock w1 r (.mapIter (some g) since (seen.push e.born) clock)).heap[r]? = some (.mapIter (some g) since (seen.push e.born) clock) := hset.1
  have hgb : Gb r w w1 := by
   rcases hal with rfl | rfl
   ·exact Gb.refl _ _
   ·exact (Gb.refl _ _).drew
  refine Or.inr ⟨i, p, _, hp, hpl, by rw [← hpk, ← hpv]; exact hrun, ⟨es, clock, since, seen.push e.born, clock, hb', hs, hm, hk, hr', hold, hsk, hsk, (List.eraseIdx_sublist todo i).trans hsub, ?_⟩, ?_, ?_, ?_⟩
  ·rw [left_push hs hi', map_eraseIdx, map_eraseIdx, hl]
  ·exact hgb.trans ⟨rfl, rfl, rfl, by simp [setBlock], fun i _ hi => hset.2 i (fun e1 => hi (by rw [e1]))⟩
  ·have : w1.heap.size = w.heap.size := by rcases hal with rfl | rfl <;> rfl
   simpa [setBlock] using this
  ·have hn := ((stamped_iff es clock).1 hs).2.1
   have hf : es.find? (·.born == e.born) = some e := by rw [← Array.find?_toList]; exact find_born e es.toList hn hem
   rw [← hpk, ← hpv]
   simp only [Instr.entry, getObj, Sem.run_bind, Sem.run, hr', hb', Result.andThen, Array.back?_push, bne_self_eq_false, Bool.false_eq_true, if_false, hf]
   rfl

/-! At the operations. -/
variable {ops : Array Oper} {rest : List Oper} {o : Oper} {a : Act} {Q : Exit → Act → World → Prop}

theorem step_store [DecidableEq α] (hg : o.guard = none) (m x v : Operand) (t : TypeId) (hop : o.op = Op.mapUpdate t m x v) (h : Mp P k K V w g l) (hK : ∀ a b, K a = K b → a = b) (Kd : Keyed P k) (e : TypeId) (ht : P.underlying t = some (.map k e))
 (b : α) (y : β) (kl : Lit) (hb : keyOf P k (K b) = some kl) (hm : a.eval m = .map (some g)) (hx : a.eval x = K b) (hv : a.eval v = V y)
 (hC : ∀ w', Mp P k K V w' g (mput l b y) → Gb g w w' → wpList P ops Q rest (a.put o.dst undef) w') : wpList P ops Q (o :: rest) a w := by
 refine wpList_plain hg fun K' hK' => ?_
 obtain ⟨w', hrun, r1, r2⟩ := h.store hK Kd ht hb y
 unfold Oper.wp
 simp [execOp, hop, hm, hx, hv, hrun, Result.andThen]
 exact hK' _ _ (hC w' r1 r2)
theorem step_drop [DecidableEq α] (hg : o.guard = none) (m x : Operand) (t : TypeId) (hop : o.op = Op.call { callee := Callee.builtin Builtin.delete, args := #[m, x], argTypes := #[t, k] }) (h : Mp P k K V w g l) (hK : ∀ a b, K a = K b → a = b) (Kd : Keyed P k) (e : TypeId) (ht : P.underlying t = some (.map k e))
 (b : α) (kl : Lit) (hb : keyOf P k (K b) = some kl) (hm : a.eval m = .map (some g)) (hx : a.eval x = K b)
 (hC : ∀ w', Mp P k K V w' g (mdel l b) → Gb g w w' → wpList P ops Q rest (a.put o.dst (.tuple #[])) w') : wpList P ops Q (o :: rest) a w := by
 refine wpList_plain hg fun K' hK' => ?_
 obtain ⟨w', hrun, r1, r2⟩ := h.drop hK Kd ht o.type hb
 unfold Oper.wp
 simp [execOp, hop, resolve, invoke, builtin, hm, hx, hrun, Result.andThen]
 exact hK' _ _ (hC w' r1 r2)
theorem step_len (hg : o.guard = none) (m : Operand) (t : TypeId) (hop : o.op = Op.call { callee := Callee.builtin Builtin.len, args := #[m], argTypes := #[t] }) (h : Mp P k K V w g l) (e : TypeId) (ht : P.underlying t = some (.map k e)) (hm : a.eval m = .map (some g))
 (hC : wpList P ops Q rest (a.put o.dst (.int .i64 (l.length : Int))) w) : wpList P ops Q (o :: rest) a w := by
 refine wpList_plain hg fun K' hK' => ?_
 unfold Oper.wp
 simp [execOp, hop, resolve, invoke, builtin, hm, h.len ht o.type, Result.andThen]
 exact hK' _ _ hC
theorem step_range (hg : o.guard = none) (m : Operand) (t : TypeId) (hop : o.op = Op.range t m) (h : Mp P k K V w g l) (e : TypeId) (ht : P.underlying t = some (.map k e)) (hm : a.eval m = .map (some g))
 (hC : ∀ w', Rng P k K V w' g w.heap.size l l → Gr w w' → w'.heap.size = w.heap.size + 1 → wpList P ops Q rest (a.put o.dst (.pointer (some ⟨w.heap.size, 0, none⟩))) w') : wpList P ops Q (o :: rest) a w := by
 refine wpList_plain hg fun K' hK' => ?_
 obtain ⟨w', hrun, r1, r2, r3⟩ := h.range ht
 unfold Oper.wp
 simp [execOp, hop, hm, hrun, Result.andThen]
 exact hK' _ _ (hC w' r1 r2 r3)
theorem step_next {r : Nat} {todo : List (α × β)} (hg : o.guard = none) (it : Operand) (hop : o.op = Op.next it false) (hit : a.eval it = .pointer (some ⟨r, 0, none⟩)) (h : Rng P k K V w g r l todo)
 (hDone : todo = [] → wpList P ops Q rest (a.put o.dst (.tuple #[.bool false])) w)
 (hMore : ∀ i p w', todo[i]? = some p → p ∈ l → Rng P k K V w' g r l (todo.eraseIdx i) → Gb r w w' → w'.heap.size = w.heap.size → (Instr.entry (.pointer (some ⟨r, 0, none⟩))).run P w' = .ok (.tuple #[K p.1, V p.2]) w' →
   wpList P ops Q rest (a.put o.dst (.tuple #[.bool true, K p.1, V p.2])) w') : wpList P ops Q (o :: rest) a w := by
 refine wpList_plain hg fun K' hK' => ?_
 unfold Oper.wp
 rcases h.next o.type with ⟨h0, hrun⟩ | ⟨i, p, w', h1, h2, hrun, h3, h4, h5, h6⟩
 ·simp [execOp, hop, hit, hrun, Result.andThen]
  exact hK' _ _ (hDone h0)
 ·simp [execOp, hop, hit, hrun, Result.andThen]
  exact hK' _ _ (hMore i p w' h1 h2 h3 h4 h5 h6)
theorem Rng.left {r : Nat} {todo : List (α × β)} (h : Rng P k K V w g r l todo) : w.rangeLeft g r = todo.length := by
 obtain ⟨es, clock, since, seen, c0, hb, -, -, -, hr, -, -, -, -, hl⟩ := h
 have h1 := congrArg List.length hl
 simp only [List.length_map, Array.length_toList] at h1
 simp only [World.rangeLeft, hb, hr]
 exact h1

/-! At a step of a region whose order is open. -/
variable {Kq : Act → World → Prop} {E : Prop}
theorem step_of_exec (hg : o.guard = none) {v : Value} {w' : World} (hrun : (execOp a.eval o).run P w = .ok (.value v) w') (h : Kq (a.put o.dst v) w') : if Region.wanted o (yielded ops a.tmps) = true then Oper.wp P o a w Kq Q else E := by
 have hw : Region.wanted o (yielded ops a.tmps) = true := by simp [Region.wanted, hg]
 rw [if_pos hw]
 unfold Oper.wp
 rw [hrun]
 exact h
theorem held_look (hg : o.guard = none) (m x : Operand) (t : TypeId) (c : Bool) (hop : o.op = Op.lookup t m x c) (mv xv v : Value) (hm : a.eval m = mv) (hx : a.eval x = xv) (hrun : (Instr.lookup t mv xv c).run P w = .ok v w)
 (hK : Kq (a.put o.dst v) w) : if Region.wanted o (yielded ops a.tmps) = true then Oper.wp P o a w Kq Q else E :=
 step_of_exec hg (by simp [execOp, hop, hm, hx, hrun, Result.andThen]) hK
end

end Go.Proofs.YtnoeiocbmhkmeaaGreat

namespace Go.Proofs.YtnoeiocbmhkmeaaGreat
set_option linter.unusedSimpArgs false
set_option maxRecDepth 100000
set_option maxHeartbeats 80000000

theorem take_in {P : Program} {ops : Array Oper} {Q : Exit → Act → World → Prop} {md : Region.Mode} {S : World → Prop} {i : Nat} {oi : Oper} {v : Value} {d : Option Tmp} {fuel : Nat} {listed : Array Bool} {a : Act} {w : World}
 (hi : ops[i]? = some oi) (hd : oi.dst = d) (hs : Region.noSelect ops = true) (hf : Region.free md ops listed i = true) (hr : (Region.ready md ops listed).contains i = true)
 (hQ : ∀ c a w, Q (.panic c) (a.put d v) w → Q (.panic c) a w) (hw : Region.wanted oi (yielded ops a.tmps) = true) (hv : ∀ w, S w → (execOp a.eval oi).run P w = .ok (.value v) w) (hS : S w)
 (h : wpAnyH P md ops Q S fuel (listed.setIfInBounds i true) (a.put d v) w) : wpAnyH P md ops Q S (fuel + 1) listed a w := by
 subst hd
 exact wpAnyH_take hi hs hf hr hQ (Or.inl ⟨hw, hv⟩) hS h

theorem ti {P : Program} {ops : Array Oper} {Q : Exit → Act → World → Prop} {md : Region.Mode} {S : World → Prop} (i : Nat) (d : Option Tmp) {oi : Oper} {v : Value} {fuel : Nat} {listed : Array Bool} {a : Act} {w : World}
    (hi : ops[i]? = some oi) (hd : oi.dst = d) (h : wpAnyH P md ops Q S fuel (listed.setIfInBounds i true) (a.put d v) w)
    (hv : ∀ w, S w → (execOp a.eval oi).run P w = .ok (.value v) w := by (intro _ h; (try dsimp only at h); go_simp; try with_reducible rfl))
    (hs : Region.noSelect ops = true := by kernel_rfl) (hf : Region.free md ops listed i = true := by kernel_rfl) (hr : (Region.ready md ops listed).contains i = true := by kernel_rfl)
    (hQ : ∀ c a w, Q (.panic c) (a.put d v) w → Q (.panic c) a w := by exact fun _ _ _ hq => hq) (hw : Region.wanted oi (yielded ops a.tmps) = true := by rfl) (hS : S w := by assumption) : wpAnyH P md ops Q S (fuel + 1) listed a w :=
  take_in hi hd hs hf hr hQ hw hv hS h
theorem tr {P : Program} {ops : Array Oper} {Q : Exit → Act → World → Prop} {md : Region.Mode} {S : World → Prop} (rs : List Nat) {fuel : Nat} {listed : Array Bool} {a : Act} {w : World}
    (h : AllReadyH P md ops Q S fuel listed a w rs) (hr : Region.ready md ops listed = rs := by kernel_rfl) (hne : rs ≠ [] := by simp) : wpAnyH P md ops Q S (fuel + 1) listed a w := wpAnyH_ready hr hne h
theorem lA {α : Type} (l : List α) (i : Nat) (a : α) : l.toArray.setIfInBounds i a = (l.set i a).toArray := List.setIfInBounds_toArray ..
theorem lB {α : Type} (x : α) (xs : List α) (a : α) : (x :: xs).set 0 a = a :: xs := List.set_cons_zero
theorem lC {α : Type} (x : α) (xs : List α) (n : Nat) (a : α) : (x :: xs).set (n + 1) a = x :: xs.set n a := List.set_cons_succ

end Go.Proofs.YtnoeiocbmhkmeaaGreat
