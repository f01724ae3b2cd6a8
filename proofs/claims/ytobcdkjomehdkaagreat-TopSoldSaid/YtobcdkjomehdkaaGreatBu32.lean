/- Layer 4: what a push sends. Plain mathematics. -/
import Derived.Test.YtobcdkjomehdkaaGreatBu31
import Derived.Deep.CutRange
import Derived.Laws.AppendOwnNone
import Derived.Maps.Own
import Derived.Carry
namespace Go.Proofs.YtobcdkjomehdkaaGreat
set_option linter.unusedSimpArgs false
set_option maxRecDepth 100000
set_option maxHeartbeats 80000000

def flowR (r : Nat → Nat → Int) (u v : Nat) (x : Int) : Nat → Nat → Int := setR (setR r u v (r u v - x)) v u (r v u + x)
theorem flowR_at (r : Nat → Nat → Int) {u v : Nat} (h : u ≠ v) (x : Int) (a b : Nat) : flowR r u v x a b = if a = u ∧ b = v then r u v - x else if a = v ∧ b = u then r v u + x else r a b := by
 unfold flowR setR
 by_cases h1 : a = v ∧ b = u
 ·rw [if_pos h1, if_neg (by omega), if_pos h1]
 ·rw [if_neg h1]
  by_cases h2 : a = u ∧ b = v
  ·rw [if_pos h2, if_pos h2]
  ·rw [if_neg h2, if_neg h2, if_neg h1]
theorem flowR_zero (r : Nat → Nat → Int) {u v : Nat} (h : u ≠ v) : flowR r u v 0 = r := by
 funext a b
 rw [flowR_at r h]
 split
 ·rename_i e; rw [e.1, e.2]; omega
 ·split
  ·rename_i e; rw [e.1, e.2]; omega
  ·rfl
theorem smN_diff {f g : Nat → Int} {x : Int} : ∀ (N i : Nat), i < N → f i - g i = x → (∀ j, j < N → j ≠ i → f j = g j) → smN f N - smN g N = x := fun N i hi h1 h2 => by
 have h : smN (fun j => f j - g j) N = x := by rw [smN_one N i hi (fun j hj hne => by rw [h2 j hj hne]; omega)]; exact h1
 have e : smN f N = smN (fun j => (f j - g j) + g j) N := smN_congr N fun j _ => by omega
 rw [e, smN_add, h]; omega
theorem flowR_out (r : Nat → Nat → Int) {u v N : Nat} (h : u ≠ v) (hu : u < N) (hv : v < N) (x : Int) (a : Nat) : smN (r a) N - smN (flowR r u v x a) N = (if a = u then x else 0) - (if a = v then x else 0) := by
 by_cases e1 : a = u
 ·subst e1
  rw [if_pos rfl, if_neg h, Int.sub_zero]
  refine smN_diff N v hv ?_ fun j _ hj => ?_
  ·rw [flowR_at r h, if_pos ⟨rfl, rfl⟩]; omega
  ·rw [flowR_at r h, if_neg (by omega), if_neg (by omega)]
 ·by_cases e2 : a = v
  ·subst e2
   rw [if_neg e1, if_pos rfl]
   refine smN_diff N u hu ?_ fun j _ hj => ?_
   ·rw [flowR_at r h, if_neg (by omega), if_pos ⟨rfl, rfl⟩]; omega
   ·rw [flowR_at r h, if_neg (by omega), if_neg (by omega)]
  ·rw [if_neg e1, if_neg e2]
   have : smN (flowR r u v x a) N = smN (r a) N := smN_congr N fun j _ => by rw [flowR_at r h, if_neg (by omega), if_neg (by omega)]
   rw [this]; omega

structure PushP (nx : Nat → List Nat) (N : Nat) (r r' : Nat → Nat → Int) (F F' : Nat → Option Nat) (u k : Nat) (s : Int) : Prop where
 pos : ∀ a b, 0 ≤ r' a b
 sum : ∀ a b, r' a b + r' b a = r a b + r b a
 out : ∀ a, a < N → smN (r a) N - smN (r' a) N = (if a = u then s else 0) - (if a = 1 then s else 0)
 loc : ∀ a b, r' a b ≠ r a b → (∃ d, F a = some d ∧ k ≤ d) ∧ ∃ d, F b = some d ∧ k ≤ d
 sub : ∀ a, F' a = F a ∨ (F' a = none ∧ ∃ d, F a = some d ∧ k ≤ d)
 zero : s = 0 → r' = r ∧ (∀ a, F' a = F a ∨ ¬ Lv r nx F a) ∧ ¬ Lv r nx F u
structure PushL (nx : Nat → List Nat) (N : Nat) (r r' : Nat → Nat → Int) (F F' : Nat → Option Nat) (u k j : Nat) (s : Int) : Prop where
 pos : ∀ a b, 0 ≤ r' a b
 sum : ∀ a b, r' a b + r' b a = r a b + r b a
 out : ∀ a, a < N → smN (r a) N - smN (r' a) N = (if a = u then s else 0) - (if a = 1 then s else 0)
 loc : ∀ a b, r' a b ≠ r a b → (∃ d, F a = some d ∧ k ≤ d) ∧ ∃ d, F b = some d ∧ k ≤ d
 sub : ∀ a, F' a = F a ∨ (F' a = none ∧ ∃ d, F a = some d ∧ k + 1 ≤ d)
 zero : s = 0 → r' = r ∧ (∀ a, F' a = F a ∨ ¬ Lv r nx F a) ∧ ∀ v ∈ (nx u).take j, ¬ (F v = some (k + 1) ∧ 0 < r u v ∧ Lv r nx F v)

variable {nx : Nat → List Nat} {N : Nat} {r r' : Nat → Nat → Int} {F F' : Nat → Option Nat} {u k j : Nat} {s : Int}
theorem PushP.sink {s : Int} (hp : ∀ a b, 0 ≤ r a b) (hs : 1 ≤ s) : PushP nx N r r F F 1 k s :=
 ⟨hp, fun _ _ => rfl, fun a _ => by split <;> omega, fun _ _ h => absurd rfl h, fun _ => Or.inl rfl, fun e => by omega⟩
theorem PushL.start (hp : ∀ a b, 0 ≤ r a b) : PushL nx N r r F F u k 0 0 :=
 ⟨hp, fun _ _ => rfl, fun a _ => by split <;> split <;> omega, fun _ _ h => absurd rfl h, fun _ => Or.inl rfl, fun _ => ⟨rfl, fun _ => Or.inl rfl, fun v hv => by simp at hv⟩⟩
theorem PushL.own (h : PushL nx N r r' F F' u k j s) (hu : F u = some k) : F' u = some k := by
 rcases h.sub u with e | ⟨-, d, e, hd⟩
 ·rw [e]; exact hu
 ·rw [hu] at e; have : k = d := by simpa using e
  omega
theorem PushL.has (h : PushL nx N r r' F F' u k j s) {v d : Nat} (hv : F' v = some d) : F v = some d := by
 rcases h.sub v with e | ⟨e, -⟩
 ·rw [← e]; exact hv
 ·rw [e] at hv; cases hv
theorem PushL.skip (h : PushL nx N r r' F F' u k j s) {v : Nat} (hv : (nx u)[j]? = some v) (hc : F' v = none ∨ (∃ d, F' v = some d ∧ d ≠ k + 1) ∨ r' u v = 0) : PushL nx N r r' F F' u k (j + 1) s :=
 ⟨h.pos, h.sum, h.out, h.loc, h.sub, fun e => by
   obtain ⟨z1, z2, z3⟩ := h.zero e
   refine ⟨z1, z2, fun a ha => ?_⟩
   rw [List.take_add_one, hv] at ha
   rcases List.mem_append.1 ha with ha | ha
   ·exact z3 a ha
   ·simp at ha
    subst ha
    rintro ⟨y1, y2, y3⟩
    rcases z2 a with e1 | e1
    ·rcases hc with c | ⟨d, c, hd⟩ | c
     ·rw [e1, y1] at c; cases c
     ·rw [e1, y1] at c; have : k + 1 = d := by simpa using c
      omega
     ·rw [z1] at c; omega
    ·exact e1 y3⟩

theorem PushL.send (h : PushL nx N r r' F F' u k j s) {v : Nat} {x : Int} {r2 : Nat → Nat → Int} {F2 : Nat → Option Nat} (hu : F u = some k) (huN : u < N) (hvN : v < N) (hu1 : u ≠ 1) (hv : (nx u)[j]? = some v) (hk : F' v = some (k + 1)) (hr : 0 < r' u v)
 (p : PushP nx N r' r2 F' F2 v (k + 1) x) (hx : 0 ≤ x) (hxr : x ≤ r' u v) (hs : 0 ≤ s) : PushL nx N r (flowR r2 u v x) F F2 u k (j + 1) (s + x) ∧ r2 u v = r' u v := by
 have hFv := h.has hk
 have huv : u ≠ v := fun e => by rw [← e, hu] at hFv; simp at hFv
 have hF'u := h.own hu
 have hruv : r2 u v = r' u v := Classical.byContradiction fun e => by
  obtain ⟨⟨d, hd, hkd⟩, -⟩ := p.loc u v e
  rw [hF'u] at hd
  have : k = d := by simpa using hd
  omega
 have hup : ∀ a d, F' a = some d → F a = some d := fun a d ha => h.has ha
 refine ⟨⟨fun a b => ?_, fun a b => ?_, fun a ha => ?_, fun a b hab => ?_, fun a => ?_, fun e => ?_⟩, hruv⟩
 ·rw [flowR_at r2 huv]
  have := p.pos a b
  have := p.pos v u
  split
  ·rw [hruv]; omega
  ·split <;> omega
 ·rw [flowR_at r2 huv, flowR_at r2 huv, ← h.sum a b, ← p.sum a b]
  by_cases e1 : a = u ∧ b = v
  ·rw [if_pos e1, if_neg (by omega), if_pos (by omega), e1.1, e1.2]; omega
  ·rw [if_neg e1]
   by_cases e2 : a = v ∧ b = u
   ·rw [if_pos e2, if_pos (by omega), e2.1, e2.2]; omega
   ·rw [if_neg e2, if_neg (by omega), if_neg (by omega)]
 ·have h1 := h.out a ha
  have h2 := p.out a ha
  have h3 := flowR_out r2 huv huN hvN x a
  by_cases e1 : a = u
  ·rw [if_pos e1] at h1 h3 ⊢
   rw [if_neg (by omega)] at h2 h3
   rw [if_neg (by omega)] at h1 h2 ⊢
   omega
  ·rw [if_neg e1] at h1 h3 ⊢
   by_cases e2 : a = v
   ·rw [if_pos e2] at h2 h3
    split at h1 <;> split at h2 <;> first | omega | (split <;> omega)
   ·rw [if_neg e2] at h2 h3
    split at h1 <;> split at h2 <;> first | omega | (split <;> omega)
 ·rw [flowR_at r2 huv] at hab
  by_cases e1 : a = u ∧ b = v
  ·rw [e1.1, e1.2]; exact ⟨⟨k, hu, Nat.le_refl _⟩, k + 1, hFv, by omega⟩
  ·by_cases e2 : a = v ∧ b = u
   ·rw [e2.1, e2.2]; exact ⟨⟨k + 1, hFv, by omega⟩, k, hu, Nat.le_refl _⟩
   ·rw [if_neg e1, if_neg e2] at hab
    by_cases e3 : r2 a b = r' a b
    ·rw [e3] at hab; exact h.loc a b hab
    ·obtain ⟨⟨d, hd, hkd⟩, d', hd', hkd'⟩ := p.loc a b e3
     exact ⟨⟨d, hup a d hd, by omega⟩, d', hup b d' hd', by omega⟩
 ·rcases p.sub a with e1 | ⟨e1, d, hd, hkd⟩
  ·rw [e1]; exact h.sub a
  ·exact Or.inr ⟨e1, d, hup a d hd, hkd⟩
 ·have es : s = 0 := by omega
  have ex : x = 0 := by omega
  obtain ⟨z1, z2, z3⟩ := h.zero es
  obtain ⟨y1, y2, y3⟩ := p.zero ex
  have hall : ∀ a, F' a = F a ∨ (F' a = none ∧ ¬ Lv r nx F a) := fun a => by
   rcases h.sub a with c | ⟨c, -⟩
   ·exact Or.inl c
   ·rcases z2 a with e1 | e1
    ·exact Or.inl e1
    ·exact Or.inr ⟨c, e1⟩
  rw [z1] at y2 y3
  have hno : ∀ a, ¬ Lv r nx F' a → ¬ Lv r nx F a := fun a hn hl => hn (Lv.without hall hl)
  refine ⟨by rw [ex, flowR_zero r2 huv, y1, z1], fun a => ?_, fun a ha => ?_⟩
  ·rcases y2 a with e1 | e1
   ·rw [e1]; exact z2 a
   ·exact Or.inr (hno a e1)
  ·rw [List.take_add_one, hv] at ha
   rcases List.mem_append.1 ha with ha | ha
   ·exact z3 a ha
   ·simp at ha
    subst ha
    exact fun hh => hno a y3 hh.2.2
theorem PushL.full (h : PushL nx N r r' F F' u k j s) (hs : 1 ≤ s) : PushP nx N r r' F F' u k s :=
 ⟨h.pos, h.sum, h.out, h.loc, fun a => (h.sub a).imp id (fun ⟨e, d, hd, hk⟩ => ⟨e, d, hd, by omega⟩), fun e => by omega⟩
theorem PushL.done (h : PushL nx N r r' F F' u k j s) (hu : F u = some k) (hu1 : u ≠ 1) (hj : (nx u).length ≤ j) : PushP nx N r r' F (setF F' u none) u k s := by
 refine ⟨h.pos, h.sum, h.out, h.loc, fun a => ?_, fun e => ?_⟩
 ·unfold setF
  split
  ·rename_i e; exact Or.inr ⟨rfl, k, by rw [e]; exact hu, Nat.le_refl _⟩
  ·exact (h.sub a).imp id (fun ⟨e, d, hd, hk⟩ => ⟨e, d, hd, by omega⟩)
 ·obtain ⟨z1, z2, z3⟩ := h.zero e
  have hno : ¬ Lv r nx F u := fun hl => by
   cases hl with
   | sink _ => exact hu1 rfl
   | step _ v d a1 a2 a3 a4 a5 =>
     rw [hu] at a1
     obtain rfl : k = d := by simpa using a1
     exact z3 v (by rw [List.take_of_length_le hj]; exact a3) ⟨a2, a4, a5⟩
  refine ⟨z1, fun a => ?_, hno⟩
  unfold setF
  split
  ·rename_i e; rw [e]; exact Or.inr hno
  ·exact z2 a

end Go.Proofs.YtobcdkjomehdkaaGreat

namespace Go.Proofs.YtobcdkjomehdkaaGreat
open Go.RowKit
set_option linter.unusedSimpArgs false
set_option maxRecDepth 100000
set_option maxHeartbeats 80000000

theorem owns_oneI (w : World) (x : Value) {base : Nat} (hb : base ≤ w.heap.size) : (w.alloc (.cells #[x] 3)).ownsRow base 3 1 (.slice (some ⟨w.heap.size, 0, none⟩) 1 1) 1 [x] :=
 ⟨rfl, .inr ⟨w.heap.size, 1, _, rfl, hb, heap_alloc_new w _, Nat.le_refl _, by unfold maxLen; omega, rfl, rfl⟩⟩
theorem FM.made (w : World) : FM (w.alloc (.map #[] 0)) w.heap.size (fun _ => none) := ⟨[], Mp_made w, fun _ => rfl, fun p hp => by cases hp⟩
theorem nodesI_snoc (Q : List Nat) (v : Nat) : flatE enc1 (nodesI (Q ++ [v])) = flatE enc1 (nodesI Q) ++ [.int .i64 (v : Int)] := by
 unfold nodesI; rw [List.map_append, flatE_app]; rfl
theorem nodesI_at {Q : List Nat} {i u : Nat} (h : Q[i]? = some u) : (nodesI Q)[i]? = some (u : Int) := by unfold nodesI; rw [List.getElem?_map, h]; rfl
theorem nodesI_len (Q : List Nat) : (nodesI Q).length = Q.length := by simp [nodesI]

theorem FM.apart {w : World} {fb : Nat} {F : Nat → Option Nat} (h : FM w fb F) {base : Nat} {e : TypeId} {size n : Nat} {v : Value} {xs : List Value} (ho : w.ownsRow base e size v n xs) : some fb ≠ v.ownBlock := fun e0 => by
 obtain ⟨l, ⟨es, cl, hb, -⟩, -⟩ := h
 rcases ho.2 with ⟨rfl, -⟩ | ⟨g, cap, cur, rfl, -, hg, -⟩
 ·simp [Value.ownBlock] at e0
 ·simp [Value.ownBlock] at e0
  rw [e0] at hb
  rw [hb] at hg
  cases hg

def SearchPost (r : Nat → Nat → Int) (nx : Nat → List Nat) (N : Nat) (w : World) (e : Ending) (w' : World) : Prop :=
 ∃ fb F, e = .returned (.map (some fb)) ∧ w.heap.size ≤ fb ∧ FM w' fb F ∧ Found r nx N F ∧ Gr w w'

theorem search_any (g mb h N : Nat) (nx : Nat → List Nat) (r : Nat → Nat → Int) (w : World) (hN : 2 ≤ N) (hNb : N ≤ 4096) (hnx : ∀ u, u < N → ∀ v ∈ nx u, v < N) (hlen : ∀ u, u < N → (nx u).length ≤ 1048576) (hn : NetB w g mb h N nx) (hr : RM w mb r) :
 Calls Tryz.prog 78 #[.pointer (some ⟨g, 0, none⟩)] w (SearchPost r nx N w) := by
 have HN := Lib.hid hn
 have HR := Lib.hid hr
 have HNX := Lib.hid hnx
 have HLEN := Lib.hid hlen
 clear hn hr hnx hlen
 have hmm := @run_makeMap Tryz.prog
 go_enter Tryz.func78, Tryz.ntmps78
 go_upto_region 2 with (first | (refine step_insF rfl (.tmp 11) _ _ rfl (FM.made w) (u := 0) (d := 0) (by unfold nodeB; omega) rfl rfl rfl ?_; intro w1 hF1 hG1) | fail)
 clear hmm
 have hg1 : Gr w w1 := hG1.gr ((Gr.refl w).alloc _) (Nat.le_refl _)
 have hS1 : SI r nx N (setF (fun _ => none) 0 (some 0)) [0] := SI.start r nx (by omega) (fun v => rfl)
 obtain ⟨fb, hfb⟩ : ∃ fb, w.heap.size = fb := ⟨_, rfl⟩
 rw [hfb] at hF1 ⊢
 have HFB := Lib.hid hfb
 have HF1 := Lib.hid hF1
 have HS1 := Lib.hid hS1
 generalize setF (fun _ => none) 0 (some 0) = F1 at HF1 HS1
 clear hG1 hF1 hS1 hfb
 obtain ⟨i0, hi, hz0, hz1, hz2⟩ := info_parts Tryz.infoBnI
 have HI := Lib.hid (And.intro hi (And.intro hz0 (And.intro hz1 hz2)))
 clear hi hz0 hz1 hz2
 go_upto_region 3 with fail
 generalize hW2 : World.alloc w1 _ = w2
 have hg12 : Gr w1 w2 := by rw [← hW2]; exact (Gr.refl w1).alloc _
 have hown : w2.ownsRow w.heap.size 3 1 (.slice (some ⟨w1.heap.size, 0, none⟩) 1 1) 1 (flatE enc1 (nodesI [0])) := by rw [← hW2]; exact owns_oneI w1 (.int .i64 0) hg1.size
 have HO := Lib.hid hown
 have HF2 := Lib.hid (HF1.out.keep hg12)
 have hg2 := hg1.trans hg12
 clear hW2 hown hg12 hg1 HF1
 go_wp2_with fail
 go_loopw [4, 5] (fun q z wr => ∃ (k : Nat) (Q : List Nat) (F : Nat → Option Nat), k ≤ Q.length ∧ z = .int .i64 (k : Int) ∧ Hid (wr.ownsRow w.heap.size 3 1 q Q.length (flatE enc1 (nodesI Q))) ∧ Hid (FM wr fb F) ∧ Hid (SI r nx N F Q) ∧ Hid (∀ i u, i < k → Q[i]? = some u → Clo r nx F u (nx u).length) ∧ Gr w wr) (fun _ z _ => N + 1 - (intOf z).toNat)
 case atStart => exact ⟨0, [0], F1, Nat.zero_le _, rfl, HO, HF2, HS1, Lib.hid (fun i u hi => by omega), hg2⟩
 case round =>
  obtain ⟨k, Q, F, hk, rfl, hown, hF, hS, hC, hgr⟩ := hrel
  have hqN := hS.out.len
  by_cases hlt : k < Q.length
  ·obtain ⟨gq, cq, rfl, -⟩ := owns_shape hown.out (by omega)
   obtain ⟨u, hu⟩ : ∃ u, Q[k]? = some u := ⟨_, List.getElem?_eq_getElem hlt⟩
   have huN := hS.out.lt u (List.mem_of_getElem? hu)
   obtain ⟨bq, oq, eq, cq0⟩ := (Rd_of_owns enc1_len (nodesI_len Q) hown.out) k _ (nodesI_at hu)
   cases eq
   have ck := cq0 0 _ rfl
   simp only [Nat.zero_add, Nat.mul_one, Nat.add_zero] at ck
   obtain ⟨A, c, hrow0, hints⟩ := HN.out.rows u huN
   have hrow := hgr.keep hrow0
   have n0 := (HN.out.keep hgr).c0
   have n1 := (HN.out.keep hgr).c1
   have hm := HLEN.out u huN
   obtain ⟨m, hmm⟩ : ∃ m, (nx u).length = m := ⟨_, rfl⟩
   rw [hmm] at hrow hm
   have HMM := Lib.hid hmm
   obtain ⟨qn, hqn⟩ : ∃ qn, Q.length = qn := ⟨_, rfl⟩
   have HU := Lib.hid hu
   have hki : (k : Int) < (qn : Int) := by omega
   have HOW := Lib.hid hown.out
   rw [hqn] at hk hlt hqN HOW ⊢
   have HQN := Lib.hid hqn
   have HKQ := Lib.hid hlt
   have hui : (u : Int) < (N : Int) := by omega
   have HINT := Lib.hid hints
   have hgr0 := hgr
   clear hown hmm hu cq0 hqn hints hrow0
   go_wp2_with fail
   go_loopw [4, 32] (fun q z wi => ∃ (j : Nat) (Q' : List Nat) (F' : Nat → Option Nat) (n' : Nat), j ≤ m ∧ z = .int .i64 (j : Int) ∧ Q'.length = n' ∧ qn ≤ n' ∧ Hid (wi.ownsRow w.heap.size 3 1 q n' (flatE enc1 (nodesI Q'))) ∧ Hid (FM wi fb F') ∧ Hid (SI r nx N F' Q') ∧ Hid (∀ i, i < qn → Q'[i]? = Q[i]?) ∧ Hid (∀ v, F v ≠ none → F' v = F v) ∧ Hid (Clo r nx F' u j) ∧ Gr w wi) (fun _ z _ => m - (intOf z).toNat)
   case atStart => exact ⟨0, Q, F, qn, Nat.zero_le _, rfl, HQN.out, Nat.le_refl _, HOW, hF, hS, Lib.hid (fun _ _ => rfl), Lib.hid (fun _ _ => rfl), Lib.hid (fun v hv => by simp at hv), hgr⟩
   case round =>
    clear hgr hrow n0 n1 ck
    obtain ⟨j, Q', F', n', hj, rfl, hn', hqn', hown', hF', hS', hP', hX', hC', hgr'⟩ := hrel
    have hn'N : n' ≤ N := by rw [← hn']; exact hS'.out.len
    by_cases hjl : j < m
    ·obtain ⟨v, hv⟩ : ∃ v, (nx u)[j]? = some v := ⟨_, List.getElem?_eq_getElem (by rw [HMM.out]; exact hjl)⟩
     have hvm := List.mem_of_getElem? hv
     have hvN := HNX.out u huN v hvm
     obtain ⟨bv, ov, rfl, cv0⟩ := (HINT.out.keep hgr') j _ (nodesI_at hv)
     have cj := cv0 0 _ rfl
     simp only [Nat.mul_one, Nat.add_zero] at cj
     have n0 := (HN.out.keep hgr').c0
     have hL1 := hF'.out.look2 (u := v) (by unfold nodeB; omega)
     have hjm : (j : Int) < (m : Int) := by omega
     have hfk : ∃ d, F' u = some d ∧ d ≤ 4096 := by
      have h1 : Q'[k]? = some u := by rw [hP'.out k HKQ.out]; exact HU.out
      obtain ⟨d, hd⟩ := Option.ne_none_iff_exists'.1 ((hS'.out.mem u).2 (List.mem_of_getElem? h1))
      have := hS'.out.dist k u d h1 hd
      exact ⟨d, hd, by omega⟩
     have hQu : Q'[k]? = some u := by rw [hP'.out k HKQ.out]; exact HU.out
     have HQU := Lib.hid hQu
     have HV := Lib.hid hv
     have HVM := Lib.hid hvm
     clear hv hvm cv0 hQu
     rcases hfv : F' v with _ | d
     ·rw [hfv] at hL1
      simp only [Option.getD_none, Option.isSome_none] at hL1
      have hLR := (HR.out.keep hgr').look (u := u) (v := v) (by unfold nodeB; omega) (by unfold nodeB; omega)
      have HFV := Lib.hid hfv
      obtain ⟨rv, hrv⟩ : ∃ rv, r u v = rv := ⟨_, rfl⟩
      have HRV := Lib.hid hrv
      rw [hrv] at hLR
      clear hfv hrv
      by_cases hpos : 0 < rv
      ·obtain ⟨d, hd, hdb⟩ := hfk
       have hL3 := hF'.out.look (u := u) (by unfold nodeB; omega)
       rw [hd] at hL3
       simp only [Option.getD_some] at hL3
       have HD := Lib.hid hd
       have HSA := Lib.hid (hS'.out.add HQU.out hd HVM.out (by rw [HRV.out]; exact hpos) hvN HFV.out)
       have HCA := Lib.hid ((hC'.out.mono (F' := setF F' v (some (d + 1))) (fun a ha => setF_mono ha)).step HV.out (fun _ => by unfold setF; simp))
       have HXA : Hid (∀ a, F a ≠ none → setF F' v (some (d + 1)) a = F a) := Lib.hid (fun a ha => by
        have e := hX'.out a ha
        unfold setF
        rw [if_neg (fun e' => by rw [e', HFV.out] at e; rw [← e'] at e; exact ha e.symm)]
        exact e)
       have HPA : Hid (∀ i, i < qn → (Q' ++ [v])[i]? = Q[i]?) := Lib.hid (fun i hi => by rw [List.getElem?_append_left (by omega)]; exact hP'.out i hi)
       clear hd
       go_upto_region 13 with (first | (at_mapUpdate; refine step_putF rfl _ _ _ rfl hF'.out (u := v) (d := d + 1) (by unfold nodeB; omega) rfl rfl rfl ?_; intro w5 hF5 hG5) | fail)
       have hnb := hF'.out.apart hown'.out
       have hown5 := hown'.out.kept (row := some fb) hG5 (Or.inr (Ne.symm hnb))
       have hg5 : Gr w w5 := hG5.gr hgr' (by have := HFB.out; omega)
       have HO5 := Lib.hid hown5
       have HF5 := Lib.hid hF5
       have HNV : Hid (flatE enc1 (nodesI (Q' ++ [v])) = flatE enc1 (nodesI Q') ++ enc1 (v : Int)) := Lib.hid (nodesI_snoc Q' v)
       clear hown5 hF5 hG5 hnb hL1 hLR hL3 hown' hF' cj n0
       obtain ⟨hi, hz0, hz1, hz2⟩ := HI.out
       go_wp2_with (at_builtin; refine wpList_append_own _ rfl _ _ 25 rfl w.heap.size 3 i0 _ 1 8 Tryz.underlying25 hi hz0 hz1 hz2 rfl (by decide) _ _ _ rfl (HO5.out.alloc _) ⟨w5.heap.size, 0, none⟩ 1 1 (enc1 (v : Int)) rfl rfl ?a1 ?a2 ?a3 ?a4 ?a5 ?_)
       case a1 =>
        intro t x ht
        rw [Addr.add_lit]
        exact alloc_new rfl (by rw [Nat.zero_add]; simpa [enc1] using ht)
       case a2 => exact fun x hx => enc1_one _ x hx
       case a3 => unfold maxLen; omega
       case a4 => omega
       case a5 => have := hg5.size; simp; omega
       intro v' w6 hown6 hgrow _
       have hal : Gr w5 (w5.alloc (.cells #[.int .i64 (v : Int)] 3)) := (Gr.refl _).alloc _
       have ho5 := HO5.out.alloc (.cells #[.int .i64 (v : Int)] 3)
       have hf5 := HF5.out.keep hal
       obtain ⟨lf, hlf, hlk⟩ := hf5
       have hF6 : FM w6 fb (setF F' v (some (d + 1))) := ⟨lf, hlf.grown hgrow (FM.apart ⟨lf, hlf, hlk⟩ ho5), hlk⟩
       have hg6 : Gr w w6 := Below.grown (hg5.alloc _) hgrow (hg5.alloc _).size (fun t ht => (ho5.lt t ht).1)
       have HF6 := Lib.hid hF6
       have HO6 : Hid (w6.ownsRow w.heap.size 3 1 v' (n' + 1) (flatE enc1 (nodesI (Q' ++ [v])))) := Lib.hid (by rw [HNV.out]; exact hown6)
       clear hown6 hgrow hal ho5 hlf hlk hF6 hi hz0 hz1 hz2 lf
       go_wp2_with fail
       go_roundw
       case rel => exact ⟨j + 1, Q' ++ [v], _, n' + 1, by omega, by go_num, by simp [hn'], by omega, HO6, HF6, HSA, HPA, HXA, HCA, hg6⟩
       case measure => simp [intOf]; omega
      ·have hnp : ¬ (0 < r u v) := by rw [HRV.out]; exact hpos
       have HCA := Lib.hid (hC'.out.step HV.out (fun e => absurd e hnp))
       clear hnp hfk
       go_wp2_with fail
       go_roundw
       case rel => exact ⟨j + 1, Q', F', n', by omega, by go_num, hn', hqn', hown', hF', hS', hP', hX', HCA, hgr'⟩
       case measure => simp [intOf]; omega
     ·rw [hfv] at hL1
      simp only [Option.getD_some, Option.isSome_some] at hL1
      have HCA := Lib.hid (hC'.out.step HV.out (fun _ => by rw [hfv]; simp))
      clear hfk hfv
      go_wp2_with fail
      go_roundw
      case rel => exact ⟨j + 1, Q', F', n', by omega, by go_num, hn', hqn', hown', hF', hS', hP', hX', HCA, hgr'⟩
      case measure => simp [intOf]; omega
    ·obtain rfl : j = m := by omega
     have HCK : Hid (∀ i a, i < k + 1 → Q'[i]? = some a → Clo r nx F' a (nx a).length) := Lib.hid (fun i a hi ha => by
      rcases Nat.lt_or_ge i k with c | c
      ·rw [hP'.out i (by have := HKQ.out; omega)] at ha
       exact (hC.out i a c ha).mono (fun b hb => by rw [hX'.out b hb]; exact hb)
      ·obtain rfl : i = k := by omega
       rw [hP'.out i HKQ.out, HU.out] at ha
       obtain rfl : u = a := by simpa using ha
       rw [HMM.out]; exact hC'.out)
     clear hjl
     go_wp2_with fail
     go_roundw
     case rel => exact ⟨k + 1, Q', F', by rw [hn']; omega, by go_num, by rw [hn']; exact hown', hF', hS', HCK, hgr'⟩
     case measure => simp [intOf]; omega
  ·obtain rfl : k = Q.length := by omega
   have HFD : Hid (Found r nx N F) := Lib.hid ⟨fun v hv => hS.out.lt v ((hS.out.mem v).1 hv), hS.out.zero, hS.out.pred, fun v d hd => by
    obtain ⟨i, hi⟩ := List.mem_iff_getElem?.1 ((hS.out.mem v).1 (by rw [hd]; simp))
    have := hS.out.dist i v d hi hd
    have := (List.getElem?_eq_some_iff.1 hi).1
    omega, fun u hu v hv hr => by
    obtain ⟨i, hi⟩ := List.mem_iff_getElem?.1 ((hS.out.mem u).1 hu)
    have := hC.out i u (List.getElem?_eq_some_iff.1 hi).1 hi v (by rw [List.take_length]; exact hv) hr
    exact this⟩
   obtain ⟨gq, cq, rfl⟩ : ∃ A c, u4 = .slice A Q.length c := by
    obtain ⟨A, c, e, -⟩ := own_row enc1_len (nodesI_len Q) hown.out
    exact ⟨A, c, e⟩
   generalize Q.length = k at hqN ⊢
   clear hlt hk hown hS hC
   go_wp2_with fail
   go_ret
   exact ⟨fb, F, rfl, Nat.le_of_eq HFB.out, hF.out, HFD.out, hgr⟩

end Go.Proofs.YtobcdkjomehdkaaGreat
