/- Layer 4: what the greatest flow says of the task. Plain mathematics. -/
import Derived.Test.YtobcdkjomehdkaaGreatBu36
import Derived.Test.YtobcdkjomehdkaaGreatBu37
namespace Go.Proofs.YtobcdkjomehdkaaGreat
set_option linter.unusedSimpArgs false
set_option maxRecDepth 100000
set_option maxHeartbeats 80000000

theorem smN_app (f : Nat → Int) (a : Nat) : ∀ b, smN f (a + b) = smN f a + smN (fun i => f (a + i)) b
 | 0 => by simp [smN]
 | b + 1 => by rw [Nat.add_succ]; simp only [smN]; rw [smN_app f a b]; omega
theorem smN_nodes (f : Nat → Int) (n K : Nat) : smN f (2 + n + K) = f 0 + f 1 + smN (fun j => f (2 + j)) n + smN (fun s => f (2 + n + s)) K := by
 rw [smN_app, smN_app]
 simp only [smN]; omega
section
variable {B n K : Nat} {l : List Jb} {T : List Int} {r' : Nat → Nat → Int} {F : Nat → Option Nat} {nx : Nat → List Nat} {cnt : Nat}

structure Left (B n K : Nat) (l : List Jb) (T : List Int) (r' : Nat → Nat → Int) (F : Nat → Option Nat) (nx : Nat → List Nat) (cnt : Nat) : Prop where
 fl : Flowed (2 + n + K) (rD (arcs3 l T n K K) (capA B l T n)) r'
 fd : Found r' nx (2 + n + K) F
 sk : F 1 = none
 nd : NxD (2 + n + K) (arcs3 l T n K K) nx cnt
 ln0 : ∀ s, 0 ≤ lnA T s
 wk0 : ∀ j, 0 ≤ (jbA l j).2.2

theorem rD_in {D : Nat → Nat → Prop} {C : Nat → Nat → Int} {u v : Nat} (h : D u v) : rD D C u v = C u v := by unfold rD; rw [if_pos h]
theorem rD_out {D : Nat → Nat → Prop} {C : Nat → Nat → Int} {u v : Nat} (h : ¬ D u v) : rD D C u v = 0 := by unfold rD; rw [if_neg h]
theorem arc_src {j : Nat} (hj : j < n) : arcs3 l T n K K 0 (2 + j) := Or.inl (Or.inl ⟨rfl, by omega, by omega⟩)
theorem arc_mid {j s : Nat} (hj : j < n) (hs : s < K) (hc : covA l T j s) : arcs3 l T n K K (2 + j) (2 + n + s) :=
 Or.inl (Or.inr ⟨by omega, by omega, by omega, by omega, by rw [show 2 + j - 2 = j by omega, show 2 + n + s - 2 - n = s by omega]; exact hc⟩)
theorem arc_snk {s : Nat} (hs : s < K) : arcs3 l T n K K (2 + n + s) 1 := Or.inr ⟨by omega, by omega, rfl⟩
theorem arc_ways {u v : Nat} (h : arcs3 l T n K K u v) : (u = 0 ∧ ∃ j, j < n ∧ v = 2 + j) ∨ (∃ j s, j < n ∧ s < K ∧ u = 2 + j ∧ v = 2 + n + s ∧ covA l T j s) ∨ (∃ s, s < K ∧ u = 2 + n + s ∧ v = 1) := by
 rcases h with (⟨h1, h2, h3⟩ | ⟨h1, h2, h3, h4, h5⟩) | ⟨h1, h2, h3⟩
 ·exact Or.inl ⟨h1, v - 2, by omega, by omega⟩
 ·exact Or.inr (Or.inl ⟨u - 2, v - 2 - n, by omega, by omega, by omega, by omega, h5⟩)
 ·exact Or.inr (Or.inr ⟨u - 2 - n, by omega, by omega, h3⟩)
theorem Left.no (h : Left B n K l T r' F nx cnt) {u v : Nat} (h1 : ¬ arcs3 l T n K K u v) (h2 : ¬ arcs3 l T n K K v u) : r' u v = 0 ∧ r' v u = 0 := by
 have e := h.fl.sum u v
 rw [rD_out h1, rD_out h2] at e
 have := h.fl.pos u v
 have := h.fl.pos v u
 omega
theorem Left.src (h : Left B n K l T r' F nx cnt) {j : Nat} (hj : j < n) : r' 0 (2 + j) + r' (2 + j) 0 = (jbA l j).2.2 := by
 have e := h.fl.sum 0 (2 + j)
 rw [rD_in (arc_src hj), rD_out (fun a => by rcases arc_ways a with ⟨h1, -⟩ | ⟨_, _, _, _, h1, h2, _⟩ | ⟨_, _, h1, h2⟩ <;> omega)] at e
 rw [e]
 unfold capA
 rw [if_pos rfl, show 2 + j - 2 = j by omega]; omega
theorem Left.mid (h : Left B n K l T r' F nx cnt) {j s : Nat} (hj : j < n) (hs : s < K) (hc : covA l T j s) : r' (2 + j) (2 + n + s) + r' (2 + n + s) (2 + j) = lnA T s := by
 have e := h.fl.sum (2 + j) (2 + n + s)
 rw [rD_in (arc_mid hj hs hc), rD_out (fun a => by rcases arc_ways a with ⟨h1, -⟩ | ⟨_, _, _, _, h1, h2, _⟩ | ⟨_, _, h1, h2⟩ <;> omega)] at e
 rw [e]
 unfold capA
 rw [if_neg (by omega), if_pos (by omega), show 2 + n + s - 2 - n = s by omega]; omega
theorem Left.mid0 (h : Left B n K l T r' F nx cnt) {j s : Nat} (hj : j < n) (hc : ¬ covA l T j s) : r' (2 + j) (2 + n + s) = 0 ∧ r' (2 + n + s) (2 + j) = 0 := by
 refine h.no (fun a => ?_) (fun a => ?_)
 ·rcases arc_ways a with ⟨h1, -⟩ | ⟨j', s', _, _, h1, h2, h3⟩ | ⟨_, _, h1, h2⟩
  ·omega
  ·rw [show j' = j by omega, show s' = s by omega] at h3; exact hc h3
  ·omega
 ·rcases arc_ways a with ⟨h1, -⟩ | ⟨_, _, _, _, h1, h2, _⟩ | ⟨_, _, h1, h2⟩ <;> omega
def flF (r' : Nat → Nat → Int) (n j s : Nat) : Nat := (r' (2 + n + s) (2 + j)).toNat
theorem Left.fl_eq (h : Left B n K l T r' F nx cnt) (j s : Nat) : ((flF r' n j s : Nat) : Int) = r' (2 + n + s) (2 + j) := by
 have := h.fl.pos (2 + n + s) (2 + j)
 unfold flF; omega
theorem Left.fl_cov (h : Left B n K l T r' F nx cnt) {j s : Nat} (hj : j < n) (hf : 1 ≤ flF r' n j s) : covA l T j s := Classical.byContradiction fun hc => by
 have e := (h.mid0 hj hc).2
 have := h.fl_eq j s
 omega
theorem Left.fl_le (h : Left B n K l T r' F nx cnt) {j s : Nat} (hj : j < n) (hs : s < K) : ((flF r' n j s : Nat) : Int) ≤ lnA T s := by
 have e1 := h.fl_eq j s
 have e2 := h.ln0 s
 by_cases hc : covA l T j s
 ·have e3 := h.mid hj hs hc
  have e4 := h.fl.pos (2 + j) (2 + n + s)
  omega
 ·have e3 := (h.mid0 hj hc).2
  omega
theorem Left.row (h : Left B n K l T r' F nx cnt) {j : Nat} (hj : j < n) : smN (fun s => ((flF r' n j s : Nat) : Int)) K + r' 0 (2 + j) = (jbA l j).2.2 := by
 have e := h.fl.out (2 + j) (by omega) (by omega) (by omega)
 rw [smN_nodes, smN_nodes] at e
 have a1 : r' (2 + j) 1 = 0 := (h.no (fun a => by rcases arc_ways a with ⟨h1, -⟩ | ⟨_, _, _, _, h1, h2, _⟩ | ⟨_, _, h1, h2⟩ <;> omega) (fun a => by rcases arc_ways a with ⟨h1, -⟩ | ⟨_, _, _, _, h1, h2, _⟩ | ⟨_, _, h1, h2⟩ <;> omega)).1
 have a2 : smN (fun i => r' (2 + j) (2 + i)) n = 0 := by
  rw [smN_congr (g := fun _ => 0) n (fun i _ => (h.no (fun a => by rcases arc_ways a with ⟨h1, -⟩ | ⟨_, _, _, _, h1, h2, _⟩ | ⟨_, _, h1, h2⟩ <;> omega) (fun a => by rcases arc_ways a with ⟨h1, -⟩ | ⟨_, _, _, _, h1, h2, _⟩ | ⟨_, _, h1, h2⟩ <;> omega)).1), smN_zero]
 have b0 : rD (arcs3 l T n K K) (capA B l T n) (2 + j) 0 = 0 := rD_out (fun a => by rcases arc_ways a with ⟨h1, -⟩ | ⟨_, _, _, _, h1, h2, _⟩ | ⟨_, _, h1, h2⟩ <;> omega)
 have b1 : rD (arcs3 l T n K K) (capA B l T n) (2 + j) 1 = 0 := rD_out (fun a => by rcases arc_ways a with ⟨h1, -⟩ | ⟨_, _, _, _, h1, h2, _⟩ | ⟨_, _, h1, h2⟩ <;> omega)
 have b2 : smN (fun i => rD (arcs3 l T n K K) (capA B l T n) (2 + j) (2 + i)) n = 0 := by
  rw [smN_congr (g := fun _ => 0) n (fun i _ => rD_out (fun a => by rcases arc_ways a with ⟨h1, -⟩ | ⟨_, _, _, _, h1, h2, _⟩ | ⟨_, _, h1, h2⟩ <;> omega)), smN_zero]
 have c : smN (fun s => rD (arcs3 l T n K K) (capA B l T n) (2 + j) (2 + n + s)) K = smN (fun s => r' (2 + j) (2 + n + s)) K + smN (fun s => ((flF r' n j s : Nat) : Int)) K := by
  rw [← smN_add]
  refine smN_congr K fun s hs => ?_
  rw [h.fl_eq]
  by_cases hc : covA l T j s
  ·rw [h.mid hj hs hc, rD_in (arc_mid hj hs hc)]
   unfold capA
   rw [if_neg (by omega), if_pos (by omega), show 2 + n + s - 2 - n = s by omega]
  ·obtain ⟨d1, d2⟩ := h.mid0 hj hc (s := s)
   rw [d1, d2, rD_out]
   ·rfl
   ·intro a
    rcases arc_ways a with ⟨h1, -⟩ | ⟨j', s', _, _, h1, h2, h3⟩ | ⟨_, _, h1, h2⟩
    ·omega
    ·rw [show j' = j by omega, show s' = s by omega] at h3; exact hc h3
    ·omega
 have d := h.src hj
 omega
theorem Left.col (h : Left B n K l T r' F nx cnt) {s : Nat} (hs : s < K) : smN (fun j => ((flF r' n j s : Nat) : Int)) n + r' (2 + n + s) 1 = B * lnA T s := by
 have e := h.fl.out (2 + n + s) (by omega) (by omega) (by omega)
 rw [smN_nodes, smN_nodes] at e
 have a0 : r' (2 + n + s) 0 = 0 := (h.no (fun a => by rcases arc_ways a with ⟨h1, -⟩ | ⟨_, _, _, _, h1, h2, _⟩ | ⟨_, _, h1, h2⟩ <;> omega) (fun a => by rcases arc_ways a with ⟨h1, _, h2, h3⟩ | ⟨_, _, _, _, h1, h2, _⟩ | ⟨_, _, h1, h2⟩ <;> omega)).1
 have a3 : smN (fun i => r' (2 + n + s) (2 + n + i)) K = 0 := by
  rw [smN_congr (g := fun _ => 0) K (fun i _ => (h.no (fun a => by rcases arc_ways a with ⟨h1, -⟩ | ⟨_, _, _, _, h1, h2, _⟩ | ⟨_, _, h1, h2⟩ <;> omega) (fun a => by rcases arc_ways a with ⟨h1, -⟩ | ⟨_, _, _, _, h1, h2, _⟩ | ⟨_, _, h1, h2⟩ <;> omega)).1), smN_zero]
 have b0 : rD (arcs3 l T n K K) (capA B l T n) (2 + n + s) 0 = 0 := rD_out (fun a => by rcases arc_ways a with ⟨h1, -⟩ | ⟨_, _, _, _, h1, h2, _⟩ | ⟨_, _, h1, h2⟩ <;> omega)
 have b1 : rD (arcs3 l T n K K) (capA B l T n) (2 + n + s) 1 = B * lnA T s := by
  rw [rD_in (arc_snk hs)]
  unfold capA
  rw [if_neg (by omega), if_neg (by omega), show 2 + n + s - 2 - n = s by omega]
 have b2 : smN (fun i => rD (arcs3 l T n K K) (capA B l T n) (2 + n + s) (2 + i)) n = 0 := by
  rw [smN_congr (g := fun _ => 0) n (fun i _ => rD_out (fun a => by rcases arc_ways a with ⟨h1, -⟩ | ⟨_, _, _, _, h1, h2, _⟩ | ⟨_, _, h1, h2⟩ <;> omega)), smN_zero]
 have b3 : smN (fun i => rD (arcs3 l T n K K) (capA B l T n) (2 + n + s) (2 + n + i)) K = 0 := by
  rw [smN_congr (g := fun _ => 0) K (fun i _ => rD_out (fun a => by rcases arc_ways a with ⟨h1, -⟩ | ⟨_, _, _, _, h1, h2, _⟩ | ⟨_, _, h1, h2⟩ <;> omega)), smN_zero]
 have c : smN (fun j => r' (2 + n + s) (2 + j)) n = smN (fun j => ((flF r' n j s : Nat) : Int)) n := smN_congr n fun j _ => (h.fl_eq j s).symm
 omega
theorem Left.all (h : Left B n K l T r' F nx cnt) (h0 : ∀ v, F v ≠ none → v = 0) {j : Nat} (hj : j < n) : smN (fun s => ((flF r' n j s : Nat) : Int)) K = (jbA l j).2.2 := by
 have e := h.row hj
 have hz : r' 0 (2 + j) = 0 := by
  have hp := h.fl.pos 0 (2 + j)
  rcases Int.lt_or_le 0 (r' 0 (2 + j)) with c | c
  ·have := h0 _ (h.fd.clo 0 (by rw [h.fd.zero]; simp) (2 + j) (h.nd.both _ _ (arc_src hj)).1 c)
   omega
  ·omega
 omega
theorem Left.some_job (h : Left B n K l T r' F nx cnt) {v : Nat} (hv : F v ≠ none) (h0 : v ≠ 0) : ∃ j, j < n ∧ F (2 + j) ≠ none ∧ 0 < r' 0 (2 + j) := by
 have down : ∀ d v, F v = some (d + 1) → ∃ v1, F v1 = some 1 := fun d => by
  induction d with
  | zero => intro v hv; exact ⟨v, hv⟩
  | succ d ih =>
    intro v hv
    rcases h.fd.pred v _ hv with ⟨-, e⟩ | ⟨u, d', hu, e, -, -⟩
    ·omega
    ·rw [show d' = d + 1 by omega] at hu; exact ih u hu
 obtain ⟨d, hd⟩ := Option.ne_none_iff_exists'.1 hv
 obtain ⟨v1, hv1⟩ : ∃ v1, F v1 = some 1 := by
  match d, hd with
  | 0, hd =>
    rcases h.fd.pred v 0 hd with ⟨e, -⟩ | ⟨u, d', -, e, -, -⟩
    ·exact absurd e h0
    ·omega
  | d + 1, hd => exact down d v hd
 rcases h.fd.pred v1 1 hv1 with ⟨-, e⟩ | ⟨u, d', hu, e, hn, hr⟩
 ·omega
 ·have hd0 : d' = 0 := by omega
  subst hd0
  have hu0 : u = 0 := by
   rcases h.fd.pred u 0 hu with ⟨e, -⟩ | ⟨_, _, -, e, -, -⟩
   ·exact e
   ·omega
  subst hu0
  by_cases ha : arcs3 l T n K K 0 v1
  ·rcases arc_ways ha with ⟨-, j, hj, rfl⟩ | ⟨_, _, _, _, h1, _, _⟩ | ⟨_, _, h1, _⟩
   ·exact ⟨j, hj, by rw [hv1]; simp, hr⟩
   ·omega
   ·omega
  ·have := (h.no ha (fun a => by rcases arc_ways a with ⟨h1, _, h2, h3⟩ | ⟨_, _, _, _, h1, h2, _⟩ | ⟨_, _, h1, h2⟩ <;> omega)).1
   omega
end

set_option maxRecDepth 100000
set_option maxHeartbeats 80000000

theorem asc_at {T : List Int} (h : T.Pairwise (· < ·)) {a b : Nat} (hab : a < b) (hb : b < T.length) : T.getD a 0 < T.getD b 0 := by
 have := List.pairwise_iff_getElem.1 h a b (by omega) hb hab
 rw [List.getD_eq_getElem?_getD, List.getD_eq_getElem?_getD, List.getElem?_eq_getElem (by omega), List.getElem?_eq_getElem hb]
 exact this
theorem tms_asc (l : List Jb) : (tms l).Pairwise (· < ·) := timesL_asc (tmL l)
def gridT (T : List Int) (h : T.Pairwise (· < ·)) : Grid where
 K := T.length - 1
 at_ := fun s => (spA T s).1
 ln := fun s => (lnA T s).toNat
 pos := fun s hs => by
  have := asc_at h (show s < s + 1 by omega) (by omega)
  unfold lnA
  rw [spA_at hs]
  dsimp only; omega
 up := fun s t hst ht => by
  have h1 := asc_at h (show s < s + 1 by omega) (by omega)
  unfold lnA
  rw [spA_at (by omega), spA_at ht]
  dsimp only
  rcases Nat.lt_or_ge (s + 1) t with c | c
  ·have h2 := asc_at h c (by omega)
   omega
  ·obtain rfl : t = s + 1 := by omega
   omega
theorem grid_ln {T : List Int} (h : T.Pairwise (· < ·)) {s : Nat} (hs : s < T.length - 1) : (((gridT T h).ln s : Nat) : Int) = lnA T s := by
 have := (gridT T h).pos s hs
 show (((lnA T s).toNat : Nat) : Int) = lnA T s
 have h1 : 1 ≤ (lnA T s).toNat := this
 omega
theorem grid_cov {T : List Int} (h : T.Pairwise (· < ·)) (l : List Jb) {j s : Nat} (hs : s < T.length - 1) : covG (gridT T h) l j s ↔ covA l T j s := by
 have e := grid_ln h hs
 unfold covG covA
 show (jbA l j).1 ≤ (spA T s).1 ∧ (spA T s).1 + (((gridT T h).ln s : Nat) : Int) ≤ (jbA l j).2.1 ↔ _
 rw [e]
 unfold lnA
 constructor <;> rintro ⟨a, b⟩ <;> exact ⟨a, by omega⟩
theorem grid_times {l : List Jb} : Times (gridT (tms l) (tms_asc l)) l (fun s => (tms l).getD s 0) := by
 have hasc := tms_asc l
 refine ⟨fun s hs => ?_, fun s hs => asc_at hasc (by omega) (by have : s < (tms l).length - 1 := hs; omega), fun j hj => ?_⟩
 ·have e := grid_ln hasc hs
  have hs' : s < (tms l).length - 1 := hs
  refine ⟨?_, ?_⟩
  ·show (spA (tms l) s).1 = _
   rw [spA_at hs']
  ·show (spA (tms l) s).1 + (((gridT (tms l) hasc).ln s : Nat) : Int) = _
   rw [e]
   unfold lnA
   rw [spA_at hs']
   dsimp only; omega
 ·have hmem : jbA l j ∈ l := by unfold jbA; rw [List.getD_eq_getElem?_getD, List.getElem?_eq_getElem hj]; exact List.getElem_mem hj
  have hin : ∀ x, x ∈ tmL l → ∃ a, a ≤ (tms l).length - 1 ∧ (tms l).getD a 0 = x := fun x hx => by
   obtain ⟨a, ha, e⟩ := List.mem_iff_getElem.1 (show x ∈ tms l from (timesL_mem (tmL l) x).2 hx)
   refine ⟨a, by omega, ?_⟩
   rw [List.getD_eq_getElem?_getD, List.getElem?_eq_getElem ha]
   exact e
  exact ⟨hin _ (List.mem_flatMap.2 ⟨_, hmem, by simp⟩), hin _ (List.mem_flatMap.2 ⟨_, hmem, by simp⟩)⟩
theorem upto_int (f : Nat → Nat → Nat) (s k : Nat) : ((upto f s k : Nat) : Int) = smN (fun j => ((f j s : Nat) : Int)) k := upto_smN f s k

section
variable {B : Nat} {l : List Jb} {r' : Nat → Nat → Int} {F : Nat → Option Nat} {nx : Nat → List Nat} {cnt : Nat}
theorem Left.colN (h : Left B l.length ((tms l).length - 1) l (tms l) r' F nx cnt) {s : Nat} (hs : s < (tms l).length - 1) : upto (flF r' l.length) s l.length ≤ B * (gridT (tms l) (tms_asc l)).ln s := by
 have e := h.col hs
 rw [← upto_int] at e
 have e2 := grid_ln (tms_asc l) hs
 have e3 := h.fl.pos (2 + l.length + s) 1
 have e4 : ((B * (gridT (tms l) (tms_asc l)).ln s : Nat) : Int) = B * lnA (tms l) s := by rw [Int.natCast_mul]; congr 1
 omega
structure FullF (G : Grid) (B : Nat) (l : List Jb) (f : Nat → Nat → Nat) : Prop where
 cov : ∀ j s, j < l.length → s < G.K → 1 ≤ f j s → covG G l j s
 le : ∀ j s, j < l.length → s < G.K → f j s ≤ G.ln s
 col : ∀ s, s < G.K → upto f s l.length ≤ B * G.ln s
 row : ∀ j, j < l.length → smN (fun s => (f j s : Int)) G.K = (jbA l j).2.2
theorem Left.full (h : Left B l.length ((tms l).length - 1) l (tms l) r' F nx cnt) (h0 : ∀ v, F v ≠ none → v = 0) : FullF (gridT (tms l) (tms_asc l)) B l (flF r' l.length) := by
 refine ⟨fun j s hj hs hf => (grid_cov _ l hs).2 (h.fl_cov hj hf), fun j s hj hs => ?_, fun s hs => h.colN hs, fun j hj => h.all h0 hj⟩
 have e1 := h.fl_le hj hs
 have e2 := grid_ln (tms_asc l) hs
 change ((flF r' l.length j s : Nat) : Int) ≤ lnA (tms l) s at e1
 rw [← e2] at e1
 exact_mod_cast e1
theorem Left.cut (h : Left B l.length ((tms l).length - 1) l (tms l) r' F nx cnt) {v : Nat} (hv : F v ≠ none) (h0 : v ≠ 0) :
 CutF (gridT (tms l) (tms_asc l)) B l (flF r' l.length) (fun j => (r' 0 (2 + j)).toNat) (fun j => (F (2 + j)).isSome) (fun s => (F (2 + l.length + s)).isSome) := by
 have hsome : ∀ {u : Nat}, (F u).isSome = true → F u ≠ none := fun hu e => by rw [e] at hu; cases hu
 have hnone : ∀ {u : Nat}, (F u).isSome = false → F u = none := fun hu => by cases hF : F _ with
  | none => rfl
  | some d => rw [hF] at hu; cases hu
 refine ⟨fun j hj => ?_, fun j s hj hs hf => (grid_cov _ l hs).2 (h.fl_cov hj hf), fun j s hj hs ha hb hc => ?_, fun j s hj hs ha hb => ?_, fun s hs hb => ?_, ?_⟩
 ·have e := h.row hj
  have := h.fl.pos 0 (2 + j)
  show smN (fun s => ((flF r' l.length j s : Nat) : Int)) ((tms l).length - 1) + (((r' 0 (2 + j)).toNat : Nat) : Int) = _
  omega
 ·have hcv := (grid_cov _ l hs).1 hc
  have e1 := h.mid hj hs hcv
  have e2 := h.fl_eq j s
  have e3 := grid_ln (tms_asc l) hs
  have hz : r' (2 + j) (2 + l.length + s) = 0 := by
   have hp := h.fl.pos (2 + j) (2 + l.length + s)
   rcases Int.lt_or_le 0 (r' (2 + j) (2 + l.length + s)) with c | c
   ·exact absurd (hnone hb) (h.fd.clo _ (hsome ha) _ (h.nd.both _ _ (arc_mid hj hs hcv)).1 c)
   ·omega
  show flF r' l.length j s = (gridT (tms l) (tms_asc l)).ln s
  have e4 := grid_ln (tms_asc l) hs
  change (((gridT (tms l) (tms_asc l)).ln s : Nat) : Int) = lnA (tms l) s at e4
  omega
 ·have e2 := h.fl_eq j s
  rcases Nat.eq_zero_or_pos (flF r' l.length j s) with c | c
  ·exact c
  ·have hcv := h.fl_cov hj c
   exact absurd (hnone ha) (h.fd.clo _ (hsome hb) _ (h.nd.both _ _ (arc_mid hj hs hcv)).2 (by omega))
 ·have e := h.col hs
  rw [← upto_int] at e
  have e3 := grid_ln (tms_asc l) hs
  have hz : r' (2 + l.length + s) 1 = 0 := by
   have hp := h.fl.pos (2 + l.length + s) 1
   rcases Int.lt_or_le 0 (r' (2 + l.length + s) 1) with c | c
   ·exact absurd h.sk (h.fd.clo _ (hsome hb) _ (h.nd.both _ _ (arc_snk hs)).1 c)
   ·omega
  have e4 : ((B * (gridT (tms l) (tms_asc l)).ln s : Nat) : Int) = B * lnA (tms l) s := by rw [Int.natCast_mul]; congr 1
  have : ((upto (flF r' l.length) s l.length : Nat) : Int) = ((B * (gridT (tms l) (tms_asc l)).ln s : Nat) : Int) := by rw [e4]; omega
  exact_mod_cast this
 ·obtain ⟨j, hj, hF, hr⟩ := h.some_job hv h0
  refine ⟨j, hj, ?_, by omega⟩
  show (F (2 + j)).isSome = true
  cases hFj : F (2 + j) with
  | none => exact absurd hFj hF
  | some d => rfl
def JobsV (l : List Jb) : Prop := ∀ j ∈ l, (0 ≤ j.1 ∧ j.1 < j.2.1 ∧ j.2.1 ≤ 1048576) ∧ 1 ≤ j.2.2 ∧ j.2.2 ≤ 1048576
theorem JobsV.p {l : List Jb} (h : JobsV l) : JobsP l := fun j hj => by have := h j hj; omega
theorem JobsV.at {l : List Jb} (h : JobsV l) (j : Nat) (hj : j < l.length) : 0 ≤ (jbA l j).1 ∧ (jbA l j).1 < (jbA l j).2.1 ∧ (jbA l j).2.1 ≤ 1048576 := by
 have hmem : jbA l j ∈ l := by unfold jbA; rw [List.getD_eq_getElem?_getD, List.getElem?_eq_getElem hj]; exact List.getElem_mem hj
 exact (h _ hmem).1
theorem tms_bdV {l : List Jb} (h : JobsV l) : ∀ s, 0 ≤ (tms l).getD s 0 ∧ (tms l).getD s 0 ≤ 1048576 := fun s => by
 rcases Nat.lt_or_ge s (tms l).length with c | c
 ·rw [List.getD_eq_getElem?_getD, List.getElem?_eq_getElem c]
  have hx' := (timesL_mem (tmL l) _).1 (List.getElem_mem c)
  obtain ⟨j, hj, hxj⟩ := List.mem_flatMap.1 hx'
  have := h j hj
  simp only [Option.getD_some]
  change _ ∈ [j.1, j.2.1] at hxj
  simp only [List.mem_cons, List.not_mem_nil, or_false] at hxj
  change (tms l)[s] = j.1 ∨ (tms l)[s] = j.2.1 at hxj
  omega
 ·rw [List.getD_eq_getElem?_getD, List.getElem?_eq_none c]; simp
theorem Left.refuse (h : Left B l.length ((tms l).length - 1) l (tms l) r' F nx cnt) (hV : JobsV l) (hn : l.length ≤ 32) {v : Nat} (hv : F v ≠ none) (h0 : v ≠ 0) :
 RefuseP B l ((pickN (fun j => (F (2 + j)).isSome) l.length).map fun j : Nat => (j : Int)) ((pickN (fun s => (F (2 + l.length + s)).isSome) ((tms l).length - 1)).map fun s => ((tms l).getD s 0, (tms l).getD (s + 1) 0)) := by
 have hTl : (tms l).length ≤ 64 := by have := timesL_len (tmL l); rw [tmL_len] at this; unfold tms; omega
 exact (h.cut hv h0).refuse grid_times (by show (tms l).length - 1 ≤ 64; omega) hV.at (fun s _ => tms_bdV hV s)
end

end Go.Proofs.YtobcdkjomehdkaaGreat

namespace Go.Proofs.YtobcdkjomehdkaaGreat
open Go.RowKit
set_option linter.unusedSimpArgs false
set_option maxRecDepth 100000
set_option maxHeartbeats 80000000

structure PlanR (w : World) (p g m fb B : Nat) (A : Option Addr) (n c : Nat) (SA : Option Addr) (K sc : Nat) (T : List Int) (F : Nat → Option Nat) (r' : Nat → Nat → Int) : Prop where
 blk : Blk w p 117 #[.pointer (some ⟨g, 0, none⟩), .int .i64 (B : Int), .slice A n c, .slice SA K sc, .map (some fb)]
 g0 : w.cell? ⟨g, 0, none⟩ = some (.map (some m))
 sp : Pts w SA (spanL T)
 fm : FM w fb F
 rm : RM w m r'
theorem PlanR.keep {w w' : World} {p g m fb B : Nat} {A : Option Addr} {n c : Nat} {SA : Option Addr} {K sc : Nat} {T : List Int} {F : Nat → Option Nat} {r' : Nat → Nat → Int} (h : PlanR w p g m fb B A n c SA K sc T F r') (hg : Gr w w') : PlanR w' p g m fb B A n c SA K sc T F r' :=
 ⟨h.blk.keep hg, hg.keep h.g0, h.sp.keep hg, h.fm.keep hg, h.rm.keep hg⟩

theorem FM.alone {w : World} {fb : Nat} {F : Nat → Option Nat} (h : FM w fb F) (h0 : F 0 = some 0) : ∃ l : List (Int × Int), Mp Tryz.prog 3 intV intV w fb l ∧ (l.length = 1 ↔ ∀ v, F v ≠ none → v = 0) := by
 obtain ⟨l, h1, h2, h3⟩ := h
 refine ⟨l, h1, ?_, ?_⟩
 ·intro hl v hv
  obtain ⟨q, rfl⟩ : ∃ q, l = [q] := by
   match l, hl with
   | [q], _ => exact ⟨q, rfl⟩
  have a0 := h2 0
  rw [h0] at a0
  have e0 := mget_some a0
  simp only [List.mem_singleton] at e0
  obtain ⟨d, hd⟩ := Option.ne_none_iff_exists'.1 hv
  have av := h2 v
  rw [hd] at av
  have ev := mget_some av
  simp only [List.mem_singleton] at ev
  rw [← e0] at ev
  have := congrArg Prod.fst ev
  dsimp only at this
  omega
 ·intro hall
  have hk : ∀ p ∈ l, p.1 = 0 := fun p hp => by
   have hg := mget_of h1.apart hp
   have hn := h3 p hp
   have a := h2 p.1.toNat
   rw [show ((p.1.toNat : Nat) : Int) = p.1 by omega, hg] at a
   have : F p.1.toNat ≠ none := fun e => by rw [e] at a; cases a
   have := hall _ this
   omega
  match l, h1.apart, hk with
  | [], _, _ => have := h2 0; rw [h0] at this; simp [mget] at this
  | [q], _, _ => rfl
  | q :: s :: r, hap, hk =>
    have hne := (List.pairwise_cons.1 hap).1 s (by simp)
    have e1 := hk q (by simp)
    have e2 := hk s (by simp)
    exact absurd (e1.trans e2.symm) hne

theorem isPossible_any {p g m fb B : Nat} {A : Option Addr} {n c : Nat} {SA : Option Addr} {K sc : Nat} {T : List Int} {F : Nat → Option Nat} {r' : Nat → Nat → Int} (w : World) (h : PlanR w p g m fb B A n c SA K sc T F r') (h0 : F 0 = some 0) :
 Calls Tryz.prog 59 #[.pointer (some ⟨p, 0, none⟩)] w fun e w' => ∃ b : Bool, e = .returned (.bool b) ∧ (b = true ↔ ∀ v, F v ≠ none → v = 0) ∧ w' = w := by
 obtain ⟨l, hl, hiff⟩ := h.fm.alone h0
 have HL := Lib.hid hl
 have HI := Lib.hid hiff
 have p4 := h.blk.cell 4
 clear h hl hiff
 go_enter Tryz.func59, Tryz.ntmps59
 obtain ⟨k, hk⟩ : ∃ k, l.length = k := ⟨_, rfl⟩
 have HK := Lib.hid hk
 clear hk
 go_wp2_with (first | (refine step_len rfl _ _ rfl HL.out _ Tryz.underlying115 rfl ?_; rw [HK.out]) | fail)
 go_ret
 refine ⟨_, rfl, ?_, rfl⟩
 rw [← HI.out, HK.out]
 simp; omega

theorem flow_any (g m : Nat) (r : Nat → Nat → Int) (u v : Nat) (w : World) (hu : u ≤ 4096) (hv : v ≤ 4096) (h0 : w.cell? ⟨g, 0, none⟩ = some (.map (some m))) (hr : RM w m r) :
 Calls Tryz.prog 80 #[.pointer (some ⟨g, 0, none⟩), .agg #[.int .i64 (u : Int), .int .i64 (v : Int)]] w fun e w' => e = .returned (.int .i64 (r v u)) ∧ Gr w w' := by
 have HR := Lib.hid hr
 have H0 := Lib.hid h0
 clear hr h0
 go_enter Tryz.func80, Tryz.ntmps80
 go_upto_region 1 with fail
 generalize hW1 : World.alloc w _ = w1
 have hg1 : Gr w w1 := by rw [← hW1]; exact (Gr.refl w).alloc _
 have hB : Blk w1 w.heap.size 156 #[.int .i64 (u : Int), .int .i64 (v : Int)] := by rw [← hW1]; exact heap_alloc_new w _
 generalize w.heap.size = Z at hB ⊢
 have n0 := hg1.keep H0.out
 have z0 := hB.cell 0
 have z1 := hB.cell 1
 have HR1 := Lib.hid (HR.out.keep hg1)
 have HL : Hid (∀ W, RM W m r → (Instr.lookup 152 (.map (some m)) (.agg #[.int .i64 (v : Int), .int .i64 (u : Int)]) false).run Tryz.prog W = .ok (.int .i64 (r v u)) W) := Lib.hid (fun W hW => hW.look (by unfold nodeB; omega) (by unfold nodeB; omega))
 clear hW1 hB
 refine wp_region_held_drew (S := (fun W' => W'.cell? ⟨g, 0, none⟩ = some (.map (some m)) ∧ W'.cell? ⟨Z, 0, none⟩ = some (.int .i64 (u : Int)) ∧ W'.cell? ⟨Z, 1, none⟩ = some (.int .i64 (v : Int)))) ?_ ?_ (fun hHeld => ?_)
 ·kernel_rfl
 ·((try dsimp only); (first | exact hHeld | exact ⟨n0, z0, z1⟩ | exact ⟨HG.out.keep hHeld.1, HG.out.keep hHeld.2.1, HG.out.keep hHeld.2.2⟩))
 refine ti 0 (some 5) rfl rfl ?_; try simp only [Act.put, lA, lB, lC]
 refine ti 1 (some 6) rfl rfl ?_; try simp only [Act.put, lA, lB, lC]
 refine ti 2 (some 7) rfl rfl ?_; try simp only [Act.put, lA, lB, lC]
 refine ti 3 (some 8) rfl rfl ?_; try simp only [Act.put, lA, lB, lC]
 refine ti 4 (some 9) rfl rfl ?_; try simp only [Act.put, lA, lB, lC]
 refine tr [5] (.cons rfl (fun K hK => ?_) .nil)
 go_simp
 first | (go_at_call 102; (with_reducible refine (backB_any (u : Int) (v : Int) _).mono ?_); rintro e w2 ⟨rfl, hg2⟩; have HG := Lib.hid hg2; have HR2 := Lib.hid ((HR1.out.keep (Gr.refl _).drew).keep hg2); clear hg2)
 refine hK.out _ _ ?_ (fun hHeld => ?_)
 ·((try dsimp only); (first | exact hHeld | exact ⟨n0, z0, z1⟩ | exact ⟨HG.out.keep hHeld.1, HG.out.keep hHeld.2.1, HG.out.keep hHeld.2.2⟩))
 clear hK K; try simp only [Act.put, lA, lB, lC]
 refine tr [6] (.cons rfl (fun K hK => ?_) .nil)
 first | (refine held_look (by rfl) (.tmp 8) (.tmp 10) _ _ (by rfl) (.map (some m)) (.agg #[.int .i64 (v : Int), .int .i64 (u : Int)]) (.int .i64 (r v u)) (by rfl) (by rfl) (HL.out _ HR2.out) ?_)
 refine hK.out _ _ ?_ (fun hHeld => ?_)
 ·((try dsimp only); (first | exact hHeld | exact ⟨n0, z0, z1⟩ | exact ⟨HG.out.keep hHeld.1, HG.out.keep hHeld.2.1, HG.out.keep hHeld.2.2⟩))
 clear hK K; try simp only [Act.put, lA, lB, lC]
 refine ti 7 (some 4) rfl rfl ?_; try simp only [Act.put, lA, lB, lC]
 refine wpAnyH_done ?_ ?_ _
 ·kernel_rfl
 rotate_left
 all_goals
  go_wp2_with fail
  go_ret
  refine ⟨?_, hg1.trans ((Gr.refl _).drew.trans HG.out)⟩
  first | rfl | simp

end Go.Proofs.YtobcdkjomehdkaaGreat
