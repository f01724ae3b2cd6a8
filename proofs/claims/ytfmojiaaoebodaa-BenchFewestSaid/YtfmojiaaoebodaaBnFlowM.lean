/- Layer 4: what the greatest flow says of the task. Plain mathematics. -/
import Derived.Test.YtfmojiaaoebodaaBnPlan
namespace Go.Proofs.Ytfmojiaaoebodaa

theorem smN_app (f : Nat → Int) (a : Nat) : ∀ b, smN f (a + b) = smN f a + smN (fun i => f (a + i)) b
  | 0 => by simp [smN]
  | b + 1 => by rw [Nat.add_succ]; simp only [smN]; rw [smN_app f a b]; omega
theorem smN_nodes (f : Nat → Int) (n K : Nat) : smN f (2 + n + K) = f 0 + f 1 + smN (fun j => f (2 + j)) n + smN (fun s => f (2 + n + s)) K := by
  rw [smN_app, smN_app]
  simp only [smN]; omega
theorem smN_sub (f g : Nat → Int) (k : Nat) : smN (fun i => f i - g i) k = smN f k - smN g k := by
  have h : smN f k = smN (fun i => (f i - g i) + g i) k := smN_congr k fun i _ => by omega
  rw [h, smN_add]; omega

section
variable {B n K : Nat} {l : List Jb} {T : List Int} {r' : Nat → Nat → Int} {F : Nat → Option Nat} {nx : Nat → List Nat} {cnt : Nat}

/-- The facts that newPlan leaves, in one. -/
structure Left (B n K : Nat) (l : List Jb) (T : List Int) (r' : Nat → Nat → Int) (F : Nat → Option Nat) (nx : Nat → List Nat) (cnt : Nat) : Prop where
  fl : Flowed (2 + n + K) (rD (arcs3 l T n K K) (capA B l T n)) r'
  fd : Found r' nx (2 + n + K) F
  sk : F 1 = none
  nd : NxD (2 + n + K) (arcs3 l T n K K) nx cnt
  ln0 : ∀ s, 0 ≤ lnA T s
  wk0 : ∀ j, 0 ≤ (jbA l j).2.2

theorem rD_in {D : Nat → Nat → Prop} {C : Nat → Nat → Int} {u v : Nat} (h : D u v) : rD D C u v = C u v := by unfold rD; rw [if_pos h]
theorem rD_out {D : Nat → Nat → Prop} {C : Nat → Nat → Int} {u v : Nat} (h : ¬ D u v) : rD D C u v = 0 := by unfold rD; rw [if_neg h]
theorem arc_src {j : Nat} (hj : j < n) : arcs3 l T n K K 0 (2 + j) := Or.inl (Or.inl ⟨rfl, by omega, by omega⟩)
theorem arc_mid {j s : Nat} (hj : j < n) (hs : s < K) (hc : covA l T j s) : arcs3 l T n K K (2 + j) (2 + n + s) :=
  Or.inl (Or.inr ⟨by omega, by omega, by omega, by omega, by rw [show 2 + j - 2 = j by omega, show 2 + n + s - 2 - n = s by omega]; exact hc⟩)
theorem arc_snk {s : Nat} (hs : s < K) : arcs3 l T n K K (2 + n + s) 1 := Or.inr ⟨by omega, by omega, rfl⟩
theorem arc_ways {u v : Nat} (h : arcs3 l T n K K u v) : (u = 0 ∧ ∃ j, j < n ∧ v = 2 + j) ∨ (∃ j s, j < n ∧ s < K ∧ u = 2 + j ∧ v = 2 + n + s ∧ covA l T j s) ∨ (∃ s, s < K ∧ u = 2 + n + s ∧ v = 1) := by
  rcases h with (⟨h1, h2, h3⟩ | ⟨h1, h2, h3, h4, h5⟩) | ⟨h1, h2, h3⟩
  · exact Or.inl ⟨h1, v - 2, by omega, by omega⟩
  · exact Or.inr (Or.inl ⟨u - 2, v - 2 - n, by omega, by omega, by omega, by omega, h5⟩)
  · exact Or.inr (Or.inr ⟨u - 2 - n, by omega, by omega, h3⟩)
/-- Where no arc leads, either way, nothing flows. -/
theorem Left.no (h : Left B n K l T r' F nx cnt) {u v : Nat} (h1 : ¬ arcs3 l T n K K u v) (h2 : ¬ arcs3 l T n K K v u) : r' u v = 0 ∧ r' v u = 0 := by
  have e := h.fl.sum u v
  rw [rD_out h1, rD_out h2] at e
  have := h.fl.pos u v
  have := h.fl.pos v u
  omega
theorem Left.src (h : Left B n K l T r' F nx cnt) {j : Nat} (hj : j < n) : r' 0 (2 + j) + r' (2 + j) 0 = (jbA l j).2.2 := by
  have e := h.fl.sum 0 (2 + j)
  rw [rD_in (arc_src hj), rD_out (fun a => by rcases arc_ways a with ⟨h1, -⟩ | ⟨_, _, _, _, h1, h2, _⟩ | ⟨_, _, h1, h2⟩ <;> omega)] at e
  rw [e]
  unfold capA
  rw [if_pos rfl, show 2 + j - 2 = j by omega]; omega
theorem Left.mid (h : Left B n K l T r' F nx cnt) {j s : Nat} (hj : j < n) (hs : s < K) (hc : covA l T j s) : r' (2 + j) (2 + n + s) + r' (2 + n + s) (2 + j) = lnA T s := by
  have e := h.fl.sum (2 + j) (2 + n + s)
  rw [rD_in (arc_mid hj hs hc), rD_out (fun a => by rcases arc_ways a with ⟨h1, -⟩ | ⟨_, _, _, _, h1, h2, _⟩ | ⟨_, _, h1, h2⟩ <;> omega)] at e
  rw [e]
  unfold capA
  rw [if_neg (by omega), if_pos (by omega), show 2 + n + s - 2 - n = s by omega]; omega
theorem Left.mid0 (h : Left B n K l T r' F nx cnt) {j s : Nat} (hj : j < n) (hc : ¬ covA l T j s) : r' (2 + j) (2 + n + s) = 0 ∧ r' (2 + n + s) (2 + j) = 0 := by
  refine h.no (fun a => ?_) (fun a => ?_)
  · rcases arc_ways a with ⟨h1, -⟩ | ⟨j', s', _, _, h1, h2, h3⟩ | ⟨_, _, h1, h2⟩
    · omega
    · rw [show j' = j by omega, show s' = s by omega] at h3; exact hc h3
    · omega
  · rcases arc_ways a with ⟨h1, -⟩ | ⟨_, _, _, _, h1, h2, _⟩ | ⟨_, _, h1, h2⟩ <;> omega
theorem Left.snk (h : Left B n K l T r' F nx cnt) {s : Nat} (hs : s < K) : r' (2 + n + s) 1 + r' 1 (2 + n + s) = B * lnA T s := by
  have e := h.fl.sum (2 + n + s) 1
  rw [rD_in (arc_snk hs), rD_out (fun a => by rcases arc_ways a with ⟨h1, -⟩ | ⟨_, _, _, _, h1, h2, _⟩ | ⟨_, _, h1, h2⟩ <;> omega)] at e
  rw [e]
  unfold capA
  rw [if_neg (by omega), if_neg (by omega), show 2 + n + s - 2 - n = s by omega]; omega

/-- The flow from a job to a span. -/
def flF (r' : Nat → Nat → Int) (n j s : Nat) : Nat := (r' (2 + n + s) (2 + j)).toNat
theorem Left.fl_eq (h : Left B n K l T r' F nx cnt) (j s : Nat) : ((flF r' n j s : Nat) : Int) = r' (2 + n + s) (2 + j) := by
  have := h.fl.pos (2 + n + s) (2 + j)
  unfold flF; omega
theorem Left.fl_cov (h : Left B n K l T r' F nx cnt) {j s : Nat} (hj : j < n) (hf : 1 ≤ flF r' n j s) : covA l T j s := Classical.byContradiction fun hc => by
  have e := (h.mid0 hj hc).2
  have := h.fl_eq j s
  omega
theorem Left.fl_le (h : Left B n K l T r' F nx cnt) {j s : Nat} (hj : j < n) (hs : s < K) : ((flF r' n j s : Nat) : Int) ≤ lnA T s := by
  have e1 := h.fl_eq j s
  have e2 := h.ln0 s
  by_cases hc : covA l T j s
  · have e3 := h.mid hj hs hc
    have e4 := h.fl.pos (2 + j) (2 + n + s)
    omega
  · have e3 := (h.mid0 hj hc).2
    omega
/-- What comes to a job goes on to its spans. -/
theorem Left.row (h : Left B n K l T r' F nx cnt) {j : Nat} (hj : j < n) : smN (fun s => ((flF r' n j s : Nat) : Int)) K + r' 0 (2 + j) = (jbA l j).2.2 := by
  have e := h.fl.out (2 + j) (by omega) (by omega) (by omega)
  rw [smN_nodes, smN_nodes] at e
  have a1 : r' (2 + j) 1 = 0 := (h.no (fun a => by rcases arc_ways a with ⟨h1, -⟩ | ⟨_, _, _, _, h1, h2, _⟩ | ⟨_, _, h1, h2⟩ <;> omega) (fun a => by rcases arc_ways a with ⟨h1, -⟩ | ⟨_, _, _, _, h1, h2, _⟩ | ⟨_, _, h1, h2⟩ <;> omega)).1
  have a2 : smN (fun i => r' (2 + j) (2 + i)) n = 0 := by
    rw [smN_congr (g := fun _ => 0) n (fun i _ => (h.no (fun a => by rcases arc_ways a with ⟨h1, -⟩ | ⟨_, _, _, _, h1, h2, _⟩ | ⟨_, _, h1, h2⟩ <;> omega) (fun a => by rcases arc_ways a with ⟨h1, -⟩ | ⟨_, _, _, _, h1, h2, _⟩ | ⟨_, _, h1, h2⟩ <;> omega)).1), smN_zero]
  have b0 : rD (arcs3 l T n K K) (capA B l T n) (2 + j) 0 = 0 := rD_out (fun a => by rcases arc_ways a with ⟨h1, -⟩ | ⟨_, _, _, _, h1, h2, _⟩ | ⟨_, _, h1, h2⟩ <;> omega)
  have b1 : rD (arcs3 l T n K K) (capA B l T n) (2 + j) 1 = 0 := rD_out (fun a => by rcases arc_ways a with ⟨h1, -⟩ | ⟨_, _, _, _, h1, h2, _⟩ | ⟨_, _, h1, h2⟩ <;> omega)
  have b2 : smN (fun i => rD (arcs3 l T n K K) (capA B l T n) (2 + j) (2 + i)) n = 0 := by
    rw [smN_congr (g := fun _ => 0) n (fun i _ => rD_out (fun a => by rcases arc_ways a with ⟨h1, -⟩ | ⟨_, _, _, _, h1, h2, _⟩ | ⟨_, _, h1, h2⟩ <;> omega)), smN_zero]
  have c : smN (fun s => rD (arcs3 l T n K K) (capA B l T n) (2 + j) (2 + n + s)) K = smN (fun s => r' (2 + j) (2 + n + s)) K + smN (fun s => ((flF r' n j s : Nat) : Int)) K := by
    rw [← smN_add]
    refine smN_congr K fun s hs => ?_
    rw [h.fl_eq]
    by_cases hc : covA l T j s
    · rw [h.mid hj hs hc, rD_in (arc_mid hj hs hc)]
      unfold capA
      rw [if_neg (by omega), if_pos (by omega), show 2 + n + s - 2 - n = s by omega]
    · obtain ⟨d1, d2⟩ := h.mid0 hj hc (s := s)
      rw [d1, d2, rD_out]
      · rfl
      · intro a
        rcases arc_ways a with ⟨h1, -⟩ | ⟨j', s', _, _, h1, h2, h3⟩ | ⟨_, _, h1, h2⟩
        · omega
        · rw [show j' = j by omega, show s' = s by omega] at h3; exact hc h3
        · omega
  have d := h.src hj
  omega
/-- What comes to a span goes on to the sink. -/
theorem Left.col (h : Left B n K l T r' F nx cnt) {s : Nat} (hs : s < K) : smN (fun j => ((flF r' n j s : Nat) : Int)) n + r' (2 + n + s) 1 = B * lnA T s := by
  have e := h.fl.out (2 + n + s) (by omega) (by omega) (by omega)
  rw [smN_nodes, smN_nodes] at e
  have a0 : r' (2 + n + s) 0 = 0 := (h.no (fun a => by rcases arc_ways a with ⟨h1, -⟩ | ⟨_, _, _, _, h1, h2, _⟩ | ⟨_, _, h1, h2⟩ <;> omega) (fun a => by rcases arc_ways a with ⟨h1, _, h2, h3⟩ | ⟨_, _, _, _, h1, h2, _⟩ | ⟨_, _, h1, h2⟩ <;> omega)).1
  have a3 : smN (fun i => r' (2 + n + s) (2 + n + i)) K = 0 := by
    rw [smN_congr (g := fun _ => 0) K (fun i _ => (h.no (fun a => by rcases arc_ways a with ⟨h1, -⟩ | ⟨_, _, _, _, h1, h2, _⟩ | ⟨_, _, h1, h2⟩ <;> omega) (fun a => by rcases arc_ways a with ⟨h1, -⟩ | ⟨_, _, _, _, h1, h2, _⟩ | ⟨_, _, h1, h2⟩ <;> omega)).1), smN_zero]
  have b0 : rD (arcs3 l T n K K) (capA B l T n) (2 + n + s) 0 = 0 := rD_out (fun a => by rcases arc_ways a with ⟨h1, -⟩ | ⟨_, _, _, _, h1, h2, _⟩ | ⟨_, _, h1, h2⟩ <;> omega)
  have b1 : rD (arcs3 l T n K K) (capA B l T n) (2 + n + s) 1 = B * lnA T s := by
    rw [rD_in (arc_snk hs)]
    unfold capA
    rw [if_neg (by omega), if_neg (by omega), show 2 + n + s - 2 - n = s by omega]
  have b2 : smN (fun i => rD (arcs3 l T n K K) (capA B l T n) (2 + n + s) (2 + i)) n = 0 := by
    rw [smN_congr (g := fun _ => 0) n (fun i _ => rD_out (fun a => by rcases arc_ways a with ⟨h1, -⟩ | ⟨_, _, _, _, h1, h2, _⟩ | ⟨_, _, h1, h2⟩ <;> omega)), smN_zero]
  have b3 : smN (fun i => rD (arcs3 l T n K K) (capA B l T n) (2 + n + s) (2 + n + i)) K = 0 := by
    rw [smN_congr (g := fun _ => 0) K (fun i _ => rD_out (fun a => by rcases arc_ways a with ⟨h1, -⟩ | ⟨_, _, _, _, h1, h2, _⟩ | ⟨_, _, h1, h2⟩ <;> omega)), smN_zero]
  have c : smN (fun j => r' (2 + n + s) (2 + j)) n = smN (fun j => ((flF r' n j s : Nat) : Int)) n := smN_congr n fun j _ => (h.fl_eq j s).symm
  omega
/-- Nothing but the source is reached: all work flows. -/
theorem Left.all (h : Left B n K l T r' F nx cnt) (h0 : ∀ v, F v ≠ none → v = 0) {j : Nat} (hj : j < n) : smN (fun s => ((flF r' n j s : Nat) : Int)) K = (jbA l j).2.2 := by
  have e := h.row hj
  have hz : r' 0 (2 + j) = 0 := by
    have hp := h.fl.pos 0 (2 + j)
    rcases Int.lt_or_le 0 (r' 0 (2 + j)) with c | c
    · have := h0 _ (h.fd.clo 0 (by rw [h.fd.zero]; simp) (2 + j) (h.nd.both _ _ (arc_src hj)).1 c)
      omega
    · omega
  omega
/-- Something else is reached: then a job is. -/
theorem Left.some_job (h : Left B n K l T r' F nx cnt) {v : Nat} (hv : F v ≠ none) (h0 : v ≠ 0) : ∃ j, j < n ∧ F (2 + j) ≠ none ∧ 0 < r' 0 (2 + j) := by
  have down : ∀ d v, F v = some (d + 1) → ∃ v1, F v1 = some 1 := fun d => by
    induction d with
    | zero => intro v hv; exact ⟨v, hv⟩
    | succ d ih =>
      intro v hv
      rcases h.fd.pred v _ hv with ⟨-, e⟩ | ⟨u, d', hu, e, -, -⟩
      · omega
      · rw [show d' = d + 1 by omega] at hu; exact ih u hu
  obtain ⟨d, hd⟩ := Option.ne_none_iff_exists'.1 hv
  obtain ⟨v1, hv1⟩ : ∃ v1, F v1 = some 1 := by
    match d, hd with
    | 0, hd =>
      rcases h.fd.pred v 0 hd with ⟨e, -⟩ | ⟨u, d', -, e, -, -⟩
      · exact absurd e h0
      · omega
    | d + 1, hd => exact down d v hd
  rcases h.fd.pred v1 1 hv1 with ⟨-, e⟩ | ⟨u, d', hu, e, hn, hr⟩
  · omega
  · have hd0 : d' = 0 := by omega
    subst hd0
    have hu0 : u = 0 := by
      rcases h.fd.pred u 0 hu with ⟨e, -⟩ | ⟨_, _, -, e, -, -⟩
      · exact e
      · omega
    subst hu0
    by_cases ha : arcs3 l T n K K 0 v1
    · rcases arc_ways ha with ⟨-, j, hj, rfl⟩ | ⟨_, _, _, _, h1, _, _⟩ | ⟨_, _, h1, _⟩
      · exact ⟨j, hj, by rw [hv1]; simp, hr⟩
      · omega
      · omega
    · have := (h.no ha (fun a => by rcases arc_ways a with ⟨h1, _, h2, h3⟩ | ⟨_, _, _, _, h1, h2, _⟩ | ⟨_, _, h1, h2⟩ <;> omega)).1
      omega
end

end Go.Proofs.Ytfmojiaaoebodaa
