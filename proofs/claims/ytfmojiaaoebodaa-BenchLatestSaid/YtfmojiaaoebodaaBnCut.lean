/- Layer 4: a plan's flow is a schedule or a refusal. Plain mathematics. -/
import Derived.Test.YtfmojiaaoebodaaBnFlowM
namespace Go.Proofs.Ytfmojiaaoebodaa

theorem asc_at {T : List Int} (h : T.Pairwise (· < ·)) {a b : Nat} (hab : a < b) (hb : b < T.length) : T.getD a 0 < T.getD b 0 := by
  have := List.pairwise_iff_getElem.1 h a b (by omega) hb hab
  rw [List.getD_eq_getElem?_getD, List.getD_eq_getElem?_getD, List.getElem?_eq_getElem (by omega), List.getElem?_eq_getElem hb]
  exact this
theorem tms_asc (l : List Jb) : (tms l).Pairwise (· < ·) := timesL_asc (tmL l)
/-- The spans as a grid. -/
def gridT (T : List Int) (h : T.Pairwise (· < ·)) : Grid where
  K := T.length - 1
  at_ := fun s => (spA T s).1
  ln := fun s => (lnA T s).toNat
  pos := fun s hs => by
    have := asc_at h (show s < s + 1 by omega) (by omega)
    unfold lnA
    rw [spA_at hs]
    dsimp only; omega
  up := fun s t hst ht => by
    have h1 := asc_at h (show s < s + 1 by omega) (by omega)
    unfold lnA
    rw [spA_at (by omega), spA_at ht]
    dsimp only
    rcases Nat.lt_or_ge (s + 1) t with c | c
    · have h2 := asc_at h c (by omega)
      omega
    · obtain rfl : t = s + 1 := by omega
      omega
theorem grid_ln {T : List Int} (h : T.Pairwise (· < ·)) {s : Nat} (hs : s < T.length - 1) : (((gridT T h).ln s : Nat) : Int) = lnA T s := by
  have := (gridT T h).pos s hs
  show (((lnA T s).toNat : Nat) : Int) = lnA T s
  have h1 : 1 ≤ (lnA T s).toNat := this
  omega
theorem grid_cov {T : List Int} (h : T.Pairwise (· < ·)) (l : List Jb) {j s : Nat} (hs : s < T.length - 1) : covG (gridT T h) l j s ↔ covA l T j s := by
  have e := grid_ln h hs
  unfold covG covA
  show (jbA l j).1 ≤ (spA T s).1 ∧ (spA T s).1 + (((gridT T h).ln s : Nat) : Int) ≤ (jbA l j).2.1 ↔ _
  rw [e]
  unfold lnA
  constructor <;> rintro ⟨a, b⟩ <;> exact ⟨a, by omega⟩
theorem grid_times {l : List Jb} : Times (gridT (tms l) (tms_asc l)) l (fun s => (tms l).getD s 0) := by
  have hasc := tms_asc l
  refine ⟨fun s hs => ?_, fun s hs => asc_at hasc (by omega) (by have : s < (tms l).length - 1 := hs; omega), fun j hj => ?_⟩
  · have e := grid_ln hasc hs
    have hs' : s < (tms l).length - 1 := hs
    refine ⟨?_, ?_⟩
    · show (spA (tms l) s).1 = _
      rw [spA_at hs']
    · show (spA (tms l) s).1 + (((gridT (tms l) hasc).ln s : Nat) : Int) = _
      rw [e]
      unfold lnA
      rw [spA_at hs']
      dsimp only; omega
  · have hmem : jbA l j ∈ l := by unfold jbA; rw [List.getD_eq_getElem?_getD, List.getElem?_eq_getElem hj]; exact List.getElem_mem hj
    have hin : ∀ x, x ∈ tmL l → ∃ a, a ≤ (tms l).length - 1 ∧ (tms l).getD a 0 = x := fun x hx => by
      obtain ⟨a, ha, e⟩ := List.mem_iff_getElem.1 (show x ∈ tms l from (timesL_mem (tmL l) x).2 hx)
      refine ⟨a, by omega, ?_⟩
      rw [List.getD_eq_getElem?_getD, List.getElem?_eq_getElem ha]
      exact e
    exact ⟨hin _ (List.mem_flatMap.2 ⟨_, hmem, by simp⟩), hin _ (List.mem_flatMap.2 ⟨_, hmem, by simp⟩)⟩
theorem upto_int (f : Nat → Nat → Nat) (s k : Nat) : ((upto f s k : Nat) : Int) = smN (fun j => ((f j s : Nat) : Int)) k := upto_smN f s k

section
variable {B : Nat} {l : List Jb} {r' : Nat → Nat → Int} {F : Nat → Option Nat} {nx : Nat → List Nat} {cnt : Nat}
theorem Left.colN (h : Left B l.length ((tms l).length - 1) l (tms l) r' F nx cnt) {s : Nat} (hs : s < (tms l).length - 1) : upto (flF r' l.length) s l.length ≤ B * (gridT (tms l) (tms_asc l)).ln s := by
  have e := h.col hs
  rw [← upto_int] at e
  have e2 := grid_ln (tms_asc l) hs
  have e3 := h.fl.pos (2 + l.length + s) 1
  have e4 : ((B * (gridT (tms l) (tms_asc l)).ln s : Nat) : Int) = B * lnA (tms l) s := by rw [Int.natCast_mul]; congr 1
  omega
/-- A flow of all the work: what a schedule is made of. -/
structure FullF (G : Grid) (B : Nat) (l : List Jb) (f : Nat → Nat → Nat) : Prop where
  cov : ∀ j s, j < l.length → s < G.K → 1 ≤ f j s → covG G l j s
  le : ∀ j s, j < l.length → s < G.K → f j s ≤ G.ln s
  col : ∀ s, s < G.K → upto f s l.length ≤ B * G.ln s
  row : ∀ j, j < l.length → smN (fun s => (f j s : Int)) G.K = (jbA l j).2.2
theorem Left.full (h : Left B l.length ((tms l).length - 1) l (tms l) r' F nx cnt) (h0 : ∀ v, F v ≠ none → v = 0) : FullF (gridT (tms l) (tms_asc l)) B l (flF r' l.length) := by
  refine ⟨fun j s hj hs hf => (grid_cov _ l hs).2 (h.fl_cov hj hf), fun j s hj hs => ?_, fun s hs => h.colN hs, fun j hj => h.all h0 hj⟩
  have e1 := h.fl_le hj hs
  have e2 := grid_ln (tms_asc l) hs
  change ((flF r' l.length j s : Nat) : Int) ≤ lnA (tms l) s at e1
  rw [← e2] at e1
  exact_mod_cast e1
theorem Left.cut (h : Left B l.length ((tms l).length - 1) l (tms l) r' F nx cnt) {v : Nat} (hv : F v ≠ none) (h0 : v ≠ 0) :
    CutF (gridT (tms l) (tms_asc l)) B l (flF r' l.length) (fun j => (r' 0 (2 + j)).toNat) (fun j => (F (2 + j)).isSome) (fun s => (F (2 + l.length + s)).isSome) := by
  have hsome : ∀ {u : Nat}, (F u).isSome = true → F u ≠ none := fun hu e => by rw [e] at hu; cases hu
  have hnone : ∀ {u : Nat}, (F u).isSome = false → F u = none := fun hu => by cases hF : F _ with
    | none => rfl
    | some d => rw [hF] at hu; cases hu
  refine ⟨fun j hj => ?_, fun j s hj hs hf => (grid_cov _ l hs).2 (h.fl_cov hj hf), fun j s hj hs ha hb hc => ?_, fun j s hj hs ha hb => ?_, fun s hs hb => ?_, ?_⟩
  · have e := h.row hj
    have := h.fl.pos 0 (2 + j)
    show smN (fun s => ((flF r' l.length j s : Nat) : Int)) ((tms l).length - 1) + (((r' 0 (2 + j)).toNat : Nat) : Int) = _
    omega
  · have hcv := (grid_cov _ l hs).1 hc
    have e1 := h.mid hj hs hcv
    have e2 := h.fl_eq j s
    have e3 := grid_ln (tms_asc l) hs
    have hz : r' (2 + j) (2 + l.length + s) = 0 := by
      have hp := h.fl.pos (2 + j) (2 + l.length + s)
      rcases Int.lt_or_le 0 (r' (2 + j) (2 + l.length + s)) with c | c
      · exact absurd (hnone hb) (h.fd.clo _ (hsome ha) _ (h.nd.both _ _ (arc_mid hj hs hcv)).1 c)
      · omega
    show flF r' l.length j s = (gridT (tms l) (tms_asc l)).ln s
    have e4 := grid_ln (tms_asc l) hs
    change (((gridT (tms l) (tms_asc l)).ln s : Nat) : Int) = lnA (tms l) s at e4
    omega
  · have e2 := h.fl_eq j s
    rcases Nat.eq_zero_or_pos (flF r' l.length j s) with c | c
    · exact c
    · have hcv := h.fl_cov hj c
      exact absurd (hnone ha) (h.fd.clo _ (hsome hb) _ (h.nd.both _ _ (arc_mid hj hs hcv)).2 (by omega))
  · have e := h.col hs
    rw [← upto_int] at e
    have e3 := grid_ln (tms_asc l) hs
    have hz : r' (2 + l.length + s) 1 = 0 := by
      have hp := h.fl.pos (2 + l.length + s) 1
      rcases Int.lt_or_le 0 (r' (2 + l.length + s) 1) with c | c
      · exact absurd h.sk (h.fd.clo _ (hsome hb) _ (h.nd.both _ _ (arc_snk hs)).1 c)
      · omega
    have e4 : ((B * (gridT (tms l) (tms_asc l)).ln s : Nat) : Int) = B * lnA (tms l) s := by rw [Int.natCast_mul]; congr 1
    have : ((upto (flF r' l.length) s l.length : Nat) : Int) = ((B * (gridT (tms l) (tms_asc l)).ln s : Nat) : Int) := by rw [e4]; omega
    exact_mod_cast this
  · obtain ⟨j, hj, hF, hr⟩ := h.some_job hv h0
    refine ⟨j, hj, ?_, by omega⟩
    show (F (2 + j)).isSome = true
    cases hFj : F (2 + j) with
    | none => exact absurd hFj hF
    | some d => rfl
/-- Valid jobs. -/
def JobsV (l : List Jb) : Prop := ∀ j ∈ l, (0 ≤ j.1 ∧ j.1 < j.2.1 ∧ j.2.1 ≤ 1048576) ∧ 1 ≤ j.2.2 ∧ j.2.2 ≤ 1048576
theorem JobsV.p {l : List Jb} (h : JobsV l) : JobsP l := fun j hj => by have := h j hj; omega
theorem JobsV.at {l : List Jb} (h : JobsV l) (j : Nat) (hj : j < l.length) : 0 ≤ (jbA l j).1 ∧ (jbA l j).1 < (jbA l j).2.1 ∧ (jbA l j).2.1 ≤ 1048576 := by
  have hmem : jbA l j ∈ l := by unfold jbA; rw [List.getD_eq_getElem?_getD, List.getElem?_eq_getElem hj]; exact List.getElem_mem hj
  exact (h _ hmem).1
theorem tms_bdV {l : List Jb} (h : JobsV l) : ∀ s, 0 ≤ (tms l).getD s 0 ∧ (tms l).getD s 0 ≤ 1048576 := fun s => by
  rcases Nat.lt_or_ge s (tms l).length with c | c
  · rw [List.getD_eq_getElem?_getD, List.getElem?_eq_getElem c]
    have hx' := (timesL_mem (tmL l) _).1 (List.getElem_mem c)
    obtain ⟨j, hj, hxj⟩ := List.mem_flatMap.1 hx'
    have := h j hj
    simp only [Option.getD_some]
    change _ ∈ [j.1, j.2.1] at hxj
    simp only [List.mem_cons, List.not_mem_nil, or_false] at hxj
    change (tms l)[s] = j.1 ∨ (tms l)[s] = j.2.1 at hxj
    omega
  · rw [List.getD_eq_getElem?_getD, List.getElem?_eq_none c]; simp
/-- The refusal that is read off what was reached. -/
theorem Left.refuse (h : Left B l.length ((tms l).length - 1) l (tms l) r' F nx cnt) (hV : JobsV l) (hn : l.length ≤ 32) {v : Nat} (hv : F v ≠ none) (h0 : v ≠ 0) :
    RefuseP B l ((pickN (fun j => (F (2 + j)).isSome) l.length).map fun j : Nat => (j : Int)) ((pickN (fun s => (F (2 + l.length + s)).isSome) ((tms l).length - 1)).map fun s => ((tms l).getD s 0, (tms l).getD (s + 1) 0)) := by
  have hTl : (tms l).length ≤ 64 := by have := timesL_len (tmL l); rw [tmL_len] at this; unfold tms; omega
  exact (h.cut hv h0).refuse grid_times (by show (tms l).length - 1 ≤ 64; omega) hV.at (fun s _ => tms_bdV hV s)
/-- There is a schedule. -/
theorem FullF.sched {f : Nat → Nat → Nat} (h : FullF (gridT (tms l) (tms_asc l)) B l f) (hn : l.length ≤ 32) (hB : B ≤ 8) : ∃ s, SchedP B l s := by
  have hTl : (tms l).length ≤ 64 := by have := timesL_len (tmL l); rw [tmL_len] at this; unfold tms; omega
  exact full_sched (by show (tms l).length - 1 ≤ 64; omega) hn hB h.cov h.le h.col h.row
end

end Go.Proofs.Ytfmojiaaoebodaa
