/- Layer 3: the reference's Near (mathematics): the locator's equations have just one solution when the number of errors is right. -/
import Derived.Test.YtbkbgcapkhelhaaLTblM
import Derived.Test.YtbkbgcapkhelhaaLRefC
namespace Go.Proofs.Ytbkbgcapkhelhaa

/-- The syndromes times the locator of the lost positions, as the reference has them after the first of gone. -/
def mulX (x : G) (t : List G) : List G := (List.range t.length).map fun k => if k = 0 then t.getD 0 g0 else t.getD k g0 + x * t.getD (k - 1) g0
theorem mulX_len (x : G) (t : List G) : (mulX x t).length = t.length := by simp [mulX]
theorem mulX_at {x : G} {t : List G} {k : Nat} (h : k < t.length) : (mulX x t).getD k g0 = if k = 0 then t.getD 0 g0 else t.getD k g0 + x * t.getD (k - 1) g0 := by
  unfold mulX
  rw [List.getD_eq_getElem?_getD, List.getElem?_map, List.getElem?_range h]; rfl
def mulXs (n : Nat) (t : List G) : List Nat → List G
  | [] => t
  | a :: r => mulXs n (mulX (plc n a) t) r
theorem mulXs_len (n : Nat) : ∀ (gone : List Nat) (t : List G), (mulXs n t gone).length = t.length
  | [], _ => rfl
  | a :: r, t => by rw [mulXs, mulXs_len n r, mulX_len]
theorem mulXs_snoc (n : Nat) (a : Nat) : ∀ (gone : List Nat) (t : List G), mulXs n t (gone ++ [a]) = mulX (plc n a) (mulXs n t gone)
  | [], _ => rfl
  | b :: r, t => by rw [List.cons_append, mulXs, mulXs_snoc n a r, mulXs]
/-- If t counts the powers of the places from j on, so does the product, from j + 1 on. -/
theorem mulXs_val {n N : Nat} (u : Nat → G) : ∀ (gone : List Nat) (t : List G) (j : Nat) (v : Nat → G), (∀ k, j ≤ k → k < t.length → t.getD k g0 = isum (List.range N) (fun i => v i * gw (plc n i) (k - j))) → (∀ i, i < N → u i = v i * prodR (plc n i) (gone.map (plc n))) →
    ∀ k, j + gone.length ≤ k → k < t.length → (mulXs n t gone).getD k g0 = isum (List.range N) (fun i => u i * gw (plc n i) (k - (j + gone.length)))
  | [], t, j, v, h, hu, k, h1, h2 => by
    rw [mulXs, h k (by simpa using h1) h2]
    refine isum_congr _ (fun i hi => ?_)
    rw [hu i (by simpa using hi)]
    show _ = v i * g1 * _
    rw [gmul_one]; rfl
  | a :: r, t, j, v, h, hu, k, h1, h2 => by
    rw [List.length_cons] at h1
    rw [mulXs]
    have h3 := mulXs_val u r (mulX (plc n a) t) (j + 1) (fun i => v i * (plc n i + plc n a)) (fun k' h4 h5 => by
      rw [mulX_len] at h5
      rw [mulX_at h5, if_neg (by omega), h k' (by omega) h5, h (k' - 1) (by omega) (by omega), ← isum_mul, ← isum_add]
      refine isum_congr _ (fun i _ => ?_)
      have e : gw (plc n i) (k' - j) = gw (plc n i) (k' - (j + 1)) * plc n i := by
        rw [show k' - j = k' - (j + 1) + 1 by omega]; rfl
      rw [show k' - 1 - j = k' - (j + 1) by omega, e]
      generalize gw (plc n i) (k' - (j + 1)) = y
      simp only [gmul_add, gmul_assoc, gmul_comm, gmul_left]) (fun i hi => by
      rw [hu i hi, List.map_cons, prodR, gmul_assoc]) k (by omega) (by rw [mulX_len]; exact h2)
    rw [h3, List.length_cons, show j + 1 + r.length = j + (r.length + 1) by omega]

/-- The locator of places, and its coefficients behind the 1. -/
def locC (xs : List G) : List G := (rootP xs).drop 1
theorem locC_len (xs : List G) : (locC xs).length = xs.length := by unfold locC; rw [List.length_drop, rootP_len]; omega
theorem rootP_cons (xs : List G) : rootP xs = g1 :: locC xs := by
  unfold locC
  have h := rootP_head xs
  cases hr : rootP xs with
  | nil => rw [hr] at h; cases h
  | cons a t => rw [hr] at h; obtain rfl := Option.some.inj h; rfl
/-- A polynomial's value at x by its coefficients. -/
theorem val_dot (q : List G) (x : G) : val q x = isum (List.range q.length) (fun k => q.getD k g0 * gw x (q.length - 1 - k)) := by
  induction q with
  | nil => rfl
  | cons c r ih =>
    rw [val_cons, ih, List.length_cons, List.range_succ_eq_map, isum_cons]
    show _ = _ + isum ((List.range r.length).map (· + 1)) _
    rw [isum_map]
    congr 1
    refine isum_congr _ (fun i hi => ?_)
    rw [List.getD_cons_succ, show r.length + 1 - 1 - (i + 1) = r.length - 1 - i by omega]
theorem loc_val {xs : List G} {x : G} (h : x ∈ xs) : isum (List.range xs.length) (fun k => (locC xs).getD k g0 * gw x (xs.length - 1 - k)) = gw x xs.length := by
  have h0 : val (rootP xs) x = g0 := by rw [rootP_val]; exact prodR_root h
  rw [rootP_cons, val_cons, locC_len, gone_mul, val_dot, locC_len] at h0
  exact (gadd_eq h0).symm
/-- A polynomial of fewer coefficients than roots is nothing. -/
theorem zero_poly : ∀ (m : Nat) (q rs : List G), q.length = m → rs.Nodup → m ≤ rs.length → (∀ x ∈ rs, val q x = g0) → ∀ k, q.getD k g0 = g0
  | 0, q, rs, hl, _, _, _, k => by obtain rfl := List.eq_nil_of_length_eq_zero hl; rfl
  | m + 1, q, rs, hl, hd, hm, hr, k => by
    cases q with
    | nil => cases hl
    | cons c r =>
      by_cases hc : c = g0
      · subst hc
        cases k with
        | zero => rfl
        | succ k =>
          rw [List.getD_cons_succ]
          exact zero_poly m r rs (by simpa using hl) hd (by omega) (fun x hx => by have := hr x hx; rwa [val_cons, gzero_mul, gzero_add] at this) k
      · exfalso
        have h := few_roots (m + 1) ((c :: r).map (· * ginv c)) rs (by rw [List.length_map]; exact hl) (by simp [gmul_inv hc]) hd (fun x hx => by rw [val_scale, hr x hx, gzero_mul])
        omega

theorem isum_swap (F : Nat → Nat → G) (l2 : List Nat) : ∀ l1 : List Nat, isum l1 (fun i => isum l2 (fun a => F i a)) = isum l2 (fun a => isum l1 (fun i => F i a))
  | [] => (isum_zero l2 (fun _ _ => rfl)).symm
  | b :: r => by
    rw [isum_cons, isum_swap F l2 r, ← isum_add]
    rfl
/-- The reference's rows for so many errors. -/
def nrRow (T : List G) (m k : Nat) : List G := ((List.range m).map fun i => T.getD (k - (i + 1)) g0) ++ [T.getD k g0]
def nrRows (T : List G) (m lo : Nat) (N : Nat) : List (List G) := (List.range N).map fun d => nrRow T m (lo + d)
theorem nrRow_len (T : List G) (m k : Nat) : (nrRow T m k).length = m + 1 := by simp [nrRow]
theorem nrRow_at {T : List G} {m k i : Nat} (h : i < m) : (nrRow T m k).getD i g0 = T.getD (k - (i + 1)) g0 := by
  unfold nrRow
  rw [List.getD_eq_getElem?_getD, List.getElem?_append_left (by simpa using h), List.getElem?_map, List.getElem?_range h]; rfl
theorem nrRow_end {T : List G} {m k : Nat} : (nrRow T m k).getD m g0 = T.getD k g0 := by
  unfold nrRow
  rw [List.getD_eq_getElem?_getD, List.getElem?_append_right (by simp)]
  simp
theorem nrRows_len (T : List G) (m lo N : Nat) : (nrRows T m lo N).length = N := by simp [nrRows]
theorem nrRows_at {T : List G} {m lo N d : Nat} (h : d < N) : (nrRows T m lo N).getD d [] = nrRow T m (lo + d) := by
  unfold nrRows
  rw [List.getD_eq_getElem?_getD, List.getElem?_map, List.getElem?_range h]; rfl
theorem nrRows_snoc (T : List G) (m lo N : Nat) : nrRows T m lo (N + 1) = nrRows T m lo N ++ [nrRow T m (lo + N)] := by simp [nrRows, List.range_succ]
theorem nrRows_wid (T : List G) (m lo N : Nat) : Wid (nrRows T m lo N) m := fun i hi => by
  rw [nrRows_len] at hi; rw [nrRows_at hi]; exact nrRow_len _ _ _
/-- What T says: it counts the powers of the places of er, from s on. -/
def TVal (n p s : Nat) (T : List G) (er : List Nat) (u : Nat → G) : Prop := ∀ k, s ≤ k → k < p → T.getD k g0 = isum er (fun a => u a * gw (plc n a) (k - s))
theorem nr_dot {n p s : Nat} {T : List G} {er : List Nat} {u : Nat → G} (hT : TVal n p s T er u) {m d : Nat} (hd : s + m + d < p) (v : Nat → G) :
    dotF m (nrRow T m (s + m + d)) v = isum er (fun a => u a * isum (List.range m) (fun i => v i * gw (plc n a) (m - 1 - i)) * gw (plc n a) d) := by
  unfold dotF
  have e : ∀ i ∈ List.range m, (nrRow T m (s + m + d)).getD i g0 * v i = isum er (fun a => u a * gw (plc n a) (m - 1 - i) * gw (plc n a) d * v i) := fun i hi => by
    have hi' : i < m := by simpa using hi
    rw [nrRow_at hi', hT _ (by omega) (by omega), gmul_comm, ← isum_mul]
    refine isum_congr _ (fun a _ => ?_)
    rw [show s + m + d - (i + 1) - s = (m - 1 - i) + d by omega, gw_add]
    simp only [gmul_comm, gmul_left]
  rw [isum_congr _ e, isum_swap]
  refine isum_congr _ (fun a _ => ?_)
  rw [gmul_assoc, gmul_comm (isum _ _), ← gmul_assoc, ← isum_mul]
  refine isum_congr _ (fun i _ => ?_)
  simp only [gmul_assoc, gmul_comm, gmul_left]
theorem nr_sat {n p s : Nat} {T : List G} {er : List Nat} {u : Nat → G} (hT : TVal n p s T er u) (_hs : s + er.length ≤ p) : SatF (nrRows T er.length (s + er.length) (p - (s + er.length))) er.length (fun k => (locC (er.map (plc n))).getD k g0) := fun d hd => by
  rw [nrRows_len] at hd
  rw [nrRows_at hd, nrRow_end, nr_dot hT (by omega), hT _ (by omega) (by omega)]
  refine isum_congr _ (fun a ha => ?_)
  have h := loc_val (xs := er.map (plc n)) (x := plc n a) (List.mem_map.2 ⟨a, ha, rfl⟩)
  rw [List.length_map] at h
  rw [h, gmul_assoc, ← gw_add, show er.length + d = s + er.length + d - s by omega]
theorem nr_triv {n p s : Nat} {T : List G} {er : List Nat} {u : Nat → G} (hn : n ≤ 255) (hT : TVal n p s T er u) (hs : s + 2 * er.length ≤ p) (hd : er.Nodup) (hl : ∀ i ∈ er, i < n) (hu : ∀ i ∈ er, u i ≠ g0) :
    TrivF (nrRows T er.length (s + er.length) (p - (s + er.length))) er.length := fun v hv k hk => by
  have hz := no_errors (E := er.map fun a => (plc n a, u a * isum (List.range er.length) (fun i => v i * gw (plc n a) (er.length - 1 - i)))) (by
    rw [List.map_map]; exact plcs_nodup hn er hd hl) (fun t ht => by
    rw [List.length_map] at ht
    have h := hv t (by rw [nrRows_len]; omega)
    rw [nrRows_at (by omega), nr_dot hT (by omega)] at h
    rw [pws, isum_es]
    exact h)
  have hq : ∀ x ∈ er.map (plc n), val ((List.range er.length).map v) x = g0 := fun x hx => by
    obtain ⟨a, ha, rfl⟩ := List.mem_map.1 hx
    have h := hz _ (List.mem_map.2 ⟨a, ha, rfl⟩)
    rw [val_dot, List.length_map, List.length_range]
    rcases gmul_eq0 h with e | e
    · exact absurd e (hu a ha)
    · rw [← e]
      refine isum_congr _ (fun i hi => ?_)
      rw [List.getD_eq_getElem?_getD, List.getElem?_map, List.getElem?_range (by simpa using hi)]; rfl
  have h := zero_poly er.length ((List.range er.length).map v) (er.map (plc n)) (by simp) (plcs_nodup hn er hd hl) (by rw [List.length_map]; exact Nat.le_refl _) hq k
  rw [List.getD_eq_getElem?_getD, List.getElem?_map, List.getElem?_range hk] at h
  exact h
/-- What the reference sums at a place. -/
def sumF (c : List G) (m : Nat) (y : G) : G := g1 + isum (List.range m) (fun k => c.getD k g0 * gw y (k + 1))
theorem gw_one_mul (x y : G) : ∀ m, gw x m * gw y m = gw (x * y) m
  | 0 => gone_mul _
  | m + 1 => by
    show gw x m * x * (gw y m * y) = gw (x * y) m * (x * y)
    rw [← gw_one_mul x y m]
    simp only [gmul_assoc, gmul_comm, gmul_left]
theorem gw_g1 : ∀ m, gw g1 m = g1
  | 0 => rfl
  | m + 1 => by show gw g1 m * g1 = g1; rw [gmul_one, gw_g1 m]
theorem gw_inv {z : G} (hz : z ≠ g0) {m e : Nat} (h : m ≤ e) : gw (ginv z) m * gw z e = gw z (e - m) := by
  rw [show e = m + (e - m) by omega, gw_add, ← gmul_assoc, gw_one_mul, gmul_comm (ginv z), gmul_inv hz, gw_g1, gone_mul, show m + (e - m) - m = e - m by omega]
theorem sum_root {n : Nat} {er : List Nat} {c : List G} {i : Nat} (hn : n ≤ 255) (hi : i < n) (hl : ∀ a ∈ er, a < n) (hc : ∀ k, k < er.length → c.getD k g0 = (locC (er.map (plc n))).getD k g0) :
    sumF c er.length (ginv (plc n i)) = g0 ↔ i ∈ er := by
  have hz := plc_pos n i
  have h1 : sumF c er.length (ginv (plc n i)) * gw (plc n i) er.length = val (rootP (er.map (plc n))) (plc n i) := by
    unfold sumF
    rw [gadd_mul, gone_mul, rootP_cons, val_cons, gone_mul, locC_len, List.length_map, val_dot, locC_len, List.length_map]
    congr 1
    rw [gmul_comm, ← isum_mul]
    refine isum_congr _ (fun k hk => ?_)
    have hk' : k < er.length := by simpa using hk
    rw [hc k hk', gmul_left, gmul_comm (gw (plc n i) er.length), gw_inv hz (by omega), show er.length - (k + 1) = er.length - 1 - k by omega]
  have h2 : val (rootP (er.map (plc n))) (plc n i) = g0 ↔ i ∈ er := by
    rw [rootP_val]
    constructor
    · intro e
      refine Decidable.byContradiction fun h => prodR_pos (x := plc n i) (fun hm => h ?_) e
      obtain ⟨a, ha, e2⟩ := List.mem_map.1 hm
      rw [← plc_inj hn (hl a ha) hi e2]; exact ha
    · intro h; exact prodR_root (List.mem_map.2 ⟨i, h, rfl⟩)
  rw [← h2, ← h1]
  constructor
  · intro e; rw [e, gzero_mul]
  · intro e
    rcases gmul_eq0 e with e | e
    · exact e
    · exact absurd e (gw_pos hz _)
/-- The reference's choice of positions. -/
def selF (n : Nat) (gone : List Nat) (c : List G) (m i : Nat) : Bool := decide (0 < m) && (decide (sumF c m (ginv (plc n i)) = g0) && !gone.contains i)
theorem near_iff {ws cs : List G} {n p : Nat} {l : List Nat} : nearB ws cs n p l = true ↔ isB cs p = true ∧ 2 * cnt (errB ws cs (lostB l)) n + (difL l).length ≤ p := by
  unfold nearB; rw [Bool.and_eq_true, decide_eq_true_eq]
theorem difL_has (l : List Nat) (i : Nat) : (difL l).contains i = l.contains i := by
  rw [List.contains_eq_mem, List.contains_eq_mem, decide_eq_decide]; exact difL_mem l i
structure NearAt (ws : List G) (n p : Nat) (l : List Nat) (cs : List G) (m : Nat) : Prop where
  len : cs.length = n
  near : nearB ws cs n p l = true
  many : cnt (errB ws cs (lostB l)) n = m
theorem near_T {ws cs : List G} {n p m : Nat} {l : List Nat} (hw : ws.length = n) (h : NearAt ws n p l cs m) :
    TVal n p (difL l).length (mulXs n (synL ws p) (difL l)) (posL n (errB ws cs (lostB l))) (fun i => dlt ws cs i * prodR (plc n i) ((difL l).map (plc n))) := fun k h1 h2 => by
  have hB := (near_iff.1 h.near).1
  have h3 := mulXs_val (n := n) (N := n) (fun i => dlt ws cs i * prodR (plc n i) ((difL l).map (plc n))) (difL l) (synL ws p) 0 (dlt ws cs) (fun k _ hk => by
    rw [synL_len] at hk
    have h := syn_dlt hw h.len hB hk
    unfold sq at h
    rw [h]; rfl) (fun i _ => rfl) k (by omega) (by rw [synL_len]; exact h2)
  rw [h3, Nat.zero_add]
  unfold posL
  rw [isum_filter]
  intro i hi he
  show dlt ws cs i * prodR (plc n i) ((difL l).map (plc n)) * _ = g0
  unfold errB lostB at he
  rcases hd : difB ws cs i with _ | _
  · rw [dlt_zero.2 hd, gzero_mul, gzero_mul]
  · rw [hd, Bool.true_and] at he
    have hm : i ∈ difL l := by
      rw [difL_mem]
      have : l.contains i = true := by simpa using he
      rw [List.contains_eq_mem, decide_eq_true_eq] at this
      exact this
    rw [prodR_root (List.mem_map.2 ⟨i, hm, rfl⟩), gmul_zero, gzero_mul]
theorem near_eqs {ws cs : List G} {n p m : Nat} {l : List Nat} (hn : n ≤ 255) (hw : ws.length = n) (hl : ∀ i ∈ l, i < n) (h : NearAt ws n p l cs m) :
    SatF (nrRows (mulXs n (synL ws p) (difL l)) m ((difL l).length + m) (p - ((difL l).length + m))) m (fun k => (locC ((posL n (errB ws cs (lostB l))).map (plc n))).getD k g0) ∧
    TrivF (nrRows (mulXs n (synL ws p) (difL l)) m ((difL l).length + m) (p - ((difL l).length + m))) m := by
  have hm : (posL n (errB ws cs (lostB l))).length = m := h.many
  have hb := (near_iff.1 h.near).2
  rw [h.many] at hb
  have hT := near_T hw h
  have h1 := nr_sat hT (by rw [hm]; omega)
  have h2 := nr_triv hn hT (by rw [hm]; omega) (posL_nodup _ _) posL_lt (fun i hi e => by
    obtain ⟨h3, h4⟩ := mem_posL.1 hi
    unfold errB lostB at h4
    rw [Bool.and_eq_true, Bool.not_eq_true'] at h4
    rcases gmul_eq0 e with e | e
    · rw [dlt_zero.1 e] at h4; exact absurd h4.1 (by decide)
    · refine prodR_pos (fun hmem => ?_) e
      obtain ⟨a, ha, e2⟩ := List.mem_map.1 hmem
      have hal := (difL_mem l a).1 ha
      have hai := plc_inj hn (hl a hal) h3 e2
      rw [← hai, List.contains_eq_mem, decide_eq_false_iff_not] at h4
      exact h4.2 hal)
  rw [hm] at h1 h2
  exact ⟨h1, h2⟩
/-- With the right coefficients the positions are the lost and the wrong ones. -/
theorem near_at {ws cs c : List G} {n p m : Nat} {l : List Nat} (hn : n ≤ 255) (h : NearAt ws n p l cs m) (hc : ∀ k, k < m → c.getD k g0 = (locC ((posL n (errB ws cs (lostB l))).map (plc n))).getD k g0) :
    (difL l ++ posL n (selF n (difL l) c m)).Nodup ∧ (∀ i, i < n → i ∉ difL l ++ posL n (selF n (difL l) c m) → difB ws cs i = false) ∧ (difL l ++ posL n (selF n (difL l) c m)).length ≤ p := by
  have hm : (posL n (errB ws cs (lostB l))).length = m := h.many
  have hb := (near_iff.1 h.near).2
  rw [h.many] at hb
  have hsel : ∀ i, i < n → selF n (difL l) c m i = errB ws cs (lostB l) i := fun i hi => by
    have hr := sum_root (er := posL n (errB ws cs (lostB l))) (c := c) hn hi posL_lt (by rw [hm]; exact hc)
    rw [hm] at hr
    unfold selF
    rw [difL_has]
    rcases he : errB ws cs (lostB l) i with _ | _
    · have : ¬ (sumF c m (ginv (plc n i)) = g0) := fun e => by
        have := (mem_posL.1 (hr.1 e)).2
        rw [he] at this; cases this
      rw [decide_eq_false this]; simp
    · have hmem := mem_posL.2 ⟨hi, he⟩
      have hpos : 0 < m := by rw [← hm]; exact List.length_pos_of_mem hmem
      have hlst : l.contains i = false := by
        unfold errB lostB at he
        rw [Bool.and_eq_true, Bool.not_eq_true'] at he
        exact he.2
      rw [decide_eq_true (hr.2 hmem), decide_eq_true hpos, hlst]; rfl
  have hpe : posL n (selF n (difL l) c m) = posL n (errB ws cs (lostB l)) := List.filter_congr (fun i hi => hsel i (by simpa using hi))
  rw [hpe]
  refine ⟨?_, ?_, ?_⟩
  · rw [List.nodup_append]
    refine ⟨difL_nodup l, posL_nodup _ _, fun a ha b hb2 e => ?_⟩
    subst e
    have h3 := (mem_posL.1 hb2).2
    unfold errB lostB at h3
    rw [Bool.and_eq_true, Bool.not_eq_true', List.contains_eq_mem, decide_eq_false_iff_not] at h3
    exact h3.2 ((difL_mem l a).1 ha)
  · intro i hi hnm
    rcases hd : difB ws cs i with _ | _
    · rfl
    · exfalso
      refine hnm (List.mem_append.2 ?_)
      by_cases hli : i ∈ l
      · exact Or.inl ((difL_mem l i).2 hli)
      · refine Or.inr (mem_posL.2 ⟨hi, ?_⟩)
        unfold errB lostB
        rw [hd, List.contains_eq_mem, decide_eq_false hli]; rfl
  · rw [List.length_append, hm]; omega
end Go.Proofs.Ytbkbgcapkhelhaa
