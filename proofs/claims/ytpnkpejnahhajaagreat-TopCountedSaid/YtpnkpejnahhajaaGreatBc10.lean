/- Layer 3: decoding (mathematics): the suspects of a word near a codeword are the lost positions and the wrong ones, and what is put there is the codeword.
Layer 3: the reference's products, powers, values.
Layer 3: the reference's lists.
Layer 3: the reference's codewords and near codewords.
Layer 3: the reference's products of polynomials, and its codewords.
Layer 3: the reference's codeword.
Layer 3: codewords (mathematics): what Encode answers is a codeword, the only one that begins with the data; two codewords differ at more than p positions. -/
import Derived.Test.YtpnkpejnahhajaaGreatBc8
import Derived.Test.YtpnkpejnahhajaaGreatBc9
import Derived.Test.YtpnkpejnahhajaaGreatBc3
import Derived.Deep.RegionLaw
import Derived.Test.YtpnkpejnahhajaaGreatBc6
import Derived.Deep.QuietTactic
import Derived.Test.YtpnkpejnahhajaaGreatBc5
namespace Go.Proofs.YtpnkpejnahhajaaGreat

theorem plc_inj {n i j : Nat} (hn : n ≤ 255) (hi : i < n) (hj : j < n) (h : plc n i = plc n j) : i = j := by
  have := gp_inj (i := n - 1 - i) (j := n - 1 - j) (by omega) (by omega) h
  omega
theorem plc_pos (n i : Nat) : plc n i ≠ g0 := gp_pos _
theorem mem_posL {n i : Nat} {f : Nat → Bool} : i ∈ posL n f ↔ i < n ∧ f i = true := by simp [posL, List.mem_filter, List.mem_range]
theorem posL_nodup (n : Nat) (f : Nat → Bool) : (posL n f).Nodup := List.nodup_range.filter _
theorem plcs_nodup {n : Nat} (hn : n ≤ 255) : ∀ (l : List Nat), l.Nodup → (∀ i ∈ l, i < n) → (l.map (plc n)).Nodup
  | [], _, _ => List.nodup_nil
  | a :: r, hd, hl => by
    obtain ⟨h1, h2⟩ := List.nodup_cons.1 hd
    refine List.nodup_cons.2 ⟨fun hm => ?_, plcs_nodup hn r h2 (fun i hi => hl i (List.mem_cons_of_mem _ hi))⟩
    obtain ⟨b, hb, e⟩ := List.mem_map.1 hm
    have := plc_inj hn (hl b (List.mem_cons_of_mem _ hb)) (hl a (List.mem_cons_self ..)) e
    subst this
    exact h1 hb
theorem mem_plcs {n i : Nat} {f : Nat → Bool} (hn : n ≤ 255) (hi : i < n) : plc n i ∈ (posL n f).map (plc n) ↔ f i = true := by
  constructor
  · intro h
    obtain ⟨b, hb, e⟩ := List.mem_map.1 h
    have hb' := mem_posL.1 hb
    have := plc_inj hn hb'.1 hi e
    subst this
    exact hb'.2
  · intro h; exact List.mem_map.2 ⟨i, mem_posL.2 ⟨hi, h⟩, rfl⟩

/-- A sum over a list of positions. -/
def isum (l : List Nat) (f : Nat → G) : G := l.foldr (fun i s => f i + s) g0
theorem isum_cons (a : Nat) (l : List Nat) (f : Nat → G) : isum (a :: l) f = f a + isum l f := rfl
theorem isum_es (n : Nat) (v : Nat → G) (f : G → G) : ∀ l : List Nat, es (l.map fun i => (plc n i, v i)) f = isum l (fun i => v i * f (plc n i))
  | [] => rfl
  | a :: r => by rw [isum_cons, List.map_cons]; simp only [es]; rw [isum_es n v f r]
theorem isum_congr {f g : Nat → G} : ∀ (l : List Nat), (∀ i ∈ l, f i = g i) → isum l f = isum l g
  | [], _ => rfl
  | a :: r, h => by rw [isum_cons, isum_cons, h a (List.mem_cons_self ..), isum_congr r (fun i hi => h i (List.mem_cons_of_mem _ hi))]
theorem isum_add (f g : Nat → G) : ∀ (l : List Nat), isum l (fun i => f i + g i) = isum l f + isum l g
  | [] => (gadd_zero _).symm
  | a :: r => by rw [isum_cons, isum_cons, isum_cons, isum_add f g r]; exact gpair _ _ _ _
theorem isum_zero {f : Nat → G} : ∀ (l : List Nat), (∀ i ∈ l, f i = g0) → isum l f = g0
  | [], _ => rfl
  | a :: r, h => by rw [isum_cons, h a (List.mem_cons_self ..), gzero_add, isum_zero r (fun i hi => h i (List.mem_cons_of_mem _ hi))]
theorem isum_filter {f : Nat → G} (k : Nat → Bool) : ∀ (l : List Nat), (∀ i ∈ l, k i = false → f i = g0) → isum (l.filter k) f = isum l f
  | [], _ => rfl
  | a :: r, h => by
    have ih := isum_filter k r (fun i hi => h i (List.mem_cons_of_mem _ hi))
    rw [List.filter_cons]
    rcases hk : k a with _ | _
    · rw [if_neg (by decide), ih, isum_cons, h a (List.mem_cons_self ..) hk, gzero_add]
    · rw [if_pos rfl, isum_cons, isum_cons, ih]
theorem isum_one {f : Nat → G} {i : Nat} : ∀ (l : List Nat), l.Nodup → i ∈ l → (∀ j ∈ l, j ≠ i → f j = g0) → isum l f = f i
  | [], _, h, _ => by cases h
  | a :: r, hd, hm, h => by
    obtain ⟨h1, h2⟩ := List.nodup_cons.1 hd
    rw [isum_cons]
    by_cases e : a = i
    · subst e
      rw [isum_zero r (fun j hj => h j (List.mem_cons_of_mem _ hj) (fun e => h1 (e ▸ hj))), gadd_zero]
    · have hm' : i ∈ r := by rcases List.mem_cons.1 hm with e' | e'; exact absurd e'.symm e; exact e'
      rw [h a (List.mem_cons_self ..) e, gzero_add, isum_one r h2 hm' (fun j hj => h j (List.mem_cons_of_mem _ hj))]

theorem isum_map (f : Nat → G) : ∀ l : List Nat, isum (l.map (· + 1)) f = isum l (fun i => f (i + 1))
  | [] => rfl
  | a :: r => by rw [List.map_cons, isum_cons, isum_cons, isum_map f r]
/-- The value at a power of 2, as a sum over the positions. -/
theorem val_isum (t : Nat) : ∀ ws : List G, val ws (gp t) = isum (List.range ws.length) (fun i => ws.getD i g0 * gw (plc ws.length i) t)
  | [] => rfl
  | c :: r => by
    rw [val_cons, val_isum t r, List.length_cons, List.range_succ_eq_map, isum_cons]
    show _ = _ + isum ((List.range r.length).map (· + 1)) _
    rw [isum_map]
    congr 1
    · simp only [List.getD_cons_zero, plc, Nat.add_sub_cancel, Nat.sub_zero, gw_swap]
    · refine isum_congr _ (fun i hi => ?_)
      have hi' : i < r.length := by simpa using hi
      simp only [List.getD_cons_succ, plc]
      rw [show r.length + 1 - 1 - (i + 1) = r.length - 1 - i by omega]
theorem synL_at {ws : List G} {p t : Nat} (ht : t < p) : sq (synL ws p) t = val ws (gp t) := by
  unfold sq synL
  rw [List.getD_eq_getElem?_getD, List.getElem?_map, List.getElem?_range ht]
  rfl
theorem isB_iff {cs : List G} {p : Nat} : isB cs p = true ↔ ∀ t, t < p → val cs (gp t) = g0 := by
  unfold isB synL
  simp only [List.all_map, List.all_eq_true, List.mem_range, Function.comp_apply, decide_eq_true_eq]

/-- The difference to another word. -/
def dlt (ws cs : List G) (i : Nat) : G := ws.getD i g0 + cs.getD i g0
theorem dlt_zero {ws cs : List G} {i : Nat} : dlt ws cs i = g0 ↔ difB ws cs i = false := by
  unfold dlt difB
  rw [Bool.not_eq_false', decide_eq_true_eq]
  constructor
  · intro h; exact (gadd_eq h).symm
  · intro h; rw [h]; exact gadd_self _
/-- The syndromes are those of the differences to a codeword. -/
theorem syn_dlt {ws cs : List G} {n p t : Nat} (hw : ws.length = n) (hc : cs.length = n) (hB : isB cs p = true) (ht : t < p) :
    sq (synL ws p) t = isum (List.range n) (fun i => dlt ws cs i * gw (plc n i) t) := by
  rw [synL_at ht]
  have h0 := isB_iff.1 hB t ht
  rw [val_isum, hc] at h0
  have e := isum_add (fun i => ws.getD i g0 * gw (plc n i) t) (fun i => cs.getD i g0 * gw (plc n i) t) (List.range n)
  rw [h0, gadd_zero] at e
  rw [val_isum, hw, ← e]
  refine isum_congr _ (fun i _ => ?_)
  unfold dlt
  rw [gadd_mul]
/-- .. at any positions that have all the differences. -/
theorem syn_es {ws cs : List G} {n p t : Nat} {f : Nat → Bool} (hw : ws.length = n) (hc : cs.length = n) (hB : isB cs p = true) (hf : ∀ i, i < n → f i = false → difB ws cs i = false) (ht : t < p) :
    sq (synL ws p) t = pws ((posL n f).map fun i => (plc n i, dlt ws cs i)) t := by
  rw [syn_dlt hw hc hB ht, pws, isum_es, posL, isum_filter]
  intro i hi hk
  rw [dlt_zero.2 (hf i (by simpa using hi) hk), gzero_mul]

theorem knownL_len (n : Nat) (L : Nat → Bool) : (knownL n L).length = (posL n L).length + 1 := by unfold knownL; rw [rootP_len, List.length_map]
theorem knownL_val (n : Nat) (L : Nat → Bool) (x : G) : val (knownL n L) x = prodR x ((posL n L).map (plc n)) := rootP_val _ _
theorem leftL_at {n p k t : Nat} {L : Nat → Bool} {ss : List G} (ht : t < p - k) : sq (leftL n p k L ss) t = dsum (knownL n L) (sq ss) (k + t) := by
  unfold sq leftL
  rw [List.getD_eq_getElem?_getD, List.getElem?_map, List.getElem?_range ht]
  rfl

theorem sus_eq {ws cs : List G} {n p k : Nat} {L : Nat → Bool} (hn : n ≤ 255) (hw : ws.length = n) (hc : cs.length = n) (hB : isB cs p = true) (hk : (posL n L).length = k) (hnear : 2 * cnt (errB ws cs L) n + k ≤ p) {i : Nat} (hi : i < n) :
    susF n p k L (synL ws p) i = (L i || errB ws cs L i) := by
  obtain ⟨E, hE⟩ : ∃ E, (posL n (errB ws cs L)).map (fun i => (plc n i, dlt ws cs i * val (knownL n L) (plc n i))) = E := ⟨_, rfl⟩
  have hE1 : E.map (·.1) = (posL n (errB ws cs L)).map (plc n) := by rw [← hE, List.map_map]; rfl
  have hEl : E.length = cnt (errB ws cs L) n := by rw [← hE, List.length_map]; rfl
  have hleft : ∀ t, t < p - k → sq (leftL n p k L (synL ws p)) t = pws E t := fun t ht => by
    rw [leftL_at ht, dsum_congr _ (s := sq (synL ws p)) (u := pws ((posL n (difB ws cs)).map fun i => (plc n i, dlt ws cs i))) (k + t) (fun i hi => syn_es hw hc hB (fun i _ h => h) (by omega)),
      dsum_es _ _ _ (by rw [knownL_len, hk]; omega), isum_es, ← hE, pws, isum_es,
      show posL n (errB ws cs L) = (posL n (difB ws cs)).filter (fun i => !L i) by
        unfold posL
        rw [List.filter_filter]
        refine List.filter_congr (fun i _ => ?_)
        unfold errB; exact Bool.and_comm _ _]
    rw [isum_filter]
    · refine isum_congr _ (fun i _ => ?_)
      rw [knownL_len, hk, show k + t + 1 - (k + 1) = t by omega, gmul_assoc]
    · intro i hi hL
      have hL' : L i = true := by simpa using hL
      rw [knownL_val, prodR_root ((mem_plcs hn (mem_posL.1 hi).1).2 hL'), gmul_zero, gzero_mul]
  have hr := bm_roots (E := E) (N := p - k) (by rw [hE1]; exact plcs_nodup hn _ (posL_nodup _ _) posL_lt)
    (by
      rw [← hE]
      intro a ha
      obtain ⟨j, hj, rfl⟩ := List.mem_map.1 ha
      obtain ⟨hj1, hj2⟩ := mem_posL.1 hj
      unfold errB at hj2
      rw [Bool.and_eq_true, Bool.not_eq_true'] at hj2
      intro e
      rcases gmul_eq0 e with e | e
      · rw [dlt_zero.1 e] at hj2; exact absurd hj2.1 (by decide)
      · rw [knownL_val] at e
        exact prodR_pos (fun hm => by rw [(mem_plcs hn hj1).1 hm] at hj2; exact absurd hj2.2 (by decide)) e)
    (by
      rw [← hE]
      intro a ha
      obtain ⟨j, hj, rfl⟩ := List.mem_map.1 ha
      exact plc_pos _ _)
    (by rw [hEl]; omega) (sq (leftL n p k L (synL ws p))) hleft (plc n i)
  unfold susF
  congr 1
  rw [show unkL n p k L (synL ws p) = (bmL (sq (leftL n p k L (synL ws p))) (p - k)).now from rfl]
  rw [Bool.eq_iff_iff, decide_eq_true_eq, hr, hE1, mem_plcs hn hi]

/-- For any syndromes the suspects are at most as many as the syndromes. -/
theorem cnt_or (f g : Nat → Bool) : ∀ n, cnt (fun i => f i || g i) n ≤ cnt f n + cnt g n
  | 0 => by simp [cnt]
  | n + 1 => by
    have := cnt_or f g n
    rw [cnt_succ, cnt_succ, cnt_succ]
    cases f n <;> cases g n <;> simp <;> omega
theorem sus_few {n p k : Nat} {L : Nat → Bool} {ss : List G} (hn : n ≤ 255) (hk : (posL n L).length = k) (hkp : k ≤ p) : (posL n (susF n p k L ss)).length ≤ p := by
  obtain ⟨R, hR⟩ : ∃ R : Nat → Bool, (fun i => decide (val (unkL n p k L ss) (plc n i) = g0)) = R := ⟨_, rfl⟩
  have h1 : susF n p k L ss = fun i => L i || R i := by rw [← hR]; rfl
  have h2 := cnt_or L R n
  have h3 : cnt L n = k := hk
  have h4 := bm_len (s := sq (leftL n p k L ss)) (p - k)
  have h5 := few_roots _ (unkL n p k L ss) ((posL n R).map (plc n)) rfl h4.1 (plcs_nodup hn _ (posL_nodup _ _) posL_lt) (fun x hx => by
    obtain ⟨j, hj, rfl⟩ := List.mem_map.1 hx
    have := (mem_posL.1 hj).2
    rw [← hR] at this
    simpa using this)
  rw [List.length_map] at h5
  have h6 : (posL n R).length = cnt R n := rfl
  have h7 : (unkL n p k L ss).length = (bmL (sq (leftL n p k L ss)) (p - k)).now.length := rfl
  rw [h1]
  show cnt _ n ≤ p
  omega

/-- The polynomial of all suspects but one, and what it tells. -/
def othL (n : Nat) (f : Nat → Bool) (i : Nat) : List G := horL g0 (plc n i) ((rootP ((posL n f).map (plc n))).take (posL n f).length)
theorem othL_len (n : Nat) (f : Nat → Bool) (i : Nat) : (othL n f i).length = (posL n f).length := by
  unfold othL; rw [horL_len, List.length_take, rootP_len, List.length_map]; omega
theorem othL_mul {n : Nat} {f : Nat → Bool} {i : Nat} (hi : i ∈ posL n f) (x : G) : val (othL n f i) x * (x + plc n i) = prodR x ((posL n f).map (plc n)) := by
  obtain ⟨q, c, e⟩ := snoc_of (q := rootP ((posL n f).map (plc n))) (fun e => by have := rootP_len ((posL n f).map (plc n)); rw [e] at this; simp at this)
  have hl : q.length = (posL n f).length := by
    have := rootP_len ((posL n f).map (plc n))
    rw [e] at this; simpa using this
  unfold othL
  rw [e, ← hl, List.take_left, horL_root, ← e, rootP_val]
  rw [← e, rootP_val]
  exact prodR_root (List.mem_map.2 ⟨i, hi, rfl⟩)
theorem othL_root {n : Nat} {f : Nat → Bool} {i j : Nat} (hn : n ≤ 255) (hi : i ∈ posL n f) (hj : j ∈ posL n f) (hne : j ≠ i) : val (othL n f i) (plc n j) = g0 := by
  have h := othL_mul hi (plc n j)
  rw [prodR_root (List.mem_map.2 ⟨j, hj, rfl⟩)] at h
  rcases gmul_eq0 h with e | e
  · exact e
  · exact absurd (plc_inj hn (mem_posL.1 hj).1 (mem_posL.1 hi).1 (gadd_eq e)) hne
theorem othL_head {n : Nat} {f : Nat → Bool} {i : Nat} (hi : i ∈ posL n f) : (othL n f i).head? = some g1 := by
  unfold othL
  refine horL_head ?_
  have h1 := rootP_head ((posL n f).map (plc n))
  have h2 : 0 < (posL n f).length := List.length_pos_of_mem hi
  cases hr : rootP ((posL n f).map (plc n)) with
  | nil => rw [hr] at h1; cases h1
  | cons a t =>
    rw [hr] at h1
    obtain ⟨m, hm⟩ : ∃ m, (posL n f).length = m + 1 := ⟨(posL n f).length - 1, by omega⟩
    rw [hm, List.take_succ_cons]; exact h1
theorem othL_pos {n : Nat} {f : Nat → Bool} {i : Nat} (hn : n ≤ 255) (hi : i ∈ posL n f) : val (othL n f i) (plc n i) ≠ g0 := fun h0 => by
  have := few_roots _ (othL n f i) ((posL n f).map (plc n)) rfl (othL_head hi) (plcs_nodup hn _ (posL_nodup _ _) posL_lt) (fun x hx => by
    obtain ⟨j, hj, rfl⟩ := List.mem_map.1 hx
    by_cases e : j = i
    · rw [e]; exact h0
    · exact othL_root hn hi hj e)
  rw [othL_len, List.length_map] at this
  omega
def fixV (n : Nat) (f : Nat → Bool) (ss : List G) (i : Nat) : G := dsum (othL n f i) (sq ss) ((posL n f).length - 1) * ginv (val (othL n f i) (plc n i))
theorem fixV_eq {ws cs : List G} {n p : Nat} {f : Nat → Bool} (hn : n ≤ 255) (hw : ws.length = n) (hc : cs.length = n) (hB : isB cs p = true) (hf : ∀ i, i < n → f i = false → difB ws cs i = false) (hm : (posL n f).length ≤ p) {i : Nat} (hi : i ∈ posL n f) :
    fixV n f (synL ws p) i = dlt ws cs i := by
  have h2 : 0 < (posL n f).length := List.length_pos_of_mem hi
  unfold fixV
  rw [dsum_congr _ (s := sq (synL ws p)) (u := pws ((posL n f).map fun i => (plc n i, dlt ws cs i))) _ (fun t ht => syn_es hw hc hB hf (by omega)),
    dsum_es _ _ _ (by rw [othL_len]; omega), isum_es, isum_one _ (posL_nodup _ _) hi]
  · rw [othL_len, show (posL n f).length - 1 + 1 - (posL n f).length = 0 by omega]
    show dlt ws cs i * (_ * g1) * _ = _
    rw [gmul_one, gmul_assoc, gmul_inv (othL_pos hn hi), gmul_one]
  · intro j hj hne
    rw [othL_root hn hi hj hne, gzero_mul, gmul_zero]
/-- The word with the values put in at the positions. -/
def putS (v : Nat → G) (ws : List G) (l : List Nat) : List G := l.foldl (fun r i => r.set i (r.getD i g0 + v i)) ws
theorem putS_snoc (v : Nat → G) (ws : List G) (l : List Nat) (i : Nat) : putS v ws (l ++ [i]) = (putS v ws l).set i ((putS v ws l).getD i g0 + v i) := by simp [putS]
theorem putS_len (v : Nat → G) : ∀ (l : List Nat) (ws : List G), (putS v ws l).length = ws.length
  | [], ws => rfl
  | a :: r, ws => by
    show (putS v _ r).length = _
    rw [putS_len v r, List.length_set]
theorem getD_set (ws : List G) (i j : Nat) (x : G) (hi : i < ws.length) : (ws.set i x).getD j g0 = if i = j then x else ws.getD j g0 := by
  rw [List.getD_eq_getElem?_getD, List.getElem?_set]
  by_cases e : i = j
  · rw [if_pos e, if_pos e, if_pos hi]; rfl
  · rw [if_neg e, if_neg e, List.getD_eq_getElem?_getD]
theorem putS_at (v : Nat → G) : ∀ (l : List Nat) (ws : List G) (j : Nat), l.Nodup → (∀ i ∈ l, i < ws.length) → (putS v ws l).getD j g0 = if j ∈ l then ws.getD j g0 + v j else ws.getD j g0
  | [], ws, j, _, _ => by simp [putS]
  | a :: r, ws, j, hd, hl => by
    obtain ⟨h1, h2⟩ := List.nodup_cons.1 hd
    show (putS v _ r).getD j g0 = _
    have ha := hl a (List.mem_cons_self ..)
    rw [putS_at v r _ j h2 (fun i hi => by rw [List.length_set]; exact hl i (List.mem_cons_of_mem _ hi)), getD_set _ _ _ _ ha]
    by_cases e : a = j
    · subst e
      rw [if_neg h1, if_pos rfl, if_pos (List.mem_cons_self ..)]
    · rw [if_neg e]
      by_cases m : j ∈ r
      · rw [if_pos m, if_pos (List.mem_cons_of_mem _ m)]
      · rw [if_neg m, if_neg (fun hm => by rcases List.mem_cons.1 hm with e' | e'; exact e e'.symm; exact m e')]
theorem list_eq_getD {a b : List G} (h : a.length = b.length) (hd : ∀ j, j < a.length → a.getD j g0 = b.getD j g0) : a = b := by
  refine List.ext_getElem h (fun i h1 h2 => ?_)
  have := hd i h1
  rw [List.getD_eq_getElem?_getD, List.getD_eq_getElem?_getD, List.getElem?_eq_getElem h1, List.getElem?_eq_getElem h2] at this
  exact this
/-- What mended answers. -/
def mendL (n p k : Nat) (L : Nat → Bool) (ws : List G) : List G :=
  if p < k then ws else putS (fixV n (susF n p k L (synL ws p)) (synL ws p)) ws (posL n (susF n p k L (synL ws p)))
theorem mendL_len (n p k : Nat) (L : Nat → Bool) (ws : List G) : (mendL n p k L ws).length = ws.length := by
  unfold mendL; split
  · rfl
  · exact putS_len _ _ _
/-- A codeword that is near is what mended answers. -/
theorem mend_near {ws cs : List G} {n p k : Nat} {L : Nat → Bool} (hn : n ≤ 255) (hw : ws.length = n) (hc : cs.length = n) (hB : isB cs p = true) (hk : (posL n L).length = k) (hnear : 2 * cnt (errB ws cs L) n + k ≤ p) : mendL n p k L ws = cs := by
  have hkp : k ≤ p := by omega
  have hs := @sus_eq ws cs n p k L hn hw hc hB hk hnear
  have hm := sus_few (ss := synL ws p) hn hk hkp
  have hf : ∀ i, i < n → susF n p k L (synL ws p) i = false → difB ws cs i = false := fun i hi h => by
    rw [hs hi] at h
    unfold errB at h
    revert h
    cases L i <;> cases difB ws cs i <;> simp
  unfold mendL
  rw [if_neg (by omega)]
  generalize susF n p k L (synL ws p) = f at hm hf hs ⊢
  refine list_eq_getD (by rw [putS_len, hw, hc]) (fun j hj => ?_)
  rw [putS_len, hw] at hj
  rw [putS_at _ _ _ _ (posL_nodup _ _) (by rw [hw]; exact posL_lt)]
  by_cases hmem : j ∈ posL n f
  · rw [if_pos hmem, fixV_eq hn hw hc hB hf hm hmem]
    unfold dlt
    rw [gadd_back]
  · rw [if_neg hmem]
    have hfj : f j = false := by
      rcases h : f j with _ | _
      · rfl
      · exact absurd (mem_posL.2 ⟨hj, h⟩) hmem
    have := hf j hj hfj
    rw [← dlt_zero] at this
    exact gadd_eq this
/-- .. and is accepted. -/
theorem cmp_near {ws cs : List G} {n p k : Nat} {L : Nat → Bool} (hB : isB cs p = true) (hnear : 2 * cnt (errB ws cs L) n + k ≤ p) : cmpB n p k ws cs L = true := by
  unfold cmpB
  rw [Bool.and_eq_true]
  exact ⟨decide_eq_true hnear, hB⟩
end Go.Proofs.YtpnkpejnahhajaaGreat

namespace Go.Proofs.YtpnkpejnahhajaaGreat
open Go.RowKit
set_option linter.unusedSimpArgs false

/-- Elements as ints. -/
def gints (xs : List G) : List Int := xs.map fun x => (x.v : Int)
end Go.Proofs.YtpnkpejnahhajaaGreat

namespace Go.Proofs.YtpnkpejnahhajaaGreat
open Go.RowKit
set_option linter.unusedSimpArgs false

end Go.Proofs.YtpnkpejnahhajaaGreat

namespace Go.Proofs.YtpnkpejnahhajaaGreat
open Go.RowKit
set_option linter.unusedSimpArgs false

/-- The different ones of a list, in their order. -/
def difL (l : List Nat) : List Nat := l.foldl (fun r x => if r.contains x then r else r ++ [x]) []
/-- What the reference calls near. -/
def nearB (ws cs : List G) (n p : Nat) (l : List Nat) : Bool := isB cs p && decide (2 * cnt (errB ws cs (lostB l)) n + (difL l).length ≤ p)
end Go.Proofs.YtpnkpejnahhajaaGreat

namespace Go.Proofs.YtpnkpejnahhajaaGreat
open Go.RowKit
set_option linter.unusedSimpArgs false

/-- A block that is just these elements, as ints. -/
def ics (xs : List G) : Array Value := ⟨xs.map fun x => .int .i64 (x.v : Int)⟩
def BI (w : World) (g : Nat) (xs : List G) : Prop := Blk w g 3 (ics xs)
theorem BI.keep {w w' : World} {g : Nat} {xs : List G} (h : BI w g xs) (hg : Gr w w') : BI w' g xs := Blk.keep h hg
theorem BI.at {w : World} {g : Nat} {xs : List G} (h : BI w g xs) {i : Nat} (hi : i < xs.length) : w.cell? ⟨g, i, none⟩ = some (.int .i64 ((xs.getD i g0).v : Int)) := by
  rw [Blk.cell h, show (ics xs)[i]? = xs[i]?.map fun x => .int .i64 (x.v : Int) by simp [ics], getD_of g0 hi]; rfl
theorem BI.free {w : World} {g : Nat} {xs : List G} (h : BI w g xs) (i : Nat) : w.frozen? ⟨g, i, none⟩ = false := Blk.free h i
theorem BI.put {w : World} {g : Nat} {xs : List G} (h : BI w g xs) (i : Nat) (y : G) : BI (w.setCell ⟨g, i, none⟩ (.int .i64 (y.v : Int))) g (xs.set i y) := by
  have := Blk.put h i (.int .i64 (y.v : Int))
  have e : (ics xs).setIfInBounds i (.int .i64 (y.v : Int)) = ics (xs.set i y) := by
    unfold ics
    simp [List.map_set]
  rw [e] at this
  exact this
theorem flatI (xs : List G) : flatE enc1 (gints xs) = xs.map fun x => .int .i64 (x.v : Int) := by
  induction xs with
  | nil => rfl
  | cons x r ih =>
    rw [show gints (x :: r) = [(x.v : Int)] ++ gints r from rfl, flatE_app, ih]; rfl
theorem BI.pts {w : World} {g : Nat} {xs : List G} (h : BI w g xs) : Ints w (some ⟨g, 0, none⟩) (gints xs) :=
  Rd_lit enc1_len h (by rw [flatI]; rfl)
theorem BI.new (w : World) (xs : List G) {g : Nat} (h : w.heap.size = g) : BI (w.alloc (.cells (ics xs) 3)) g xs := Blk.new w _ _ h
theorem BI.gb {w w' : World} {g g' : Nat} {xs : List G} (h : BI w g xs) (hg : Gb g' w w') (hne : g ≠ g') : BI w' g xs := Blk.gb h hg hne
theorem BI.lt {w : World} {g : Nat} {xs : List G} (h : BI w g xs) : g < w.heap.size := Blk.lt h
end Go.Proofs.YtpnkpejnahhajaaGreat

namespace Go.Proofs.YtpnkpejnahhajaaGreat
open Go.RowKit
set_option linter.unusedSimpArgs false

def dvK (xs : List G) (i : Nat) (f : G) (ys : List G) : List G := xs.take i ++ addL (xs.drop i) f ys
def codeL (xs : List G) (p : Nat) : List G := xs ++ chkL xs p
/-- data laid over the front, step by step. -/
def frontL (xs ys : List G) (i : Nat) : List G := xs.take i ++ ys.drop i
end Go.Proofs.YtpnkpejnahhajaaGreat

namespace Go.Proofs.YtpnkpejnahhajaaGreat

theorem val_app (a b : List G) (x : G) : val (a ++ b) x = val a x * gw x b.length + val b x := by
  induction a with
  | nil => rw [List.nil_append, val_nil, gzero_mul, gzero_add]
  | cons c r ih => rw [List.cons_append, val_cons, val_cons, ih, List.length_append, gw_add, gadd_mul, gmul_assoc, gadd_assoc]
theorem addL_val (f x : G) : ∀ (xs ys : List G), ys.length ≤ xs.length → val (addL xs f ys) x = val xs x + f * val ys x * gw x (xs.length - ys.length)
  | xs, [], _ => by rw [addL_nil, val_nil, gmul_zero, gzero_mul, gadd_zero]
  | [], _ :: _, h => by simp at h
  | a :: xs, b :: ys, h => by
    have h' : ys.length ≤ xs.length := by simpa using h
    have ih := addL_val f x xs ys h'
    simp only [addL, List.length_cons]
    rw [val_cons, val_cons, val_cons, ih, addL_len, show xs.length + 1 - (ys.length + 1) = xs.length - ys.length by omega]
    have e : gw x xs.length = gw x ys.length * gw x (xs.length - ys.length) := by rw [← gw_add]; congr 1; omega
    rw [gadd_mul, gmul_add, gadd_mul, gmul_assoc f b, e]
    simp only [gmul_assoc]
    exact gpair _ _ _ _
theorem val_zeros (k : Nat) (x : G) : val (List.replicate k g0) x = g0 := by
  induction k with
  | zero => rfl
  | succ k ih => rw [List.replicate_succ, val_cons, ih, gzero_mul, gzero_add]
theorem dvL_val {d r : List G} {x : G} (hd : val d x = g0) : ∀ i, i + d.length ≤ r.length + 1 → val (dvL d r i) x = val r x
  | 0, _ => rfl
  | i + 1, h => by
    rw [dvL_succ, val_app, addL_val _ _ _ _ (by rw [List.length_drop, dvL_len]; omega), hd, gmul_zero, gzero_mul, gadd_zero, addL_len, ← val_app, List.take_append_drop]
    exact dvL_val hd i (by omega)
theorem dvL_zero {d r : List G} (hd : d.head? = some g1) : ∀ i, i ≤ r.length → (dvL d r i).take i = List.replicate i g0
  | 0, _ => rfl
  | i + 1, h => by
    have ih := dvL_zero (d := d) (r := r) hd i (by omega)
    have hl : (dvL d r i).length = r.length := dvL_len _ _ _
    rw [dvL_succ, ih]
    have hc : (dvL d r i).drop i = (dvL d r i).getD i g0 :: (dvL d r i).drop (i + 1) := by
      rw [List.drop_eq_getElem_cons (by omega), List.getD_eq_getElem?_getD, List.getElem?_eq_getElem (by omega)]; rfl
    rw [hc]
    cases d with
    | nil => cases hd
    | cons a ds =>
      obtain rfl := Option.some.inj hd
      simp only [addL, gmul_one, gadd_self]
      rw [List.take_append, List.length_replicate, List.take_of_length_le (by simp), show i + 1 - i = 1 by omega, List.take_succ_cons, List.take_zero, ← List.replicate_succ']
theorem codeL_isB (xs : List G) (p : Nat) : isB (codeL xs p) p = true := by
  rw [isB_iff]
  intro t ht
  obtain ⟨d, hd⟩ : ∃ d, rootP ((List.range p).map gp) = d := ⟨_, rfl⟩
  have hdv : val d (gp t) = g0 := by
    rw [← hd, rootP_val]
    exact prodR_root (List.mem_map.2 ⟨t, by simpa using ht, rfl⟩)
  have hdl : d.length = p + 1 := by rw [← hd, rootP_len]; simp
  have hdh : d.head? = some g1 := by rw [← hd]; exact rootP_head _
  obtain ⟨r, hr⟩ : ∃ r, xs ++ List.replicate p g0 = r := ⟨_, rfl⟩
  have hrl : r.length = xs.length + p := by rw [← hr]; simp
  have h1 := dvL_val (r := r) hdv xs.length (by omega)
  have h2 := dvL_zero (r := r) hdh xs.length (by omega)
  have h3 : val (chkL xs p) (gp t) = val (dvL d r xs.length) (gp t) := by
    unfold chkL
    rw [hd, hr]
    conv => rhs; rw [← List.take_append_drop xs.length (dvL d r xs.length)]
    rw [val_app, h2, val_zeros, gzero_mul, gzero_add]
  unfold codeL
  rw [val_app, h3, h1, ← hr, val_app, val_zeros, gadd_zero, List.length_replicate]
  have h4 : (chkL xs p).length = p := by
    unfold chkL; rw [List.length_drop, dvL_len, List.length_append, List.length_replicate]; omega
  rw [h4, gadd_self]

theorem cnt_zero {f : Nat → Bool} {n : Nat} (h : ∀ i, i < n → f i = false) : cnt f n = 0 := by
  unfold cnt
  rw [List.length_eq_zero_iff, List.filter_eq_nil_iff]
  intro a ha; rw [h a (by simpa using ha)]; decide
theorem cnt_same (ws : List G) (n : Nat) : cnt (difB ws ws) n = 0 := cnt_zero (fun i _ => by unfold difB; simp)
theorem codeL_take (xs : List G) (p : Nat) : (codeL xs p).take xs.length = xs := by unfold codeL; exact List.take_left
theorem codeL_len' (xs : List G) (p : Nat) : (codeL xs p).length = xs.length + p := by
  unfold codeL chkL; rw [List.length_append, List.length_drop, dvL_len, List.length_append, List.length_replicate]; omega
end Go.Proofs.YtpnkpejnahhajaaGreat
