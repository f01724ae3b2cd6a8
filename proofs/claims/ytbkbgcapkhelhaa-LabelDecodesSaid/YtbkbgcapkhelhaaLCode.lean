/- Layer 3: codewords (mathematics): what Encode answers is a codeword, the only one that begins with the data; two codewords differ at more than p positions. -/
import Derived.Test.YtbkbgcapkhelhaaLDec
import Derived.Test.YtbkbgcapkhelhaaLRefE
namespace Go.Proofs.Ytbkbgcapkhelhaa

theorem val_app (a b : List G) (x : G) : val (a ++ b) x = val a x * gw x b.length + val b x := by
  induction a with
  | nil => rw [List.nil_append, val_nil, gzero_mul, gzero_add]
  | cons c r ih => rw [List.cons_append, val_cons, val_cons, ih, List.length_append, gw_add, gadd_mul, gmul_assoc, gadd_assoc]
theorem addL_val (f x : G) : ∀ (xs ys : List G), ys.length ≤ xs.length → val (addL xs f ys) x = val xs x + f * val ys x * gw x (xs.length - ys.length)
  | xs, [], _ => by rw [addL_nil, val_nil, gmul_zero, gzero_mul, gadd_zero]
  | [], _ :: _, h => by simp at h
  | a :: xs, b :: ys, h => by
    have h' : ys.length ≤ xs.length := by simpa using h
    have ih := addL_val f x xs ys h'
    simp only [addL, List.length_cons]
    rw [val_cons, val_cons, val_cons, ih, addL_len, show xs.length + 1 - (ys.length + 1) = xs.length - ys.length by omega]
    have e : gw x xs.length = gw x ys.length * gw x (xs.length - ys.length) := by rw [← gw_add]; congr 1; omega
    rw [gadd_mul, gmul_add, gadd_mul, gmul_assoc f b, e]
    simp only [gmul_assoc]
    exact gpair _ _ _ _
theorem val_zeros (k : Nat) (x : G) : val (List.replicate k g0) x = g0 := by
  induction k with
  | zero => rfl
  | succ k ih => rw [List.replicate_succ, val_cons, ih, gzero_mul, gzero_add]
theorem dvL_val {d r : List G} {x : G} (hd : val d x = g0) : ∀ i, i + d.length ≤ r.length + 1 → val (dvL d r i) x = val r x
  | 0, _ => rfl
  | i + 1, h => by
    rw [dvL_succ, val_app, addL_val _ _ _ _ (by rw [List.length_drop, dvL_len]; omega), hd, gmul_zero, gzero_mul, gadd_zero, addL_len, ← val_app, List.take_append_drop]
    exact dvL_val hd i (by omega)
theorem dvL_zero {d r : List G} (hd : d.head? = some g1) : ∀ i, i ≤ r.length → (dvL d r i).take i = List.replicate i g0
  | 0, _ => rfl
  | i + 1, h => by
    have ih := dvL_zero (d := d) (r := r) hd i (by omega)
    have hl : (dvL d r i).length = r.length := dvL_len _ _ _
    rw [dvL_succ, ih]
    have hc : (dvL d r i).drop i = (dvL d r i).getD i g0 :: (dvL d r i).drop (i + 1) := by
      rw [List.drop_eq_getElem_cons (by omega), List.getD_eq_getElem?_getD, List.getElem?_eq_getElem (by omega)]; rfl
    rw [hc]
    cases d with
    | nil => cases hd
    | cons a ds =>
      obtain rfl := Option.some.inj hd
      simp only [addL, gmul_one, gadd_self]
      rw [List.take_append, List.length_replicate, List.take_of_length_le (by simp), show i + 1 - i = 1 by omega, List.take_succ_cons, List.take_zero, ← List.replicate_succ']
theorem codeL_isB (xs : List G) (p : Nat) : isB (codeL xs p) p = true := by
  rw [isB_iff]
  intro t ht
  obtain ⟨d, hd⟩ : ∃ d, rootP ((List.range p).map gp) = d := ⟨_, rfl⟩
  have hdv : val d (gp t) = g0 := by
    rw [← hd, rootP_val]
    exact prodR_root (List.mem_map.2 ⟨t, by simpa using ht, rfl⟩)
  have hdl : d.length = p + 1 := by rw [← hd, rootP_len]; simp
  have hdh : d.head? = some g1 := by rw [← hd]; exact rootP_head _
  obtain ⟨r, hr⟩ : ∃ r, xs ++ List.replicate p g0 = r := ⟨_, rfl⟩
  have hrl : r.length = xs.length + p := by rw [← hr]; simp
  have h1 := dvL_val (r := r) hdv xs.length (by omega)
  have h2 := dvL_zero (r := r) hdh xs.length (by omega)
  have h3 : val (chkL xs p) (gp t) = val (dvL d r xs.length) (gp t) := by
    unfold chkL
    rw [hd, hr]
    conv => rhs; rw [← List.take_append_drop xs.length (dvL d r xs.length)]
    rw [val_app, h2, val_zeros, gzero_mul, gzero_add]
  unfold codeL
  rw [val_app, h3, h1, ← hr, val_app, val_zeros, gadd_zero, List.length_replicate]
  have h4 : (chkL xs p).length = p := by
    unfold chkL; rw [List.length_drop, dvL_len, List.length_append, List.length_replicate]; omega
  rw [h4, gadd_self]

/-- Two codewords that differ at no more than p positions are the same. -/
theorem code_apart {ws cs : List G} {n p : Nat} (hn : n ≤ 255) (hw : ws.length = n) (hc : cs.length = n) (hB : isB cs p = true) (hA : isB ws p = true) (h : cnt (difB ws cs) n ≤ p) : ws = cs := by
  obtain ⟨E, hE⟩ : ∃ E, (posL n (difB ws cs)).map (fun i => (plc n i, dlt ws cs i)) = E := ⟨_, rfl⟩
  have hl : E.length ≤ p := by rw [← hE, List.length_map]; exact h
  have hz := no_errors (E := E) (by rw [← hE, List.map_map]; exact plcs_nodup hn _ (posL_nodup _ _) posL_lt) (fun t ht => by
    have h1 := syn_es (f := difB ws cs) hw hc hB (fun i _ h => h) (show t < p by omega)
    rw [hE] at h1
    rw [← h1, synL_at (by omega)]
    exact isB_iff.1 hA t (by omega))
  refine list_eq_getD (by rw [hw, hc]) (fun j hj => ?_)
  rw [hw] at hj
  rcases hd : difB ws cs j with _ | _
  · exact gadd_eq (dlt_zero.2 hd)
  · have := hz (plc n j, dlt ws cs j) (by rw [← hE]; exact List.mem_map.2 ⟨j, mem_posL.2 ⟨hj, hd⟩, rfl⟩)
    rw [dlt_zero.1 this] at hd
    cases hd
theorem cnt_zero {f : Nat → Bool} {n : Nat} (h : ∀ i, i < n → f i = false) : cnt f n = 0 := by
  unfold cnt
  rw [List.length_eq_zero_iff, List.filter_eq_nil_iff]
  intro a ha; rw [h a (by simpa using ha)]; decide
theorem cnt_same (ws : List G) (n : Nat) : cnt (difB ws ws) n = 0 := cnt_zero (fun i _ => by unfold difB; simp)
theorem cnt_tail {f : Nat → Bool} {k : Nat} (h : ∀ i, i < k → f i = false) : ∀ m, cnt f (k + m) ≤ m
  | 0 => by rw [Nat.add_zero, cnt_zero h]; exact Nat.le_refl _
  | m + 1 => by
    have := cnt_tail h m
    rw [show k + (m + 1) = (k + m) + 1 by omega, cnt_succ]
    split <;> omega
theorem codeL_take (xs : List G) (p : Nat) : (codeL xs p).take xs.length = xs := by unfold codeL; exact List.take_left
theorem codeL_len' (xs : List G) (p : Nat) : (codeL xs p).length = xs.length + p := by
  unfold codeL chkL; rw [List.length_append, List.length_drop, dvL_len, List.length_append, List.length_replicate]; omega
/-- The codeword that begins so. -/
theorem code_only {cs : List G} {n p : Nat} (hn : n + p ≤ 255) (hc : cs.length = n + p) (hB : isB cs p = true) : codeL (cs.take n) p = cs := by
  have hl : (cs.take n).length = n := by rw [List.length_take]; omega
  have hcl : (codeL (cs.take n) p).length = n + p := by rw [codeL_len', hl]
  refine code_apart hn hcl hc hB (codeL_isB _ _) (cnt_tail (fun i hi => ?_) p)
  unfold difB
  have e : (codeL (cs.take n) p).getD i g0 = cs.getD i g0 := by
    have h1 := codeL_take (cs.take n) p
    rw [hl] at h1
    have h2 : ((codeL (cs.take n) p).take n).getD i g0 = (codeL (cs.take n) p).getD i g0 := by
      rw [List.getD_eq_getElem?_getD, List.getD_eq_getElem?_getD, List.getElem?_take, if_pos hi]
    have h3 : (cs.take n).getD i g0 = cs.getD i g0 := by
      rw [List.getD_eq_getElem?_getD, List.getD_eq_getElem?_getD, List.getElem?_take, if_pos hi]
    rw [← h2, h1, h3]
  rw [e]; simp
/-- Of two different data the codewords differ at more than p positions. -/
theorem code_far {xs ys : List G} {p : Nat} (hl : ys.length = xs.length) (hn : xs.length + p ≤ 255) (hne : xs ≠ ys) : p < cnt (difB (codeL xs p) (codeL ys p)) (xs.length + p) := by
  refine Nat.lt_of_not_le fun h => hne ?_
  have := code_apart hn (codeL_len' xs p) (by rw [codeL_len', hl]) (codeL_isB ys p) (codeL_isB xs p) h
  rw [← codeL_take xs p, this, ← hl, codeL_take]
/-- Sums and multiples of codewords. -/
theorem val_sum (x : G) : ∀ (a b : List G), a.length = b.length → val (List.zipWith (· + ·) a b) x = val a x + val b x := fun a b h => val_zip a b h x
theorem sum_isB {a b : List G} {p : Nat} (h : a.length = b.length) (ha : isB a p = true) (hb : isB b p = true) : isB (List.zipWith (· + ·) a b) p = true := by
  rw [isB_iff] at ha hb ⊢
  intro t ht
  rw [val_sum _ _ _ h, ha t ht, hb t ht, gadd_zero]
theorem times_isB {a : List G} {p : Nat} (k : G) (ha : isB a p = true) : isB (a.map (· * k)) p = true := by
  rw [isB_iff] at ha ⊢
  intro t ht
  rw [val_scale, ha t ht, gzero_mul]
end Go.Proofs.Ytbkbgcapkhelhaa
