/- Layer 4: the times of a task, sorted, each once. -/
import Derived.Test.YtpnkpejnahhajaaGreatShelf
import Derived.Test.YtpnkpejnahhajaaGreatBc23
import Derived.Test.YtpnkpejnahhajaaGreatBc30
import Derived.Lib.OwnBridge
namespace Go.Proofs.YtpnkpejnahhajaaGreat
open Go.RowKit Go.Shelf Go.Lib Go.Sort
set_option linter.unusedSimpArgs false

/-! ### Lists -/
def cfI (x y : Int) : Int := sgn (x - y)
theorem ltI (x y : Int) : ltOf cfI x y = decide (x < y) := by
  unfold ltOf cfI
  congr 1
  apply propext
  unfold sgn
  constructor
  · intro h; split at h <;> (repeat' split at h) <;> omega
  · intro h; split <;> (repeat' split) <;> omega
theorem swoI : SWO (ltOf cfI) where
  irrefl x := by rw [ltI]; simp
  trans x y z h1 h2 := by rw [ltI] at *; simp only [decide_eq_true_eq] at *; omega
  ntrans x y z h1 h2 := by rw [ltI] at *; simp only [decide_eq_false_iff_not] at *; omega
def srtI (zs : List Int) : List Int := zs.mergeSort fun x y => !(ltOf cfI y x)
theorem srtI_len (zs : List Int) : (srtI zs).length = zs.length := List.length_mergeSort _
theorem srtI_mem (zs : List Int) (x : Int) : x ∈ srtI zs ↔ x ∈ zs := (List.mergeSort_perm zs _).mem_iff
theorem srtI_asc (zs : List Int) : (srtI zs).Pairwise (· ≤ ·) := by
  have h := List.pairwise_mergeSort (le := fun x y => !(ltOf cfI y x)) (fun a b c h1 h2 => by simp only [ltI] at *; simp at *; omega) (fun a b => by simp only [ltI]; simp; omega) zs
  exact h.imp fun {a b} h => by simp only [ltI] at h; simpa using h

theorem keeps_iff (d : Array Int) (j : Nat) : keeps d j = true ↔ j = 0 ∨ d[j]! ≠ d[j - 1]! := by
  rcases Nat.eq_zero_or_pos j with e | e
  · subst e; simp [keeps_lt_one d 0 (by omega)]
  · constructor
    · intro h; exact Or.inr (fun e' => by rw [keeps_neg e e'] at h; cases h)
    · rintro (h | h)
      · omega
      · exact keeps_pos h
theorem comp_mem {d : Array Int} : ∀ (m j : Nat), j < m → d[j]! ∈ compactUpTo d m
  | 0, _, h => by omega
  | m + 1, j, h => by
    rw [compactUpTo_succ]
    rcases Nat.lt_or_ge j m with c | c
    · exact List.mem_append.2 (Or.inl (comp_mem m j c))
    · obtain rfl : j = m := by omega
      by_cases k : keeps d j = true
      · rw [if_pos k]; simp
      · have e : ¬ (j = 0 ∨ d[j]! ≠ d[j - 1]!) := fun h => k ((keeps_iff d j).2 h)
        have hj : j ≠ 0 := fun h => e (Or.inl h)
        have he : d[j]! = d[j - 1]! := Classical.byContradiction fun h => e (Or.inr h)
        rw [he]
        exact List.mem_append.2 (Or.inl (comp_mem j (j - 1) (by omega)))
theorem comp_sub {d : Array Int} (m : Nat) (x : Int) (h : x ∈ compactUpTo d m) : ∃ j, j < m ∧ x = d[j]! := by
  unfold compactUpTo at h
  obtain ⟨j, hj, rfl⟩ := List.mem_map.1 h
  exact ⟨j, by simpa using (List.mem_filter.1 hj).1, rfl⟩
theorem comp_asc {d : Array Int} (hd : ∀ i j, i ≤ j → j < d.size → d[i]! ≤ d[j]!) : ∀ m, m ≤ d.size → (compactUpTo d m).Pairwise (· < ·)
  | 0, _ => by simp [compactUpTo]
  | m + 1, hm => by
    rw [compactUpTo_succ]
    by_cases k : keeps d m = true
    · rw [if_pos k]
      refine List.pairwise_append.2 ⟨comp_asc hd m (by omega), List.pairwise_singleton _ _, fun x hx y hy => ?_⟩
      obtain rfl := List.mem_singleton.1 hy
      obtain ⟨j, hj, rfl⟩ := comp_sub m x hx
      rcases (keeps_iff d m).1 k with e | e
      · omega
      · have h1 := hd j (m - 1) (by omega) (by omega)
        have h2 := hd (m - 1) m (by omega) (by omega)
        omega
    · rw [if_neg k, List.append_nil]; exact comp_asc hd m (by omega)

/-- The numbers of a list, ascending, each once. -/
def timesL (zs : List Int) : List Int := compact (srtI zs)
theorem timesL_mem (zs : List Int) (x : Int) : x ∈ timesL zs ↔ x ∈ zs := by
  refine Iff.trans ?_ (srtI_mem zs x)
  unfold timesL compact
  constructor
  · intro h
    obtain ⟨j, hj, rfl⟩ := comp_sub _ x h
    rw [getElem!_pos (srtI zs).toArray j (by simpa using hj)]
    simp
  · intro h
    obtain ⟨j, hj, rfl⟩ := List.mem_iff_getElem.1 h
    have := comp_mem (d := (srtI zs).toArray) (srtI zs).length j hj
    rw [getElem!_pos (srtI zs).toArray j (by simpa using hj)] at this
    simpa using this
theorem timesL_asc (zs : List Int) : (timesL zs).Pairwise (· < ·) := by
  unfold timesL compact
  refine comp_asc (fun i j hij hj => ?_) _ (by simp)
  have hs := srtI_asc zs
  have hj' : j < (srtI zs).length := by simpa using hj
  rw [getElem!_pos (srtI zs).toArray i (by simp; omega), getElem!_pos (srtI zs).toArray j hj]
  rcases Nat.lt_or_ge i j with c | c
  · simpa using List.pairwise_iff_getElem.1 hs i j (by omega) hj' c
  · obtain rfl : i = j := by omega
    exact Int.le_refl _
theorem timesL_len (zs : List Int) : (timesL zs).length ≤ zs.length := by
  rw [← srtI_len zs]
  unfold timesL compact compactUpTo
  rw [List.length_map]
  have := List.length_filter_le (keeps (srtI zs).toArray) (List.range (srtI zs).length)
  simpa using this
/-! ### In memory -/
theorem flat1_map (zs : List Int) : flatE enc1 zs = zs.map (Value.int .i64) := by
  induction zs with
  | nil => rfl
  | cons x r ih => simp only [flatE, List.flatMap_cons, List.map_cons] at *; rw [ih]; rfl
theorem gb_putRow {w : World} {g q : Nat} {d : Array Int} : Gb g w (putRow (Value.int .i64) (Sort.ahead w q) g 0 d) :=
  ⟨rfl, rfl, rfl, by simp [putRow, mapBlock, Sort.ahead], fun i _ hn => by
    simp [putRow, mapBlock, Sort.ahead, Array.getElem?_modify, show g ≠ i from fun e => hn (by rw [e])]⟩
theorem gr_grow (w : World) (os : Array Obj) : Gr w (Sort.grow w os) :=
  ⟨rfl, rfl, rfl, by simp [Sort.grow], fun i hi => by simp [Sort.grow, Array.getElem?_append_left hi]⟩

set_option maxHeartbeats 1000000 in
theorem sortI_any (g c base : Nat) (zs : List Int) (w : World) (hl : zs.length ≤ 4096) (ho : w.ownsRow base 3 1 (.slice (some ⟨g, 0, none⟩) zs.length c) zs.length (flatE enc1 zs)) :
    Calls Tryz.prog 113 #[.slice (some ⟨g, 0, none⟩) zs.length c, .func (.func 71) #[] #[]] w fun e w' => e = .returned (.tuple #[]) ∧ w'.ownsRow base 3 1 (.slice (some ⟨g, 0, none⟩) zs.length c) zs.length (flatE enc1 (srtI zs)) ∧ Gb g w w' := by
  have eg : ∀ args w, (callFunc 71 args).run Tryz.prog w = .ok (.enter 71 args) w := enters_of Tryz.func71 (by kernel_rfl) rfl
  rw [flat1_map] at ho
  obtain ⟨g', cap, e, hb, hlt, hn, hm, hz, hH⟩ := holds_of_ownsRow ho (by simp)
  injection e with e1 _ e3
  injection e1 with e1
  injection e1 with e1
  subst e1; subst e3
  have hcmp : CmpReads Tryz.prog 71 #[] (Value.int .i64) cfI g 0 zs.toArray.size w := fun m os dk _ x y => (cmp_any x y _).mono fun e w' ⟨he, hw⟩ => ⟨he, 0, by rw [← hw]; rfl⟩
  have h := Any.slices_SortFunc_total Try.sortInts (Value.int .i64) (fun _ => rfl) cfI swoI 71 #[] g 0 c zs.toArray w eg hcmp.lays hH hlt (by simp; omega) (fun x y h1 h2 => by
    rw [ltI] at h1 h2
    simp only [decide_eq_false_iff_not] at h1 h2
    omega)
  change Calls Tryz.prog 113 _ _ _ at h
  have e : zs.toArray.size = zs.length := by simp
  rw [e] at h
  refine h.mono ?_
  rintro e w' ⟨rfl, n, os, rfl⟩
  refine ⟨rfl, ?_, ?_⟩
  · have := ownsRow_putRow (q := n) (k := zs.length) ho (ys := srtI zs) (srtI_len zs) (Nat.le_refl _)
    rw [List.take_of_length_le (by rw [srtI_len]; exact Nat.le_refl _), ← flat1_map] at this
    exact owns_gr this (gr_grow _ os)
  · exact (gb_putRow (q := n) (d := (srtI zs).toArray)).trans (Gb.of (gr_grow _ os) g)

theorem compI_any (g c base : Nat) (zs : List Int) (w : World) (hl : zs.length ≤ 4096) (hc : zs.length ≤ c) (ho : w.ownsRow base 3 1 (.slice (some ⟨g, 0, none⟩) zs.length c) zs.length (flatE enc1 zs)) :
    Calls Tryz.prog 69 #[.slice (some ⟨g, 0, none⟩) zs.length c] w fun e w' => e = .returned (.slice (some ⟨g, 0, none⟩) (compact zs).length c) ∧ w'.ownsRow base 3 1 (.slice (some ⟨g, 0, none⟩) (compact zs).length c) (compact zs).length (flatE enc1 (compact zs)) ∧ Gb g w w' := by
  rw [flat1_map] at ho
  obtain ⟨g', cap, e, hb, hlt, hn, hm, hz, hH⟩ := holds_of_ownsRow ho (by simp)
  injection e with e1 _ e3
  injection e1 with e1
  injection e1 with e1
  subst e1; subst e3
  have h := AnyG.slices_Compact_int Try.compInts g 0 c zs w hH (by omega) hc
  change Calls Tryz.prog 69 _ _ _ at h
  refine h.mono ?_
  rintro e w' ⟨rfl, q, rfl⟩
  have hcl : (compact zs).length ≤ zs.length := by
    unfold compact compactUpTo
    rw [List.length_map]
    have := List.length_filter_le (keeps zs.toArray) (List.range zs.length)
    simpa using this
  refine ⟨rfl, ?_, gb_putRow⟩
  have := ownsRow_putRow (q := q) (k := (compact zs).length) ho (ys := compact zs ++ List.replicate (zs.length - (compact zs).length) 0) (by simp; omega) hcl
  rw [List.take_append_of_le_length (Nat.le_refl _), List.take_of_length_le (Nat.le_refl _), ← flat1_map] at this
  exact this

end Go.Proofs.YtpnkpejnahhajaaGreat
