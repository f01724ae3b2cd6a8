/- Layer 4: the times of a task, sorted, each once. -/
import Derived.Test.YtobcdkjomehdkaaGreatShelf
import Derived.Test.YtobcdkjomehdkaaGreatBu26
import Derived.Test.YtobcdkjomehdkaaGreatBu32
import Derived.Lib.OwnBridge
import Derived.Deep.CutRange
import Derived.Deep.AppendLies
import Derived.Test.YtobcdkjomehdkaaGreatBu34
namespace Go.Proofs.YtobcdkjomehdkaaGreat
open Go.RowKit Go.Shelf Go.Lib Go.Sort
set_option linter.unusedSimpArgs false
set_option maxRecDepth 100000
set_option maxHeartbeats 80000000

/-! ### Lists -/
def cfI (x y : Int) : Int := sgn (x - y)
theorem ltI (x y : Int) : ltOf cfI x y = decide (x < y) := by
 unfold ltOf cfI
 congr 1
 apply propext
 unfold sgn
 constructor
 ·intro h; split at h <;> (repeat' split at h) <;> omega
 ·intro h; split <;> (repeat' split) <;> omega
theorem swoI : SWO (ltOf cfI) where
 irrefl x := by rw [ltI]; simp
 trans x y z h1 h2 := by rw [ltI] at *; simp only [decide_eq_true_eq] at *; omega
 ntrans x y z h1 h2 := by rw [ltI] at *; simp only [decide_eq_false_iff_not] at *; omega
def srtI (zs : List Int) : List Int := zs.mergeSort fun x y => !(ltOf cfI y x)
theorem srtI_len (zs : List Int) : (srtI zs).length = zs.length := List.length_mergeSort _
theorem srtI_mem (zs : List Int) (x : Int) : x ∈ srtI zs ↔ x ∈ zs := (List.mergeSort_perm zs _).mem_iff
theorem srtI_asc (zs : List Int) : (srtI zs).Pairwise (· ≤ ·) := by
 have h := List.pairwise_mergeSort (le := fun x y => !(ltOf cfI y x)) (fun a b c h1 h2 => by simp only [ltI] at *; simp at *; omega) (fun a b => by simp only [ltI]; simp; omega) zs
 exact h.imp fun {a b} h => by simp only [ltI] at h; simpa using h

theorem keeps_iff (d : Array Int) (j : Nat) : keeps d j = true ↔ j = 0 ∨ d[j]! ≠ d[j - 1]! := by
 rcases Nat.eq_zero_or_pos j with e | e
 ·subst e; simp [keeps_lt_one d 0 (by omega)]
 ·constructor
  ·intro h; exact Or.inr (fun e' => by rw [keeps_neg e e'] at h; cases h)
  ·rintro (h | h)
   ·omega
   ·exact keeps_pos h
theorem comp_mem {d : Array Int} : ∀ (m j : Nat), j < m → d[j]! ∈ compactUpTo d m
 | 0, _, h => by omega
 | m + 1, j, h => by
   rw [compactUpTo_succ]
   rcases Nat.lt_or_ge j m with c | c
   ·exact List.mem_append.2 (Or.inl (comp_mem m j c))
   ·obtain rfl : j = m := by omega
    by_cases k : keeps d j = true
    ·rw [if_pos k]; simp
    ·have e : ¬ (j = 0 ∨ d[j]! ≠ d[j - 1]!) := fun h => k ((keeps_iff d j).2 h)
     have hj : j ≠ 0 := fun h => e (Or.inl h)
     have he : d[j]! = d[j - 1]! := Classical.byContradiction fun h => e (Or.inr h)
     rw [he]
     exact List.mem_append.2 (Or.inl (comp_mem j (j - 1) (by omega)))
theorem comp_sub {d : Array Int} (m : Nat) (x : Int) (h : x ∈ compactUpTo d m) : ∃ j, j < m ∧ x = d[j]! := by
 unfold compactUpTo at h
 obtain ⟨j, hj, rfl⟩ := List.mem_map.1 h
 exact ⟨j, by simpa using (List.mem_filter.1 hj).1, rfl⟩
theorem comp_asc {d : Array Int} (hd : ∀ i j, i ≤ j → j < d.size → d[i]! ≤ d[j]!) : ∀ m, m ≤ d.size → (compactUpTo d m).Pairwise (· < ·)
 | 0, _ => by simp [compactUpTo]
 | m + 1, hm => by
   rw [compactUpTo_succ]
   by_cases k : keeps d m = true
   ·rw [if_pos k]
    refine List.pairwise_append.2 ⟨comp_asc hd m (by omega), List.pairwise_singleton _ _, fun x hx y hy => ?_⟩
    obtain rfl := List.mem_singleton.1 hy
    obtain ⟨j, hj, rfl⟩ := comp_sub m x hx
    rcases (keeps_iff d m).1 k with e | e
    ·omega
    ·have h1 := hd j (m - 1) (by omega) (by omega)
     have h2 := hd (m - 1) m (by omega) (by omega)
     omega
   ·rw [if_neg k, List.append_nil]; exact comp_asc hd m (by omega)

def timesL (zs : List Int) : List Int := compact (srtI zs)
theorem timesL_mem (zs : List Int) (x : Int) : x ∈ timesL zs ↔ x ∈ zs := by
 refine Iff.trans ?_ (srtI_mem zs x)
 unfold timesL compact
 constructor
 ·intro h
  obtain ⟨j, hj, rfl⟩ := comp_sub _ x h
  rw [getElem!_pos (srtI zs).toArray j (by simpa using hj)]
  simp
 ·intro h
  obtain ⟨j, hj, rfl⟩ := List.mem_iff_getElem.1 h
  have := comp_mem (d := (srtI zs).toArray) (srtI zs).length j hj
  rw [getElem!_pos (srtI zs).toArray j (by simpa using hj)] at this
  simpa using this
theorem timesL_asc (zs : List Int) : (timesL zs).Pairwise (· < ·) := by
 unfold timesL compact
 refine comp_asc (fun i j hij hj => ?_) _ (by simp)
 have hs := srtI_asc zs
 have hj' : j < (srtI zs).length := by simpa using hj
 rw [getElem!_pos (srtI zs).toArray i (by simp; omega), getElem!_pos (srtI zs).toArray j hj]
 rcases Nat.lt_or_ge i j with c | c
 ·simpa using List.pairwise_iff_getElem.1 hs i j (by omega) hj' c
 ·obtain rfl : i = j := by omega
  exact Int.le_refl _
theorem timesL_len (zs : List Int) : (timesL zs).length ≤ zs.length := by
 rw [← srtI_len zs]
 unfold timesL compact compactUpTo
 rw [List.length_map]
 have := List.length_filter_le (keeps (srtI zs).toArray) (List.range (srtI zs).length)
 simpa using this
/-! ### In memory -/
theorem flat1_map (zs : List Int) : flatE enc1 zs = zs.map (Value.int .i64) := by
 induction zs with
 | nil => rfl
 | cons x r ih => simp only [flatE, List.flatMap_cons, List.map_cons] at *; rw [ih]; rfl
theorem gb_putRow {w : World} {g q : Nat} {d : Array Int} : Gb g w (putRow (Value.int .i64) (Sort.ahead w q) g 0 d) :=
 ⟨rfl, rfl, rfl, by simp [putRow, mapBlock, Sort.ahead], fun i _ hn => by
   simp [putRow, mapBlock, Sort.ahead, Array.getElem?_modify, show g ≠ i from fun e => hn (by rw [e])]⟩
theorem gr_grow (w : World) (os : Array Obj) : Gr w (Sort.grow w os) :=
 ⟨rfl, rfl, rfl, by simp [Sort.grow], fun i hi => by simp [Sort.grow, Array.getElem?_append_left hi]⟩

theorem sortI_any (g c base : Nat) (zs : List Int) (w : World) (hl : zs.length ≤ 4096) (ho : w.ownsRow base 3 1 (.slice (some ⟨g, 0, none⟩) zs.length c) zs.length (flatE enc1 zs)) :
 Calls Tryz.prog 100 #[.slice (some ⟨g, 0, none⟩) zs.length c, .func (.func 77) #[] #[]] w fun e w' => e = .returned (.tuple #[]) ∧ w'.ownsRow base 3 1 (.slice (some ⟨g, 0, none⟩) zs.length c) zs.length (flatE enc1 (srtI zs)) ∧ Gb g w w' := by
 have eg : ∀ args w, (callFunc 77 args).run Tryz.prog w = .ok (.enter 77 args) w := enters_of Tryz.func77 (by kernel_rfl) rfl
 rw [flat1_map] at ho
 obtain ⟨g', cap, e, hb, hlt, hn, hm, hz, hH⟩ := holds_of_ownsRow ho (by simp)
 injection e with e1 _ e3
 injection e1 with e1
 injection e1 with e1
 subst e1; subst e3
 have hcmp : CmpReads Tryz.prog 77 #[] (Value.int .i64) cfI g 0 zs.toArray.size w := fun m os dk _ x y => (cmp_any x y _).mono fun e w' ⟨he, hw⟩ => ⟨he, 0, by rw [← hw]; rfl⟩
 have h := Any.slices_SortFunc_total Try.sortInts (Value.int .i64) (fun _ => rfl) cfI swoI 77 #[] g 0 c zs.toArray w eg hcmp.lays hH hlt (by simp; omega) (fun x y h1 h2 => by
  rw [ltI] at h1 h2
  simp only [decide_eq_false_iff_not] at h1 h2
  omega)
 change Calls Tryz.prog 100 _ _ _ at h
 have e : zs.toArray.size = zs.length := by simp
 rw [e] at h
 refine h.mono ?_
 rintro e w' ⟨rfl, n, os, rfl⟩
 refine ⟨rfl, ?_, ?_⟩
 ·have := ownsRow_putRow (q := n) (k := zs.length) ho (ys := srtI zs) (srtI_len zs) (Nat.le_refl _)
  rw [List.take_of_length_le (by rw [srtI_len]; exact Nat.le_refl _), ← flat1_map] at this
  exact owns_gr this (gr_grow _ os)
 ·exact (gb_putRow (q := n) (d := (srtI zs).toArray)).trans (Gb.of (gr_grow _ os) g)

theorem compI_any (g c base : Nat) (zs : List Int) (w : World) (hl : zs.length ≤ 4096) (hc : zs.length ≤ c) (ho : w.ownsRow base 3 1 (.slice (some ⟨g, 0, none⟩) zs.length c) zs.length (flatE enc1 zs)) :
 Calls Tryz.prog 75 #[.slice (some ⟨g, 0, none⟩) zs.length c] w fun e w' => e = .returned (.slice (some ⟨g, 0, none⟩) (compact zs).length c) ∧ w'.ownsRow base 3 1 (.slice (some ⟨g, 0, none⟩) (compact zs).length c) (compact zs).length (flatE enc1 (compact zs)) ∧ Gb g w w' := by
 rw [flat1_map] at ho
 obtain ⟨g', cap, e, hb, hlt, hn, hm, hz, hH⟩ := holds_of_ownsRow ho (by simp)
 injection e with e1 _ e3
 injection e1 with e1
 injection e1 with e1
 subst e1; subst e3
 have h := AnyG.slices_Compact_int Try.compInts g 0 c zs w hH (by omega) hc
 change Calls Tryz.prog 75 _ _ _ at h
 refine h.mono ?_
 rintro e w' ⟨rfl, q, rfl⟩
 have hcl : (compact zs).length ≤ zs.length := by
  unfold compact compactUpTo
  rw [List.length_map]
  have := List.length_filter_le (keeps zs.toArray) (List.range zs.length)
  simpa using this
 refine ⟨rfl, ?_, gb_putRow⟩
 have := ownsRow_putRow (q := q) (k := (compact zs).length) ho (ys := compact zs ++ List.replicate (zs.length - (compact zs).length) 0) (by simp; omega) hcl
 rw [List.take_append_of_le_length (Nat.le_refl _), List.take_of_length_le (Nat.le_refl _), ← flat1_map] at this
 exact this

end Go.Proofs.YtobcdkjomehdkaaGreat

namespace Go.Proofs.YtobcdkjomehdkaaGreat
open Go.RowKit
set_option linter.unusedSimpArgs false
set_option maxRecDepth 100000
set_option maxHeartbeats 80000000

def CloneJPost (ns : List Int) (w : World) (e : Ending) (w' : World) : Prop :=
 ∃ g c, e = .returned (.slice (some ⟨g, 0, none⟩) ns.length c) ∧ ns.length ≤ c ∧ w.heap.size ≤ g ∧ w'.ownsRow w.heap.size 3 1 (.slice (some ⟨g, 0, none⟩) ns.length c) ns.length (flatE enc1 ns) ∧ Gr w w'

theorem cloneJ_any (b off n c : Nat) (ns : List Int) (w : World) (hn : ns.length = n) (hl : n ≤ 4096) (hp : Ints w (some ⟨b, off, none⟩) ns) :
 Calls Tryz.prog 65 #[.slice (some ⟨b, off, none⟩) n c] w (CloneJPost ns w) := by
 obtain ⟨i0, hi, hz0, hz1, hz2⟩ := info_parts Tryz.infoBnI
 have q : ∀ (w : World) (a : Option Addr) (n c n' c' : Nat), (binOp .eql 25 (.slice a n c) (.slice none n' c')).run Tryz.prog w = .ok (.bool a.isNone) w := fun w a n c n' c' => Lib.run_eql_slice_nil w _ _ a n c n' c' Tryz.underlying25
 have HN := Lib.hid hn
 have HP := Lib.hid hp
 clear hn hp
 go_enter Tryz.func65, Tryz.ntmps65
 go_wp2_with (at_builtin; refine wpList_append_own _ rfl _ _ 25 rfl w.heap.size 3 i0 _ 1 8 Tryz.underlying25 hi hz0 hz1 hz2 rfl (by decide) _ _ _ rfl (World.ownsRow_made w #[] 0 (Nat.le_refl _) (Nat.zero_le _) (by simp)) ⟨b, off, none⟩ n c (flatE enc1 ns) rfl ?qc1 ?qc2 ?qc3 ?qc4 ?qc5 ?qc6 ?_)
 case qc1 => rw [flatE_len enc1_len, HN.out]
 case qc2 =>
  intro j u hj
  rw [Addr.add_lit]
  exact alloc_old (flatE_cells enc1_len (by decide) HP.out j u hj)
 case qc3 => exact oneCell_flat enc1_one ns
 case qc4 => unfold maxLen; omega
 case qc5 => omega
 case qc6 => simp
 intro v' w1 hown hgrow hnil
 have hown' : w1.ownsRow w.heap.size 3 1 v' n (flatE enc1 ns) := by simpa using hown
 have HO := Lib.hid hown'
 have HG := Lib.hid hgrow
 have HNIL := Lib.hid hnil
 clear hown hgrow hnil hi hz0 hz1 hz2 q hown'
 go_wp2
 go_ret
 rcases HO.out.2 with ⟨ev, _⟩ | ⟨g, cap, cur, rfl, hg, _, hnc, _⟩
 ·exact (HNIL.out ev).elim
 ·refine ⟨g, cap, by rw [HN.out]; rfl, by rw [HN.out]; exact hnc, hg, by rw [HN.out]; exact HO.out, ?_⟩
  exact ((Below.refl _ w).alloc (Nat.le_refl _) _).grown HG.out (by simp) (by intro k hk; simp [Value.ownBlock] at hk; omega)

theorem sortedI_any (b off n c : Nat) (ns : List Int) (w : World) (hn : ns.length = n) (hl : n ≤ 4096) (hp : Ints w (some ⟨b, off, none⟩) ns) :
 Calls Tryz.prog 76 #[.slice (some ⟨b, off, none⟩) n c, .func (.func 77) #[] #[]] w fun e w' => ∃ g c', e = .returned (.slice (some ⟨g, 0, none⟩) n c') ∧ n ≤ c' ∧ w.heap.size ≤ g ∧ w'.ownsRow w.heap.size 3 1 (.slice (some ⟨g, 0, none⟩) n c') n (flatE enc1 (srtI ns)) ∧ Gr w w' := by
 have HC := Lib.hid (cloneJ_any b off n c ns w hn hl hp)
 have HN := Lib.hid hn
 clear hn hp
 go_enter Tryz.func76, Tryz.ntmps76
 go_wp2_with fail
 refine HC.out.mono ?_
 rintro e w1 ⟨g, c1, rfl, hc, hg, hown, hgr⟩
 have HS := Lib.hid (sortI_any g c1 w.heap.size ns w1 (by rw [HN.out]; exact hl) hown)
 rw [HN.out] at hc HS ⊢
 clear hown HC
 go_wp2_with fail
 refine HS.out.mono ?_
 rintro e w2 ⟨rfl, hown2, hgb⟩
 have HO2 := Lib.hid hown2
 clear hown2 HS
 go_wp2_with fail
 go_ret
 exact ⟨g, c1, rfl, hc, hg, HO2.out, hgb.gr hgr hg⟩

def tmL (l : List Jb) : List Int := l.flatMap fun j => [j.1, j.2.1]
theorem tmL_snoc (l : List Jb) (j : Jb) : tmL (l ++ [j]) = tmL l ++ [j.1, j.2.1] := by simp [tmL]
theorem tmL_len (l : List Jb) : (tmL l).length = 2 * l.length := by
 induction l with
 | nil => rfl
 | cons x r ih => simp only [tmL, List.flatMap_cons, List.length_append, List.length_cons, List.length_nil] at *; omega
def tms (l : List Jb) : List Int := timesL (tmL l)
def spanL (T : List Int) : List (Int × Int) := (List.range (T.length - 1)).map fun k => (T.getD k 0, T.getD (k + 1) 0)
theorem spanL_take (T : List Int) (k : Nat) (h : k < T.length - 1) : (spanL T).take (k + 1) = (spanL T).take k ++ [(T.getD k 0, T.getD (k + 1) 0)] := by
 rw [List.take_add_one]
 congr 1
 unfold spanL
 simp [h]
theorem spanL_len (T : List Int) : (spanL T).length = T.length - 1 := by simp [spanL]
theorem Tryz.infoBnS : (Tryz.prog.info? 47).map (fun i => (i.zero, i.size, i.bytes)) = some (some (.agg #[.int .i64 0, .int .i64 0]), 2, 16) := by kernel_rfl

def SpansPost (l : List Jb) (w : World) (e : Ending) (w' : World) : Prop :=
 ∃ A c, e = .returned (.slice A ((tms l).length - 1) c) ∧ Pts w' A (spanL (tms l)) ∧ Gr w w'

theorem spansOf_any (A : Option Addr) (n c : Nat) (l : List Jb) (w : World) (hn : l.length = n) (hl : n ≤ 64) (hp : Tris w A l) : Calls Tryz.prog 52 #[.slice A n c] w (SpansPost l w) := by
 obtain ⟨i0, hi, hz0, hz1, hz2⟩ := info_parts Tryz.infoBnI
 have HI := Lib.hid (And.intro hi (And.intro hz0 (And.intro hz1 hz2)))
 obtain ⟨i1, hj, hy0, hy1, hy2⟩ := info_parts Tryz.infoBnS
 have HJ := Lib.hid (And.intro hj (And.intro hy0 (And.intro hy1 hy2)))
 clear hi hz0 hz1 hz2 hj hy0 hy1 hy2
 have HN := Lib.hid hn
 have HP := Lib.hid hp
 clear hn hp
 have hmade := World.ownsRow_made (base := w.heap.size) (e := 3) (size := 1) w #[] 0 (Nat.le_refl _) (Nat.zero_le _) (by simp)
 have HMD := Lib.hid hmade
 clear hmade
 go_enter Tryz.func52, Tryz.ntmps52
 go_wp2_with fail
 generalize hW1 : World.alloc w _ = w1 at HMD
 have hg1 : Gr w w1 := by rw [← hW1]; exact (Gr.refl w).alloc _
 clear hW1
 go_loopw [3, 11] (fun q z wr => ∃ k : Nat, k ≤ n ∧ z = .int .i64 (k : Int) ∧ (∃ g c, q = .slice (some ⟨g, 0, none⟩) (2 * k) c) ∧ Hid (wr.ownsRow w.heap.size 3 1 q (2 * k) (flatE enc1 (tmL (l.take k)))) ∧ Gr w wr) (fun _ z _ => n - (intOf z).toNat)
 case atStart => exact ⟨0, Nat.zero_le _, rfl, ⟨_, _, rfl⟩, HMD, hg1⟩
 case round =>
  obtain ⟨k, hk, rfl, hsh, hown, hgr⟩ := hrel
  by_cases hlt : k < n
  ·obtain ⟨b, off, rfl, q0, q1, q2⟩ := Tris_at (HP.out.keep hgr) (i := k) (by rw [HN.out]; exact hlt)
   have HTK : Hid (tmL (l.take (k + 1)) = tmL (l.take k) ++ [(l.getD k (0, 0, 0)).1, (l.getD k (0, 0, 0)).2.1]) := Lib.hid (by rw [List.take_add_one, getD_of (0, 0, 0) (by rw [HN.out]; exact hlt), Option.toList_some, tmL_snoc])
   generalize l.getD k (0, 0, 0) = jb at q0 q1 q2 HTK
   obtain ⟨a1, a2, a3⟩ := jb
   dsimp only at q0 q1 q2 HTK
   have hki : (k : Int) < (n : Int) := by omega
   go_upto_region 5 with fail
   generalize hW2 : World.alloc wr _ = w2
   obtain ⟨hg2, d0, d1, d2⟩ : Gr wr w2 ∧ w2.cell? ⟨wr.heap.size, 0, none⟩ = some (.int .i64 a1) ∧ w2.cell? ⟨wr.heap.size, 1, none⟩ = some (.int .i64 a2) ∧ w2.cell? ⟨wr.heap.size, 2, none⟩ = some (.int .i64 a3) := by
    rw [← hW2]; exact ⟨(Gr.refl wr).alloc _, alloc_new rfl rfl, alloc_new rfl rfl, alloc_new rfl rfl⟩
   have hgr2 := hgr.trans hg2
   have HO2 := Lib.hid (owns_gr hown.out hg2)
   generalize wr.heap.size = Z at d0 d1 d2 ⊢
   obtain ⟨hi, hz0, hz1, hz2⟩ := HI.out
   clear hW2 q0 q1 q2 hown hgr hg2 hsh
   go_wp2_with (at_builtin; refine wpList_append_own _ rfl _ _ 25 rfl w.heap.size 3 i0 _ 1 8 Tryz.underlying25 hi hz0 hz1 hz2 rfl (by decide) _ _ _ rfl (HO2.out.alloc _) ⟨w2.heap.size, 0, none⟩ 2 2 [.int .i64 a1, .int .i64 a2] rfl rfl ?a1 ?a2 ?a3 ?a4 ?a5 ?_)
   case a1 =>
    intro t x ht
    rw [Addr.add_lit]
    exact alloc_new rfl (by rw [Nat.zero_add]; simpa using ht)
   case a2 => intro x hx; simp at hx; rcases hx with rfl | rfl <;> rfl
   case a3 => unfold maxLen; omega
   case a4 => omega
   case a5 => have := hgr2.size; simp; omega
   intro v' w3 hown3 hgrow _
   have hal : Gr w2 (w2.alloc (.cells #[.int .i64 a1, .int .i64 a2] 3)) := (Gr.refl _).alloc _
   have ho2 := HO2.out.alloc (.cells #[.int .i64 a1, .int .i64 a2] 3)
   have hg3 : Gr w w3 := Below.grown (hgr2.trans hal) hgrow (hgr2.trans hal).size (fun t ht => (ho2.lt t ht).1)
   have HO3 : Hid (w3.ownsRow w.heap.size 3 1 v' (2 * (k + 1)) (flatE enc1 (tmL (l.take (k + 1))))) := Lib.hid (by rw [HTK.out, flatE_app, show 2 * (k + 1) = 2 * k + 2 by omega]; exact hown3)
   have HSH3 : Hid (∃ g c, v' = .slice (some ⟨g, 0, none⟩) (2 * (k + 1)) c) := Lib.hid (by obtain ⟨g, c, e, -⟩ := owns_shape HO3.out (by omega); exact ⟨g, c, e⟩)
   clear hown3 hgrow hal ho2 hi hz0 hz1 hz2 d0 d1 d2
   go_wp2_with fail
   go_roundw
   case rel => exact ⟨k + 1, by omega, by go_num, HSH3.out, HO3, hg3⟩
   case measure => simp [intOf]; omega
  ·obtain rfl : k = n := by omega
   have HTL : Hid (tmL (l.take k) = tmL l) := Lib.hid (by rw [List.take_of_length_le (by rw [HN.out]; exact Nat.le_refl _)])
   obtain ⟨gt, ct, rfl⟩ := hsh
   have hlen : (tmL l).length = 2 * k := by rw [tmL_len, HN.out]
   have HLEN := Lib.hid hlen
   have hown' := hown.out
   rw [HTL.out] at hown'
   have HS := Lib.hid (sortedI_any gt 0 (2 * k) ct (tmL l) wr hlen (by omega) (Rd_of_owns enc1_len hlen hown'))
   clear hown hown' hlt hlen
   go_wp2_with fail
   refine HS.out.mono ?_
   rintro e w2 ⟨g2, c2, rfl, hc2, hgs2, hown2, hg2⟩
   have hsl : (srtI (tmL l)).length = 2 * k := by rw [srtI_len, HLEN.out]
   have hC := compI_any g2 c2 wr.heap.size (srtI (tmL l)) w2 (by omega) (by omega) (by rw [hsl]; exact hown2)
   rw [hsl] at hC
   change Calls Tryz.prog 75 _ _ _ at hC
   have HC := Lib.hid hC
   clear hC hown2 HS
   go_wp2_with fail
   refine HC.out.mono ?_
   rintro e w3 ⟨rfl, hown3, hgb3⟩
   change w3.ownsRow wr.heap.size 3 1 (.slice (some ⟨g2, 0, none⟩) (tms l).length c2) (tms l).length (flatE enc1 (tms l)) at hown3
   have hT2 : (tms l).length ≤ 2 * k := by have := timesL_len (tmL l); rw [HLEN.out] at this; exact this
   have hgr3 : Gr w w3 := (hgb3.gr hg2 hgs2).trans (Gr.refl _) |> hgr.trans
   have HT := Lib.hid (Rd_of_owns enc1_len rfl hown3)
   obtain ⟨tn, htn⟩ : ∃ tn, (tms l).length = tn := ⟨_, rfl⟩
   rw [show (Go.Lib.compact (srtI (tmL l))).length = tn from htn]
   rw [htn] at hT2
   have HTN := Lib.hid htn
   clear hown3 hgb3 htn hgs2 hg2 HC hgr
   have hm3 := World.ownsRow_made (base := w3.heap.size) (e := 47) (size := 2) w3 #[] 0 (Nat.le_refl _) (Nat.zero_le _) (by simp)
   have HM3 := Lib.hid hm3
   clear hm3
   go_wp2_with fail
   generalize hW4 : World.alloc w3 _ = w4 at HM3
   have hg34 : Gr w3 w4 := by rw [← hW4]; exact (Gr.refl w3).alloc _
   clear hW4
   generalize hTT : tms l = T at HTN HT
   have HTT := Lib.hid hTT
   clear hTT
   go_loopw [6, 7] (fun q z wr => ∃ j : Nat, 1 ≤ j ∧ (j ≤ tn ∨ j = 1) ∧ z = .int .i64 (j : Int) ∧ Hid (wr.ownsRow w3.heap.size 47 2 q (j - 1) (flatE enc2 ((spanL T).take (j - 1)))) ∧ Gr w3 wr) (fun _ z _ => tn - (intOf z).toNat)
   case atStart => exact ⟨1, Nat.le_refl _, Or.inr rfl, rfl, HM3, hg34⟩
   case round =>
    clear HM3 hg34
    obtain ⟨j, hj1, hj2, rfl, hown, hgr⟩ := hrel
    by_cases hjl : j < tn
    ·obtain ⟨j', rfl⟩ : ∃ j', j = j' + 1 := ⟨j - 1, by omega⟩
     obtain ⟨x, hx⟩ : ∃ x, T[j']? = some x := ⟨_, List.getElem?_eq_getElem (by rw [HTN.out]; omega)⟩
     obtain ⟨y, hy⟩ : ∃ y, T[j' + 1]? = some y := ⟨_, List.getElem?_eq_getElem (by rw [HTN.out]; omega)⟩
     obtain ⟨b, off, e, cx0⟩ := HT.out j' x hx
     cases e
     obtain ⟨b, off, e, cy0⟩ := HT.out (j' + 1) y hy
     cases e
     have cx3 := cx0 0 _ rfl
     have cy3 := cy0 0 _ rfl
     simp only [Nat.zero_add, Nat.mul_one, Nat.add_zero] at cx3 cy3
     have HXW := Lib.hid (And.intro cx3 cy3)
     have cx := hgr.keep cx3
     have cy := hgr.keep cy3
     have HST : Hid ((spanL T).take (j' + 1) = (spanL T).take j' ++ [(x, y)]) := Lib.hid (by
      rw [spanL_take T j' (by rw [HTN.out]; omega), List.getD_eq_getElem?_getD, List.getD_eq_getElem?_getD, hx, hy]; rfl)
     have hs1 : IntKind.i64.wrap (((j' : Nat) : Int) + 1 - 1) = (j' : Int) := by rw [show (j' : Int) + 1 - 1 = (j' : Int) by omega]; exact IntWalk.i64_in _ (by omega)
     have hs2 : IntKind.i64.wrap (j' : Int) = (j' : Int) := IntWalk.i64_in _ (by omega)
     have hs3 : IntKind.i64.wrap ((j' : Int) + 1) = (j' : Int) + 1 := IntWalk.i64_in _ (by omega)
     simp only [Nat.add_sub_cancel] at hown
     have hda : Gr wr (wr.alloc (.cells #[.int .i64 x, .int .i64 y] 47)).drew := ((Gr.refl wr).alloc _).drew
     have HOA := Lib.hid (owns_gr hown.out hda)
     have hbase : w3.heap.size ≤ wr.heap.size := hgr.size
     have hgra := hgr.trans hda
     have hi1 : (0 : Int) ≤ (j' : Int) := by omega
     have hi2 : (j' : Int) < (tn : Int) := by omega
     have hi3 : (j' : Int) + 1 < (tn : Int) := by omega
     have hi4 : (0 : Int) ≤ (j' : Int) + 1 := by omega
     have hi5 : ((j' : Int) + 1).toNat = j' + 1 := by omega
     have px := hda.keep cx
     have py := hda.keep cy
     have hdr := (Gr.refl wr).drew
     obtain ⟨hq, hy0, hy1, hy2⟩ := HJ.out
     clear hx hy cx0 cy0 hown cx3 cy3
     go_upto_region 12 with fail
     refine wp_region_held_drew (S := (fun W' => W'.cell? ⟨g2, j', none⟩ = some (.int .i64 x) ∧ W'.cell? ⟨g2, j' + 1, none⟩ = some (.int .i64 y))) ?_ ?_ (fun hHeld => ?_)
     ·kernel_rfl
     ·((try dsimp only); (first | exact hHeld | exact ⟨hdr.keep cx, hdr.keep cy⟩ | exact ⟨px, py⟩ | exact ⟨HX5.out.1, HX5.out.2⟩))
     refine ti 0 (some 33) rfl rfl ?_; try simp only [Act.put, lA, lB, lC]
     refine ti 1 (some 34) rfl rfl ?_; try simp only [Act.put, lA, lB, lC]
     refine ti 2 (some 35) rfl rfl ?_; try simp only [Act.put, lA, lB, lC]
     refine ti 3 (some 36) rfl rfl ?_; try simp only [Act.put, lA, lB, lC]
     refine ti 4 (some 37) rfl rfl ?_; try simp only [Act.put, lA, lB, lC]
     refine ti 5 (some 38) rfl rfl ?_; try simp only [Act.put, lA, lB, lC]
     refine ti 6 (some 39) rfl rfl ?_; try simp only [Act.put, lA, lB, lC]
     refine ti 7 (some 40) rfl rfl ?_; try simp only [Act.put, lA, lB, lC]
     refine ti 8 (some 41) rfl rfl ?_; try simp only [Act.put, lA, lB, lC]
     refine ti 9 (some 42) rfl rfl ?_; try simp only [Act.put, lA, lB, lC]
     refine ti 10 (some 43) rfl rfl ?_; try simp only [Act.put, lA, lB, lC]
     refine tr [11] (.cons rfl (fun K hK => ?_) .nil)
     go_simp
     refine hK.out _ _ ?_ (fun hHeld => ?_)
     ·((try dsimp only); (first | exact hHeld | exact ⟨hdr.keep cx, hdr.keep cy⟩ | exact ⟨px, py⟩ | exact ⟨HX5.out.1, HX5.out.2⟩))
     clear hK K; try simp only [Act.put, lA, lB, lC]
     refine tr [12] (.cons rfl (fun K hK => ?_) .nil)
     first | (refine step_append_lies _ (by rfl) (.tmp 33) (.tmp 44) 52 (by rfl) w3.heap.size 47 i1 _ 2 16 Tryz.underlying52 hq hy0 hy1 hy2 rfl (by decide) u6 j' (flatE enc2 ((spanL T).take j')) (by rfl) HOA.out ⟨wr.heap.size, 0, none⟩ 1 1 [.int .i64 x, .int .i64 y] (by rfl) rfl (World.news_of_block (heap_alloc_new _ _)) (enc2_one (x, y)) (by decide) (by unfold maxLen; omega) (by omega) (by simp; omega) _ rfl ?_; intro g' cap' w5 hown' hgrow _ _; have HG5 : Hid (Gr w3 w5) := Lib.hid (Below.grown hgra hgrow hgra.size (fun t ht => (HOA.out.lt t ht).1)); have HO5 := Lib.hid hown'; have HX5 := Lib.hid (And.intro (HG5.out.keep HXW.out.1) (HG5.out.keep HXW.out.2)); clear hown' hgrow)
     refine hK.out _ _ ?_ (fun hHeld => ?_)
     ·((try dsimp only); (first | exact hHeld | exact ⟨hdr.keep cx, hdr.keep cy⟩ | exact ⟨px, py⟩ | exact ⟨HX5.out.1, HX5.out.2⟩))
     clear hK K; try simp only [Act.put, lA, lB, lC]
     refine ti 13 (some 6) rfl rfl ?_; try simp only [Act.put, lA, lB, lC]
     refine wpAnyH_done ?_ ?_ _
     ·kernel_rfl
     rotate_left
     all_goals
      have HO6 : Hid (w5.ownsRow w3.heap.size 47 2 (.slice (some ⟨g', 0, none⟩) (j' + 1) cap') (j' + 1) (flatE enc2 ((spanL T).take (j' + 1)))) := Lib.hid (by rw [HST.out, flatE_app]; exact HO5.out)
      clear hHeld HO5 px py cx cy hq hy0 hy1 hy2
      go_wp2_with fail
      go_roundw
      case rel => exact ⟨j' + 2, by omega, Or.inl (by omega), by go_num, HO6, HG5.out⟩
      case measure => simp [intOf]; omega
    ·have hjt : tn - 1 = j - 1 := by omega
     have hfin : (spanL T).take (j - 1) = spanL T := List.take_of_length_le (by rw [spanL_len, HTN.out]; omega)
     rw [hfin] at hown
     have HFL : Hid ((spanL T).length = j - 1) := Lib.hid (by rw [spanL_len, HTN.out]; exact hjt)
     obtain ⟨A6, c6, rfl, -, hrd, -⟩ := own_row enc2_len HFL.out hown.out
     clear hjl
     go_wp2_with fail
     go_ret
     unfold SpansPost
     rw [HTT.out, HTN.out, hjt]
     exact ⟨A6, c6, rfl, hrd, hgr3.trans hgr⟩

set_option maxRecDepth 100000
set_option maxHeartbeats 80000000

def spA (T : List Int) (s : Nat) : Int × Int := (spanL T).getD s (0, 0)
def lnA (T : List Int) (s : Nat) : Int := (spA T s).2 - (spA T s).1
def covA (l : List Jb) (T : List Int) (j s : Nat) : Prop := (jbA l j).1 ≤ (spA T s).1 ∧ (spA T s).2 ≤ (jbA l j).2.1
def capA (B : Int) (l : List Jb) (T : List Int) (n : Nat) (u v : Nat) : Int := if u = 0 then (jbA l (v - 2)).2.2 else if u < 2 + n then lnA T (v - 2 - n) else B * lnA T (u - 2 - n)
def arcs1 (l : List Jb) (T : List Int) (n K j : Nat) (u v : Nat) : Prop := (u = 0 ∧ 2 ≤ v ∧ v < 2 + j) ∨ (2 ≤ u ∧ u < 2 + j ∧ 2 + n ≤ v ∧ v < 2 + n + K ∧ covA l T (u - 2) (v - 2 - n))
def arcs2 (l : List Jb) (T : List Int) (n K j s : Nat) (u v : Nat) : Prop := arcs1 l T n K j u v ∨ (u = 0 ∧ v = 2 + j) ∨ (u = 2 + j ∧ 2 + n ≤ v ∧ v < 2 + n + s ∧ covA l T j (v - 2 - n))
def arcs3 (l : List Jb) (T : List Int) (n K s : Nat) (u v : Nat) : Prop := arcs1 l T n K n u v ∨ (2 + n ≤ u ∧ u < 2 + n + s ∧ v = 1)
theorem arcs_start (l : List Jb) (T : List Int) (n K : Nat) (u v : Nat) : False ↔ arcs1 l T n K 0 u v := by
 unfold arcs1
 constructor
 ·exact False.elim
 ·rintro (⟨h1, h2, h3⟩ | ⟨h1, h2, -⟩) <;> omega
theorem arcs_job (l : List Jb) (T : List Int) (n K j : Nat) (u v : Nat) : orD (arcs1 l T n K j) 0 (2 + j) u v ↔ arcs2 l T n K j 0 u v := by
 unfold orD arcs2
 constructor
 ·rintro (h | h)
  ·exact Or.inl h
  ·exact Or.inr (Or.inl h)
 ·rintro (h | h | h)
  ·exact Or.inl h
  ·exact Or.inr h
  ·omega
theorem arcs_span (l : List Jb) (T : List Int) (n K j s : Nat) (hc : covA l T j s) (u v : Nat) : orD (arcs2 l T n K j s) (2 + j) (2 + n + s) u v ↔ arcs2 l T n K j (s + 1) u v := by
 unfold orD arcs2
 constructor
 ·rintro ((h | h | ⟨h1, h2, h3, h4⟩) | ⟨h1, h2⟩)
  ·exact Or.inl h
  ·exact Or.inr (Or.inl h)
  ·exact Or.inr (Or.inr ⟨h1, h2, by omega, h4⟩)
  ·exact Or.inr (Or.inr ⟨h1, by omega, by omega, by rw [show v - 2 - n = s by omega]; exact hc⟩)
 ·rintro (h | h | ⟨h1, h2, h3, h4⟩)
  ·exact Or.inl (Or.inl h)
  ·exact Or.inl (Or.inr (Or.inl h))
  ·by_cases e : v = 2 + n + s
   ·exact Or.inr ⟨h1, e⟩
   ·exact Or.inl (Or.inr (Or.inr ⟨h1, h2, by omega, h4⟩))
theorem arcs_skip (l : List Jb) (T : List Int) (n K j s : Nat) (hc : ¬ covA l T j s) (u v : Nat) : arcs2 l T n K j s u v ↔ arcs2 l T n K j (s + 1) u v := by
 unfold arcs2
 constructor
 ·rintro (h | h | ⟨h1, h2, h3, h4⟩)
  ·exact Or.inl h
  ·exact Or.inr (Or.inl h)
  ·exact Or.inr (Or.inr ⟨h1, h2, by omega, h4⟩)
 ·rintro (h | h | ⟨h1, h2, h3, h4⟩)
  ·exact Or.inl h
  ·exact Or.inr (Or.inl h)
  ·by_cases e : v = 2 + n + s
   ·rw [e, show 2 + n + s - 2 - n = s by omega] at h4; exact absurd h4 hc
   ·exact Or.inr (Or.inr ⟨h1, h2, by omega, h4⟩)
theorem arcs_next (l : List Jb) (T : List Int) (n K j : Nat) (u v : Nat) : arcs2 l T n K j K u v ↔ arcs1 l T n K (j + 1) u v := by
 unfold arcs2 arcs1
 constructor
 ·rintro ((⟨h1, h2, h3⟩ | ⟨h1, h2, h3, h4, h5⟩) | ⟨h1, h2⟩ | ⟨h1, h2, h3, h4⟩)
  ·exact Or.inl ⟨h1, h2, by omega⟩
  ·exact Or.inr ⟨h1, by omega, h3, h4, h5⟩
  ·exact Or.inl ⟨h1, by omega, by omega⟩
  ·exact Or.inr ⟨by omega, by omega, h2, h3, by rw [h1, show 2 + j - 2 = j by omega]; exact h4⟩
 ·rintro (⟨h1, h2, h3⟩ | ⟨h1, h2, h3, h4, h5⟩)
  ·by_cases e : v = 2 + j
   ·exact Or.inr (Or.inl ⟨h1, e⟩)
   ·exact Or.inl (Or.inl ⟨h1, h2, by omega⟩)
  ·by_cases e : u = 2 + j
   ·exact Or.inr (Or.inr ⟨e, h3, h4, by rw [e, show 2 + j - 2 = j by omega] at h5; exact h5⟩)
   ·exact Or.inl (Or.inr ⟨h1, by omega, h3, h4, h5⟩)
theorem arcs_last (l : List Jb) (T : List Int) (n K : Nat) (u v : Nat) : arcs1 l T n K n u v ↔ arcs3 l T n K 0 u v := by
 unfold arcs3
 constructor
 ·exact Or.inl
 ·rintro (h | h)
  ·exact h
  ·omega
theorem arcs_sink (l : List Jb) (T : List Int) (n K s : Nat) (u v : Nat) : orD (arcs3 l T n K s) (2 + n + s) 1 u v ↔ arcs3 l T n K (s + 1) u v := by
 unfold orD arcs3
 constructor
 ·rintro ((h | ⟨h1, h2, h3⟩) | ⟨h1, h2⟩)
  ·exact Or.inl h
  ·exact Or.inr ⟨h1, by omega, h3⟩
  ·exact Or.inr ⟨by omega, by omega, h2⟩
 ·rintro (h | ⟨h1, h2, h3⟩)
  ·exact Or.inl (Or.inl h)
  ·by_cases e : u = 2 + n + s
   ·exact Or.inr ⟨e, h3⟩
   ·exact Or.inl (Or.inr ⟨h1, by omega, h3⟩)

def workL : List Jb → Int
 | [] => 0
 | j :: r => j.2.2 + workL r
theorem workL_app (a b : List Jb) : workL (a ++ b) = workL a + workL b := by
 induction a with
 | nil => simp [workL]
 | cons x r ih => simp only [List.cons_append, workL, ih]; omega
theorem workL_bd {l : List Jb} (h : ∀ j ∈ l, 1 ≤ j.2.2 ∧ j.2.2 ≤ 1048576) : (l.length : Int) ≤ workL l ∧ workL l ≤ 1048576 * l.length := by
 induction l with
 | nil => simp [workL]
 | cons x r ih =>
   have h1 := ih (fun j hj => h j (List.mem_cons_of_mem _ hj))
   have h2 := h x List.mem_cons_self
   simp only [workL, List.length_cons]; omega

def JobsP (l : List Jb) : Prop := ∀ j ∈ l, (0 ≤ j.1 ∧ j.1 ≤ 4194304) ∧ (0 ≤ j.2.1 ∧ j.2.1 ≤ 4194304) ∧ 1 ≤ j.2.2 ∧ j.2.2 ≤ 1048576
theorem tms_bd {l : List Jb} (h : JobsP l) : ∀ x ∈ tms l, 0 ≤ x ∧ x ≤ 4194304 := fun x hx => by
 have hx' := (timesL_mem (tmL l) x).1 hx
 obtain ⟨j, hj, hxj⟩ := List.mem_flatMap.1 hx'
 have := h j hj
 simp at hxj
 omega
theorem spA_at {T : List Int} {s : Nat} (h : s < T.length - 1) : spA T s = (T.getD s 0, T.getD (s + 1) 0) := by
 unfold spA spanL
 simp [List.getD_eq_getElem?_getD, h]
theorem spA_out {T : List Int} {s : Nat} (h : ¬ s < T.length - 1) : spA T s = (0, 0) := by
 unfold spA
 rw [List.getD_eq_getElem?_getD, List.getElem?_eq_none (by rw [spanL_len]; omega)]
 rfl
theorem lnA_bd {l : List Jb} (h : JobsP l) (s : Nat) : 0 ≤ lnA (tms l) s ∧ lnA (tms l) s ≤ 4194304 := by
 unfold lnA
 by_cases hs : s < (tms l).length - 1
 ·rw [spA_at hs]
  dsimp only
  have h1 : s < (tms l).length := by omega
  have h2 : s + 1 < (tms l).length := by omega
  rw [List.getD_eq_getElem?_getD, List.getD_eq_getElem?_getD, List.getElem?_eq_getElem h1, List.getElem?_eq_getElem h2]
  have ha := List.pairwise_iff_getElem.1 (timesL_asc (tmL l)) s (s + 1) h1 h2 (by omega)
  have hb := tms_bd h _ (List.getElem_mem h1)
  have hc := tms_bd h _ (List.getElem_mem h2)
  simp only [Option.getD_some]
  change (tms l)[s] < (tms l)[s + 1] at ha
  omega
 ·rw [spA_out hs]; simp
theorem jbA_bd {l : List Jb} (h : JobsP l) (j : Nat) : 0 ≤ (jbA l j).2.2 ∧ (jbA l j).2.2 ≤ 1048576 := by
 unfold jbA
 rcases Nat.lt_or_ge j l.length with c | c
 ·rw [List.getD_eq_getElem?_getD, List.getElem?_eq_getElem c]
  have := h _ (List.getElem_mem c)
  simp only [Option.getD_some]; omega
 ·rw [List.getD_eq_getElem?_getD, List.getElem?_eq_none c]; simp
theorem capA_bd {l : List Jb} (h : JobsP l) {B : Int} (hB : 0 ≤ B ∧ B ≤ 8) (n u v : Nat) : 0 ≤ capA B l (tms l) n u v ∧ capA B l (tms l) n u v ≤ 549755813888 := by
 unfold capA
 have h1 := jbA_bd h (v - 2)
 have h2 := lnA_bd h (v - 2 - n)
 have h3 := lnA_bd h (u - 2 - n)
 have m1 : B * lnA (tms l) (u - 2 - n) ≤ 8 * 4194304 := Int.mul_le_mul hB.2 h3.2 h3.1 (by omega)
 have m2 : 0 ≤ B * lnA (tms l) (u - 2 - n) := Int.mul_nonneg hB.1 h3.1
 split
 ·omega
 ·split <;> omega

end Go.Proofs.YtobcdkjomehdkaaGreat
