/- Layer 4: a network in the making: newNetwork, join. -/
import Derived.Test.YtobcdkjomehdkaaGreatBu30
import Derived.Deep.CutRange
import Derived.Deep.AppendLies
import Derived.Laws.AppendOwnNone
import Derived.Maps.Own
import Derived.Carry
namespace Go.Proofs.YtobcdkjomehdkaaGreat
open Go.RowKit
set_option linter.unusedSimpArgs false
set_option maxRecDepth 100000
set_option maxHeartbeats 80000000

theorem RM.ne_blk {w : World} {m : Nat} {r : Nat → Nat → Int} (h : RM w m r) {b : Nat} {t : TypeId} {cs : Array Value} (hc : Blk w b t cs) : b ≠ m := fun e => by
 subst e
 obtain ⟨l, ⟨es, cl, hb, -⟩, -⟩ := h
 have := (show w.heap[b]? = _ from hc).symm.trans hb
 cases this
theorem nodesI_len' (l : List Nat) : (nodesI l).length = l.length := by simp [nodesI]

structure NetW (b0 : Nat) (w : World) (g m h N : Nat) (nx : Nat → List Nat) (vs : Nat → Value) : Prop where
 net : Blk w g 154 #[.map (some m), .slice (some ⟨h, 0, none⟩) N N]
 lists : ∃ cs : Array Value, Blk w h 25 cs ∧ ∀ u, u < N → cs[u]? = some (vs u)
 own : ∀ u, u < N → w.ownsRow b0 3 1 (vs u) (nx u).length (flatE enc1 (nodesI (nx u)))
 apart : ∀ u v, u < N → v < N → u ≠ v → (vs u).ownBlock = none ∨ (vs u).ownBlock ≠ (vs v).ownBlock
 low : b0 ≤ g ∧ b0 ≤ m ∧ b0 ≤ h
theorem NetW.keep {b0 : Nat} {w w' : World} {g m h N : Nat} {nx : Nat → List Nat} {vs : Nat → Value} (k : NetW b0 w g m h N nx vs) (hg : Gr w w') : NetW b0 w' g m h N nx vs := by
 obtain ⟨cs, h1, h2⟩ := k.lists
 exact ⟨k.net.keep hg, ⟨cs, h1.keep hg, h2⟩, fun u hu => owns_gr (k.own u hu) hg, k.apart, k.low⟩
theorem NetW.gb {b0 : Nat} {w w' : World} {g m h N : Nat} {nx : Nat → List Nat} {vs : Nat → Value} (k : NetW b0 w g m h N nx vs) {r : Nat → Nat → Int} (hr : RM w m r) (hg : Gb m w w') : NetW b0 w' g m h N nx vs := by
 obtain ⟨cs, h1, h2⟩ := k.lists
 have hgm : g ≠ m := hr.ne (k.net.cell 0)
 have hblk : ∀ {q : Nat} {t : TypeId} {c : Array Value}, Blk w q t c → q ≠ m → Blk w' q t c := fun hb hne => hb.grown hg (fun e => hne (Option.some.inj e))
 have hhm : h ≠ m := fun e => by
  obtain ⟨l, ⟨es, cl, hb, -⟩, -⟩ := hr
  rw [← e] at hb
  have := h1.symm.trans hb
  cases this
 refine ⟨hblk k.net hgm, ⟨cs, hblk h1 hhm, h2⟩, fun u hu => (k.own u hu).kept (row := some m) hg ?_, k.apart, k.low⟩
 right
 intro e
 rcases (k.own u hu).2 with ⟨h0, -⟩ | ⟨q, cap, cur, h0, -, hq, -⟩
 ·rw [h0] at e; simp [Value.ownBlock] at e
 ·rw [h0] at e
  have : q = m := by simpa [Value.ownBlock] using e
  obtain ⟨l, ⟨es, cl, hb, -⟩, -⟩ := hr
  rw [← this, hq] at hb
  cases hb
theorem NetW.read {b0 : Nat} {w : World} {g m h N : Nat} {nx : Nat → List Nat} {vs : Nat → Value} (k : NetW b0 w g m h N nx vs) : NetB w g m h N nx := by
 obtain ⟨cs, h1, h2⟩ := k.lists
 refine ⟨k.net.cell 0, k.net.cell 1, fun u hu => ?_⟩
 obtain ⟨A, c, e, -, hR, -⟩ := own_row enc1_len (nodesI_len' (nx u)) (k.own u hu)
 refine ⟨A, c, ?_, hR⟩
 rw [← e]
 exact cell_of_row w h u cs _ _ h1 |>.trans (h2 u hu)

structure Gn (b0 : Nat) (w w' : World) : Prop where
 os : w'.os = w.os
 tape : w'.tape = w.tape
 output : w'.output = w.output
 size : w.heap.size ≤ w'.heap.size
 block : ∀ i, i < w.heap.size → i < b0 → w'.heap[i]? = w.heap[i]?
 blk : ∀ i t cs, Blk w i t cs → t ≠ 3 → t ≠ 25 → Blk w' i t cs
theorem Gn.trans {b0 : Nat} {u v w : World} (h : Gn b0 u v) (k : Gn b0 v w) : Gn b0 u w :=
 ⟨k.os.trans h.os, k.tape.trans h.tape, k.output.trans h.output, Nat.le_trans h.size k.size, fun i hi hb => (k.block i (Nat.lt_of_lt_of_le hi h.size) hb).trans (h.block i hi hb), fun i t cs hb h1 h2 => k.blk i t cs (h.blk i t cs hb h1 h2) h1 h2⟩
theorem Gn.of {b0 : Nat} {w w' : World} (h : Gr w w') : Gn b0 w w' := ⟨h.os, h.tape, h.output, h.size, fun i hi _ => h.block i hi, fun _ _ _ hb _ _ => hb.keep h⟩
theorem Gn.gr {b0 : Nat} {u w w' : World} (h : Gr u w) (k : Gn b0 w w') (hb : u.heap.size ≤ b0) : Gr u w' :=
 ⟨k.os.trans h.os, k.tape.trans h.tape, k.output.trans h.output, Nat.le_trans h.size k.size, fun i hi => (k.block i (Nat.lt_of_lt_of_le hi h.size) (by omega)).trans (h.block i hi)⟩
theorem Gn.map {b0 : Nat} {w w' : World} {m : Nat} {r : Nat → Nat → Int} (hr : RM w m r) (h : Gb m w w') (hb : b0 ≤ m) : Gn b0 w w' :=
 ⟨h.os, h.tape, h.output, h.size, fun i hi hlt => h.block i hi (fun e => by have := Option.some.inj e; omega), fun _ _ _ hk _ _ => hk.grown h (fun e => hr.ne_blk hk (Option.some.inj e))⟩


theorem NetW_new (w : World) (N : Nat) {b0 g m h : Nat} (h1 : Blk w g 154 #[.map (some m), .slice (some ⟨h, 0, none⟩) N N]) (h2 : Blk w h 25 (madeCells #[.slice none 0 0] N)) (hl : b0 ≤ g ∧ b0 ≤ m ∧ b0 ≤ h) :
 NetW b0 w g m h N (fun _ => []) (fun _ => .slice none 0 0) :=
 ⟨h1, ⟨_, h2, fun u hu => by simp [madeCells, hu, Nat.mod_one]⟩, fun _ _ => World.ownsRow_nil _ _ _ _, fun _ _ _ _ _ => Or.inl rfl, hl⟩
theorem RM.made (w : World) : RM (w.alloc (.map #[] 0)) w.heap.size (fun _ _ => 0) := ⟨[], Mp_made w, fun _ _ => rfl⟩

theorem Tryz.infoBnL : (Tryz.prog.info? 25).map (fun i => (i.zero, i.size, i.bytes)) = some (some (.slice none 0 0), 1, 24) := by kernel_rfl
theorem mk_listsB (n : Nat) (hl : n ≤ 1048576) (w : World) : (Instr.makeSlice 61 (.int .i64 (n : Int)) (.int .i64 (n : Int))).run Tryz.prog w =
 .ok (.slice (some ⟨w.heap.size, 0, none⟩) n n) (w.alloc (.cells (madeCells #[.slice none 0 0] (n * 1)) 25)) := by
 obtain ⟨i0, hi, hz0, hz1, hz2⟩ := info_parts Tryz.infoBnL
 have h := run_make (P := Tryz.prog) w 61 25 i0 _ Tryz.underlying61 hi hz0 .i64 .i64 (n : Int) (n : Int) (by omega) (by omega) (by rw [hz2]; omega) (by omega)
 rw [hz1] at h
 simp only [Int.toNat_natCast] at h
 exact h

theorem newNetwork_any (N : Nat) (hN : N ≤ 4096) (w : World) : Calls Tryz.prog 53 #[.int .i64 (N : Int)] w fun e w' => ∃ g m h, e = .returned (.pointer (some ⟨g, 0, none⟩)) ∧ NetW w.heap.size w' g m h N (fun _ => []) (fun _ => .slice none 0 0) ∧ RM w' m (fun _ _ => 0) ∧ Gr w w' := by
 have hmm := @run_makeMap Tryz.prog
 have hmk := mk_listsB N (by omega)
 go_enter Tryz.func53, Tryz.ntmps53
 go_wp2_with fail
 go_ret
 have hlt : w.heap.size < (w.alloc (.map #[] 0)).heap.size := by simp
 refine ⟨_, _, _, rfl, NetW_new _ N (Blk.new _ _ _ (by simp)) ((Blk.new (w.alloc (.map #[] 0)) _ _ (by simp)).alloc _) (by omega), ((RM.made w).keep ((Gr.refl _).alloc _)).keep ((Gr.refl _).alloc _), (((Gr.refl w).alloc _).alloc _).alloc _⟩

def updN {α : Type} (f : Nat → α) (u : Nat) (x : α) : Nat → α := fun v => if v = u then x else f v
theorem updN_same {α : Type} (f : Nat → α) (u : Nat) (x : α) : updN f u x u = x := by unfold updN; rw [if_pos rfl]
theorem updN_other {α : Type} (f : Nat → α) {u v : Nat} (x : α) (h : v ≠ u) : updN f u x v = f v := by unfold updN; rw [if_neg h]
theorem RM.apart {w : World} {m : Nat} {r : Nat → Nat → Int} (h : RM w m r) {base : Nat} {e : TypeId} {size n : Nat} {v : Value} {xs : List Value} (ho : w.ownsRow base e size v n xs) : some m ≠ v.ownBlock := fun e0 => by
 obtain ⟨l, ⟨es, cl, hb, -⟩, -⟩ := h
 rcases ho.2 with ⟨rfl, -⟩ | ⟨g, cap, cur, rfl, -, hg, -⟩
 ·simp [Value.ownBlock] at e0
 ·simp [Value.ownBlock] at e0
  rw [e0] at hb
  rw [hb] at hg
  cases hg
theorem RM.set {w : World} {m : Nat} {r : Nat → Nat → Int} (h : RM w m r) {p : Addr} (hne : m ≠ p.block) (u : Value) : RM (w.setCell p u) m r := by
 obtain ⟨l, h1, h2⟩ := h; exact ⟨l, h1.setCell hne u, h2⟩

theorem NetW.grow {b0 : Nat} {w w2 : World} {g m h N : Nat} {nx : Nat → List Nat} {vs : Nat → Value} (k : NetW b0 w g m h N nx vs) {r : Nat → Nat → Int} (hr : RM w m r) {u v : Nat} {v' : Value} (hu : u < N)
 (hown : w2.ownsRow b0 3 1 v' ((nx u).length + 1) (flatE enc1 (nodesI (nx u ++ [v])))) (hgrow : w.grownBy w2 (vs u).ownBlock) (hfr : ∃ q, v'.ownBlock = some q ∧ ((vs u).ownBlock = some q ∨ w.heap.size ≤ q)) :
 NetW b0 (w2.setCell ⟨h, u, none⟩ v') g m h N (updN nx u (nx u ++ [v])) (updN vs u v') ∧ RM (w2.setCell ⟨h, u, none⟩ v') m r ∧ Gn b0 w (w2.setCell ⟨h, u, none⟩ v') ∧ w2.cell? ⟨h, u, none⟩ = some (vs u) ∧ w2.frozen? ⟨h, u, none⟩ = false := by
 obtain ⟨cs, hb, hcs⟩ := k.lists
 have hnh : some h ≠ (vs u).ownBlock := hb.apart (k.own u hu) (by decide)
 have hng : some g ≠ (vs u).ownBlock := k.net.apart (k.own u hu) (by decide)
 have hb2 : Blk w2 h 25 cs := hb.grown hgrow hnh
 have hg2 := k.net.grown hgrow hng
 have hgh : g ≠ h := fun e => by
  have h1 := k.net; rw [e] at h1
  have := (show w.heap[h]? = _ from h1).symm.trans hb
  injection this with this
  injection this with _ h2
  exact absurd h2 (by decide)
 have hmh : m ≠ h := Ne.symm (hr.ne_blk hb)
 have hr2 : RM w2 m r := by
  obtain ⟨l, h1, h2⟩ := hr
  exact ⟨l, h1.grown hgrow (RM.apart ⟨l, h1, h2⟩ (k.own u hu)), h2⟩
 have hrows : ∀ a, a < N → a ≠ u → w2.ownsRow b0 3 1 (vs a) (nx a).length (flatE enc1 (nodesI (nx a))) := fun a ha hne => by
  refine (k.own a ha).kept (row := (vs u).ownBlock) hgrow ?_
  rcases k.apart a u ha hu hne with e | e
  ·exact Or.inl e
  ·exact Or.inr e
 have hset : ∀ {n : Nat} {x : Value} {xs : List Value}, w2.ownsRow b0 3 1 x n xs → (w2.setCell ⟨h, u, none⟩ v').ownsRow b0 3 1 x n xs := fun hx =>
  ownsRow_setCell_other hx (fun e => hb2.apart hx (by decide) e.symm) v'
 refine ⟨⟨(Below.heap_setCell w2 ⟨h, u, none⟩ v' g hgh).trans hg2, ⟨_, hb2.put u v', fun a ha => ?_⟩, fun a ha => ?_, fun a b ha hb' hab => ?_, k.low⟩, hr2.set hmh _, ?_, ?_, hb2.free u⟩
 ·have hsz : u < cs.size := by
   have := hcs u hu
   exact (Array.getElem?_eq_some_iff.1 this).1
  by_cases e : a = u
  ·subst e
   rw [updN_same]
   simp [hsz]
  ·rw [updN_other _ _ e]
   rw [Array.getElem?_setIfInBounds_ne (fun e' => e e'.symm)]
   exact hcs a ha
 ·by_cases e : a = u
  ·subst e
   rw [updN_same, updN_same, List.length_append]
   exact hset hown
  ·rw [updN_other _ _ e, updN_other _ _ e]
   exact hset (hrows a ha e)
 ·obtain ⟨q, hq1, hq2⟩ := hfr
  have hnew : ∀ c, c < N → c ≠ u → (vs c).ownBlock ≠ some q := fun c hc hne e => by
   rcases hq2 with e1 | e1
   ·rcases k.apart c u hc hu hne with e2 | e2
    ·rw [e2] at e; cases e
    ·exact e2 (e.trans e1.symm)
   ·have := ((k.own c hc).lt q e).2
    omega
  by_cases e1 : a = u
  ·subst e1
   rw [updN_same, updN_other _ _ (Ne.symm hab), hq1]
   exact Or.inr (Ne.symm (hnew b hb' (Ne.symm hab)))
  ·by_cases e2 : b = u
   ·subst e2
    rw [updN_same, updN_other _ _ hab, hq1]
    exact Or.inr (hnew a ha hab)
   ·rw [updN_other _ _ e1, updN_other _ _ e2]
    exact k.apart a b ha hb' hab
 ·have hqb : ∀ q, (vs u).ownBlock = some q → b0 ≤ q ∧ ∃ cur, Blk w q 3 cur := fun q hq => by
   refine ⟨((k.own u hu).lt q hq).1, ?_⟩
   rcases (k.own u hu).2 with ⟨h0, -⟩ | ⟨q', cap, cur, h0, -, hq', -⟩
   ·rw [h0] at hq; simp [Value.ownBlock] at hq
   ·rw [h0] at hq
    have : q' = q := by simpa [Value.ownBlock] using hq
    subst this
    exact ⟨cur, hq'⟩
  refine ⟨hgrow.os, hgrow.tape, hgrow.output, by simpa [World.setCell] using hgrow.size, fun i hi hlt => ?_, fun i t c hi h1 h2 => ?_⟩
  ·rw [Below.heap_setCell w2 ⟨h, u, none⟩ v' i (fun e => by have := k.low; dsimp only at e; omega)]
   exact hgrow.block i hi (fun e => by have := (hqb i e.symm).1; omega)
  ·have hne : i ≠ h := fun e => by
    rw [e] at hi
    have := (show w.heap[h]? = _ from hi).symm.trans hb
    injection this with this
    injection this with _ h3
    exact h2 h3
   refine (Below.heap_setCell w2 ⟨h, u, none⟩ v' i hne).trans (hi.grown hgrow (fun e => ?_))
   obtain ⟨-, cur, hcur⟩ := hqb i e.symm
   have := (show w.heap[i]? = _ from hi).symm.trans hcur
   injection this with this
   injection this with _ h3
   exact h1 h3
 ·exact (cell_of_row w2 h u cs _ _ hb2).trans (hcs u hu)

theorem hHeld_of_grow {b0 : Nat} {w w2 : World} {g m h N : Nat} {nx : Nat → List Nat} {vs : Nat → Value} (k : NetW b0 w g m h N nx vs) {r : Nat → Nat → Int} (_ : RM w m r) {u : Nat} (hgrow : w.grownBy w2 (vs u).ownBlock) (hu : u < N) :
 w2.cell? ⟨g, 1, none⟩ = some (.slice (some ⟨h, 0, none⟩) N N) := (k.net.grown hgrow (k.net.apart (k.own u hu) (by decide))).cell 1

def addN (nx : Nat → List Nat) (a b : Nat) : Nat → List Nat := fun u => if u = b then nx b ++ [a] else if u = a then nx a ++ [b] else nx u
theorem addN_upd (nx : Nat → List Nat) {a b : Nat} (h : a ≠ b) : updN (updN nx a (nx a ++ [b])) b (updN nx a (nx a ++ [b]) b ++ [a]) = addN nx a b := by
 funext u
 unfold addN
 by_cases e : u = b
 ·subst e; rw [updN_same, updN_other _ _ (Ne.symm h), if_pos rfl]
 ·rw [updN_other _ _ e, if_neg e]
  by_cases e2 : u = a
  ·subst e2; rw [updN_same, if_pos rfl]
  ·rw [updN_other _ _ e2, if_neg e2]
def JoinPost (b0 g m h N : Nat) (nx : Nat → List Nat) (r : Nat → Nat → Int) (a b : Nat) (x : Int) (w : World) (e : Ending) (w' : World) : Prop :=
 e = .returned (.tuple #[]) ∧ ∃ vs', NetW b0 w' g m h N (addN nx a b) vs' ∧ RM w' m (setR r a b x) ∧ Gn b0 w w'

theorem join_any (b0 g m h N : Nat) (nx : Nat → List Nat) (vs : Nat → Value) (r : Nat → Nat → Int) (a b : Nat) (x : Int) (w : World) (hN : N ≤ 4096) (ha : a < N) (hb : b < N) (hab : a ≠ b) (hla : (nx a).length ≤ 4096) (hlb : (nx b).length ≤ 4096)
 (k : NetW b0 w g m h N nx vs) (hr : RM w m r) :
 Calls Tryz.prog 54 #[.pointer (some ⟨g, 0, none⟩), .int .i64 (a : Int), .int .i64 (b : Int), .int .i64 x] w (JoinPost b0 g m h N nx r a b x w) := by
 have hgw := k.net.lt
 have hbw : b0 ≤ w.heap.size := by have := k.low; omega
 have HK := Lib.hid k
 have HR := Lib.hid hr
 have n0 := k.net.cell 0
 have hai : (a : Int) < (N : Int) := by omega
 have hbi : (b : Int) < (N : Int) := by omega
 obtain ⟨i0, hi, hz0, hz1, hz2⟩ := info_parts Tryz.infoBnI
 have HI := Lib.hid (And.intro hi (And.intro hz0 (And.intro hz1 hz2)))
 clear k hr hi hz0 hz1 hz2
 go_enter Tryz.func54, Tryz.ntmps54
 go_upto_region 1 with (first | (refine step_putR rfl _ _ _ rfl HR.out (u := a) (d := b) (by unfold nodeB; omega) (by unfold nodeB; omega) x rfl rfl rfl ?_; intro w1 hR1 hG1) | fail)
 have HK1 := Lib.hid (HK.out.gb HR.out hG1)
 have HR1 := Lib.hid hR1
 have HG1 : Hid (Gn b0 w w1) := Lib.hid (Gn.map HR.out hG1 HK.out.low.2.1)
 have hs1 : b0 ≤ w1.heap.size := Nat.le_trans hbw hG1.size
 clear hR1 hG1 n0 HK HR hbw hgw
 have n1 := HK1.out.net.cell 1
 have hda : Gr w1 (w1.alloc (.cells #[.int .i64 (b : Int)] 3)).drew := ((Gr.refl w1).alloc _).drew
 have HKa := Lib.hid (HK1.out.keep hda)
 have HRa := Lib.hid (HR1.out.keep hda)
 have hown := HKa.out.own a ha
 obtain ⟨na, hna⟩ : ∃ na, (nx a).length = na := ⟨_, rfl⟩
 rw [hna] at hown hla
 have HOA := Lib.hid hown
 have HNA := Lib.hid hna
 have c8 := HK1.out.read.c1
 obtain ⟨cs, hcb, hcs⟩ := HK1.out.lists
 have c9 : w1.cell? ⟨h, a, none⟩ = some (vs a) := (cell_of_row w1 h a cs _ _ hcb).trans (hcs a ha)
 have c10 : (w1.alloc (.cells #[.int .i64 (b : Int)] 3)).cell? ⟨h, a, none⟩ = some (vs a) := hda.keep c9
 have q1 := hda.keep n1
 clear hown hna hda hcb hcs
 obtain ⟨hi, hz0, hz1, hz2⟩ := HI.out
 refine wp_region_held_drew (S := (fun W' => W'.cell? ⟨g, 1, none⟩ = some (.slice (some ⟨h, 0, none⟩) N N))) ?_ ?_ (fun hHeld => ?_)
 ·kernel_rfl
 ·((try dsimp only); (first | exact hHeld | exact n1 | exact q1 | exact KG.out | exact KF.out))
 refine ti 0 (some 16) rfl rfl ?_; try simp only [Act.put, lA, lB, lC]
 refine ti 1 (some 17) rfl rfl ?_; try simp only [Act.put, lA, lB, lC]
 refine ti 2 (some 18) rfl rfl ?_; try simp only [Act.put, lA, lB, lC]
 refine ti 3 (some 19) rfl rfl ?_; try simp only [Act.put, lA, lB, lC]
 refine ti 4 (some 20) rfl rfl ?_; try simp only [Act.put, lA, lB, lC]
 refine ti 5 (some 21) rfl rfl ?_; try simp only [Act.put, lA, lB, lC]
 refine ti 6 (some 22) rfl rfl ?_; try simp only [Act.put, lA, lB, lC]
 refine ti 7 (some 23) rfl rfl ?_; try simp only [Act.put, lA, lB, lC]
 refine ti 8 (some 24) rfl rfl ?_; try simp only [Act.put, lA, lB, lC]
 refine ti 9 (some 25) rfl rfl ?_; try simp only [Act.put, lA, lB, lC]
 refine ti 10 (some 26) rfl rfl ?_; try simp only [Act.put, lA, lB, lC]
 refine ti 12 (some 28) rfl rfl ?_; try simp only [Act.put, lA, lB, lC]
 refine tr [11, 13] (.cons rfl (fun K hK => ?_) (.cons rfl (fun K hK => ?_) .nil))
 go_simp
 refine hK.out _ _ ?_ (fun hHeld => ?_)
 ·((try dsimp only); (first | exact hHeld | exact n1 | exact q1 | exact KG.out | exact KF.out))
 clear hK K; try simp only [Act.put, lA, lB, lC]
 refine tr [13] (.cons rfl (fun K hK => ?_) .nil)
 go_simp
 refine hK.out _ _ ?_ (fun hHeld => ?_)
 ·((try dsimp only); (first | exact hHeld | exact n1 | exact q1 | exact KG.out | exact KF.out))
 clear hK K; try simp only [Act.put, lA, lB, lC]
 refine tr [14] (.cons rfl (fun K hK => ?_) .nil)
 first | (refine step_append_lies _ (by rfl) (.tmp 27) (.tmp 29) 25 (by rfl) b0 3 i0 _ 1 8 Tryz.underlying25 hi hz0 hz1 hz2 rfl (by decide) (vs a) na (flatE enc1 (nodesI (nx a))) (by rfl) HOA.out ⟨w1.heap.size, 0, none⟩ 1 1 [.int .i64 (b : Int)] (by rfl) rfl (World.news_of_block (heap_alloc_new _ _)) (enc1_one (b : Int)) (by decide) (by unfold maxLen; omega) (by omega) (by simp; omega) _ rfl ?_; intro g' cap' w5 hown' hgrow hfr _; obtain ⟨hK6, hR6, hG6, d8, d9⟩ := HKa.out.grow HRa.out (u := a) (v := b) (v' := .slice (some ⟨g', 0, none⟩) (na + 1) cap') ha (by rw [HNA.out]; unfold nodesI; rw [List.map_append, flatE_app]; exact hown') hgrow ⟨g', rfl, hfr.imp (fun e => e) (fun e => by omega)⟩; have HK6 := Lib.hid hK6; have HR6 := Lib.hid hR6; have HG6 := Lib.hid hG6; have KG := Lib.hid (hHeld_of_grow HKa.out HRa.out hgrow ha); have KF := Lib.hid (hK6.net.cell 1); clear hK6 hR6 hG6 hown' hgrow hfr)
 refine hK.out _ _ ?_ (fun hHeld => ?_)
 ·((try dsimp only); (first | exact hHeld | exact n1 | exact q1 | exact KG.out | exact KF.out))
 clear hK K; try simp only [Act.put, lA, lB, lC]
 refine ti 15 (some 31) rfl rfl ?_; try simp only [Act.put, lA, lB, lC]
 refine tr [16] (.cons rfl (fun K hK => ?_) .nil)
 go_simp
 refine hK.out _ _ ?_ (fun hHeld => ?_)
 ·((try dsimp only); (first | exact hHeld | exact n1 | exact q1 | exact KG.out | exact KF.out))
 clear hK K; try simp only [Act.put, lA, lB, lC]
 refine wpAnyH_done ?_ ?_ _
 ·kernel_rfl
 rotate_left
 go_simp
 refine hK.out _ _ ?_ (fun hHeld => ?_)
 ·((try dsimp only); (first | exact hHeld | exact n1 | exact q1 | exact KG.out | exact KF.out))
 clear hK K; try simp only [Act.put, lA, lB, lC]
 refine tr [11] (.cons rfl (fun K hK => ?_) .nil)
 go_simp
 refine hK.out _ _ ?_ (fun hHeld => ?_)
 ·((try dsimp only); (first | exact hHeld | exact n1 | exact q1 | exact KG.out | exact KF.out))
 clear hK K; try simp only [Act.put, lA, lB, lC]
 refine tr [14] (.cons rfl (fun K hK => ?_) .nil)
 first | (refine step_append_lies _ (by rfl) (.tmp 27) (.tmp 29) 25 (by rfl) b0 3 i0 _ 1 8 Tryz.underlying25 hi hz0 hz1 hz2 rfl (by decide) (vs a) na (flatE enc1 (nodesI (nx a))) (by rfl) HOA.out ⟨w1.heap.size, 0, none⟩ 1 1 [.int .i64 (b : Int)] (by rfl) rfl (World.news_of_block (heap_alloc_new _ _)) (enc1_one (b : Int)) (by decide) (by unfold maxLen; omega) (by omega) (by simp; omega) _ rfl ?_; intro g' cap' w5 hown' hgrow hfr _; obtain ⟨hK6, hR6, hG6, d8, d9⟩ := HKa.out.grow HRa.out (u := a) (v := b) (v' := .slice (some ⟨g', 0, none⟩) (na + 1) cap') ha (by rw [HNA.out]; unfold nodesI; rw [List.map_append, flatE_app]; exact hown') hgrow ⟨g', rfl, hfr.imp (fun e => e) (fun e => by omega)⟩; have HK6 := Lib.hid hK6; have HR6 := Lib.hid hR6; have HG6 := Lib.hid hG6; have KG := Lib.hid (hHeld_of_grow HKa.out HRa.out hgrow ha); have KF := Lib.hid (hK6.net.cell 1); clear hK6 hR6 hG6 hown' hgrow hfr)
 refine hK.out _ _ ?_ (fun hHeld => ?_)
 ·((try dsimp only); (first | exact hHeld | exact n1 | exact q1 | exact KG.out | exact KF.out))
 clear hK K; try simp only [Act.put, lA, lB, lC]
 refine ti 15 (some 31) rfl rfl ?_; try simp only [Act.put, lA, lB, lC]
 refine tr [16] (.cons rfl (fun K hK => ?_) .nil)
 go_simp
 refine hK.out _ _ ?_ (fun hHeld => ?_)
 ·((try dsimp only); (first | exact hHeld | exact n1 | exact q1 | exact KG.out | exact KF.out))
 clear hK K; try simp only [Act.put, lA, lB, lC]
 refine wpAnyH_done ?_ ?_ _
 ·kernel_rfl
 rotate_left
 all_goals
  have HG7 := Lib.hid (HG1.out.trans ((Gn.of ((Gr.refl w1).alloc (.cells #[.int .i64 (b : Int)] 3)).drew).trans HG6.out))
  generalize w5.setCell _ _ = w6 at HK6 HR6 HG7 KF ⊢
  generalize hnx : updN nx a (nx a ++ [b]) = nx2 at HK6
  generalize updN vs a _ = vs2 at HK6
  have HNX := Lib.hid hnx
  have hlb2 : (nx2 b).length = (nx b).length := by rw [← hnx, updN_other _ _ (Ne.symm hab)]
  clear hnx KG d8 d9 HG6 HKa HRa HOA HNA HK1 HR1 HG1 c8 c9 c10 q1 n1 hHeld
  go_upto_region 2 with fail
  have m1 := KF.out
  have hda : Gr w6 (w6.alloc (.cells #[.int .i64 (a : Int)] 3)).drew := ((Gr.refl w6).alloc _).drew
  have HKa := Lib.hid (HK6.out.keep hda)
  have HRa := Lib.hid (HR6.out.keep hda)
  have hown := HKa.out.own b hb
  obtain ⟨nb, hnb⟩ : ∃ nb, (nx2 b).length = nb := ⟨_, rfl⟩
  rw [hnb] at hown hlb2
  have hnbl : nb ≤ 4096 := by omega
  have HOA := Lib.hid hown
  have HNB := Lib.hid hnb
  obtain ⟨cs2, hcb, hcs2⟩ := HK6.out.lists
  have c9 : w6.cell? ⟨h, b, none⟩ = some (vs2 b) := (cell_of_row w6 h b cs2 _ _ hcb).trans (hcs2 b hb)
  have c10 : (w6.alloc (.cells #[.int .i64 (a : Int)] 3)).cell? ⟨h, b, none⟩ = some (vs2 b) := hda.keep c9
  have q1 := hda.keep m1
  have hs6 : b0 ≤ w6.heap.size := by have := HG7.out.size; have := HK6.out.low; have := HK6.out.net.lt; omega
  clear hown hnb hda hcb hcs2 hlb2
  refine wp_region_held_drew (S := (fun W' => W'.cell? ⟨g, 1, none⟩ = some (.slice (some ⟨h, 0, none⟩) N N))) ?_ ?_ (fun hHeld => ?_)
  ·kernel_rfl
  ·((try dsimp only); (first | exact hHeld | exact m1 | exact q1 | exact KG.out | exact KF2.out))
  refine ti 0 (some 32) rfl rfl ?_; try simp only [Act.put, lA, lB, lC]
  refine ti 1 (some 33) rfl rfl ?_; try simp only [Act.put, lA, lB, lC]
  refine ti 2 (some 34) rfl rfl ?_; try simp only [Act.put, lA, lB, lC]
  refine ti 3 (some 35) rfl rfl ?_; try simp only [Act.put, lA, lB, lC]
  refine ti 4 (some 36) rfl rfl ?_; try simp only [Act.put, lA, lB, lC]
  refine ti 5 (some 37) rfl rfl ?_; try simp only [Act.put, lA, lB, lC]
  refine ti 6 (some 38) rfl rfl ?_; try simp only [Act.put, lA, lB, lC]
  refine ti 7 (some 39) rfl rfl ?_; try simp only [Act.put, lA, lB, lC]
  refine ti 8 (some 40) rfl rfl ?_; try simp only [Act.put, lA, lB, lC]
  refine ti 9 (some 41) rfl rfl ?_; try simp only [Act.put, lA, lB, lC]
  refine ti 10 (some 42) rfl rfl ?_; try simp only [Act.put, lA, lB, lC]
  refine ti 12 (some 44) rfl rfl ?_; try simp only [Act.put, lA, lB, lC]
  refine tr [11, 13] (.cons rfl (fun K hK => ?_) (.cons rfl (fun K hK => ?_) .nil))
  go_simp
  refine hK.out _ _ ?_ (fun hHeld => ?_)
  ·((try dsimp only); (first | exact hHeld | exact m1 | exact q1 | exact KG.out | exact KF2.out))
  clear hK K; try simp only [Act.put, lA, lB, lC]
  refine tr [13] (.cons rfl (fun K hK => ?_) .nil)
  go_simp
  refine hK.out _ _ ?_ (fun hHeld => ?_)
  ·((try dsimp only); (first | exact hHeld | exact m1 | exact q1 | exact KG.out | exact KF2.out))
  clear hK K; try simp only [Act.put, lA, lB, lC]
  refine tr [14] (.cons rfl (fun K hK => ?_) .nil)
  first | (refine step_append_lies _ (by rfl) (.tmp 43) (.tmp 45) 25 (by rfl) b0 3 i0 _ 1 8 Tryz.underlying25 hi hz0 hz1 hz2 rfl (by decide) (vs2 b) nb (flatE enc1 (nodesI (nx2 b))) (by rfl) HOA.out ⟨w6.heap.size, 0, none⟩ 1 1 [.int .i64 (a : Int)] (by rfl) rfl (World.news_of_block (heap_alloc_new _ _)) (enc1_one (a : Int)) (by decide) (by unfold maxLen; omega) (by omega) (by simp; omega) _ rfl ?_; intro g2 cap2 w7 hown' hgrow hfr _; obtain ⟨hK8, hR8, hG8, d8, d9⟩ := HKa.out.grow HRa.out (u := b) (v := a) (v' := .slice (some ⟨g2, 0, none⟩) (nb + 1) cap2) hb (by rw [HNB.out]; unfold nodesI; rw [List.map_append, flatE_app]; exact hown') hgrow ⟨g2, rfl, hfr.imp (fun e => e) (fun e => by omega)⟩; have HK8 := Lib.hid hK8; have HR8 := Lib.hid hR8; have HG8 := Lib.hid hG8; have KG := Lib.hid (hHeld_of_grow HKa.out HRa.out hgrow hb); have KF2 := Lib.hid (hK8.net.cell 1); clear hK8 hR8 hG8 hown' hgrow hfr)
  refine hK.out _ _ ?_ (fun hHeld => ?_)
  ·((try dsimp only); (first | exact hHeld | exact m1 | exact q1 | exact KG.out | exact KF2.out))
  clear hK K; try simp only [Act.put, lA, lB, lC]
  refine ti 15 (some 47) rfl rfl ?_; try simp only [Act.put, lA, lB, lC]
  refine tr [16] (.cons rfl (fun K hK => ?_) .nil)
  go_simp
  refine hK.out _ _ ?_ (fun hHeld => ?_)
  ·((try dsimp only); (first | exact hHeld | exact m1 | exact q1 | exact KG.out | exact KF2.out))
  clear hK K; try simp only [Act.put, lA, lB, lC]
  refine wpAnyH_done ?_ ?_ _
  ·kernel_rfl
  rotate_left
  go_simp
  refine hK.out _ _ ?_ (fun hHeld => ?_)
  ·((try dsimp only); (first | exact hHeld | exact m1 | exact q1 | exact KG.out | exact KF2.out))
  clear hK K; try simp only [Act.put, lA, lB, lC]
  refine tr [11] (.cons rfl (fun K hK => ?_) .nil)
  go_simp
  refine hK.out _ _ ?_ (fun hHeld => ?_)
  ·((try dsimp only); (first | exact hHeld | exact m1 | exact q1 | exact KG.out | exact KF2.out))
  clear hK K; try simp only [Act.put, lA, lB, lC]
  refine tr [14] (.cons rfl (fun K hK => ?_) .nil)
  first | (refine step_append_lies _ (by rfl) (.tmp 43) (.tmp 45) 25 (by rfl) b0 3 i0 _ 1 8 Tryz.underlying25 hi hz0 hz1 hz2 rfl (by decide) (vs2 b) nb (flatE enc1 (nodesI (nx2 b))) (by rfl) HOA.out ⟨w6.heap.size, 0, none⟩ 1 1 [.int .i64 (a : Int)] (by rfl) rfl (World.news_of_block (heap_alloc_new _ _)) (enc1_one (a : Int)) (by decide) (by unfold maxLen; omega) (by omega) (by simp; omega) _ rfl ?_; intro g2 cap2 w7 hown' hgrow hfr _; obtain ⟨hK8, hR8, hG8, d8, d9⟩ := HKa.out.grow HRa.out (u := b) (v := a) (v' := .slice (some ⟨g2, 0, none⟩) (nb + 1) cap2) hb (by rw [HNB.out]; unfold nodesI; rw [List.map_append, flatE_app]; exact hown') hgrow ⟨g2, rfl, hfr.imp (fun e => e) (fun e => by omega)⟩; have HK8 := Lib.hid hK8; have HR8 := Lib.hid hR8; have HG8 := Lib.hid hG8; have KG := Lib.hid (hHeld_of_grow HKa.out HRa.out hgrow hb); have KF2 := Lib.hid (hK8.net.cell 1); clear hK8 hR8 hG8 hown' hgrow hfr)
  refine hK.out _ _ ?_ (fun hHeld => ?_)
  ·((try dsimp only); (first | exact hHeld | exact m1 | exact q1 | exact KG.out | exact KF2.out))
  clear hK K; try simp only [Act.put, lA, lB, lC]
  refine ti 15 (some 47) rfl rfl ?_; try simp only [Act.put, lA, lB, lC]
  refine tr [16] (.cons rfl (fun K hK => ?_) .nil)
  go_simp
  refine hK.out _ _ ?_ (fun hHeld => ?_)
  ·((try dsimp only); (first | exact hHeld | exact m1 | exact q1 | exact KG.out | exact KF2.out))
  clear hK K; try simp only [Act.put, lA, lB, lC]
  refine wpAnyH_done ?_ ?_ _
  ·kernel_rfl
  rotate_left
  all_goals
   have HG9 := Lib.hid (HG7.out.trans ((Gn.of ((Gr.refl w6).alloc (.cells #[.int .i64 (a : Int)] 3)).drew).trans HG8.out))
   generalize w7.setCell _ _ = w8 at HK8 HR8 HG9 ⊢
   go_wp2_with fail
   first | go_ret | go_end0
   have hk := HK8.out
   rw [← HNX.out, addN_upd nx hab] at hk
   exact ⟨rfl, _, hk, HR8.out, HG9.out⟩

end Go.Proofs.YtobcdkjomehdkaaGreat

namespace Go.Proofs.YtobcdkjomehdkaaGreat
set_option linter.unusedSimpArgs false
set_option maxRecDepth 100000
set_option maxHeartbeats 80000000

theorem nodup_le : ∀ (N : Nat) (l : List Nat), l.Nodup → (∀ x ∈ l, x < N) → l.length ≤ N := fun N l h1 h2 => by
 have h3 : l.Pairwise fun x y : Nat => (1 : Int) = 1 → (1 : Int) = 1 → ((x : Nat) : Int) ≠ ((y : Nat) : Int) := h1.imp fun {a b} h _ _ e => h (by omega)
 have h := count_places (fun x : Nat => (x : Int)) (fun _ => 1) N l (fun _ _ => Or.inr rfl) (fun x hx _ => by have := h2 x hx; omega) h3
 have e : ∀ l : List Nat, lsum (fun _ => (1 : Int)) l = l.length := fun l => by
  induction l with
  | nil => rfl
  | cons x r ih => simp only [lsum, ih, List.length_cons]; omega
 rw [e] at h
 omega

structure SI (r : Nat → Nat → Int) (nx : Nat → List Nat) (N : Nat) (F : Nat → Option Nat) (Q : List Nat) : Prop where
 mem : ∀ v, F v ≠ none ↔ v ∈ Q
 nodup : Q.Nodup
 lt : ∀ v ∈ Q, v < N
 zero : F 0 = some 0
 pred : ∀ v d, F v = some d → (v = 0 ∧ d = 0) ∨ ∃ u d', F u = some d' ∧ d = d' + 1 ∧ v ∈ nx u ∧ 0 < r u v
 dist : ∀ i u d, Q[i]? = some u → F u = some d → d ≤ i
def Clo (r : Nat → Nat → Int) (nx : Nat → List Nat) (F : Nat → Option Nat) (u j : Nat) : Prop := ∀ v ∈ (nx u).take j, 0 < r u v → F v ≠ none

theorem SI.start (r : Nat → Nat → Int) (nx : Nat → List Nat) {N : Nat} (hN : 1 ≤ N) {F : Nat → Option Nat} (h : ∀ v, F v = if v = 0 then some 0 else none) : SI r nx N F [0] := by
 refine ⟨fun v => ?_, by simp, fun v hv => ?_, by rw [h, if_pos rfl], fun v d hd => ?_, fun i u d hi hd => ?_⟩
 ·rw [h]; split <;> simp_all
 ·simp at hv; omega
 ·rw [h] at hd
  split at hd
  ·exact Or.inl ⟨by assumption, by simpa using hd.symm⟩
  ·simp at hd
 ·rw [h] at hd
  split at hd
  ·have : d = 0 := by simpa using hd.symm
   omega
  ·simp at hd

theorem SI.len {r : Nat → Nat → Int} {nx : Nat → List Nat} {N : Nat} {F : Nat → Option Nat} {Q : List Nat} (h : SI r nx N F Q) : Q.length ≤ N := nodup_le N Q h.nodup h.lt

theorem setF_mono {F : Nat → Option Nat} {u : Nat} {x : Nat} {v : Nat} (h : F v ≠ none) : setF F u (some x) v ≠ none := by
 unfold setF; split
 ·simp
 ·exact h
theorem Clo.mono {r : Nat → Nat → Int} {nx : Nat → List Nat} {F F' : Nat → Option Nat} {u j : Nat} (h : Clo r nx F u j) (k : ∀ v, F v ≠ none → F' v ≠ none) : Clo r nx F' u j := fun v hv hr => k v (h v hv hr)

theorem SI.add {r : Nat → Nat → Int} {nx : Nat → List Nat} {N : Nat} {F : Nat → Option Nat} {Q : List Nat} (h : SI r nx N F Q) {k u v d : Nat} (hk : Q[k]? = some u) (hd : F u = some d) (hv : v ∈ nx u) (hr : 0 < r u v) (hN : v < N) (hF : F v = none) :
 SI r nx N (setF F v (some (d + 1))) (Q ++ [v]) := by
 have hnq : v ∉ Q := fun hq => (h.mem v).2 hq hF
 have hs : ∀ a, a ≠ v → setF F v (some (d + 1)) a = F a := fun a ha => by unfold setF; rw [if_neg ha]
 have hvv : setF F v (some (d + 1)) v = some (d + 1) := by unfold setF; rw [if_pos rfl]
 have huv : u ≠ v := fun e => by rw [e, hF] at hd; cases hd
 refine ⟨fun a => ?_, ?_, ?_, ?_, ?_, ?_⟩
 ·by_cases e : a = v
  ·subst e; rw [hvv]; simp
  ·rw [hs a e, h.mem a]; simp [e]
 ·refine List.nodup_append.2 ⟨h.nodup, by simp, fun a ha b hb e => ?_⟩
  simp at hb
  subst e; subst hb
  exact hnq ha
 ·intro a ha
  rcases List.mem_append.1 ha with ha | ha
  ·exact h.lt a ha
  ·simp at ha; omega
 ·rw [hs 0 (fun e => by rw [← e, h.zero] at hF; cases hF)]; exact h.zero
 ·intro a x hx
  by_cases e : a = v
  ·subst e
   rw [hvv] at hx
   exact Or.inr ⟨u, d, (hs u huv).trans hd, by simpa using hx.symm, hv, hr⟩
  ·rw [hs a e] at hx
   rcases h.pred a x hx with c | ⟨u', d', c1, c2, c3, c4⟩
   ·exact Or.inl c
   ·exact Or.inr ⟨u', d', (hs u' (fun e' => by rw [e', hF] at c1; cases c1)).trans c1, c2, c3, c4⟩
 ·intro i a x hi hx
  rcases Nat.lt_or_ge i Q.length with c | c
  ·rw [List.getElem?_append_left c] at hi
   have ha : a ≠ v := fun e => hnq (e ▸ List.mem_of_getElem? hi)
   rw [hs a ha] at hx
   exact h.dist i a x hi hx
  ·rw [List.getElem?_append_right c] at hi
   have hi0 : i - Q.length = 0 := by
    rcases Nat.eq_zero_or_pos (i - Q.length) with z | z
    ·exact z
    ·rw [List.getElem?_eq_none (by simp; omega)] at hi; cases hi
   rw [hi0] at hi
   obtain rfl : v = a := by simpa using hi
   rw [hvv] at hx
   have e1 : d + 1 = x := by simpa using hx
   have e2 := h.dist k u d hk hd
   have e3 := (List.getElem?_eq_some_iff.1 hk).1
   omega
theorem Clo.step {r : Nat → Nat → Int} {nx : Nat → List Nat} {F : Nat → Option Nat} {u j v : Nat} (h : Clo r nx F u j) (hv : (nx u)[j]? = some v) (k : 0 < r u v → F v ≠ none) : Clo r nx F u (j + 1) := fun a ha hr => by
 rw [List.take_add_one, hv] at ha
 rcases List.mem_append.1 ha with ha | ha
 ·exact h a ha hr
 ·simp at ha; subst ha; exact k hr

inductive Lv (r : Nat → Nat → Int) (nx : Nat → List Nat) (F : Nat → Option Nat) : Nat → Prop
 | sink : F 1 ≠ none → Lv r nx F 1
 | step (u v d : Nat) : F u = some d → F v = some (d + 1) → v ∈ nx u → 0 < r u v → Lv r nx F v → Lv r nx F u

structure Found (r : Nat → Nat → Int) (nx : Nat → List Nat) (N : Nat) (F : Nat → Option Nat) : Prop where
 lt : ∀ v, F v ≠ none → v < N
 zero : F 0 = some 0
 pred : ∀ v d, F v = some d → (v = 0 ∧ d = 0) ∨ ∃ u d', F u = some d' ∧ d = d' + 1 ∧ v ∈ nx u ∧ 0 < r u v
 dist : ∀ v d, F v = some d → d < N
 clo : ∀ u, F u ≠ none → ∀ v ∈ nx u, 0 < r u v → F v ≠ none
theorem Found.lv {r : Nat → Nat → Int} {nx : Nat → List Nat} {N : Nat} {F : Nat → Option Nat} (h : Found r nx N F) : ∀ (d v : Nat), F v = some d → Lv r nx F v → Lv r nx F 0
 | 0, v, hv, hl => by
   rcases h.pred v 0 hv with ⟨rfl, -⟩ | ⟨u, d', -, e, -⟩
   ·exact hl
   ·omega
 | d + 1, v, hv, hl => by
   rcases h.pred v (d + 1) hv with ⟨rfl, e⟩ | ⟨u, d', c1, e, c3, c4⟩
   ·omega
   ·obtain rfl : d = d' := by omega
    exact Found.lv h d u c1 (Lv.step u v d c1 hv c3 c4 hl)
theorem Found.way {r : Nat → Nat → Int} {nx : Nat → List Nat} {N : Nat} {F : Nat → Option Nat} (h : Found r nx N F) (h1 : F 1 ≠ none) : Lv r nx F 0 := by
 obtain ⟨d, hd⟩ := Option.ne_none_iff_exists'.1 h1
 exact h.lv d 1 hd (Lv.sink h1)
theorem Lv.without {r : Nat → Nat → Int} {nx : Nat → List Nat} {F F' : Nat → Option Nat} (hs : ∀ v, F' v = F v ∨ (F' v = none ∧ ¬ Lv r nx F v)) {u : Nat} (h : Lv r nx F u) : Lv r nx F' u := by
 induction h with
 | sink h1 =>
   rcases hs 1 with e | ⟨-, k⟩
   ·exact Lv.sink (by rw [e]; exact h1)
   ·exact absurd (Lv.sink h1) k
 | step u v d a1 a2 a3 a4 a5 ih =>
   rcases hs u with e | ⟨-, k⟩
   ·rcases hs v with e' | ⟨-, k⟩
    ·exact Lv.step u v d (e.trans a1) (e'.trans a2) a3 a4 ih
    ·exact absurd a5 k
   ·exact absurd (Lv.step u v d a1 a2 a3 a4 a5) k
end Go.Proofs.YtobcdkjomehdkaaGreat
