/- Layer 4: a network as it lies in memory. -/
import Derived.Test.YtobcdkjomehdkaaGreatBu28
import Derived.Test.YtobcdkjomehdkaaGreatBu29
import Derived.Test.YtobcdkjomehdkaaGreatBu2
import Derived.Maps.Keyed
namespace Go.Proofs.YtobcdkjomehdkaaGreat
open Go.RowKit
open Go.Maps (Keyed)
set_option linter.unusedSimpArgs false
set_option maxRecDepth 100000
set_option maxHeartbeats 80000000

/-! ### Keys -/
theorem arc_law : Keyed Tryz.prog 156 :=
 Keyed.of_law (deep_law_laid laid_out (m := 2) (by omega) (of_decide_eq_true (by kernel_rfl)) (by kernel_rfl) (by rw [Tryz.underlying156]))
theorem int_law : Keyed Tryz.prog 3 := Go.Maps.int_keyed Tryz.underlying3
theorem arc_key {p : Int × Int} (h1 : -9223372036854775808 ≤ p.1 ∧ p.1 ≤ 9223372036854775807) (h2 : -9223372036854775808 ≤ p.2 ∧ p.2 ≤ 9223372036854775807) : ∃ kl, keyOf Tryz.prog 156 (pairK p) = some kl := by
 have hkt : Tryz.prog.keyType 156 = true := by kernel_rfl
 have hc : Tryz.prog.cellsOf 156 = 2 := by kernel_rfl
 have hci : Tryz.prog.cellsOf 3 = 1 := by kernel_rfl
 obtain ⟨m, hm⟩ : ∃ m, Tryz.prog.types.size = m + 1 := ⟨Tryz.prog.types.size - 1, by kernel_rfl⟩
 have w1 := int_wf h1
 have w2 := int_wf h2
 unfold keyOf pairK
 simp only [Tryz.underlying156]
 rw [if_pos (by simp [hkt, Value.formed, Tryz.underlying156, hc]), hm]
 unfold Program.keyLits
 simp only [Tryz.underlying156, Value.cells]
 rw [if_pos (by rw [hc]; exact ⟨rfl, by simp⟩)]
 simp [Program.keyLits, Tryz.underlying3, hci, w1, w2]
theorem node_key {a : Int} (h : -9223372036854775808 ≤ a ∧ a ≤ 9223372036854775807) : ∃ kl, keyOf Tryz.prog 3 (intV a) = some kl := ⟨_, Go.Maps.keyOf_int_mk Tryz.underlying3 (int_wf h)⟩
theorem intV_inj (a b : Int) (h : intV a = intV b) : a = b := by injection h
theorem zero_int (w : World) : (zeroValue 3).run Tryz.prog w = .ok (intV 0) w := by kernel_rfl

/-! ### Frames: only two blocks may have changed -/
structure Gt (a b : Nat) (w w' : World) : Prop where
 os : w'.os = w.os
 tape : w'.tape = w.tape
 output : w'.output = w.output
 size : w.heap.size ≤ w'.heap.size
 block : ∀ i, i < w.heap.size → i ≠ a → i ≠ b → w'.heap[i]? = w.heap[i]?
theorem Gt.refl (a b : Nat) (w : World) : Gt a b w w := ⟨rfl, rfl, rfl, Nat.le_refl _, fun _ _ _ _ => rfl⟩
theorem Gt.trans {a b : Nat} {u v w : World} (h : Gt a b u v) (k : Gt a b v w) : Gt a b u w :=
 ⟨k.os.trans h.os, k.tape.trans h.tape, k.output.trans h.output, Nat.le_trans h.size k.size, fun i hi h1 h2 => (k.block i (Nat.lt_of_lt_of_le hi h.size) h1 h2).trans (h.block i hi h1 h2)⟩
theorem Gt.of {w w' : World} (h : Gr w w') (a b : Nat) : Gt a b w w' := ⟨h.os, h.tape, h.output, h.size, fun i hi _ _ => h.block i hi⟩
theorem Gt.left {w w' : World} {a : Nat} (h : Gb a w w') (b : Nat) : Gt a b w w' := ⟨h.os, h.tape, h.output, h.size, fun i hi h1 _ => h.block i hi (fun e => h1 (Option.some.inj e))⟩
theorem Gt.right {w w' : World} {b : Nat} (h : Gb b w w') (a : Nat) : Gt a b w w' := ⟨h.os, h.tape, h.output, h.size, fun i hi _ h2 => h.block i hi (fun e => h2 (Option.some.inj e))⟩
theorem Gt.blk {a b : Nat} {w w' : World} (h : Gt a b w w') {g : Nat} {t : TypeId} {cs : Array Value} (hb : Blk w g t cs) (h1 : g ≠ a) (h2 : g ≠ b) : Blk w' g t cs :=
 (h.block g hb.lt h1 h2).trans hb
theorem Gt.cell {a b : Nat} {w w' : World} (h : Gt a b w w') {g o : Nat} {v : Value} (hc : w.cell? ⟨g, o, none⟩ = some v) (h1 : g ≠ a) (h2 : g ≠ b) : w'.cell? ⟨g, o, none⟩ = some v := by
 have hlt := World.block_lt_of_cell? w _ hc
 have hb := h.block g hlt h1 h2
 rw [← hc]
 unfold World.cell?
 simp only [hb]
/-! ### The two maps -/
def RM (w : World) (m : Nat) (r : Nat → Nat → Int) : Prop :=
 ∃ l : List ((Int × Int) × Int), Mp Tryz.prog 156 pairK intV w m l ∧ ∀ u v : Nat, (mget l ((u : Int), (v : Int))).getD 0 = r u v
def FM (w : World) (m : Nat) (F : Nat → Option Nat) : Prop :=
 ∃ l : List (Int × Int), Mp Tryz.prog 3 intV intV w m l ∧ (∀ u : Nat, mget l (u : Int) = (F u).map fun d => (d : Int)) ∧ ∀ p ∈ l, 0 ≤ p.1
theorem RM.lt {w : World} {m : Nat} {r : Nat → Nat → Int} (h : RM w m r) : m < w.heap.size := by obtain ⟨l, h, -⟩ := h; exact h.lt
theorem RM.keep {w w' : World} {m : Nat} {r : Nat → Nat → Int} (h : RM w m r) (hg : Gr w w') : RM w' m r := by obtain ⟨l, h, k⟩ := h; exact ⟨l, h.keep hg, k⟩
theorem FM.keep {w w' : World} {m : Nat} {F : Nat → Option Nat} (h : FM w m F) (hg : Gr w w') : FM w' m F := by obtain ⟨l, h, k⟩ := h; exact ⟨l, h.keep hg, k⟩
theorem RM.gb {w w' : World} {m g : Nat} {r : Nat → Nat → Int} (h : RM w m r) (hg : Gb g w w') (hne : m ≠ g) : RM w' m r := by obtain ⟨l, h, k⟩ := h; exact ⟨l, h.grown hg (fun e => hne (Option.some.inj e)), k⟩
theorem FM.gb {w w' : World} {m g : Nat} {F : Nat → Option Nat} (h : FM w m F) (hg : Gb g w w') (hne : m ≠ g) : FM w' m F := by obtain ⟨l, h, k⟩ := h; exact ⟨l, h.grown hg (fun e => hne (Option.some.inj e)), k⟩

def nodeB (u : Nat) : Prop := u ≤ 1048576
theorem nk {u : Nat} (h : nodeB u) : -9223372036854775808 ≤ (u : Int) ∧ (u : Int) ≤ 9223372036854775807 := by unfold nodeB at h; omega

theorem FM.look {w : World} {m : Nat} {F : Nat → Option Nat} (h : FM w m F) {u : Nat} (hu : nodeB u) :
 (Instr.lookup 115 (.map (some m)) (.int .i64 (u : Int)) false).run Tryz.prog w = .ok (.int .i64 (((F u).getD 0 : Nat) : Int)) w := by
 obtain ⟨l, h, k, -⟩ := h
 obtain ⟨kl, hk⟩ := node_key (nk hu)
 have := h.look intV_inj int_law Tryz.underlying115 (zero_int w) false (a := (u : Int)) hk
 rw [k u] at this
 cases hF : F u with
 | none => rw [hF] at this; simpa [intV] using this
 | some d => rw [hF] at this; simpa [intV] using this
theorem FM.look2 {w : World} {m : Nat} {F : Nat → Option Nat} (h : FM w m F) {u : Nat} (hu : nodeB u) :
 (Instr.lookup 115 (.map (some m)) (.int .i64 (u : Int)) true).run Tryz.prog w = .ok (.tuple #[.int .i64 (((F u).getD 0 : Nat) : Int), .bool (F u).isSome]) w := by
 obtain ⟨l, h, k, -⟩ := h
 obtain ⟨kl, hk⟩ := node_key (nk hu)
 have := h.look intV_inj int_law Tryz.underlying115 (zero_int w) true (a := (u : Int)) hk
 rw [k u] at this
 cases hF : F u with
 | none => rw [hF] at this; simpa [intV] using this
 | some d => rw [hF] at this; simpa [intV] using this
theorem RM.look {w : World} {m : Nat} {r : Nat → Nat → Int} (h : RM w m r) {u v : Nat} (hu : nodeB u) (hv : nodeB v) :
 (Instr.lookup 152 (.map (some m)) (.agg #[.int .i64 (u : Int), .int .i64 (v : Int)]) false).run Tryz.prog w = .ok (.int .i64 (r u v)) w := by
 obtain ⟨l, h, k⟩ := h
 obtain ⟨kl, hk⟩ := arc_key (p := ((u : Int), (v : Int))) (nk hu) (nk hv)
 have := h.look pairK_inj arc_law Tryz.underlying152 (zero_int w) false (a := ((u : Int), (v : Int))) hk
 rw [← k u v]
 cases hF : mget l ((u : Int), (v : Int)) with
 | none => rw [hF] at this; simpa [intV, pairK] using this
 | some d => rw [hF] at this; simpa [intV, pairK] using this

def setF (F : Nat → Option Nat) (u : Nat) (x : Option Nat) : Nat → Option Nat := fun v => if v = u then x else F v
def setR (r : Nat → Nat → Int) (u v : Nat) (x : Int) : Nat → Nat → Int := fun a b => if a = u ∧ b = v then x else r a b

theorem FM.put {w : World} {m : Nat} {F : Nat → Option Nat} (h : FM w m F) {u d : Nat} (hu : nodeB u) :
 ∃ w', (Instr.mapUpdate 115 (.map (some m)) (.int .i64 (u : Int)) (.int .i64 (d : Int))).run Tryz.prog w = .ok () w' ∧ FM w' m (setF F u (some d)) ∧ Gb m w w' := by
 obtain ⟨l, h, k, k2⟩ := h
 obtain ⟨kl, hk⟩ := node_key (nk hu)
 obtain ⟨w', h1, h2, h3⟩ := h.store intV_inj int_law Tryz.underlying115 (a := (u : Int)) hk (d : Int)
 refine ⟨w', h1, ⟨_, h2, fun v => ?_, fun p hp => ?_⟩, h3⟩
 ·rw [mget_put]
  unfold setF
  by_cases e : v = u
  ·rw [if_pos (by omega), if_pos e]; rfl
  ·rw [if_neg (by omega), if_neg e]; exact k v
 ·have := mget_of h2.apart hp
  rw [mget_put] at this
  by_cases e : p.1 = (u : Int)
  ·omega
  ·rw [if_neg e] at this
   exact k2 _ (mget_some this)
theorem FM.del {w : World} {m : Nat} {F : Nat → Option Nat} (h : FM w m F) {u : Nat} (hu : nodeB u) (ty : TypeId) :
 ∃ w', (Builtin.delete_ #[115, 3] ty #[.map (some m), .int .i64 (u : Int)]).run Tryz.prog w = .ok (.tuple #[]) w' ∧ FM w' m (setF F u none) ∧ Gb m w w' := by
 obtain ⟨l, h, k, k2⟩ := h
 obtain ⟨kl, hk⟩ := node_key (nk hu)
 obtain ⟨w', h1, h2, h3⟩ := h.drop intV_inj int_law Tryz.underlying115 ty (a := (u : Int)) hk
 refine ⟨w', h1, ⟨_, h2, fun v => ?_, fun p hp => ?_⟩, h3⟩
 ·rw [mget_del]
  unfold setF
  by_cases e : v = u
  ·rw [if_pos (by omega), if_pos e]; rfl
  ·rw [if_neg (by omega), if_neg e]; exact k v
 ·unfold mdel at hp
  exact k2 p (List.mem_filter.1 hp).1
theorem RM.put {w : World} {m : Nat} {r : Nat → Nat → Int} (h : RM w m r) {u v : Nat} (hu : nodeB u) (hv : nodeB v) (x : Int) :
 ∃ w', (Instr.mapUpdate 152 (.map (some m)) (.agg #[.int .i64 (u : Int), .int .i64 (v : Int)]) (.int .i64 x)).run Tryz.prog w = .ok () w' ∧ RM w' m (setR r u v x) ∧ Gb m w w' := by
 obtain ⟨l, h, k⟩ := h
 obtain ⟨kl, hk⟩ := arc_key (p := ((u : Int), (v : Int))) (nk hu) (nk hv)
 obtain ⟨w', h1, h2, h3⟩ := h.store pairK_inj arc_law Tryz.underlying152 (a := ((u : Int), (v : Int))) hk x
 refine ⟨w', h1, ⟨_, h2, fun a b => ?_⟩, h3⟩
 rw [mget_put]
 unfold setR
 by_cases e : a = u ∧ b = v
 ·rw [if_pos (by rw [e.1, e.2]), if_pos e]; rfl
 ·rw [if_neg (fun e' => e (by have e1 := congrArg Prod.fst e'; have e2 := congrArg Prod.snd e'; dsimp only at e1 e2; omega)), if_neg e]; exact k a b
theorem RM.enter {w : World} {m : Nat} {r : Nat → Nat → Int} (h : RM w m r) {u v : Nat} (hu : nodeB u) (hv : nodeB v) :
 ∃ (st : Nat) (w1 : World), (Instr.mapEntry 152 (.map (some m)) (.agg #[.int .i64 (u : Int), .int .i64 (v : Int)])).run Tryz.prog w = .ok (.tuple #[.int .i64 (r u v), goInt st]) w1 ∧ RM w1 m r ∧ Gb m w w1 ∧ w1.heap.size = w.heap.size ∧
  ∀ (w2 : World) (y : Int), Gr w1 w2 → ∃ w3, (Instr.entryStore 152 (.map (some m)) (goInt st) (.int .i64 y)).run Tryz.prog w2 = .ok () w3 ∧ RM w3 m (setR r u v y) ∧ Gb m w2 w3 ∧ w3.heap.size = w2.heap.size := by
 obtain ⟨l, h, k⟩ := h
 obtain ⟨kl, hk⟩ := arc_key (p := ((u : Int), (v : Int))) (nk hu) (nk hv)
 obtain ⟨st, w1, h1, h2, h3, h4, h5⟩ := h.enter pairK_inj arc_law Tryz.underlying152 (y0 := 0) (fun u => zero_int u) (a := ((u : Int), (v : Int))) hk
 rw [k u v] at h1 h2
 have hput : ∀ (y : Int) (a b : Nat), (mget (mput l ((u : Int), (v : Int)) y) ((a : Int), (b : Int))).getD 0 = setR r u v y a b := fun y a b => by
  rw [mget_put]
  unfold setR
  by_cases e : a = u ∧ b = v
  ·rw [if_pos (by rw [e.1, e.2]), if_pos e]; rfl
  ·rw [if_neg (fun e' => e (by have e1 := congrArg Prod.fst e'; have e2 := congrArg Prod.snd e'; dsimp only at e1 e2; omega)), if_neg e]; exact k a b
 refine ⟨st, w1, h1, ⟨_, h2, fun a b => ?_⟩, h3, h4, fun w2 y hg => ?_⟩
 ·rw [hput]
  unfold setR
  split
  ·rename_i e; rw [e.1, e.2]
  ·rfl
 ·obtain ⟨w3, g1, g2, g3, g4⟩ := h5 w2 y hg
  exact ⟨w3, g1, ⟨_, g2, hput y⟩, g3, g4⟩

/-! ### At the operations -/
section
variable {ops : Array Oper} {rest : List Oper} {o : Oper} {a : Act} {Q : Exit → Act → World → Prop} {w : World}
theorem step_putF (hg : o.guard = none) (m x v : Operand) (hop : o.op = Op.mapUpdate 115 m x v) {fb : Nat} {F : Nat → Option Nat} (h : FM w fb F) {u d : Nat} (hu : nodeB u)
 (hm : a.eval m = .map (some fb)) (hx : a.eval x = .int .i64 (u : Int)) (hv : a.eval v = .int .i64 (d : Int))
 (hC : ∀ w', FM w' fb (setF F u (some d)) → Gb fb w w' → wpList Tryz.prog ops Q rest (a.put o.dst undef) w') : wpList Tryz.prog ops Q (o :: rest) a w := by
 refine wpList_plain hg fun K' hK' => ?_
 obtain ⟨w', hrun, r1, r2⟩ := h.put (d := d) hu
 unfold Oper.wp
 simp [execOp, hop, hm, hx, hv, hrun, Result.andThen]
 exact hK' _ _ (hC w' r1 r2)
theorem step_delF (hg : o.guard = none) (m x : Operand) (hop : o.op = Op.call { callee := Callee.builtin Builtin.delete, args := #[m, x], argTypes := #[115, 3] }) {fb : Nat} {F : Nat → Option Nat} (h : FM w fb F) {u : Nat} (hu : nodeB u)
 (hm : a.eval m = .map (some fb)) (hx : a.eval x = .int .i64 (u : Int))
 (hC : ∀ w', FM w' fb (setF F u none) → Gb fb w w' → wpList Tryz.prog ops Q rest (a.put o.dst (.tuple #[])) w') : wpList Tryz.prog ops Q (o :: rest) a w := by
 refine wpList_plain hg fun K' hK' => ?_
 obtain ⟨w', hrun, r1, r2⟩ := h.del hu o.type
 unfold Oper.wp
 simp [execOp, hop, resolve, invoke, builtin, hm, hx, hrun, Result.andThen]
 exact hK' _ _ (hC w' r1 r2)
theorem step_putR (hg : o.guard = none) (m x v : Operand) (hop : o.op = Op.mapUpdate 152 m x v) {rb : Nat} {r : Nat → Nat → Int} (h : RM w rb r) {u d : Nat} (hu : nodeB u) (hd : nodeB d) (y : Int)
 (hm : a.eval m = .map (some rb)) (hx : a.eval x = .agg #[.int .i64 (u : Int), .int .i64 (d : Int)]) (hv : a.eval v = .int .i64 y)
 (hC : ∀ w', RM w' rb (setR r u d y) → Gb rb w w' → wpList Tryz.prog ops Q rest (a.put o.dst undef) w') : wpList Tryz.prog ops Q (o :: rest) a w := by
 refine wpList_plain hg fun K' hK' => ?_
 obtain ⟨w', hrun, r1, r2⟩ := h.put hu hd y
 unfold Oper.wp
 simp [execOp, hop, hm, hx, hv, hrun, Result.andThen]
 exact hK' _ _ (hC w' r1 r2)
theorem step_insF (hg : o.guard = none) (m x v : Operand) (hop : o.op = Op.insert 115 m x v) {fb : Nat} {F : Nat → Option Nat} (h : FM w fb F) {u d : Nat} (hu : nodeB u)
 (hm : a.eval m = .map (some fb)) (hx : a.eval x = .int .i64 (u : Int)) (hv : a.eval v = .int .i64 (d : Int))
 (hC : ∀ w', FM w' fb (setF F u (some d)) → Gb fb w w' → wpList Tryz.prog ops Q rest (a.put o.dst undef) w') : wpList Tryz.prog ops Q (o :: rest) a w := by
 refine wpList_plain hg fun K' hK' => ?_
 obtain ⟨w', hrun, r1, r2⟩ := h.put (d := d) hu
 unfold Oper.wp
 simp [execOp, hop, hm, hx, hv, hrun, Result.andThen]
 exact hK' _ _ (hC w' r1 r2)
end

theorem Tryz.infoBnI : (Tryz.prog.info? 3).map (fun i => (i.zero, i.size, i.bytes)) = some (some (.int .i64 0), 1, 8) := by kernel_rfl

/-! ### The network -/
theorem map_no_cell {P : Program} {k : TypeId} {α β : Type} {K : α → Value} {V : β → Value} {w : World} {m : Nat} {l : List (α × β)} (h : Mp P k K V w m l) {b o : Nat} {v : Value} (hc : w.cell? ⟨b, o, none⟩ = some v) : b ≠ m := fun e => by
 subst e
 obtain ⟨es, cl, hb, -⟩ := h
 unfold World.cell? at hc
 simp [hb] at hc
theorem RM.ne {w : World} {m : Nat} {r : Nat → Nat → Int} (h : RM w m r) {b o : Nat} {v : Value} (hc : w.cell? ⟨b, o, none⟩ = some v) : b ≠ m := by obtain ⟨l, h, -⟩ := h; exact map_no_cell h hc
theorem FM.ne {w : World} {m : Nat} {F : Nat → Option Nat} (h : FM w m F) {b o : Nat} {v : Value} (hc : w.cell? ⟨b, o, none⟩ = some v) : b ≠ m := by obtain ⟨l, h, -⟩ := h; exact map_no_cell h hc
def nodesI (l : List Nat) : List Int := l.map fun v : Nat => (v : Int)
structure NetB (w : World) (g m h N : Nat) (nx : Nat → List Nat) : Prop where
 c0 : w.cell? ⟨g, 0, none⟩ = some (.map (some m))
 c1 : w.cell? ⟨g, 1, none⟩ = some (.slice (some ⟨h, 0, none⟩) N N)
 rows : ∀ u, u < N → ∃ A c, w.cell? ⟨h, u, none⟩ = some (.slice A (nx u).length c) ∧ Ints w A (nodesI (nx u))
theorem NetB.keep {w w' : World} {g m h N : Nat} {nx : Nat → List Nat} (k : NetB w g m h N nx) (hg : Gr w w') : NetB w' g m h N nx :=
 ⟨hg.keep k.c0, hg.keep k.c1, fun u hu => by obtain ⟨A, c, h1, h2⟩ := k.rows u hu; exact ⟨A, c, hg.keep h1, h2.keep hg⟩⟩
theorem NetB.gt {w w' : World} {g m h N : Nat} {nx : Nat → List Nat} (k : NetB w g m h N nx) {fb : Nat} {r : Nat → Nat → Int} {F : Nat → Option Nat} (hr : RM w m r) (hf : FM w fb F) (hg : Gt m fb w w') : NetB w' g m h N nx :=
 ⟨hg.cell k.c0 (hr.ne k.c0) (hf.ne k.c0), hg.cell k.c1 (hr.ne k.c1) (hf.ne k.c1), fun u hu => by
   obtain ⟨A, c, h1, h2⟩ := k.rows u hu
   refine ⟨A, c, hg.cell h1 (hr.ne h1) (hf.ne h1), fun i x hx => ?_⟩
   obtain ⟨b, off, e, hc⟩ := h2 i x hx
   exact ⟨b, off, e, fun j v hv => hg.cell (hc j v hv) (hr.ne (hc j v hv)) (hf.ne (hc j v hv))⟩⟩

end Go.Proofs.YtobcdkjomehdkaaGreat
