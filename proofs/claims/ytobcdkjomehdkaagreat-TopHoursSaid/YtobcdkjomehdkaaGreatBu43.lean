/- Layer 3: products, quotients, values of polynomials. -/
import Derived.Test.YtobcdkjomehdkaaGreatBu42
import Derived.Laws.MakeOwn
import Derived.Laws.IdiomStrings
import Derived.Test.YtobcdkjomehdkaaGreatBu28
import Derived.Deep.RegionLaw
import Derived.Shelf.Spec.SlicesInsertGrow
namespace Go.Proofs.YtobcdkjomehdkaaGreat
open Go.RowKit
set_option linter.unusedSimpArgs false
set_option maxRecDepth 100000
set_option maxHeartbeats 80000000

def encG (g : G) : List Value := [.int .u8 (g.v : Int)]
theorem encG_len (x : G) : (encG x).length = 1 := rfl
abbrev Byts := Rd 1 encG
theorem Byts_at {w : World} {A : Option Addr} {ns : List G} (h : Byts w A ns) {i : Nat} (hi : i < ns.length) : ∃ b off, A = some ⟨b, off, none⟩ ∧ w.cell? ⟨b, off + i, none⟩ = some (.int .u8 ((ns.getD i g0).v : Int)) := by
 obtain ⟨b, off, e, hc⟩ := h i _ (getD_of g0 hi)
 have := hc 0 _ rfl
 rw [Nat.mul_one, Nat.add_zero] at this
 exact ⟨b, off, e, this⟩
theorem g_zero_test (a : G) : (((a.v : Nat) : Int) == 0) = decide (a = g0) := by
 rw [Bool.eq_iff_iff]
 simp only [beq_iff_eq, decide_eq_true_eq]
 constructor
 ·intro h; exact G.eq (show a.v = 0 by omega)
 ·intro h; subst h; rfl

theorem product_any (T : Nat) (a b : G) (w : World) (hT : Tabs T w) : Calls Tryz.prog 108 #[.pointer (some ⟨T, 0, none⟩), .int .u8 (a.v : Int), .int .u8 (b.v : Int)] w fun e w' => e = .returned (.int .u8 ((a * b).v : Int)) ∧ Gr w w' := by
 have ta := g_zero_test a
 have tb := g_zero_test b
 by_cases ha : a = g0
 ·have HV : Hid (a * b = g0) := Lib.hid (by rw [ha, gzero_mul])
  rw [decide_eq_true ha] at ta
  clear ha tb
  go_enter Tryz.func108, Tryz.ntmps108
  go_wp2_with fail
  go_ret
  exact ⟨by rw [HV.out]; rfl, Gr.refl _⟩
 ·rw [decide_eq_false ha] at ta
  by_cases hb : b = g0
  ·have HV : Hid (a * b = g0) := Lib.hid (by rw [hb, gmul_zero])
   rw [decide_eq_true hb] at tb
   clear ha hb
   go_enter Tryz.func108, Tryz.ntmps108
   go_wp2_with fail
   go_ret
   exact ⟨by rw [HV.out]; rfl, Gr.refl _⟩
  ·rw [decide_eq_false hb] at tb
   have HV := Lib.hid (gmul_log ha hb)
   have c1 := hT.2 a ha
   have c2 := hT.2 b hb
   have l1 := (glog_spec ha).1
   have l2 := (glog_spec hb).1
   have hav := a.lt
   have hbv := b.lt
   generalize glog a = x at l1 c1 HV
   generalize glog b = y at l2 c2 HV
   have c3 := hT.1 ((x + y) % 255) (Nat.mod_lt _ (by omega))
   have h1 : IntKind.i64.wrap ((x : Int) + (y : Int)) = (x : Int) + (y : Int) := IntWalk.i64_in _ (by omega)
   have h2 : ((x : Int) + (y : Int)).tmod 255 = (((x + y) % 255 : Nat) : Int) := by rw [Int.tmod_eq_emod_of_nonneg (by omega)]; omega
   have h3 : ((x : Int) + (y : Int)) % 255 = (((x + y) % 255 : Nat) : Int) := by omega
   have h4 : (x + y) % 255 < 255 := Nat.mod_lt _ (by omega)
   generalize (x + y) % 255 = r at c3 h2 h3 h4 HV
   generalize gp r = z at c3 HV
   generalize a * b = ab at HV ⊢
   generalize a.v = av at hav c1 ta ⊢
   generalize b.v = bv at hbv c2 tb ⊢
   have t1 : (0 : Int) ≤ (av : Int) := by omega
   have t2 : (av : Int) < 256 := by omega
   have t3 : (0 : Int) ≤ (bv : Int) := by omega
   have t4 : (bv : Int) < 256 := by omega
   have t5 : (0 : Int) ≤ (r : Int) := by omega
   have t6 : (r : Int) < 255 := by omega
   clear hT ha hb
   go_enter Tryz.func108, Tryz.ntmps108
   go_wp2_with fail
   go_quiet (fail)
   go_wp2_with fail
   go_ret
   exact ⟨by rw [HV.out]; rfl, (Gr.refl _).drewN _⟩

theorem xor8 (a b : G) : bits .xor .u8 (a.v : Int) (b.v : Int) = ((a + b).v : Int) := u8_xor_nat a.v b.v a.lt b.lt

set_option maxRecDepth 100000
set_option maxHeartbeats 80000000

set_option maxRecDepth 100000
set_option maxHeartbeats 80000000

def gcs (xs : List G) : Array Value := ⟨xs.map fun x => .int .u8 (x.v : Int)⟩
theorem gcs_size (xs : List G) : (gcs xs).size = xs.length := by simp [gcs]
theorem gcs_get (xs : List G) (i : Nat) : (gcs xs)[i]? = xs[i]?.map fun x => .int .u8 (x.v : Int) := by simp [gcs]
theorem flatG (xs : List G) : flatE encG xs = xs.map fun x => .int .u8 (x.v : Int) := by
 induction xs with
 | nil => rfl
 | cons x r ih => simp only [flatE, List.flatMap_cons, encG, List.map_cons] at ih ⊢; rw [ih]; rfl
def BG (w : World) (g : Nat) (xs : List G) : Prop := Blk w g 5 (gcs xs)
theorem BG.at {w : World} {g : Nat} {xs : List G} (h : BG w g xs) {i : Nat} (hi : i < xs.length) : w.cell? ⟨g, i, none⟩ = some (.int .u8 ((xs.getD i g0).v : Int)) := by
 rw [Blk.cell h, gcs_get, getD_of g0 hi]; rfl
theorem BG.free {w : World} {g : Nat} {xs : List G} (h : BG w g xs) (i : Nat) : w.frozen? ⟨g, i, none⟩ = false := Blk.free h i
theorem BG.pts {w : World} {g : Nat} {xs : List G} (h : BG w g xs) : Byts w (some ⟨g, 0, none⟩) xs :=
 Rd_lit encG_len h (by rw [flatG]; rfl)
theorem BG.new (w : World) (xs : List G) {g : Nat} (h : w.heap.size = g) : BG (w.alloc (.cells (gcs xs) 5)) g xs := Blk.new w _ _ h
theorem Tryz.infoByte : (Tryz.prog.info? 5).map (fun i => (i.zero, i.size, i.bytes)) = some (some (.int .u8 0), 1, 1) := by kernel_rfl
theorem made_bytes (n : Nat) : madeCells #[Value.int .u8 0] (n * 1) = gcs (List.replicate n g0) := by
 have hs : (madeCells #[Value.int .u8 0] (n * 1)).size = n := by have := size_madeCells #[Value.int .u8 0] (n * 1); simpa using this
 apply Array.ext
 ·rw [hs, gcs_size, List.length_replicate]
 ·intro i h1 h2
  simp [madeCells, gcs, Nat.mod_one, g0]
theorem mk_bytes (n : Nat) (hl : n ≤ 1048576) (w : World) : (Instr.makeSlice 139 (.int .i64 (n : Int)) (.int .i64 (n : Int))).run Tryz.prog w =
 .ok (.slice (some ⟨w.heap.size, 0, none⟩) n n) (w.alloc (.cells (gcs (List.replicate n g0)) 5)) := by
 obtain ⟨i0, hi, hz0, hz1, hz2⟩ := info_parts Tryz.infoByte
 have h := run_make (P := Tryz.prog) w 139 5 i0 _ Tryz.underlying139 hi hz0 .i64 .i64 (n : Int) (n : Int) (by omega) (by omega) (by rw [hz2]; omega) (by omega)
 rw [hz1] at h
 simp only [Int.toNat_natCast] at h
 rw [h, show (Value.int IntKind.u8 0).cells = #[Value.int .u8 0] from rfl, made_bytes]
def synL (q : List G) (p : Nat) : List G := (List.range p).map fun i => val q (gp i)
set_option maxRecDepth 100000
set_option maxHeartbeats 80000000

def okB (n p : Int) : Bool := decide (0 ≤ p) && (decide (p ≤ 64) && (decide (p + 1 ≤ n) && decide (n ≤ 255)))
theorem okB_iff (n p : Int) : okB n p = true ↔ 0 ≤ p ∧ p ≤ 64 ∧ p + 1 ≤ n ∧ n ≤ 255 := by simp [okB]
theorem ok_ways (n p : Int) : (decide (0 ≤ p) = false ∧ okB n p = false) ∨ (decide (0 ≤ p) = true ∧ decide (p ≤ 64) = false ∧ okB n p = false) ∨
 (0 ≤ p ∧ p ≤ 64 ∧ decide (0 ≤ p) = true ∧ decide (p ≤ 64) = true ∧ decide (p + 1 ≤ n) = false ∧ okB n p = false) ∨ (0 ≤ p ∧ p ≤ 64 ∧ decide (0 ≤ p) = true ∧ decide (p ≤ 64) = true ∧ decide (p + 1 ≤ n) = true ∧ decide (n ≤ 255) = okB n p) := by
 unfold okB
 by_cases h1 : 0 ≤ p
 ·by_cases h2 : p ≤ 64
  ·by_cases h3 : p + 1 ≤ n
   ·right; right; right; simp [h1, h2, h3]
   ·right; right; left; simp [h1, h2, h3]
  ·right; left; simp [h1, h2]
 ·left; simp [h1]

theorem areValid_any (n p : Int) (w : World) (r : Bool) (hr : okB n p = r) : Calls Tryz.prog 67 #[.int .i64 n, .int .i64 p] w fun e w' => e = .returned (.bool r) ∧ w' = w := by
 rcases ok_ways n p with ⟨h1, h2⟩ | ⟨h1, h2, h3⟩ | ⟨g1, g2, h1, h2, h3, h4⟩ | ⟨g1, g2, h1, h2, h3, h4⟩
 ·have HR : Hid (r = false) := Lib.hid (by rw [← hr, h2])
  clear hr h2
  go_enter Tryz.func67, Tryz.ntmps67
  go_wp2_with fail
  go_ret
  exact ⟨by rw [HR.out]; rfl, rfl⟩
 ·have HR : Hid (r = false) := Lib.hid (by rw [← hr, h3])
  clear hr h3
  go_enter Tryz.func67, Tryz.ntmps67
  go_wp2_with fail
  go_ret
  exact ⟨by rw [HR.out]; rfl, rfl⟩
 ·have HR : Hid (r = false) := Lib.hid (by rw [← hr, h4])
  clear hr h4
  go_enter Tryz.func67, Tryz.ntmps67
  go_wp2_with fail
  go_ret
  exact ⟨by rw [HR.out]; rfl, rfl⟩
 ·have HR : Hid (decide (n ≤ 255) = r) := Lib.hid (by rw [← hr, h4])
  clear hr h4
  cases r
  all_goals
   have h5 := HR.out
   go_enter Tryz.func67, Tryz.ntmps67
   go_wp2_with fail
   go_ret
   exact ⟨rfl, rfl⟩

def gs (s : ByteArray) : List G := s.data.toList.map fun b => ⟨b.toNat, b.toNat_lt⟩
theorem gs_len (s : ByteArray) : (gs s).length = s.size := by simp [gs]

theorem conv_bytes (s : ByteArray) (w : World) : (convert 9 139 (.string s)).run Tryz.prog w = .ok (.slice (some ⟨w.heap.size, 0, none⟩) s.size (grownCap w s.size 0 5))
 (w.drew.alloc (.cells (bytesRow s (grownCap w s.size 0 5)) 5 ((bytesRow s (grownCap w s.size 0 5)).size, (bytesRow s (grownCap w s.size 0 5)).size + 1))) :=
 run_bytes_of_string w _ _ _ s Tryz.underlying9 Tryz.underlying139 Tryz.underlying5
theorem gs_get {s : ByteArray} {i : Nat} (hi : i < s.size) : (gs s)[i]? = some ⟨(s.data[i]'hi).toNat, (s.data[i]'hi).toNat_lt⟩ := by
 unfold gs
 rw [List.getElem?_map, Array.getElem?_toList, Array.getElem?_eq_getElem (show i < s.data.size from hi)]; rfl
theorem bytes_rd (s : ByteArray) (w : World) (cap : Nat) (fr : Nat × Nat) : Byts (w.alloc (.cells (bytesRow s cap) 5 fr)) (some ⟨w.heap.size, 0, none⟩) (gs s) := fun i x hx => by
 have hi : i < s.size := by have := (List.getElem?_eq_some_iff.1 hx).1; rwa [gs_len] at this
 refine ⟨_, 0, rfl, fun j v hv => ?_⟩
 have hj : j = 0 := by have := (List.getElem?_eq_some_iff.1 hv).1; rw [encG_len] at this; omega
 subst hj
 rw [gs_get hi] at hx
 obtain rfl := Option.some.inj hx
 obtain rfl := Option.some.inj hv
 rw [Nat.zero_add, Nat.mul_one, Nat.add_zero, World.cell?_alloc_mark, bytesRow_at s cap i hi]

def isB (q : List G) (p : Nat) : Bool := (synL q p).all fun x => decide (x = g0)
set_option maxRecDepth 100000
set_option maxHeartbeats 80000000

def Row (w : World) (g off : Nat) (xs : List G) : Prop := ∀ i, i < xs.length → w.cell? ⟨g, off + i, none⟩ = some (.int .u8 ((xs.getD i g0).v : Int)) ∧ w.frozen? ⟨g, off + i, none⟩ = false
theorem Row.keep {w w' : World} {g off : Nat} {xs : List G} (h : Row w g off xs) (hg : Gr w w') : Row w' g off xs := fun i hi => by
 obtain ⟨h1, h2⟩ := h i hi
 exact ⟨hg.keep h1, (Below.frozen (p := ⟨g, off + i, none⟩) hg (World.block_lt_of_cell? w _ h1)).trans h2⟩
theorem Row.pts {w : World} {g off : Nat} {xs : List G} (h : Row w g off xs) : Byts w (some ⟨g, off, none⟩) xs := fun i x hx => by
 have hi : i < xs.length := (List.getElem?_eq_some_iff.1 hx).1
 have hd : xs.getD i g0 = x := by rw [List.getD_eq_getElem?_getD, hx]; rfl
 obtain ⟨h1, -⟩ := h i hi
 rw [hd] at h1
 refine ⟨g, off, rfl, fun j v hv => ?_⟩
 match j, hv with
 | 0, hv => obtain rfl := Option.some.inj hv; rw [Nat.mul_one, Nat.add_zero]; exact h1
 | j + 1, hv => simp [encG] at hv
theorem Row.put {w : World} {g off : Nat} {xs : List G} (h : Row w g off xs) {k : Nat} (hk : k < xs.length) (y : G) : Row (w.setCell ⟨g, off + k, none⟩ (.int .u8 (y.v : Int))) g off (xs.set k y) := fun i hi => by
 have hi' : i < xs.length := by simpa using hi
 obtain ⟨h1, h2⟩ := h i hi'
 refine ⟨?_, by rw [frozen_put]; exact h2⟩
 by_cases e : i = k
 ·subst e
  rw [World.cell?_setCell_same _ _ _ (by rw [h1]), List.getD_eq_getElem?_getD, List.getElem?_set_self hi']; rfl
 ·rw [World.cell?_setCell_other _ _ _ _ (fun h => e (by injection h with _ h; omega)), h1, List.getD_eq_getElem?_getD, List.getD_eq_getElem?_getD, List.getElem?_set_ne (Ne.symm e)]
theorem Row.gb {w w' : World} {g g' off : Nat} {xs : List G} (h : Row w g off xs) (hg : Gb g' w w') (hne : g ≠ g') : Row w' g off xs := fun i hi => by
 obtain ⟨h1, h2⟩ := h i hi
 have hb : g < w.heap.size := World.block_lt_of_cell? w _ h1
 exact ⟨(hg.cell hb hne).trans h1, (World.frozen?_of_block (hg.block g hb (fun e => hne (by injection e)))).trans h2⟩
theorem BG.row {w : World} {g : Nat} {xs : List G} (h : BG w g xs) : Row w g 0 xs := fun i hi => by
 rw [Nat.zero_add]; exact ⟨h.at hi, h.free i⟩
theorem Row.drop {w : World} {g off : Nat} {xs : List G} (h : Row w g off xs) (k : Nat) : Row w g (off + k) (xs.drop k) := fun i hi => by
 have hi' : k + i < xs.length := by simp at hi; omega
 have := h (k + i) hi'
 rw [List.getD_eq_getElem?_getD, List.getElem?_drop, ← List.getD_eq_getElem?_getD, Nat.add_assoc]
 exact this
theorem Tabs.gb {T g : Nat} {w w' : World} (h : Tabs T w) (hg : Gb g w w') (hne : T ≠ g) : Tabs T w' :=
 ⟨fun i hi => by have h1 := h.1 i hi; exact (hg.cell (World.block_lt_of_cell? w _ h1) hne).trans h1, fun a ha => by have h1 := h.2 a ha; exact (hg.cell (World.block_lt_of_cell? w _ h1) hne).trans h1⟩
theorem Tabs.lt {T : Nat} {w : World} (h : Tabs T w) : T < w.heap.size := World.block_lt_of_cell? w _ (h.1 0 (by omega))
theorem Row.lt {w : World} {g off : Nat} {xs : List G} (h : Row w g off xs) (hn : 0 < xs.length) : g < w.heap.size := World.block_lt_of_cell? w _ (h 0 hn).1
def BytsX (w : World) (g : Nat) (A : Option Addr) (ys : List G) : Prop := Byts w A ys ∧ (0 < ys.length → ∀ b o, A = some ⟨b, o, none⟩ → b ≠ g)
theorem BytsX.gb {w w' : World} {g : Nat} {A : Option Addr} {ys : List G} (h : BytsX w g A ys) (hg : Gb g w w') : BytsX w' g A ys := by
 refine ⟨fun i x hx => ?_, h.2⟩
 obtain ⟨b, off, e, hc⟩ := h.1 i x hx
 have hne := h.2 (by have := (List.getElem?_eq_some_iff.1 hx).1; omega) b off e
 exact ⟨b, off, e, fun j v hv => by have h1 := hc j v hv; exact (hg.cell (World.block_lt_of_cell? w _ h1) hne).trans h1⟩

def RoomL (w : World) (g c : Nat) : Prop := ∃ cur : Array Value, w.heap[g]? = some (.cells cur 5 (0, 0)) ∧ cur.size = c
theorem RoomL.keep {w w' : World} {g c : Nat} (h : RoomL w g c) (hg : Gr w w') : RoomL w' g c := by
 obtain ⟨cur, h1, h2⟩ := h
 exact ⟨cur, (Below.block hg g (Array.getElem?_eq_some_iff.1 h1).1).trans h1, h2⟩
theorem RoomL.put {w : World} {g c : Nat} (h : RoomL w g c) (b o : Nat) (u : Value) : RoomL (w.setCell ⟨b, o, none⟩ u) g c := by
 obtain ⟨cur, h1, h2⟩ := h
 by_cases e : b = g
 ·subst e
  refine ⟨cur.setIfInBounds o u, ?_, by simpa using h2⟩
  simp [World.setCell, Array.getElem?_modify, h1]
 ·exact ⟨cur, (Below.heap_setCell w ⟨b, o, none⟩ u g (Ne.symm e)).trans h1, h2⟩
theorem RoomL.free {w : World} {g c : Nat} (h : RoomL w g c) (j : Nat) : w.frozen? ⟨g, j, none⟩ = false := by
 obtain ⟨cur, h1, h2⟩ := h
 simp [World.frozen?, h1]
theorem RoomL.new (w : World) (cs : Array Value) {g : Nat} (h : w.heap.size = g) : RoomL (w.alloc (.cells cs 5)) g cs.size := by
 subst h; exact ⟨cs, heap_alloc_new w _, rfl⟩
theorem Row.of_cells {w : World} {g : Nat} {xs : List G} {c : Nat} (hR : RoomL w g c) (h : ∀ i, i < xs.length → w.cell? ⟨g, i, none⟩ = some (.int .u8 ((xs.getD i g0).v : Int))) : Row w g 0 xs := fun i hi => by
 rw [Nat.zero_add]; exact ⟨h i hi, hR.free i⟩

theorem Row.past {w : World} {g : Nat} {zs : List G} (h : Row w g 0 zs) {o : Nat} (ho : zs.length ≤ o) (v : Value) : Row (w.setCell ⟨g, o, none⟩ v) g 0 zs := fun i hi => by
 obtain ⟨h1, h2⟩ := h i hi
 refine ⟨?_, by rw [frozen_put]; exact h2⟩
 rw [World.cell?_setCell_other _ _ _ _ (fun e => by injection e with _ e2; omega)]
 exact h1
def addL : List G → G → List G → List G
 | xs, _, [] => xs
 | [], _, _ :: _ => []
 | x :: xs, f, y :: ys => (x + f * y) :: addL xs f ys
theorem addL_nil (xs : List G) (f : G) : addL xs f [] = xs := by cases xs <;> rfl
theorem addL_len : ∀ (xs : List G) (f : G) (ys : List G), (addL xs f ys).length = xs.length
 | xs, f, [] => by rw [addL_nil]
 | [], f, _ :: _ => rfl
 | x :: xs, f, y :: ys => by simp [addL, addL_len xs f ys]
theorem addL_step : ∀ (xs : List G) (f : G) (ys : List G) (k : Nat), k < ys.length → k < xs.length →
 (addL xs f (ys.take k)).getD k g0 = xs.getD k g0 ∧ addL xs f (ys.take (k + 1)) = (addL xs f (ys.take k)).set k (xs.getD k g0 + f * ys.getD k g0)
 | x :: xs, f, y :: ys, 0, _, _ => by
   simp [addL, addL_nil]
 | x :: xs, f, y :: ys, k + 1, h1, h2 => by
   obtain ⟨i1, i2⟩ := addL_step xs f ys k (by simpa using h1) (by simpa using h2)
   simp only [List.take_succ_cons, addL, List.getD_cons_succ, List.set_cons_succ]
   exact ⟨i1, by rw [i2]⟩

theorem add_any (T g off n c : Nat) (xs : List G) (f : G) (A : Option Addr) (m mc : Nat) (ys : List G) (w : World) (hT : Tabs T w) (hTg : T ≠ g) (hR : Row w g off xs) (hn : xs.length = n) (hY : BytsX w g A ys) (hm : ys.length = m) (hmn : m ≤ n) (hl : n ≤ 1048576) :
 Calls Tryz.prog 90 #[.pointer (some ⟨T, 0, none⟩), .slice (some ⟨g, off, none⟩) n c, .int .u8 (f.v : Int), .slice A m mc] w fun e w' => e = .returned (.tuple #[]) ∧ Row w' g off (addL xs f ys) ∧ Gb g w w' ∧ (∀ c, RoomL w g c → RoomL w' g c) ∧ ∀ zs, zs.length ≤ off → Row w g 0 zs → Row w' g 0 zs := by
 have HT := Lib.hid hT
 have HR := Lib.hid hR
 have HY := Lib.hid hY
 have HN := Lib.hid hn
 have HM := Lib.hid hm
 clear hT hR hY hn hm
 go_enter Tryz.func90, Tryz.ntmps90
 go_wp2_with fail
 go_loopw [12] (fun z wr => ∃ k : Nat, k ≤ m ∧ z = .int .i64 k ∧ Hid (Row wr g off (addL xs f (ys.take k))) ∧ Hid (Gb g w wr) ∧ Hid (∀ c, RoomL w g c → RoomL wr g c) ∧ Hid (∀ zs, zs.length ≤ off → Row w g 0 zs → Row wr g 0 zs)) (fun z _ => m - (intOf z).toNat)
 case atStart => exact ⟨0, Nat.zero_le _, rfl, by simpa [addL_nil] using HR, Lib.hid (Gb.refl _ _), Lib.hid (fun _ h => h), Lib.hid (fun _ _ h => h)⟩
 case round =>
  obtain ⟨k, hk, rfl, hRw, hG, hRO, hFR⟩ := hrel
  by_cases hlt : k < m
  ·have hky : k < ys.length := by have := HM.out; omega
   have hkx : k < xs.length := by have := HN.out; omega
   obtain ⟨b, o, rfl, c0⟩ := Byts_at (HY.out.gb hG.out).1 hky
   obtain ⟨s1, s2⟩ := addL_step xs f ys k hky hkx
   obtain ⟨r1, r2⟩ := hRw.out k (by rw [addL_len]; omega)
   rw [s1] at r1
   have HS := Lib.hid s2
   generalize ys.getD k g0 = y at c0 HS
   generalize xs.getD k g0 = x at r1 HS
   have HPR := Lib.hid (fun W' (h : Gr wr W') => product_any T f y W' ((HT.out.gb hG.out hTg).keep h))
   have hx := xor8 x (f * y)
   have hkn : k < n := by omega
   clear s1 s2
   go_wp2_with fail
   go_region_law (first | (go_simp; go_at_call 108; refine (HPR.out _ (by first | exact (Gr.refl _).drew | exact Gr.refl _)).mono ?_; rintro e w1 ⟨rfl, hg1⟩; have r1' := hg1.keep r1; have r2' := (frozen_gr hg1 (World.block_lt_of_cell? _ _ r1)).trans r2))
   all_goals
    go_wp2_with fail
    go_roundw
    case rel =>
     have hgd : Gr wr w1 := by first | exact hg1 | exact (Gr.refl _).drew.trans hg1
     refine ⟨k + 1, by omega, by go_num, Lib.hid ?_, Lib.hid ((hG.out.trans (Gb.of hgd g)).put (off + k) _), Lib.hid (fun c h => ((hRO.out c h).keep hgd).put _ _ _), Lib.hid (fun zs hz h => ((hFR.out zs hz h).keep hgd).past (by omega) _)⟩
     rw [HS.out]
     exact (hRw.out.keep hgd).put (by rw [addL_len]; omega) (x + f * y)
    case measure => simp [intOf] <;> omega
  ·obtain rfl : k = m := by omega
   rw [List.take_of_length_le (by have := HM.out; omega)] at hRw
   go_wp2_with fail
   go_end0
   exact ⟨rfl, hRw.out, hG.out, hRO.out, hFR.out⟩

end Go.Proofs.YtobcdkjomehdkaaGreat

namespace Go.Proofs.YtobcdkjomehdkaaGreat
open Go.RowKit Go.Lib
set_option linter.unusedSimpArgs false
set_option maxRecDepth 100000
set_option maxHeartbeats 80000000

def bys (xs : List G) : List Value := xs.map fun x => .int .u8 (x.v : Int)
theorem bys_get {xs : List G} {j : Nat} {v : Value} (h : (bys xs)[j]? = some v) : j < xs.length ∧ v = .int .u8 ((xs.getD j g0).v : Int) := by
 unfold bys at h
 have hj : j < xs.length := by have := (List.getElem?_eq_some_iff.1 h).1; simpa using this
 rw [List.getElem?_map, getD_of g0 hj] at h
 exact ⟨hj, (Option.some.inj h).symm⟩
theorem bys_at (xs : List G) {j : Nat} (h : j < (bys xs).length) : (bys xs)[j] = .int .u8 ((xs.getD j g0).v : Int) := by
 have h1 : (bys xs)[j]? = some (bys xs)[j] := List.getElem?_eq_getElem h
 exact (bys_get h1).2
theorem bys_len (xs : List G) : (bys xs).length = xs.length := by simp [bys]
def InsPost (g n : Nat) (xs : List G) (y : G) (w : World) (e : Ending) (w' : World) : Prop :=
 ∃ g' c', e = .returned (.slice (some ⟨g', 0, none⟩) (n + 1) c') ∧ n + 1 ≤ c' ∧ c' ≤ 9223372036854775807 ∧ (g' = g ∨ w.heap.size ≤ g') ∧ Row w' g' 0 (y :: xs) ∧ RoomL w' g' c' ∧ Gb g w w'
end Go.Proofs.YtobcdkjomehdkaaGreat

namespace Go.Proofs.YtobcdkjomehdkaaGreat
open Go.RowKit
set_option linter.unusedSimpArgs false
set_option maxRecDepth 100000
set_option maxHeartbeats 80000000

theorem zero_at {k j : Nat} (h : j < k) : (Builtin.zeroCells (Value.int .u8 0).cells k)[j]? = some (.int .u8 0) := by
 simp [Builtin.zeroCells, Value.cells, h, Nat.mod_one]
theorem zero_size (k : Nat) : (Builtin.zeroCells (Value.int .u8 0).cells k).size = k := by simp [Builtin.zeroCells, Value.cells]
theorem bytes_at {s : ByteArray} {w : World} {cap : Nat} {fr : Nat × Nat} {i : Nat} (hi : i < s.size) : (w.alloc (.cells (bytesRow s cap) 5 fr)).cell? ⟨w.heap.size, i, none⟩ = some (.int .u8 (((gs s).getD i g0).v : Int)) := by
 obtain ⟨b, o, e, h⟩ := Byts_at (bytes_rd s w cap fr) (show i < (gs s).length by rw [gs_len]; exact hi)
 obtain ⟨rfl, rfl⟩ : w.heap.size = b ∧ 0 = o := by simpa using e
 simpa using h
theorem bytesRow_size (s : ByteArray) (cap : Nat) (h : s.size ≤ cap) : (bytesRow s cap).size = cap := by
 have : s.data.size ≤ cap := h
 simp [bytesRow]
 show s.data.size + (cap - s.data.size) = cap
 omega
theorem bytes_there {s : ByteArray} {w : World} {cap i : Nat} (hc : s.size ≤ cap) (hi : i < cap) {fr : Nat × Nat} : ((w.alloc (.cells (bytesRow s cap) 5 fr)).cell? ⟨w.heap.size, i, none⟩).isSome = true := by
 rw [cell_of_row _ _ i (bytesRow s cap) _ fr (heap_alloc_new w _), Array.getElem?_eq_getElem (by rw [bytesRow_size s cap hc]; exact hi)]
 rfl
theorem bytes_free {s : ByteArray} {w : World} {cap i : Nat} (hc : s.size ≤ cap) (hi : i < cap) : (w.alloc (.cells (bytesRow s cap) 5 ((bytesRow s cap).size, (bytesRow s cap).size + 1))).frozen? ⟨w.heap.size, i, none⟩ = false := by
 rw [bytesRow_size s cap hc]
 unfold World.frozen?
 rw [heap_alloc_new]
 simp
 omega
theorem gs_zeros {s : ByteArray} {p i : Nat} (h : s.size ≤ i) : ((gs s ++ List.replicate p g0).getD i g0) = g0 := by
 rw [List.getD_eq_getElem?_getD, List.getElem?_append_right (by rw [gs_len]; exact h), List.getElem?_replicate]
 split <;> rfl
theorem gs_front {s : ByteArray} {p i : Nat} (h : i < s.size) : ((gs s ++ List.replicate p g0).getD i g0) = (gs s).getD i g0 := by
 rw [List.getD_eq_getElem?_getD, List.getElem?_append_left (by rw [gs_len]; exact h), List.getD_eq_getElem?_getD]
theorem app_zeros (s : ByteArray) (p cap : Nat) (w : World) (hs : s.size ≤ 300) (hp : p ≤ 64) (hc : s.size ≤ cap) :
 ∃ g c w', (∀ ty, (Builtin.append_ #[139, 3] ty #[.slice (some ⟨w.heap.size, 0, none⟩) s.size cap, .int .i64 (p : Int)]).run Tryz.prog (w.alloc (.cells (bytesRow s cap) 5 ((bytesRow s cap).size, (bytesRow s cap).size + 1))) = .ok (.slice (some ⟨g, 0, none⟩) (s.size + p) c) w') ∧
  Row w' g 0 (gs s ++ List.replicate p g0) ∧ Gr w w' ∧ w.heap.size ≤ g ∧ s.size + p ≤ c := by
 obtain ⟨i0, hi0, hz0, hzs, hzb⟩ := info_parts Tryz.infoByte
 have hold : ∀ i (hi : i < s.size), (w.alloc (.cells (bytesRow s cap) 5 ((bytesRow s cap).size, (bytesRow s cap).size + 1))).cell? ⟨w.heap.size, i, none⟩ = some (.int .u8 (((gs s).getD i g0).v : Int)) := fun i hi => bytes_at hi
 have hthere : ∀ i (hi : i < cap), ((w.alloc (.cells (bytesRow s cap) 5 ((bytesRow s cap).size, (bytesRow s cap).size + 1))).cell? ⟨w.heap.size, i, none⟩).isSome = true := fun i hi => bytes_there hc hi
 have hfree : ∀ i (hi : i < cap), (w.alloc (.cells (bytesRow s cap) 5 ((bytesRow s cap).size, (bytesRow s cap).size + 1))).frozen? ⟨w.heap.size, i, none⟩ = false := fun i hi => bytes_free hc hi
 have hgr : Gr w (w.alloc (.cells (bytesRow s cap) 5 ((bytesRow s cap).size, (bytesRow s cap).size + 1))) := (Gr.refl w).alloc _
 have hsz : (w.alloc (.cells (bytesRow s cap) 5 ((bytesRow s cap).size, (bytesRow s cap).size + 1))).heap.size = w.heap.size + 1 := by simp
 generalize w.alloc _ = wb at hold hthere hfree hgr hsz ⊢
 obtain ⟨g, hg⟩ : ∃ g, w.heap.size = g := ⟨_, rfl⟩
 rw [hg] at hold hthere hfree hsz ⊢
 have hw : IntKind.i64.wrap (p : Int) = p := IntWalk.i64_in _ (by omega)
 by_cases hroom : s.size + p ≤ cap
 ·refine ⟨g, cap, wb.setCells g s.size (List.replicate p (.int .u8 0)), fun ty => ?_, fun i hi => ?_, ?_, by omega, hroom⟩
  ·have hst := run_storeCells_cells (P := Tryz.prog) g s.size (List.replicate p (.int .u8 0)) 0 wb (by intro j hj; rw [Nat.add_zero]; exact hthere _ (by simp at hj; omega)) (by intro j hj; rw [Nat.add_zero]; exact hfree _ (by simp at hj; omega)) (fun v hv => by rw [(List.mem_replicate.1 hv).2]; rfl)
   have hz : (Builtin.zeroCells (Value.int .u8 0).cells p).toList = List.replicate p (.int .u8 0) := by
    refine List.ext_getElem? fun j => ?_
    rw [Array.getElem?_toList, List.getElem?_replicate]
    split
    ·rename_i h; exact zero_at h
    ·rename_i h; exact Array.getElem?_eq_none (by rw [zero_size]; omega)
   have hneg : ¬ ((p : Int) < 0) := by omega
   have hbig : ¬ (281474976710656 < (p : Int)) := by omega
   by_cases hp0 : p = 0
   ·subst hp0
    have hw0 : IntKind.i64.wrap 0 = 0 := IntWalk.i64_in _ (by omega)
    simp [hw0, Builtin.append_, run_underlying Tryz.underlying139, run_underlying Tryz.underlying3, sizeOf, typeInfo, zeroValue, hi0, hz0, hzs, hzb, asInt, asIntOf, hroom, hc, Addr.add_lit, storeCells, World.setCells]
   ·simp [Builtin.append_, run_underlying Tryz.underlying139, run_underlying Tryz.underlying3, sizeOf, typeInfo, zeroValue, hi0, hz0, hzs, hzb, asInt, asIntOf, hw, hroom, hneg, hbig, hp0, Addr.add_lit, hz, hst]
  ·have hi' : i < s.size + p := by simpa [gs_len] using hi
   rw [frozen_many, Nat.zero_add]
   refine ⟨?_, hfree i (by omega)⟩
   by_cases hlt : i < s.size
   ·rw [World.cell?_setCells_out _ _ _ _ _ (fun _ _ => Or.inl hlt), gs_front hlt]; exact hold i hlt
   ·obtain ⟨j, rfl⟩ : ∃ j, i = s.size + j := ⟨i - s.size, by omega⟩
    rw [World.cell?_setCells_in g _ s.size _ (fun j hj => hthere _ (by simp at hj; omega)) j (by simp; omega), gs_zeros (by omega)]
    simp [g0]
  ·exact Gb.gr hgr ((Gb.refl _ _).many _ _) (by omega)
 ·have hold' : (Builtin.firstCells i0.size s.size (.slice (some ⟨g, 0, none⟩) s.size cap)).run Tryz.prog wb.drew = .ok (bys (gs s)).toArray wb.drew := by
   rw [hzs]
   exact run_firstCells_some wb.drew 1 s.size ⟨g, 0, none⟩ s.size cap (bys (gs s)) (by rw [bys_len, gs_len]; omega) (fun j v hj => by
    obtain ⟨q1, rfl⟩ := bys_get hj
    rw [Addr.add_lit, Nat.zero_add]
    exact hold j (by rwa [gs_len] at q1))
  have h := fun ty => Lib.run_append_grow_zeros wb 139 3 ty 5 i0 _ .i64 .i64 Tryz.underlying139 Tryz.underlying3 hi0 hz0 (some ⟨g, 0, none⟩) s.size cap (bys (gs s)) hold' p (by omega) (by omega) (by omega) (by omega) (by rw [hzb]; omega) (by rw [hzb]; exact growslice_fits (by omega) (by omega))
  refine ⟨wb.heap.size, grownCap wb (s.size + p) cap 5, _, h, ?_, ?_, by omega, grownCap_ge _ _ _ _⟩
  ·refine Row.of_cells (c := (((bys (gs s)).toArray ++ Builtin.zeroCells (Value.int .u8 0).cells p ++ Builtin.zeroCells (Value.int .u8 0).cells (grownCap wb (s.size + p) cap 5 - (s.size + p)))).size) (RoomL.new wb.drew _ rfl) fun i hi => alloc_new rfl ?_
   have hi' : i < s.size + p := by simpa [gs_len] using hi
   have hbl : (bys (gs s)).toArray.size = s.size := by simp [bys_len, gs_len]
   rw [Array.getElem?_append_left (by rw [Array.size_append, hbl, zero_size]; omega)]
   by_cases hlt : i < s.size
   ·rw [Array.getElem?_append_left (by omega), gs_front hlt, List.getElem?_toArray, List.getElem?_eq_getElem (by rw [bys_len, gs_len]; exact hlt), bys_at]
   ·rw [Array.getElem?_append_right (by omega), gs_zeros (by omega), zero_at (by omega)]; rfl
  ·exact hgr.drew.alloc _
set_option maxRecDepth 100000
set_option maxHeartbeats 80000000

def sq (l : List G) (t : Nat) : G := l.getD t g0
def CloneGPost (ns : List G) (w : World) (e : Ending) (w' : World) : Prop :=
 ∃ g c, e = .returned (.slice (some ⟨g, 0, none⟩) ns.length c) ∧ ns.length ≤ c ∧ w.heap.size ≤ g ∧ Row w' g 0 ns ∧ Gr w w'
set_option maxRecDepth 100000
set_option maxHeartbeats 80000000

theorem getD_app_r {a b : List G} {i k : Nat} (h : i = a.length + k) : (a ++ b).getD i g0 = b.getD k g0 := by
 rw [List.getD_eq_getElem?_getD, List.getD_eq_getElem?_getD, List.getElem?_append_right (by omega), h, Nat.add_sub_cancel_left]
def horS (r : G) (l : List G) (i : Nat) : List G := horL g0 r (l.take i) ++ l.drop i
end Go.Proofs.YtobcdkjomehdkaaGreat
