/- Arguments of the laws of layer 3, opened.
Lists of numbers that came in, opened as lists.
Lists of changes and of numbers that came in, opened as lists.
Layer 2: tasks, steps and tables that came in, opened as lists.
The translation is a cut: what its head says, by lemmas in place of the kernel (a string taken apart by the kernel costs seconds a word). -/
import Derived.Test.YtpnkpejnahhajaaGreatBc25
import Derived.Test.YtpnkpejnahhajaaGreatBc2
import Derived.Carry
import Derived.Deep.SlicePairs
import Derived.SizedLaws
import Derived.Test.YtpnkpejnahhajaaGreatBc12
import Derived.Test.YtpnkpejnahhajaaGreatBc18
import Derived.Test.YtpnkpejnahhajaaGreatRows
import Derived.ProofKit
namespace Go.Proofs.YtpnkpejnahhajaaGreat
open Go.RowKit Go.Deep Go.Joins Go.ChangeShapes Go.WideShapes Go.ChangeAt

theorem byte_bound {x : Int} (h : (Lit.int .u8 x).wf = true) : 0 ≤ x ∧ x ≤ 255 := by
  have h' : (decide ((0 : Int) ≤ x) && decide (x ≤ 255)) = true := h
  rw [Bool.and_eq_true, decide_eq_true_eq, decide_eq_true_eq] at h'
  exact h'
end Go.Proofs.YtpnkpejnahhajaaGreat

namespace Go.Proofs.YtpnkpejnahhajaaGreat
open Go.RowKit Go.Deep Go.Joins Go.ChangeShapes Go.WideShapes Go.ChangeAt

end Go.Proofs.YtpnkpejnahhajaaGreat

namespace Go.Proofs.YtpnkpejnahhajaaGreat
open Go.RowKit Go.Deep Go.Joins Go.ChangeShapes Go.WideShapes Go.ChangeAt

set_option maxRecDepth 100000 in
theorem tchange_two : ∃ f0 f1 : Field, Tryz.prog.underlying 88 = some (.struct #[f0, f1]) ∧ Tryz.prog.cellsOf 88 = 2 ∧ f0.offset = 0 ∧ f1.offset = 1 ∧ Tryz.prog.cellsOf f0.type = 1 ∧ Tryz.prog.cellsOf f1.type = 1 ∧
    Tryz.prog.underlying f0.type = some (.int .i64) ∧ Tryz.prog.underlying f1.type = some (.int .u8) :=
  ⟨_, _, Tryz.underlying88, by kernel_rfl, rfl, rfl, by kernel_rfl, by kernel_rfl, Tryz.underlying3, Tryz.underlying5⟩
theorem tbytes_ch : Tryz.prog.bytesOf 88 = 16 := by kernel_rfl
def toG (v : Value) : G := ⟨(intOf v).toNat % 256, Nat.mod_lt _ (by decide)⟩

set_option maxRecDepth 100000 in
/-- A list of changes: the value, and the list that it reads as. -/
theorem topen_changes {H : Type} {enc : TypeId × Value → H} {w : World} {r : Reach} {b0 base : Nat} {v : Value} {d : DataW H} {p : List MemPlace} {ts : List TypeId} {ds : List (DataW H)} {j : Nat}
    (hv : Value.okWide Tryz.prog w r b0 54 v) (h : DataW.Trod enc Tryz.prog w base (fun _ => true) true 54 v d p)
    (hz : (DataW.weightsEach Tryz.prog ts ds).all (· ≤ reachBytes) = true) (hj : ts[j]? = some 54) (hd : ds[j]? = some d) :
    ∃ (A : Option Addr) (n c : Nat) (ps : List (Int × G)), v = .slice A n c ∧ n ≤ c ∧ ps.length = n ∧ n ≤ 8796093022208 ∧ Chgs w A ps ∧ (A = none → c = 0) := by
  obtain ⟨f0, f1, he, ce, o0, o1, c0, c1, u0, u1⟩ := tchange_two
  obtain ⟨a0, l0, k0, rfl⟩ := okWide_slice Tryz.underlying54 hv
  obtain ⟨fuel, hf⟩ := h
  rcases open_slice_pairs Tryz.underlying54 he ce o0 o1 c0 c1 hf with ⟨hc, hx⟩ | ⟨a, len, cap, m, n, V0, V1, D0, D1, P0, P1, hc, hb, hl, hm, hmm, hx, hi⟩
  · have e : Value.slice a0 l0 k0 = .slice none 0 0 := by simpa [Value.cells] using hc
    exact ⟨none, 0, 0, [], e, Nat.le_refl _, rfl, by omega, fun i x hx => by simp at hx, fun _ => rfl⟩
  · have e : Value.slice a0 l0 k0 = .slice (some a) len cap := by simpa [Value.cells] using hc
    have hdd : d = .slice ((List.range len).map fun i => .agg [D0 i, D1 i]) ((List.range (m - len)).map fun j => .agg [D0 (len + j), D1 (len + j)]) := (Prod.mk.inj hx).1
    have hs := sized_slice hz hj (hd.trans (by rw [hdd])) Tryz.underlying54
    rw [tbytes_ch] at hs
    have hr := reachBytes_lt
    simp only [List.length_map, List.length_range] at hs
    refine ⟨some a, len, cap, (List.range len).map fun i => (intOf (V0 i), toG (V1 i)), e, hl, by simp, by omega, fun i x hxi => ?_, fun h => by cases h⟩
    have hil : i < len := by
      have := (List.getElem?_eq_some_iff.1 hxi).1
      simpa using this
    have hm' : m = cap := by simpa using hmm
    obtain ⟨z0, -, -, -⟩ := hi 0 (by omega)
    have sp : a.spot = none := by rw [Nat.zero_mul, Addr.add, if_pos rfl] at z0; exact cell_spot z0
    obtain ⟨b, off, spt⟩ := a
    obtain rfl : spt = none := sp
    obtain ⟨g0, g1, t0, t1⟩ := hi i (by omega)
    obtain ⟨x0, e0⟩ := trod_int u0 t0
    obtain ⟨x1, e1, -, w1⟩ := DataW.trod_int u1 t1
    have e1 : V1 i = .int .u8 x1 := by simpa using e1
    have hb1 := byte_bound w1
    obtain rfl : (intOf (V0 i), toG (V1 i)) = x := by simpa [hil] using hxi
    rw [e0] at g0
    rw [e1] at g1
    rw [e0, e1]
    have hx1 : (((toG (.int .u8 x1)).v : Nat) : Int) = x1 := by
      show ((((intOf (Value.int .u8 x1)).toNat % 256 : Nat)) : Int) = x1
      simp only [intOf]; omega
    refine ⟨b, off, rfl, fun j v hv => ?_⟩
    rw [add_plain] at g0 g1
    match j, hv with
    | 0, hv => simp [encC, intOf] at hv; subst hv; exact g0
    | 1, hv =>
      have hv' : v = .int .u8 (((toG (.int .u8 x1)).v : Nat) : Int) := by simpa [encC] using hv.symm
      rw [hx1] at hv'
      subst hv'; rw [Nat.add_assoc]; exact g1
    | j + 2, hv => simp [encC] at hv

end Go.Proofs.YtpnkpejnahhajaaGreat

namespace Go.Proofs.YtpnkpejnahhajaaGreat
open Go.RowKit Go.Deep Go.Joins Go.ChangeShapes Go.WideShapes Go.ChangeAt

set_option maxRecDepth 100000 in
theorem blank_fields : ∃ fs : Array Field, Tryz.prog.underlying 50 = some (.struct fs) ∧ fs.size = 3 ∧ oneCellFields Tryz.prog fs = true ∧ Tryz.prog.cellsOf 50 = 3 ∧ ∀ (j : Nat) (f : Field), fs[j]? = some f → Tryz.prog.underlying f.type = some (.int .i64) :=
  ⟨_, Tryz.underlying50, rfl, by kernel_rfl, by kernel_rfl, fun j f h => by
    match j, h with
    | 0, h => obtain rfl := Option.some.inj h; exact Tryz.underlying3
    | 1, h => obtain rfl := Option.some.inj h; exact Tryz.underlying3
    | 2, h => obtain rfl := Option.some.inj h; exact Tryz.underlying3⟩
section
variable {H : Type} {enc : TypeId × Value → H} {w : World} {base : Nat} {hd : Bool}
theorem open_blanks {fuel : Nat} {v : Value} {y : DataW H × List MemPlace} (h : DataW.trod enc Tryz.prog w base (fun _ => true) hd fuel 43 [v] = some y) :
    ∃ A n c bs, v = .slice A n c ∧ n ≤ c ∧ c ≤ maxLen ∧ (A = none → c = 0) ∧ List.length bs = n ∧ Tris w A bs := by
  obtain ⟨fs, h1, h2, h3, h4, h5⟩ := blank_fields
  obtain ⟨A, n, c, rfl, hc, hm, h0, Z, hZ⟩ := open_records Tryz.underlying43 h1 h3 (by rw [h4, h2]) h5 (by omega) h
  refine ⟨A, n, c, (List.range n).map fun i => (Z i 0, Z i 1, Z i 2), rfl, hc, hm, h0, by simp, fun i x hx => ?_⟩
  have hi : i < n := by have := (List.getElem?_eq_some_iff.1 hx).1; simpa using this
  obtain rfl : (Z i 0, Z i 1, Z i 2) = x := by simpa [hi] using hx
  obtain ⟨b, off, e, c0⟩ := hZ i (by omega) 0 (by omega)
  obtain ⟨b1, off1, e1, c1⟩ := hZ i (by omega) 1 (by omega)
  obtain ⟨b2, off2, e2, c2⟩ := hZ i (by omega) 2 (by omega)
  subst e
  obtain ⟨rfl, rfl⟩ : b = b1 ∧ off = off1 := by simpa using e1
  obtain ⟨rfl, rfl⟩ : b = b2 ∧ off = off2 := by simpa using e2
  rw [h2] at c0 c1 c2
  refine ⟨b, off, rfl, fun j v hv => ?_⟩
  match j, hv with
  | 0, hv => obtain rfl := Option.some.inj hv; exact c0
  | 1, hv => obtain rfl := Option.some.inj hv; exact c1
  | 2, hv => obtain rfl := Option.some.inj hv; exact c2
  | j + 3, hv => simp [enc3] at hv
end
set_option maxRecDepth 100000 in
theorem task_fields : ∃ f0 f1 f2 : Field, Tryz.prog.underlying 45 = some (.struct #[f0, f1, f2]) ∧ oneCellFields Tryz.prog #[f0, f1, f2] = true ∧ Tryz.prog.cellsOf 45 = 3 ∧ Tryz.prog.underlying f0.type = some (.int .i64) ∧ Tryz.prog.underlying f1.type = some (.int .i64) ∧ f2.type = 43 :=
  ⟨_, _, _, Tryz.underlying45, by kernel_rfl, by kernel_rfl, Tryz.underlying3, Tryz.underlying3, rfl⟩
set_option maxRecDepth 100000 in
/-- A task by value. -/
theorem open_task {H : Type} {enc : TypeId × Value → H} {w : World} {base : Nat} {hd : Bool} {r : Reach} {b0 : Nat} {v : Value} {d : DataW H} {p : List MemPlace}
    (hv : Value.okWide Tryz.prog w r b0 45 v) (h : DataW.Trod enc Tryz.prog w base (fun _ => true) hd 45 v d p) :
    ∃ W0 H0 A n c bs, v = .agg #[.int .i64 W0, .int .i64 H0, .slice A n c] ∧ n ≤ c ∧ c ≤ maxLen ∧ (A = none → c = 0) ∧ List.length bs = n ∧ Tris w A bs := by
  obtain ⟨f0, f1, f2, h1, h2, h3, h4, h5, h6⟩ := task_fields
  obtain ⟨v0, v1, v2, y0, y1, y2, n, rfl, -, -, t0, t1, t2⟩ := open_agg3 h1 h2 h3 hv h
  obtain ⟨x, rfl⟩ := trod_int h4 t0
  obtain ⟨y, rfl⟩ := trod_int h5 t1
  rw [h6] at t2
  obtain ⟨A, m, c, bs, rfl, r1, r2, r3, r4, r5⟩ := open_blanks t2
  exact ⟨x, y, A, m, c, bs, rfl, r1, r2, r3, r4, r5⟩

end Go.Proofs.YtpnkpejnahhajaaGreat

namespace Go.Proofs.YtpnkpejnahhajaaGreat

theorem strip_cut (r : List (List Char)) : stripLifts liftWords ("cut".toList :: r) = ([], "cut".toList :: r) := by
  simp [liftWords, stripLifts]
theorem make_of {P : Program} {r : List (List Char)} (h : behindMainWord (wordsSigns P.initOrder.toList) = "cut".toList :: r) : P.make = some .cut := by
  unfold Program.make
  rw [h]
  simp
theorem lifts_of {P : Program} {r : List (List Char)} (h : behindMainWord (wordsSigns P.initOrder.toList) = "cut".toList :: r) : (false == P.liftsFinal) = true := by
  unfold Program.liftsFinal Program.headLifts
  simp only [h, strip_cut]
  simp
theorem enter_of {P : Program} {r : List (List Char)} (h : behindMainWord (wordsSigns P.initOrder.toList) = "cut".toList :: r) (h0 : P.doorFits [] = true) (h1 : P.laysLater = false) (h2 : P.bearsReflect = false) : P.mayEnter = true := by
  unfold Program.mayEnter
  simp only [h, strip_cut, h0]
  simp [h1, h2]
theorem init_text : Tryz.prog.initOrder = "harness 736567457ab9bf91d1f9d5b95223a36599163ce021a93fc7c27974c219a324e1 cut at silverside/silversidetop.TopSlots silverside/silversidetop.TopShift silverside/silversidetop.TopCounted" := by kernel_rfl
set_option maxRecDepth 100000 in
theorem init_list : ∃ l, Tryz.prog.initOrder.toList = l ∧ (behindMainWord (wordsSigns l)).head? = some "cut".toList := by
  rw [init_text]
  refine ⟨_, (by show (String.ofList _).toList = _; exact String.toList_ofList), ?_⟩
  kernel_rfl
theorem init_cut : ∃ r, behindMainWord (wordsSigns Tryz.prog.initOrder.toList) = "cut".toList :: r := by
  obtain ⟨l, h, k⟩ := init_list
  rw [h]
  cases hb : behindMainWord (wordsSigns l) with
  | nil => rw [hb] at k; cases k
  | cons c r => rw [hb] at k; exact ⟨r, by rw [Option.some.inj k]⟩
theorem make_cut {c : OpenClaim} (hc : c.make = .cut) : (Tryz.pinned.checked.prog.make == some c.make) = true := by
  obtain ⟨r, h⟩ := init_cut
  have k : Tryz.pinned.checked.prog.make = some .cut := make_of h
  rw [k, hc]; rfl
theorem no_lifts {c : OpenClaim} (hc : c.lifted = false) : (c.lifted == Tryz.pinned.checked.prog.liftsFinal) = true := by
  obtain ⟨r, h⟩ := init_cut
  have k : (false == Tryz.pinned.checked.prog.liftsFinal) = true := lifts_of h
  rw [hc, k]
theorem may_enter : Tryz.pinned.checked.prog.mayEnter = true := by
  obtain ⟨r, h⟩ := init_cut
  exact enter_of h (by kernel_rfl) (by kernel_rfl) (by kernel_rfl)

end Go.Proofs.YtpnkpejnahhajaaGreat
