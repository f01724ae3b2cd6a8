/- Layer 5: the numbers of the transactions in a map, sorted. -/
import Derived.Test.YtnoeiocbmhkmeaaGreatBu20
import Derived.Test.YtnoeiocbmhkmeaaGreatBu29
namespace Go.Proofs.YtnoeiocbmhkmeaaGreat
open Go.RowKit Go.Shelf
open Go.Maps (Keyed)
set_option linter.unusedSimpArgs false
set_option maxRecDepth 100000
set_option maxHeartbeats 80000000

def valZ : Value → Int
 | .int _ a => a
 | _ => 0
theorem Mp.owns {β : Type} {P : Program} {k : TypeId} {V : β → Value} {w : World} {g : Nat} {l : List (Int × β)} (h : Mp P k intK V w g l) (hk : P.underlying k = some (.int .i64)) (hn : l.length ≤ maxLen) :
 ∃ D : DataW Nat, w.ownsMap P k (fun _ => some (.nil, [])) g l.length D ∧ (intKeys D).Perm (l.map Prod.fst) ∧ Go.Maps.size D = l.length := by
 obtain ⟨es, clock, hb, hs, hm, hkl⟩ := h
 have hlen : es.size = l.length := by have := congrArg List.length hm; simpa using this
 have hrd : ∀ x ∈ es.toList, ∃ kl, Go.WideElems.rd (H := Nat) P k (fun _ => some (.nil, [])) x = some (kl, .nil) ∧ Go.intOf kl = valZ x.key := by
  intro x hx
  have h1 : (x.key, x.val) ∈ l.map (fun p => (intK p.1, V p.2)) := by rw [← hm]; exact List.mem_map.2 ⟨x, hx, rfl⟩
  obtain ⟨p, hp, e⟩ := List.mem_map.1 h1
  obtain ⟨kl, hkl⟩ := hkl p hp
  obtain ⟨e1, -⟩ := Prod.mk.injEq _ _ _ _ ▸ e
  obtain ⟨z, hz1, hz2, -⟩ := Go.Maps.keyOf_i64 hk hkl
  refine ⟨kl, by unfold Go.WideElems.rd; rw [← e1, hkl]; rfl, ?_⟩
  rw [← e1]
  subst hz2
  injection hz1 with _ hz1
  show z = p.1
  exact hz1.symm
 refine ⟨.map ((es.toList.map (Go.WideElems.rg P k (fun _ => some (.nil, [])))).foldr DataW.insert []), ⟨es, clock, hb, ⟨by omega, hs, fun x hx => ?_⟩, by omega, rfl⟩, ?_, ?_⟩
 ·obtain ⟨kl, h1, -⟩ := hrd x hx
  exact ⟨_, h1⟩
 ·have hp := (Go.WideShapes.sorted_perm (es.toList.map (Go.WideElems.rg (H := Nat) P k (fun _ => some (.nil, []))))).map (fun p => Go.intOf p.1)
  refine hp.trans ?_
  rw [List.map_map]
  have e1 : es.toList.map ((fun p => Go.intOf p.1) ∘ Go.WideElems.rg (H := Nat) P k (fun _ => some (.nil, []))) = es.toList.map (fun x => valZ x.key) := List.map_congr_left (fun x hx => by
   obtain ⟨kl, h1, h2⟩ := hrd x hx
   show Go.intOf (Go.WideElems.rg P k _ x).1 = _
   rw [Go.WideElems.rg_of h1]
   exact h2)
  rw [e1]
  have e2 := congrArg (List.map (fun q : Value × Value => valZ q.1)) hm
  rw [List.map_map, List.map_map] at e2
  have e3 : es.toList.map (fun x => valZ x.key) = l.map Prod.fst := e2
  rw [e3]
 ·show ((es.toList.map (Go.WideElems.rg (H := Nat) P k (fun _ => some (.nil, [])))).foldr DataW.insert []).length = _
  rw [(Go.WideShapes.sorted_perm _).length_eq, List.length_map]
  simpa using hlen
theorem sorts_tick (m : Nat) : AnyZI.SortsIn Tryz.prog Try.sortedT_ren Fence.wide m :=
 ⟨fun blk off cap ss W hH hblk hsz => callsIn_wide.2 (AnyM.slices_Sort_int Try.sortT blk off cap ss W hH hblk hsz),
  fun p cap W => callsIn_wide.2 (AnyM.slices_Sort_int_none Try.sortT p cap W)⟩
theorem owns_low {w : World} {b b' : Nat} {e : TypeId} {size n : Nat} {v : Value} {xs : List Value} (h : w.ownsRow b e size v n xs) (hb : b' ≤ b) : w.ownsRow b' e size v n xs := by
 refine ⟨h.1, ?_⟩
 rcases h.2 with hn | ⟨g, cap, cur, hv, hg, rest⟩
 ·exact .inl hn
 ·exact .inr ⟨g, cap, cur, hv, Nat.le_trans hb hg, rest⟩
theorem owns_apart {w : World} {b b' : Nat} {e e' : TypeId} {size size' n n' : Nat} {v v' : Value} {xs xs' : List Value} (h : w.ownsRow b e size v n xs) (h' : w.ownsRow b' e' size' v' n' xs') (hne : e ≠ e') : v.ownBlock = none ∨ v.ownBlock ≠ v'.ownBlock := by
 rcases h.2 with ⟨rfl, -⟩ | ⟨g, cap, cur, rfl, -, hg, -⟩
 ·exact Or.inl rfl
 ·rcases h'.2 with ⟨rfl, -⟩ | ⟨g', cap', cur', rfl, -, hg', -⟩
  ·exact Or.inr (by simp [Value.ownBlock])
  ·refine Or.inr (fun e => ?_)
   have e1 : g = g' := by simpa [Value.ownBlock] using e
   subst e1
   rw [hg] at hg'
   injection hg' with hg'
   injection hg' with _ h2
   exact hne h2
def AscP (ks : List Int) (w : World) (e : Ending) (w' : World) : Prop := ∃ A c, e = .returned (.slice A ks.length c) ∧ w'.ownsRow w.heap.size 3 1 (.slice A ks.length c) ks.length (flatE enc1 ks) ∧ Gr w w'
theorem asc_row {β : Type} {l : List (Int × β)} {ss : List Int} {w w' : World} {base : Nat} {v : Value} (h : ss.Perm (l.map Prod.fst)) (hr : w'.ownsRow base 3 1 v ss.length ((ss.mergeSort (fun x y => decide (x ≤ y))).map encZ)) (hb : w.heap.size ≤ base) (hg : Gr w w') : AscP (keysS l) w (.returned v) w' := by
 rw [keysS_of h] at hr
 have hl : ss.length = (keysS l).length := by rw [keysS_len, h.length_eq, List.length_map]
 rw [hl] at hr
 have e : (keysS l).map encZ = flatE enc1 (keysS l) := by
  generalize keysS l = q
  induction q with
  | nil => rfl
  | cons x r ih => rw [List.map_cons, ih]; rfl
 rw [e] at hr
 obtain ⟨A, c, rfl, hc, hrd, -⟩ := own_row enc1_len rfl hr
 exact ⟨A, c, rfl, owns_low hr hb, hg⟩

theorem ascD_any {w : World} {g : Nat} {l : List (Int × Dl)} (h : Mp Tryz.prog 3 intK dlV w g l) (hn : l.length ≤ 100000) :
 Calls Tryz.prog 71 #[.map (some g)] w (AscP (keysS l) w) := by
 obtain ⟨D0, hown, hperm, hsize⟩ := h.owns Tryz.underlying3 (Nat.le_trans hn (by decide))
 refine (callsIn_wide (n := 6)).1 ?_
 have hbl := hown.lt
 have hseq : SeqGives Fence.wide 2 Tryz.prog 99 #[.pointer (some ⟨w.heap.size, 0, none⟩)] encZ (fun ss => ss.Perm (intKeys D0)) (Go.Maps.size D0) (w.alloc (.cells #[.map (some g)] 82)) :=
  AnyZI.keys_gives (ρ := Try.keysD_ren) { Try.keysD with } Fence.wide _ trivial rfl (by omega) w.heap.size g l.length D0 _ (by simp) (by simp) (by
   obtain ⟨es, clock, hb, Ft, hs, hD⟩ := hown
   exact ⟨es, clock, (Below.heap_alloc _ _ g hbl).trans hb, Ft, hs, hD⟩)
 have cK : ∀ mb W, CallsIn Fence.wide 5 Tryz.prog 90 #[.map mb] W fun e w' => e = .returned (.func (.func 99) #[] #[.pointer (some ⟨W.heap.size, 0, none⟩)]) ∧ w' = W.alloc (.cells #[.map mb] 82) := fun mb W => AnyZI.keys_in Try.keysD Fence.wide 5 trivial rfl mb W
 have cS := AnyZI.sorted_in Try.sortedT Fence.wide 5 trivial trivial trivial trivial rfl (by omega) (sorts_tick _) (enters_of Tryz.func98 (by kernel_rfl) rfl) 99 #[.pointer (some ⟨w.heap.size, 0, none⟩)] trivial (enters_of Tryz.func99 (by kernel_rfl) rfl) _ _ (by rw [hsize]; exact Nat.le_trans hn (by decide)) (by rw [hsize]; omega) _ hseq
 change CallsIn _ _ Tryz.prog 89 _ _ _ at cS
 have hfK : Fence.wide.fn 90 := trivial
 have hfS : Fence.wide.fn 89 := trivial
 refine callsIn_of_wp Tryz.func71 rfl trivial ?_ rfl
 simp only [Tryz.ntmps71, List.size_toArray, List.length_cons, List.length_nil, Nat.reduceAdd, Nat.reduceSub, Array.replicate_succ, Array.replicate_zero, List.push_toArray, List.append_toArray, List.nil_append, List.cons_append]
 gi_wp2_with (first
  | (gi_at_call 90; refine (cK _ _).mono ?_; rintro e w' ⟨rfl, rfl⟩)
  | (gi_at_call 89; refine cS.mono ?_; rintro e w' ⟨v, ss, rfl, hS, hrow, hnil, hb⟩))
 go_ret
 exact asc_row (hS.trans hperm) hrow (by simp) (((Below.refl _ w).alloc (Nat.le_refl _) _).trans (hb.mono (by simp)))

theorem ascP_any {w : World} {g : Nat} {l : List (Int × (Int × Int))} (h : Mp Tryz.prog 3 intK promV w g l) (hn : l.length ≤ 100000) :
 Calls Tryz.prog 73 #[.map (some g)] w (AscP (keysS l) w) := by
 obtain ⟨D0, hown, hperm, hsize⟩ := h.owns Tryz.underlying3 (Nat.le_trans hn (by decide))
 refine (callsIn_wide (n := 6)).1 ?_
 have hbl := hown.lt
 have hseq : SeqGives Fence.wide 2 Tryz.prog 100 #[.pointer (some ⟨w.heap.size, 0, none⟩)] encZ (fun ss => ss.Perm (intKeys D0)) (Go.Maps.size D0) (w.alloc (.cells #[.map (some g)] 80)) :=
  AnyZI.keys_gives (ρ := Try.keysP_ren) { Try.keysP with } Fence.wide _ trivial rfl (by omega) w.heap.size g l.length D0 _ (by simp) (by simp) (by
   obtain ⟨es, clock, hb, Ft, hs, hD⟩ := hown
   exact ⟨es, clock, (Below.heap_alloc _ _ g hbl).trans hb, Ft, hs, hD⟩)
 have cK : ∀ mb W, CallsIn Fence.wide 5 Tryz.prog 91 #[.map mb] W fun e w' => e = .returned (.func (.func 100) #[] #[.pointer (some ⟨W.heap.size, 0, none⟩)]) ∧ w' = W.alloc (.cells #[.map mb] 80) := fun mb W => AnyZI.keys_in Try.keysP Fence.wide 5 trivial rfl mb W
 have cS := AnyZI.sorted_in Try.sortedT Fence.wide 5 trivial trivial trivial trivial rfl (by omega) (sorts_tick _) (enters_of Tryz.func98 (by kernel_rfl) rfl) 100 #[.pointer (some ⟨w.heap.size, 0, none⟩)] trivial (enters_of Tryz.func100 (by kernel_rfl) rfl) _ _ (by rw [hsize]; exact Nat.le_trans hn (by decide)) (by rw [hsize]; omega) _ hseq
 change CallsIn _ _ Tryz.prog 89 _ _ _ at cS
 have hfK : Fence.wide.fn 91 := trivial
 have hfS : Fence.wide.fn 89 := trivial
 refine callsIn_of_wp Tryz.func73 rfl trivial ?_ rfl
 simp only [Tryz.ntmps73, List.size_toArray, List.length_cons, List.length_nil, Nat.reduceAdd, Nat.reduceSub, Array.replicate_succ, Array.replicate_zero, List.push_toArray, List.append_toArray, List.nil_append, List.cons_append]
 gi_wp2_with (first
  | (gi_at_call 91; refine (cK _ _).mono ?_; rintro e w' ⟨rfl, rfl⟩)
  | (gi_at_call 89; refine cS.mono ?_; rintro e w' ⟨v, ss, rfl, hS, hrow, hnil, hb⟩))
 go_ret
 exact asc_row (hS.trans hperm) hrow (by simp) (((Below.refl _ w).alloc (Nat.le_refl _) _).trans (hb.mono (by simp)))

end Go.Proofs.YtnoeiocbmhkmeaaGreat

namespace Go.Proofs.YtnoeiocbmhkmeaaGreat
open Go.RowKit
open Go.Maps (Keyed)
set_option linter.unusedSimpArgs false
set_option maxRecDepth 100000
set_option maxHeartbeats 80000000

theorem miss_any (A : Option Addr) (n c : Nat) (ps : List Mv) (g : Nat) (ml : List (Int × Bool)) (w : World) (hn : ps.length = n) (hl : n ≤ 512) (hp : Pts w A ps) (hm : Mp Tryz.prog 3 intK boolV w g ml) (hI : ∀ p ∈ ps, I64 p.1) :
 Calls Tryz.prog 72 #[.agg #[.slice A n c, .map (some g)]] w (MvP (missL ps ml) w) := by
 have HM := Lib.hid hm
 have HII := Lib.hid hI
 have HN := Lib.hid hn
 have HP := Lib.hid hp
 obtain ⟨i0, hi, hz0, hz1, hz2⟩ := info_parts Tryz.infoPtM
 have HI := Lib.hid (And.intro hi (And.intro hz0 (And.intro hz1 hz2)))
 have HQ := Lib.hid (show missL ps ml = ps.filter (fun p => (mget ml p.1).getD false) from rfl)
 obtain ⟨Q, hQ⟩ : ∃ Q : Mv → Bool, Q = fun p => (mget ml p.1).getD false := ⟨_, rfl⟩
 rw [← hQ] at HQ
 have HQQ := Lib.hid hQ
 clear hn hp hi hz0 hz1 hz2 hQ hm hI
 go_enter Tryz.func72, Tryz.ntmps72
 go_upto_region 2 with fail
 generalize hW1 : World.alloc w _ = w1
 obtain ⟨hg1, k0, k1⟩ := box2q hW1
 have hsz : w.heap.size < w1.heap.size := by rw [← hW1]; simp
 generalize w.heap.size = T at k0 k1 hsz ⊢
 have HM1 := Lib.hid (HM.out.keep hg1)
 have HP1 := Lib.hid (HP.out.keep hg1)
 have HK1 := Lib.hid k1
 clear hW1
 go_wp2_with fail
 go_loopw [3, 9] (fun q z wr => ∃ (i : Nat) (A9 : Option Addr) (j c9 : Nat), i ≤ n ∧ z = .int .i64 (i : Int) ∧ q = .slice A9 j c9 ∧ Hid (((ps.take i).filter Q).length = j ∧ j ≤ i) ∧ Hid (wr.ownsRow w1.heap.size 61 2 (.slice A9 j c9) j (flatE enc2 ((ps.take i).filter Q))) ∧ Gr w1 wr) (fun _ z _ => n - (intOf z).toNat)
 case atStart => exact ⟨0, none, 0, 0, Nat.zero_le _, rfl, rfl, Lib.hid ⟨by simp, by omega⟩, Lib.hid (World.ownsRow_nil _ _ _ _), Gr.refl _⟩
 case round =>
  obtain ⟨i, A9, j, c9, hin, rfl, rfl, hj, hown, hgr⟩ := hrel
  by_cases hlt : i < n
  ·obtain ⟨b, off, rfl, x0, x1⟩ := Pts_at (HP1.out.keep hgr) (k := i) (by rw [HN.out]; exact hlt)
   have hpk : ps[i]? = some (ps.getD i (0, 0)) := getD_of (0, 0) (by rw [HN.out]; exact hlt)
   have HPK := Lib.hid hpk
   generalize ps.getD i (0, 0) = p at *
   obtain ⟨p1, p2⟩ := p
   dsimp only at x0 x1
   have hki : (i : Int) < (n : Int) := by omega
   have hpI : I64 p1 := HII.out _ (List.mem_of_getElem? hpk)
   have HK := Lib.hid (hgr.keep HK1.out)
   clear hpk
   go_upto_region 5 with fail
   generalize hW : World.alloc wr _ = w5
   obtain ⟨hgW, k0, k1⟩ := box2q hW
   generalize wr.heap.size = Z at k0 k1 ⊢
   have HO5 := Lib.hid (owns_gr hown.out hgW)
   have hg5 := hgr.trans hgW
   have hk5 := hgW.keep HK.out
   have hlk := look_bool (HM1.out.keep hg5) hpI
   clear hW hgW hown hgr x0 x1
   cases hb : (mget ml p1).getD false
   ·have b1 : (mget ml p1).getD false = false := hb
    rw [hb] at hlk
    have HSK := Lib.hid (filter_skip Q HPK.out (by rw [HQQ.out]; exact b1))
    have HJ : Hid (((ps.take (i + 1)).filter Q).length = j ∧ j ≤ i + 1) := Lib.hid (by rw [HSK.out]; exact ⟨hj.out.1, by have := hj.out.2; omega⟩)
    have HO6 : Hid (w5.ownsRow w1.heap.size 61 2 (.slice A9 j c9) j (flatE enc2 ((ps.take (i + 1)).filter Q))) := Lib.hid (by rw [HSK.out]; exact HO5.out)
    clear hb b1
    go_wp2_with fail
    go_roundw
    case rel => exact ⟨i + 1, A9, j, c9, by omega, by go_num, rfl, HJ, HO6, hg5⟩
    case measure => simp [intOf]; omega
   ·have b1 : (mget ml p1).getD false = true := hb
    rw [hb] at hlk
    have HSK := Lib.hid (filter_keep Q HPK.out (by rw [HQQ.out]; exact b1))
    have HJ : Hid (((ps.take (i + 1)).filter Q).length = j + 1 ∧ j + 1 ≤ i + 1) := Lib.hid (by rw [HSK.out, List.length_append, hj.out.1]; exact ⟨rfl, by have := hj.out.2; omega⟩)
    have hj2 := hj.out.2
    clear hb b1
    obtain ⟨hi, hz0, hz1, hz2⟩ := HI.out
    go_wp2_with (at_builtin; refine wpList_append_own _ rfl _ _ 38 rfl w1.heap.size 61 i0 _ 2 16 Tryz.underlying38 hi hz0 hz1 hz2 rfl (by decide) _ _ _ rfl (HO5.out.alloc _) ⟨w5.heap.size, 0, none⟩ 1 1 (enc2 (p1, p2)) rfl rfl ?a1 ?a2 ?a3 ?a4 ?a5 ?_)
    case a1 =>
     intro t u ht
     first
     | (rw [Addr.add_lit]; exact alloc_new rfl (by rw [Nat.zero_add]; simpa [enc2] using ht))
     | simpa [enc2] using ht
    case a2 => exact fun u hu => enc2p_one _ u hu
    case a3 => unfold maxLen; omega
    case a4 => omega
    case a5 => have := hg5.size; simp; omega
    intro v' w10 hown' hgrow _
    have hal := hg5.alloc (.cells #[.int .i64 p1, .int .i64 p2] 61)
    have ho3 := HO5.out.alloc (.cells #[.int .i64 p1, .int .i64 p2] 61)
    have hgf : Gr w1 w10 := Below.grown hal hgrow hal.size (fun t ht => (ho3.lt t ht).1)
    have hown5 : w10.ownsRow w1.heap.size 61 2 v' (j + 1) (flatE enc2 ((ps.take (i + 1)).filter Q)) := by
     rw [HSK.out, flatE_app]; simpa [flatE] using hown'
    obtain ⟨A8, c8, rfl, -, -, -⟩ := own_row enc2p_len HJ.out.1 hown5
    have HO8 := Lib.hid hown5
    clear hi hz0 hz1 hz2 hown' hgrow hal ho3 hown5 k0 k1 hk5 hlk
    go_wp2_with fail
    go_roundw
    case rel => exact ⟨i + 1, A8, j + 1, c8, by omega, by go_num, rfl, HJ, HO8, hgf⟩
    case measure => simp [intOf]; omega
  ·obtain rfl : i = n := by omega
   have htk : ps.take i = ps := List.take_of_length_le (by rw [HN.out]; exact Nat.le_refl _)
   rw [htk] at hown hj
   rw [← HQ.out] at hown hj
   clear htk
   go_wp2_with fail
   go_ret
   obtain ⟨A7, c7, e, h1, h2, -⟩ := own_row enc2p_len hj.out.1 hown.out
   injection e with e1 _ e2
   exact ⟨A9, c9, by rw [hj.out.1]; rfl, by rw [e1]; exact h2, hg1.trans hgr, by rw [hj.out.1, e2]; exact h1⟩

set_option maxRecDepth 100000
set_option maxHeartbeats 80000000

section
variable {α : Type} {enc : α → List Value} {size : Nat} {P : Program} {w : World} {ops : Array Oper} {rest : List Oper} {o : Oper} {a : Act} {Q : Exit → Act → World → Prop}
theorem step_app (hgd : o.guard = none) (s x : Operand) (t : TypeId) (ho : o.op = .call { callee := .builtin .append, args := #[s, x], argTypes := #[t, t] })
 (base : Nat) (e : TypeId) (i : TypeInfo) (z : Value) (bytes : Nat) (ht : P.underlying t = some (.slice e)) (hi : P.info? e = some i) (hz : i.zero = some z)
 (hsize : i.size = size) (hby : i.bytes = bytes) (hzs : z.cells.size = size) (hsz : 0 < size) (hk : ∀ x : α, (enc x).length = size) (h1 : ∀ x : α, ∀ u ∈ enc x, u.oneCell' = true)
 (v : Value) (n0 : Nat) (xs0 : List α) (hx0 : xs0.length = n0) (hs : a.eval s = v) (hown : w.ownsRow base e size v n0 (flatE enc xs0)) (hbase : base ≤ w.heap.size)
 (A : Option Addr) (k c : Nat) (xs : List α) (hx : a.eval x = .slice A k c) (hn : xs.length = k) (hp : Rd size enc w A xs) (h63 : n0 + k ≤ maxLen) (hbytes : (n0 + k) * bytes ≤ 140737488355328)
 (h : ∀ A' c' w', w'.ownsRow base e size (.slice A' (n0 + k) c') (n0 + k) (flatE enc (xs0 ++ xs)) → w.grownBy w' v.ownBlock → wpList P ops Q rest (a.put o.dst (.slice A' (n0 + k) c')) w') : wpList P ops Q (o :: rest) a w := by
 cases A with
 | none =>
   obtain rfl : xs = [] := by
    cases xs with
    | nil => rfl
    | cons y r =>
      obtain ⟨b, off, e, -⟩ := hp 0 y rfl
      cases e
   have hk0 : k = 0 := hn.symm
   subst hk0
   obtain ⟨A', c', rfl, hc, -, -⟩ := own_row hk hx0 hown
   refine wpList_plain hgd fun K' hK' => ?_
   have hrun := run_append_nothing w t t o.type e i ht hi A' n0 c' hc (.slice none 0 c) (Src.ofNil _ ht c)
   have hf := h A' c' w (by rw [List.append_nil]; exact hown) ⟨rfl, rfl, rfl, Nat.le_refl _, fun _ _ _ => rfl⟩
   unfold Oper.wp
   simp [execOp, ho, resolve, invoke, builtin, hs, hx, hrun, Result.andThen]
   exact hK' _ _ hf
 | some ad =>
   refine wpList_append_own _ hgd s x t ho base e i z size bytes ht hi hz hsize hby hzs hsz v n0 (flatE enc xs0) hs hown ad k c (flatE enc xs) hx (by rw [flatE_len hk, hn]) (Rd_news hk hsz hp) (oneCell_flat h1 xs) h63 hbytes hbase ?_
   intro v' w' hown' hgrow _
   rw [← flatE_app] at hown'
   obtain ⟨A', c', rfl, -, -, -⟩ := own_row hk (by rw [List.length_append, hx0, hn]) hown'
   exact h A' c' w' hown' hgrow
end
theorem siteDealO {B : Nat} {w : World} {s : Sx} (h : Its B w (siteIt s)) {tx : Int} {d : Dl} (hm : (tx, d) ∈ s.opn) : Pts w (some ⟨d.b, 0, none⟩) d.parts ∧ Mp Tryz.prog 3 intK boolV w d.g d.miss := by
 have h1 : Holds5 w d.b (.moves d.parts) := h.at (D := .moves d.parts) (by
  unfold siteIt
  simp only [List.mem_append, List.mem_flatMap]
  exact Or.inr (Or.inl ⟨_, hm, by simp [dlIt]⟩))
 have h2 : Holds5 w d.g (.bools d.miss) := h.at (D := .bools d.miss) (by
  unfold siteIt
  simp only [List.mem_append, List.mem_flatMap]
  exact Or.inr (Or.inl ⟨_, hm, by simp [dlIt]⟩))
 exact ⟨(show d.b < w.heap.size ∧ Pts w (some ⟨d.b, 0, none⟩) d.parts from h1).2, h2⟩
theorem siteDealG {B : Nat} {w : World} {s : Sx} (h : Its B w (siteIt s)) {tx : Int} {d : Dl} (hm : (tx, d) ∈ s.grt) : Pts w (some ⟨d.b, 0, none⟩) d.parts ∧ Mp Tryz.prog 3 intK boolV w d.g d.miss := by
 have h1 : Holds5 w d.b (.moves d.parts) := h.at (D := .moves d.parts) (by
  unfold siteIt
  simp only [List.mem_append, List.mem_flatMap]
  exact Or.inr (Or.inr ⟨_, hm, by simp [dlIt]⟩))
 have h2 : Holds5 w d.g (.bools d.miss) := h.at (D := .bools d.miss) (by
  unfold siteIt
  simp only [List.mem_append, List.mem_flatMap]
  exact Or.inr (Or.inr ⟨_, hm, by simp [dlIt]⟩))
 exact ⟨(show d.b < w.heap.size ∧ Pts w (some ⟨d.b, 0, none⟩) d.parts from h1).2, h2⟩

set_option maxRecDepth 100000
set_option maxHeartbeats 80000000

theorem look_prom1 {w : World} {g : Nat} {l : List (Int × (Int × Int))} {tx : Int} (h : Mp Tryz.prog 3 intK promV w g l) (htx : I64 tx) : (Instr.lookup 80 (.map (some g)) (.int .i64 tx) false).run Tryz.prog w = .ok (promV ((mget l tx).getD (0, 0))) w := by
 obtain ⟨kl, hk⟩ := intp_key htx
 have := h.look intK_inj intp_law Tryz.underlying80 (z := promV (0, 0)) (by kernel_rfl) false hk
 rw [show (.int .i64 tx : Value) = intK tx from rfl, this]
 cases mget l tx <;> rfl

theorem remind_any {B : Nat} {s : Sx} (w : World) (h : Its B w (siteIt s)) (ho : RemOk s) :
 Calls Tryz.prog 53 #[.pointer (some ⟨s.p, 0, none⟩)] w (LetP (remL s) w) := by
 have HH := Lib.hid h
 have HO := Lib.hid ho
 obtain ⟨i0, hi, hz0, hz1, hz2⟩ := info_parts Tryz.infoPtL
 have HI := Lib.hid (And.intro hi (And.intro hz0 (And.intro hz1 hz2)))
 have HCD := Lib.hid (fun W (hW : Gr w W) => ascD_any ((h.keep hW).sOpn) (by have := ho.lo; omega))
 have HCG := Lib.hid (fun W (hW : Gr w W) => ascD_any ((h.keep hW).sGrt) (by have := ho.lg; omega))
 have HCP := Lib.hid (fun W (hW : Gr w W) => ascP_any ((h.keep hW).sProm) (by have := ho.lp; omega))
 have HL : Hid (remL s = (keysS s.opn).flatMap (askT s) ++ (keysS s.grt).flatMap (comT s) ++ (keysS s.prom).map (whaT s)) := Lib.hid rfl
 have HC : Hid (∀ W, Gr w W → W.cell? ⟨s.p, 0, none⟩ = some (.int .i64 s.num) ∧ W.cell? ⟨s.p, 6, none⟩ = some (.map (some s.mo)) ∧ W.cell? ⟨s.p, 7, none⟩ = some (.map (some s.mg)) ∧ W.cell? ⟨s.p, 3, none⟩ = some (.map (some s.mp))) := Lib.hid (fun W hW => by
  obtain ⟨c0, -, -, c3, -, -, c6, c7⟩ := (h.keep hW).sCells
  exact ⟨c0, c6, c7, c3⟩)
 have HK1 : Hid (∀ (i : Nat) tx, (keysS s.opn)[i]? = some tx → ∃ d, (tx, d) ∈ s.opn ∧ mget s.opn tx = some d ∧ DlOk tx d ∧ askT s tx = wrL s 1 tx (missL d.parts d.miss)) := Lib.hid (fun i tx hk => by
  obtain ⟨d, h1, h2⟩ := keyS_get h.sOpn.apart hk
  exact ⟨d, h1, h2, ho.opn _ h1, by unfold askT; rw [h2]⟩)
 have HK2 : Hid (∀ (i : Nat) tx, (keysS s.grt)[i]? = some tx → ∃ d, (tx, d) ∈ s.grt ∧ mget s.grt tx = some d ∧ DlOk tx d ∧ comT s tx = wrL s 4 tx (missL d.parts d.miss)) := Lib.hid (fun i tx hk => by
  obtain ⟨d, h1, h2⟩ := keyS_get h.sGrt.apart hk
  exact ⟨d, h1, h2, ho.grt _ h1, by unfold comT; rw [h2]⟩)
 have HK3 : Hid (∀ (i : Nat) tx, (keysS s.prom)[i]? = some tx → I64 tx) := Lib.hid (fun i tx hk => by
  obtain ⟨d, h1, -⟩ := keyS_get h.sProm.apart hk
  exact ho.prom _ h1)
 have HLn : Hid ((keysS s.opn).length ≤ 1000 ∧ (keysS s.grt).length ≤ 1000 ∧ (keysS s.prom).length ≤ 1000) := Lib.hid ⟨by rw [keysS_len]; exact ho.lo, by rw [keysS_len]; exact ho.lg, by rw [keysS_len]; exact ho.lp⟩
 have c6 := (HC.out w (Gr.refl w)).2.1
 clear h ho hi hz0 hz1 hz2
 go_enter Tryz.func53, Tryz.ntmps53
 go_wp2_with fail
 refine (HCD.out _ (Gr.refl w)).mono ?_
 rintro e w1 ⟨A1, c1, rfl, hr1, hg1⟩
 generalize keysS s.opn = k1 at HL HK1 HLn hr1 ⊢
 obtain ⟨n1, hn1⟩ : ∃ n, k1.length = n := ⟨_, rfl⟩
 rw [hn1] at HLn hr1 ⊢
 have HN1 := Lib.hid hn1
 obtain ⟨B1, hB1⟩ : ∃ b, w.heap.size = b := ⟨_, rfl⟩
 rw [hB1] at hr1
 have HR1 := Lib.hid hr1
 clear hr1 hn1 hB1 c6

 go_wp2_with fail
 have hN1 := HLn.out.1
 go_loopw [3, 16] (fun q z wr => ∃ (i j : Nat) (A9 : Option Addr) (c9 : Nat), i ≤ n1 ∧ z = .int .i64 (i : Int) ∧ q = .slice A9 j c9 ∧ Hid (((k1.take i).flatMap (askT s)).length = j ∧ j ≤ 0 + i * 8) ∧ Hid (wr.ownsRow w.heap.size 59 5 (.slice A9 j c9) j (flatE enc5m ((k1.take i).flatMap (askT s)))) ∧ Hid (wr.ownsRow B1 3 1 (.slice A1 n1 c1) n1 (flatE enc1 k1)) ∧ Gr w wr) (fun _ z _ => n1 - (intOf z).toNat)
 case atStart => exact ⟨0, 0, none, 0, Nat.zero_le _, rfl, rfl, Lib.hid ⟨by simp, by omega⟩, Lib.hid (World.ownsRow_nil _ _ _ _), HR1, hg1⟩
 case round =>
  obtain ⟨i, j, A9, c9, hin, rfl, rfl, hj, hown, hky, hgw⟩ := hrel
  by_cases hlt : i < n1
  ·obtain ⟨b, off, rfl, x0⟩ := Ints_at (Rd_of_rows enc1_len HN1.out hky.out) (i := i) (by rw [HN1.out]; exact hlt)
   have hpk : k1[i]? = some (k1.getD i 0) := getD_of 0 (by rw [HN1.out]; exact hlt)
   have HTF := Lib.hid (take_flat (f := askT s) hpk)
   obtain ⟨d, hd1, hd2, hd3, hd4⟩ := HK1.out i _ hpk
   generalize k1.getD i 0 = tx at *
   have hIs := HH.out.keep hgw
   obtain ⟨hpt, hmm⟩ := siteDealO hIs hd1
   have c6 := (HC.out _ hgw).2.1
   have hlk := look_deal1 hIs.sOpn hd3.tx hd2
   have HMS := Lib.hid (fun W (hW : Gr wr W) => miss_any (some ⟨d.b, 0, none⟩) d.parts.length d.c d.parts d.g d.miss W rfl (by have := hd3.few; omega) (hpt.keep hW) (hmm.keep hW) hd3.part)
   have HFW : Hid ((missL d.parts d.miss).length ≤ 8 ∧ askT s tx = wrL s 1 tx (missL d.parts d.miss)) := Lib.hid ⟨Nat.le_trans (miss_few _ _) hd3.few, hd4⟩
   have HIS := Lib.hid hIs
   generalize missL d.parts d.miss = ms at HMS HFW
   obtain ⟨db, dc, dg, hdv⟩ : ∃ db dc dg, dlV d = .agg #[.slice (some ⟨db, 0, none⟩) d.parts.length dc, .map (some dg)] := ⟨_, _, _, rfl⟩
   have hki : (i : Int) < (n1 : Int) := by omega
   have hki0 : (0 : Int) ≤ (i : Int) := by omega
   have HB : Hid (w.heap.size ≤ wr.heap.size) := Lib.hid hgw.size
   have HGW := Lib.hid hgw
   clear hpk hd1 hd2 hd3 hd4 hpt hmm hIs hdv
   go_wp2_with fail
   refine (HMS.out _ (Gr.refl _)).mono ?_
   rintro e w3 ⟨A3, c3, rfl, hr3, hg3, -⟩
   have HW3 := Lib.hid (write5_any 1 tx A3 ms.length c3 ms w3 (HIS.out.keep hg3) rfl (by have := HFW.out.1; omega) hr3)
   have HG3 := Lib.hid hg3
   clear hr3 hg3 hlk c6
   go_wp2_with fail
   refine HW3.out.mono ?_
   rintro e w4 ⟨A4, c4, rfl, hr4, hg4, -⟩
   rw [← HFW.out.2] at hr4 ⊢
   have HLL : Hid ((askT s tx).length ≤ 8) := Lib.hid (by rw [HFW.out.2]; unfold wrL; rw [List.length_map]; exact HFW.out.1)
   generalize askT s tx = xs at hr4 HTF HLL ⊢
   obtain ⟨m, hm⟩ : ∃ m, xs.length = m := ⟨_, rfl⟩
   rw [hm] at HLL ⊢
   have HM := Lib.hid hm
   have HO4 := Lib.hid (owns_gr hown.out (HG3.out.trans hg4))
   have HG4 := Lib.hid (hgw.trans (HG3.out.trans hg4))
   have HY4 := Lib.hid (owns_gr hky.out (HG3.out.trans hg4))
   have HS4 : Hid (w.heap.size ≤ w4.heap.size) := Lib.hid (hgw.trans (HG3.out.trans hg4)).size
   have HR4 := Lib.hid hr4
   clear hm hown hky hr4 hg4 x0
   obtain ⟨hi, hz0, hz1, hz2⟩ := HI.out
   go_wp2_with (at_builtin; refine step_app rfl _ _ 31 rfl w.heap.size 59 i0 _ 40 Tryz.underlying31 hi hz0 hz1 hz2 rfl (by decide) enc5m_len enc5m_one _ _ _ hj.out.1 rfl HO4.out HS4.out A4 _ c4 xs rfl HM.out HR4.out ?b1 ?b2 ?_)
   case b1 => have := hj.out.2; have := HLL.out; unfold maxLen; omega
   case b2 => have := hj.out.2; have := HLL.out; omega
   intro A8 c8 w10 hown' hgrow
   have HJ : Hid (((k1.take (i + 1)).flatMap (askT s)).length = j + m ∧ j + m ≤ 0 + (i + 1) * 8) := Lib.hid (by rw [HTF.out, List.length_append, hj.out.1, HM.out]; exact ⟨rfl, by have := hj.out.2; have := HLL.out; omega⟩)
   have HO8 : Hid (w10.ownsRow w.heap.size 59 5 (.slice A8 (j + m) c8) (j + m) (flatE enc5m ((k1.take (i + 1)).flatMap (askT s)))) := Lib.hid (by first | (rw [HTF.out]; exact hown') | (rw [HTF.out, ← List.append_assoc]; exact hown') | (rw [List.append_assoc] at hown'; rw [HTF.out]; exact hown'))
   have HGF : Hid (Gr w w10) := Lib.hid (Below.grown HG4.out hgrow HG4.out.size (fun t ht => (HO4.out.lt t ht).1))
   have HY8 := Lib.hid (HY4.out.kept hgrow (owns_apart HY4.out HO4.out (by decide)))
   clear hi hz0 hz1 hz2 hown' hgrow
   go_wp2_with fail
   go_roundw
   case rel => exact ⟨i + 1, j + m, A8, c8, by omega, by go_num, rfl, HJ, HO8, HY8, HGF.out⟩
   case measure => simp [intOf]; omega
  ·obtain rfl : i = n1 := by omega
   have htk : k1.take i = k1 := List.take_of_length_le (by rw [HN1.out]; exact Nat.le_refl _)
   rw [htk] at hown hj
   clear htk hky hN1

   have c7 := (HC.out _ hgw).2.2.1
   have hjA := hj
   have hownA := hown
   have hgwA := hgw
   clear hin hlt hj hown hgw
   go_wp2_with fail
   refine (HCG.out _ hgwA).mono ?_
   rintro e w2 ⟨A2, c2, rfl, hr2, hg2⟩
   generalize keysS s.grt = k2 at HL HK2 HLn hr2 ⊢
   obtain ⟨n2, hn2⟩ : ∃ n, k2.length = n := ⟨_, rfl⟩
   rw [hn2] at HLn hr2 ⊢
   have HN2 := Lib.hid hn2
   obtain ⟨B2, hB2⟩ : ∃ b, wr.heap.size = b := ⟨_, rfl⟩
   rw [hB2] at hr2
   have HR2 := Lib.hid hr2
   have HOA2 := Lib.hid (owns_gr hownA.out hg2)
   have hgw2 := hgwA.trans hg2
   have HJA2 : Hid ((k1.flatMap (askT s)).length = j ∧ j ≤ 8000) := Lib.hid ⟨hjA.out.1, by have := hjA.out.2; have := HLn.out.1; have := HLn.out.2.1; omega⟩
   generalize hX : k1.flatMap (askT s) = X2 at HL HOA2 HJA2
   clear hX hr2 hn2 hB2 c7 hownA hjA hgwA hg2

   go_wp2_with fail
   have hN2 := HLn.out.2.1
   go_loopw [3, 39] (fun q z wr => ∃ (i j : Nat) (A9 : Option Addr) (c9 : Nat), i ≤ n2 ∧ z = .int .i64 (i : Int) ∧ q = .slice A9 j c9 ∧ Hid ((X2 ++ (k2.take i).flatMap (comT s)).length = j ∧ j ≤ 8000 + i * 8) ∧ Hid (wr.ownsRow w.heap.size 59 5 (.slice A9 j c9) j (flatE enc5m (X2 ++ (k2.take i).flatMap (comT s)))) ∧ Hid (wr.ownsRow B2 3 1 (.slice A2 n2 c2) n2 (flatE enc1 k2)) ∧ Gr w wr) (fun _ z _ => n2 - (intOf z).toNat)
   case atStart => exact ⟨0, j, A9, c9, Nat.zero_le _, rfl, rfl, Lib.hid (by rw [List.take_zero, List.flatMap_nil, List.append_nil]; exact ⟨HJA2.out.1, by have := HJA2.out.2; omega⟩), Lib.hid (by rw [List.take_zero, List.flatMap_nil, List.append_nil]; exact HOA2.out), HR2, hgw2⟩
   case round =>
    obtain ⟨i, j, A9, c9, hin, rfl, rfl, hj, hown, hky, hgw⟩ := hrel
    by_cases hlt : i < n2
    ·obtain ⟨b, off, rfl, x0⟩ := Ints_at (Rd_of_rows enc1_len HN2.out hky.out) (i := i) (by rw [HN2.out]; exact hlt)
     have hpk : k2[i]? = some (k2.getD i 0) := getD_of 0 (by rw [HN2.out]; exact hlt)
     have HTF := Lib.hid (take_flat (f := comT s) hpk)
     obtain ⟨d, hd1, hd2, hd3, hd4⟩ := HK2.out i _ hpk
     generalize k2.getD i 0 = tx at *
     have hIs := HH.out.keep hgw
     obtain ⟨hpt, hmm⟩ := siteDealG hIs hd1
     have c7 := (HC.out _ hgw).2.2.1
     have hlk := look_deal1 hIs.sGrt hd3.tx hd2
     have HMS := Lib.hid (fun W (hW : Gr wr W) => miss_any (some ⟨d.b, 0, none⟩) d.parts.length d.c d.parts d.g d.miss W rfl (by have := hd3.few; omega) (hpt.keep hW) (hmm.keep hW) hd3.part)
     have HFW : Hid ((missL d.parts d.miss).length ≤ 8 ∧ comT s tx = wrL s 4 tx (missL d.parts d.miss)) := Lib.hid ⟨Nat.le_trans (miss_few _ _) hd3.few, hd4⟩
     have HIS := Lib.hid hIs
     generalize missL d.parts d.miss = ms at HMS HFW
     obtain ⟨db, dc, dg, hdv⟩ : ∃ db dc dg, dlV d = .agg #[.slice (some ⟨db, 0, none⟩) d.parts.length dc, .map (some dg)] := ⟨_, _, _, rfl⟩
     have hki : (i : Int) < (n2 : Int) := by omega
     have hki0 : (0 : Int) ≤ (i : Int) := by omega
     have HB : Hid (w.heap.size ≤ wr.heap.size) := Lib.hid hgw.size
     have HGW := Lib.hid hgw
     clear hpk hd1 hd2 hd3 hd4 hpt hmm hIs hdv
     go_wp2_with fail
     refine (HMS.out _ (Gr.refl _)).mono ?_
     rintro e w3 ⟨A3, c3, rfl, hr3, hg3, -⟩
     have HW3 := Lib.hid (write5_any 4 tx A3 ms.length c3 ms w3 (HIS.out.keep hg3) rfl (by have := HFW.out.1; omega) hr3)
     have HG3 := Lib.hid hg3
     clear hr3 hg3 hlk c7
     go_wp2_with fail
     refine HW3.out.mono ?_
     rintro e w4 ⟨A4, c4, rfl, hr4, hg4, -⟩
     rw [← HFW.out.2] at hr4 ⊢
     have HLL : Hid ((comT s tx).length ≤ 8) := Lib.hid (by rw [HFW.out.2]; unfold wrL; rw [List.length_map]; exact HFW.out.1)
     generalize comT s tx = xs at hr4 HTF HLL ⊢
     obtain ⟨m, hm⟩ : ∃ m, xs.length = m := ⟨_, rfl⟩
     rw [hm] at HLL ⊢
     have HM := Lib.hid hm
     have HO4 := Lib.hid (owns_gr hown.out (HG3.out.trans hg4))
     have HG4 := Lib.hid (hgw.trans (HG3.out.trans hg4))
     have HY4 := Lib.hid (owns_gr hky.out (HG3.out.trans hg4))
     have HS4 : Hid (w.heap.size ≤ w4.heap.size) := Lib.hid (hgw.trans (HG3.out.trans hg4)).size
     have HR4 := Lib.hid hr4
     clear hm hown hky hr4 hg4 x0
     obtain ⟨hi, hz0, hz1, hz2⟩ := HI.out
     go_wp2_with (at_builtin; refine step_app rfl _ _ 31 rfl w.heap.size 59 i0 _ 40 Tryz.underlying31 hi hz0 hz1 hz2 rfl (by decide) enc5m_len enc5m_one _ _ _ hj.out.1 rfl HO4.out HS4.out A4 _ c4 xs rfl HM.out HR4.out ?b1 ?b2 ?_)
     case b1 => have := hj.out.2; have := HLL.out; unfold maxLen; omega
     case b2 => have := hj.out.2; have := HLL.out; omega
     intro A8 c8 w10 hown' hgrow
     have HJ : Hid ((X2 ++ (k2.take (i + 1)).flatMap (comT s)).length = j + m ∧ j + m ≤ 8000 + (i + 1) * 8) := Lib.hid (by rw [HTF.out, ← List.append_assoc, List.length_append, hj.out.1, HM.out]; exact ⟨rfl, by have := hj.out.2; have := HLL.out; omega⟩)
     have HO8 : Hid (w10.ownsRow w.heap.size 59 5 (.slice A8 (j + m) c8) (j + m) (flatE enc5m (X2 ++ (k2.take (i + 1)).flatMap (comT s)))) := Lib.hid (by first | (rw [HTF.out]; exact hown') | (rw [HTF.out, ← List.append_assoc]; exact hown') | (rw [List.append_assoc] at hown'; rw [HTF.out]; exact hown'))
     have HGF : Hid (Gr w w10) := Lib.hid (Below.grown HG4.out hgrow HG4.out.size (fun t ht => (HO4.out.lt t ht).1))
     have HY8 := Lib.hid (HY4.out.kept hgrow (owns_apart HY4.out HO4.out (by decide)))
     clear hi hz0 hz1 hz2 hown' hgrow
     go_wp2_with fail
     go_roundw
     case rel => exact ⟨i + 1, j + m, A8, c8, by omega, by go_num, rfl, HJ, HO8, HY8, HGF.out⟩
     case measure => simp [intOf]; omega
    ·obtain rfl : i = n2 := by omega
     have htk : k2.take i = k2 := List.take_of_length_le (by rw [HN2.out]; exact Nat.le_refl _)
     rw [htk] at hown hj
     clear htk hky hN2

     have d3 := (HC.out _ hgw).2.2.2
     have hjA := hj
     have hownA := hown
     have hgwA := hgw
     clear hin hlt hj hown hgw
     go_wp2_with fail
     refine (HCP.out _ hgwA).mono ?_
     rintro e w3 ⟨A3, c3, rfl, hr3, hg3⟩
     generalize keysS s.prom = k3 at HL HK3 HLn hr3 ⊢
     obtain ⟨n3, hn3⟩ : ∃ n, k3.length = n := ⟨_, rfl⟩
     rw [hn3] at HLn hr3 ⊢
     have HN3 := Lib.hid hn3
     obtain ⟨B3, hB3⟩ : ∃ b, wr.heap.size = b := ⟨_, rfl⟩
     rw [hB3] at hr3
     have HR3 := Lib.hid hr3
     have HOA3 := Lib.hid (owns_gr hownA.out hg3)
     have hgw3 := hgwA.trans hg3
     have HJA3 : Hid ((X2 ++ k2.flatMap (comT s)).length = j ∧ j ≤ 16000) := Lib.hid ⟨hjA.out.1, by have := hjA.out.2; have := HLn.out.1; have := HLn.out.2.1; omega⟩
     generalize hX : X2 ++ k2.flatMap (comT s) = X3 at HL HOA3 HJA3
     clear hX hr3 hn3 hB3 d3 hownA hjA hgwA hg3

     go_wp2_with fail
     have hN3 := HLn.out.2.2
     go_loopw [3, 62] (fun q z wr => ∃ (i j : Nat) (A9 : Option Addr) (c9 : Nat), i ≤ n3 ∧ z = .int .i64 (i : Int) ∧ q = .slice A9 j c9 ∧ Hid ((X3 ++ (k3.take i).map (whaT s)).length = j ∧ j ≤ 16000 + i * 8) ∧ Hid (wr.ownsRow w.heap.size 59 5 (.slice A9 j c9) j (flatE enc5m (X3 ++ (k3.take i).map (whaT s)))) ∧ Hid (wr.ownsRow B3 3 1 (.slice A3 n3 c3) n3 (flatE enc1 k3)) ∧ Gr w wr) (fun _ z _ => n3 - (intOf z).toNat)
     case atStart => exact ⟨0, j, A9, c9, Nat.zero_le _, rfl, rfl, Lib.hid (by rw [List.take_zero, List.map_nil, List.append_nil]; exact ⟨HJA3.out.1, by have := HJA3.out.2; omega⟩), Lib.hid (by rw [List.take_zero, List.map_nil, List.append_nil]; exact HOA3.out), HR3, hgw3⟩
     case round =>
      obtain ⟨i, j, A9, c9, hin, rfl, rfl, hj, hown, hky, hgw⟩ := hrel
      by_cases hlt : i < n3
      ·obtain ⟨b, off, rfl, x0⟩ := Ints_at (Rd_of_rows enc1_len HN3.out hky.out) (i := i) (by rw [HN3.out]; exact hlt)
       have hpk : k3[i]? = some (k3.getD i 0) := getD_of 0 (by rw [HN3.out]; exact hlt)
       have HTF := Lib.hid (take_map (f := whaT s) hpk)
       have htx := HK3.out i _ hpk
       generalize k3.getD i 0 = tx at *
       have HLP := Lib.hid (fun W (hW : Gr w W) => look_prom1 (HH.out.keep hW).sProm htx)
       have HWT : Hid (whaT s tx = (s.num, ((mget s.prom tx).getD (0, 0)).1, 7, tx, 0)) := Lib.hid rfl
       generalize (mget s.prom tx).getD (0, 0) = pr at HLP HWT
       obtain ⟨p1, p2⟩ := pr
       dsimp only at HWT
       have hfd : ∀ W : World, (Instr.field 112 (.agg #[.int .i64 p1, .int .i64 p2]) 0).run Tryz.prog W = .ok (.int .i64 p1) W := fun _ => by kernel_rfl
       have hki : (i : Int) < (n3 : Int) := by omega
       have hki0 : (0 : Int) ≤ (i : Int) := by omega
       have hda : Gr wr (wr.alloc (.cells #[.int .i64 s.num, .int .i64 p1, .int .i64 7, .int .i64 tx, .int .i64 0] 59)).drew := ((Gr.refl wr).alloc _).drew
       have HOA := Lib.hid (owns_gr hown.out hda)
       have HYA := Lib.hid (owns_gr hky.out hda)
       have hgA := hgw.trans hda
       have hdr : Gr w wr.drew := hgw.trans (Gr.refl wr).drew
       have hcd := HC.out _ hdr
       have hcA := HC.out _ hgA
       have hbase : w.heap.size ≤ wr.heap.size := hgw.size
       have hjb := hj.out.2
       clear hpk htx
       go_upto_region 15 with fail
       obtain ⟨hi, hz0, hz1, hz2⟩ := HI.out
       refine wp_region_held_drew (S := (fun W' => Gr w W' ∧ W'.cell? ⟨s.p, 0, none⟩ = some (.int .i64 s.num) ∧ W'.cell? ⟨s.p, 3, none⟩ = some (.map (some s.mp)))) ?_ ?_ (fun hHeld => ?_)
       ·kernel_rfl
       ·((try dsimp only); (first | exact hHeld | exact ⟨hdr, hcd.1, hcd.2.2.2⟩ | exact ⟨hgA, hcA.1, hcA.2.2.2⟩ | exact ⟨HG5.out, HC5.out.1, HC5.out.2.2.2⟩))
       refine ti 0 (some 66) rfl rfl ?_; try simp only [Act.put, lA, lB, lC]
       refine ti 1 (some 67) rfl rfl ?_; try simp only [Act.put, lA, lB, lC]
       refine ti 2 (some 68) rfl rfl ?_; try simp only [Act.put, lA, lB, lC]
       refine ti 3 (some 69) rfl rfl ?_; try simp only [Act.put, lA, lB, lC]
       refine ti 4 (some 70) rfl rfl ?_; try simp only [Act.put, lA, lB, lC]
       refine ti 5 (some 71) rfl rfl ?_; try simp only [Act.put, lA, lB, lC]
       refine ti 6 (some 72) rfl rfl ?_; try simp only [Act.put, lA, lB, lC]
       refine ti 7 (some 73) rfl rfl ?_; try simp only [Act.put, lA, lB, lC]
       refine ti 8 (some 74) rfl rfl ?_; try simp only [Act.put, lA, lB, lC]
       refine ti 9 (some 75) rfl rfl ?_; try simp only [Act.put, lA, lB, lC]
       refine ti 12 (some 78) rfl rfl ?_; try simp only [Act.put, lA, lB, lC]
       refine tr [10] (.cons rfl (fun K hK => ?_) .nil)
       first | (refine held_look (by rfl) (.tmp 74) (.tmp 75) _ _ (by rfl) (.map (some s.mp)) (.int .i64 tx) (.agg #[.int .i64 p1, .int .i64 p2]) (by rfl) (by rfl) (HLP.out _ hHeld.1) ?_)
       refine hK.out _ _ ?_ (fun hHeld => ?_)
       ·((try dsimp only); (first | exact hHeld | exact ⟨hdr, hcd.1, hcd.2.2.2⟩ | exact ⟨hgA, hcA.1, hcA.2.2.2⟩ | exact ⟨HG5.out, HC5.out.1, HC5.out.2.2.2⟩))
       clear hK K; try simp only [Act.put, lA, lB, lC]
       refine ti 11 (some 77) rfl rfl ?_; try simp only [Act.put, lA, lB, lC]
       refine ti 13 (some 79) rfl rfl ?_; try simp only [Act.put, lA, lB, lC]
       refine tr [14] (.cons rfl (fun K hK => ?_) .nil)
       go_simp
       refine hK.out _ _ ?_ (fun hHeld => ?_)
       ·((try dsimp only); (first | exact hHeld | exact ⟨hdr, hcd.1, hcd.2.2.2⟩ | exact ⟨hgA, hcA.1, hcA.2.2.2⟩ | exact ⟨HG5.out, HC5.out.1, HC5.out.2.2.2⟩))
       clear hK K; try simp only [Act.put, lA, lB, lC]
       refine tr [15] (.cons rfl (fun K hK => ?_) .nil)
       first | (refine step_append_lies _ (by rfl) (.tmp 66) (.tmp 80) 31 (by rfl) w.heap.size 59 i0 _ 5 40 Tryz.underlying31 hi hz0 hz1 hz2 rfl (by decide) (.slice A9 j c9) j (flatE enc5m (X3 ++ (k3.take i).map (whaT s))) (by rfl) HOA.out ⟨wr.heap.size, 0, none⟩ 1 1 [.int .i64 s.num, .int .i64 p1, .int .i64 7, .int .i64 tx, .int .i64 0] (by rfl) rfl (World.news_of_block (heap_alloc_new _ _)) (enc5m_one (s.num, p1, 7, tx, 0)) (by decide) (by unfold maxLen; omega) (by omega) (by simp; omega) _ rfl ?_; intro g' cap' w5 hown' hgrow _ _; have HG5 : Hid (Gr w w5) := Lib.hid (Below.grown hgA hgrow hgA.size (fun t ht => (HOA.out.lt t ht).1)); have HO5 := Lib.hid hown'; have HY5 := Lib.hid (HYA.out.kept hgrow (owns_apart HYA.out HOA.out (by decide))); have HC5 := Lib.hid (HC.out _ HG5.out); clear hown' hgrow)
       refine hK.out _ _ ?_ (fun hHeld => ?_)
       ·((try dsimp only); (first | exact hHeld | exact ⟨hdr, hcd.1, hcd.2.2.2⟩ | exact ⟨hgA, hcA.1, hcA.2.2.2⟩ | exact ⟨HG5.out, HC5.out.1, HC5.out.2.2.2⟩))
       clear hK K; try simp only [Act.put, lA, lB, lC]
       refine ti 16 (some 3) rfl rfl ?_; try simp only [Act.put, lA, lB, lC]
       refine wpAnyH_done ?_ ?_ _
       ·kernel_rfl
       rotate_left
       all_goals
        have HJ : Hid ((X3 ++ (k3.take (i + 1)).map (whaT s)).length = j + 1 ∧ j + 1 ≤ 16000 + (i + 1) * 8) := Lib.hid (by rw [HTF.out, ← List.append_assoc, List.length_append, hj.out.1]; exact ⟨rfl, by omega⟩)
        have HO8 : Hid (w5.ownsRow w.heap.size 59 5 (.slice (some ⟨g', 0, none⟩) (j + 1) cap') (j + 1) (flatE enc5m (X3 ++ (k3.take (i + 1)).map (whaT s)))) := Lib.hid (by rw [HTF.out, ← List.append_assoc, flatE_snoc, HWT.out]; exact HO5.out)
        clear hHeld hi hz0 hz1 hz2 hcd hcA HO5
        go_wp2_with fail
        go_roundw
        case rel => exact ⟨i + 1, j + 1, some ⟨g', 0, none⟩, cap', by omega, by go_num, rfl, HJ, HO8, HY5, HG5.out⟩
        case measure => simp [intOf]; omega
      ·obtain rfl : i = n3 := by omega
       have htk : k3.take i = k3 := List.take_of_length_le (by rw [HN3.out]; exact Nat.le_refl _)
       rw [htk] at hown hj
       rw [← HL.out] at hown hj
       clear htk hky hN3
       go_wp2_with fail
       go_ret
       obtain ⟨A7, c7, e, h1, h2, -⟩ := own_row enc5m_len hj.out.1 hown.out
       injection e with e1 _ e2
       exact ⟨A9, c9, by rw [hj.out.1]; rfl, by rw [e1]; exact h2, hgw, by rw [hj.out.1, e2]; exact h1⟩

end Go.Proofs.YtnoeiocbmhkmeaaGreat
