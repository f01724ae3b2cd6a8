/- Layer 4: slots in order. -/
import Derived.Test.YtobcdkjomehdkaaGreatBu36
namespace Go.Proofs.YtobcdkjomehdkaaGreat
open Go.RowKit Go.Shelf Go.Lib Go.Sort
set_option linter.unusedSimpArgs false
set_option maxRecDepth 100000
set_option maxHeartbeats 80000000

theorem orI_any (g : Nat) (a b : Int) (w : World) (ha : w.cell? ⟨g, 0, none⟩ = some (.int .i64 a)) (hb : w.cell? ⟨g, 1, none⟩ = some (.int .i64 b)) :
 Calls Tryz.prog 106 #[.slice (some ⟨g, 0, none⟩) 2 2] w fun e w' => e = .returned (.int .i64 (if a = 0 then b else a)) ∧ w = w' := by
 by_cases h : a = 0
 ·subst h
  by_cases h' : b = 0
  ·subst h'
   go_enter Tryz.func106, Tryz.ntmps106
   go_wp2_with fail
   go_loop [8] (fun i => i = .int .i64 0 ∨ i = .int .i64 1 ∨ i = .int .i64 2) (fun i => 2 - (intOf i).toNat)
   case atStart => exact Or.inl rfl
   case round =>
    rcases hrel with rfl | rfl | rfl
    ·go_wp2_with fail
     go_round
     case rel => exact Or.inr (Or.inl rfl)
     case measure => simp [intOf]
    ·go_wp2_with fail
     go_round
     case rel => exact Or.inr (Or.inr rfl)
     case measure => simp [intOf]
    ·go_wp2_with fail
     go_ret
     exact ⟨rfl, rfl⟩
  ·have hz : (b != 0) = true := by simpa using h'
   go_enter Tryz.func106, Tryz.ntmps106
   go_wp2_with fail
   go_loop [8] (fun i => i = .int .i64 0 ∨ i = .int .i64 1) (fun i => 2 - (intOf i).toNat)
   case atStart => exact Or.inl rfl
   case round =>
    rcases hrel with rfl | rfl
    ·go_wp2_with fail
     go_round
     case rel => exact Or.inr rfl
     case measure => simp [intOf]
    ·go_wp2_with fail
     go_ret
     exact ⟨rfl, rfl⟩
 ·have hz : (a != 0) = true := by simpa using h
  go_enter Tryz.func106, Tryz.ntmps106
  go_wp2_with fail
  go_loop [8] (fun i => i = .int .i64 0) (fun i => 2 - (intOf i).toNat)
  case atStart => rfl
  case round =>
   subst hrel
   go_wp2_with fail
   go_ret
   exact ⟨rfl, rfl⟩

def cfS (ow : Sl → Int) (x y : Sl) : Int := if sgn (ow x - ow y) = 0 then sgn (x.2.2.1 - y.2.2.1) else sgn (ow x - ow y)
theorem ltS (ow : Sl → Int) (x y : Sl) : ltOf (cfS ow) x y = decide (ow x < ow y ∨ (ow x = ow y ∧ x.2.2.1 < y.2.2.1)) := by
 unfold ltOf cfS
 congr 1
 apply propext
 unfold sgn
 constructor
 ·intro h; split at h <;> (repeat' split at h) <;> omega
 ·intro h; split <;> (repeat' split) <;> omega
theorem swoS (ow : Sl → Int) : SWO (ltOf (cfS ow)) where
 irrefl x := by rw [ltS]; simp
 trans x y z h1 h2 := by rw [ltS] at *; simp only [decide_eq_true_eq] at *; omega
 ntrans x y z h1 h2 := by rw [ltS] at *; simp only [decide_eq_false_iff_not] at *; omega

theorem benchOf_any (x : Sl) (w : World) : Calls Tryz.prog 83 #[.agg #[.int .i64 x.1, .int .i64 x.2.1, .int .i64 x.2.2.1, .int .i64 x.2.2.2]] w fun e w' => e = .returned (.int .i64 x.2.1) ∧ ∃ n os, w' = Sort.grow (w.drewN n) os := by
 go_enter Tryz.func83, Tryz.ntmps83
 go_wp2_with fail
 go_ret
 exact ⟨rfl, 0, #[_], by rw [Sort.alloc_eq_grow]; rfl⟩
def Gw (w w' : World) : Prop := ∃ n os, w' = Sort.grow (w.drewN n) os
theorem Gw.refl (w : World) : Gw w w := ⟨0, #[], by simp [Sort.grow, World.drewN]⟩
theorem grow_drewN (w : World) (n m : Nat) (os : Array Obj) : (Sort.grow (w.drewN n) os).drewN m = Sort.grow (w.drewN (n + m)) os := by simp [Sort.grow, World.drewN, Nat.add_assoc]
theorem Gw.trans {a b c : World} (h : Gw a b) (k : Gw b c) : Gw a c := by
 obtain ⟨n, os, rfl⟩ := h
 obtain ⟨m, os', rfl⟩ := k
 exact ⟨n + m, os ++ os', by rw [grow_drewN, Sort.grow_grow]⟩
theorem Gw.alloc {a w : World} (h : Gw a w) (o : Obj) : Gw a (w.alloc o) := h.trans ⟨0, #[o], by rw [Sort.alloc_eq_grow]; rfl⟩
theorem drew_grow (w : World) : w.drew = Sort.grow (w.drewN 1) #[] := by
 show w.drewN 1 = Sort.grow (w.drewN 1) #[]
 unfold Sort.grow World.drewN
 simp
theorem Gw.drew {a w : World} (h : Gw a w) : Gw a w.drew := h.trans ⟨1, #[], drew_grow w⟩
theorem Gw.gr {w w' : World} (h : Gw w w') : Gr w w' := by
 obtain ⟨n, os, rfl⟩ := h
 exact ((Gr.refl w).drewN n).trans (gr_grow _ os)

theorem cmp_benchOf (ob : Nat) (a b : Sl) (w : World) (h : w.cell? ⟨ob, 0, none⟩ = some (.func (.func 83) #[] #[])) :
 Calls Tryz.prog 105 #[.agg #[.int .i64 a.1, .int .i64 a.2.1, .int .i64 a.2.2.1, .int .i64 a.2.2.2], .agg #[.int .i64 b.1, .int .i64 b.2.1, .int .i64 b.2.2.1, .int .i64 b.2.2.2], .pointer (some ⟨ob, 0, none⟩)] w fun e w' => e = .returned (.int .i64 (cfS (fun x => x.2.1) a b)) ∧ Gw w w' := by
 have HA := Lib.hid (fun W => benchOf_any a W)
 have HB := Lib.hid (fun W => benchOf_any b W)
 obtain ⟨a1, a2, a3, a4⟩ := a
 obtain ⟨b1, b2, b3, b4⟩ := b
 dsimp only at HA HB
 obtain ⟨cf, hcf⟩ : ∃ v, cfS (fun x => x.2.1) (a1, a2, a3, a4) (b1, b2, b3, b4) = v := ⟨_, rfl⟩
 rw [hcf]
 have HCF : Hid ((if sgn (a2 - b2) = 0 then sgn (a3 - b3) else sgn (a2 - b2)) = cf) := Lib.hid hcf
 clear hcf
 go_enter Tryz.func105, Tryz.ntmps105
 go_upto_region 1 with fail
 generalize hW1 : World.alloc (World.alloc w _) _ = w1
 have hg1 : Gw w w1 := by rw [← hW1]; exact ((Gw.refl w).alloc _).alloc _
 have hX : Blk w1 w.heap.size 162 #[.int .i64 a1, .int .i64 a2, .int .i64 a3, .int .i64 a4] := by rw [← hW1]; exact (Blk.new w _ _ rfl).alloc _
 have hY : Blk w1 (w.heap.size + 1) 162 #[.int .i64 b1, .int .i64 b2, .int .i64 b3, .int .i64 b4] := by rw [← hW1]; exact Blk.new _ _ _ (by simp)
 generalize w.heap.size = X at hX hY ⊢
 have h' := hg1.gr.keep h
 have HX := Lib.hid hX
 have HY := Lib.hid hY
 have KS : Hid (∀ W', Gw w1 W' → Gw w1 W' ∧ W'.cell? ⟨ob, 0, none⟩ = some (.func (.func 83) #[] #[]) ∧ W'.cell? ⟨X, 0, none⟩ = some (.int .i64 a1) ∧ W'.cell? ⟨X, 1, none⟩ = some (.int .i64 a2) ∧ W'.cell? ⟨X, 2, none⟩ = some (.int .i64 a3) ∧ W'.cell? ⟨X, 3, none⟩ = some (.int .i64 a4) ∧ W'.cell? ⟨X + 1, 0, none⟩ = some (.int .i64 b1) ∧ W'.cell? ⟨X + 1, 1, none⟩ = some (.int .i64 b2) ∧ W'.cell? ⟨X + 1, 2, none⟩ = some (.int .i64 b3) ∧ W'.cell? ⟨X + 1, 3, none⟩ = some (.int .i64 b4)) := Lib.hid (fun W' hg => ⟨hg, hg.gr.keep h', (HX.out.keep hg.gr).cell 0, (HX.out.keep hg.gr).cell 1, (HX.out.keep hg.gr).cell 2, (HX.out.keep hg.gr).cell 3, (HY.out.keep hg.gr).cell 0, (HY.out.keep hg.gr).cell 1, (HY.out.keep hg.gr).cell 2, (HY.out.keep hg.gr).cell 3⟩)
 clear hW1 hX hY
 refine wp_region_held_drew (S := (fun W' => Gw w1 W' ∧ W'.cell? ⟨ob, 0, none⟩ = some (.func (.func 83) #[] #[]) ∧ W'.cell? ⟨X, 0, none⟩ = some (.int .i64 a1) ∧ W'.cell? ⟨X, 1, none⟩ = some (.int .i64 a2) ∧ W'.cell? ⟨X, 2, none⟩ = some (.int .i64 a3) ∧ W'.cell? ⟨X, 3, none⟩ = some (.int .i64 a4) ∧ W'.cell? ⟨X + 1, 0, none⟩ = some (.int .i64 b1) ∧ W'.cell? ⟨X + 1, 1, none⟩ = some (.int .i64 b2) ∧ W'.cell? ⟨X + 1, 2, none⟩ = some (.int .i64 b3) ∧ W'.cell? ⟨X + 1, 3, none⟩ = some (.int .i64 b4))) ?_ ?_ (fun hHeld => ?_)
 ·kernel_rfl
 ·((try dsimp only); (first | exact hHeld | exact KS.out _ (Gw.refl w1).drew | exact KS.out _ HGA.out | exact KS.out _ HGB.out | exact KS.out _ (hHeld.1.alloc _)))
 refine ti 0 (some 6) rfl rfl ?_; try simp only [Act.put, lA, lB, lC]
 refine ti 1 (some 7) rfl rfl ?_; try simp only [Act.put, lA, lB, lC]
 refine ti 3 (some 9) rfl rfl ?_; try simp only [Act.put, lA, lB, lC]
 refine ti 4 (some 10) rfl rfl ?_; try simp only [Act.put, lA, lB, lC]
 refine ti 7 (some 13) rfl rfl ?_; try simp only [Act.put, lA, lB, lC]
 refine ti 8 (some 14) rfl rfl ?_; try simp only [Act.put, lA, lB, lC]
 refine ti 9 (some 15) rfl rfl ?_; try simp only [Act.put, lA, lB, lC]
 refine ti 10 (some 16) rfl rfl ?_; try simp only [Act.put, lA, lB, lC]
 refine tr [2] (.cons rfl (fun K hK => ?_) .nil)
 go_simp
 first | (go_at_call 83; (with_reducible refine (HA.out _).mono ?_); rintro e w3 ⟨rfl, n3, os3, hw3⟩; have HGA := Lib.hid (hHeld.1.trans ⟨n3, os3, hw3⟩); clear hw3) | (go_at_call 83; (with_reducible refine (HB.out _).mono ?_); rintro e w4 ⟨rfl, n4, os4, hw4⟩; have HGB := Lib.hid (hHeld.1.trans ⟨n4, os4, hw4⟩); clear hw4) | (go_at_call 77; refine (cmp_any _ _ _).mono ?_; rintro e w5 ⟨rfl, rfl⟩) | (go_at_call 106; refine (orI_any _ _ _ _ (alloc_new rfl rfl) (alloc_new rfl rfl)).mono ?_; rintro e w6 ⟨rfl, rfl⟩; rw [HCF.out])
 refine hK.out _ _ ?_ (fun hHeld => ?_)
 ·((try dsimp only); (first | exact hHeld | exact KS.out _ (Gw.refl w1).drew | exact KS.out _ HGA.out | exact KS.out _ HGB.out | exact KS.out _ (hHeld.1.alloc _)))
 clear hK K; try simp only [Act.put, lA, lB, lC]
 refine tr [5] (.cons rfl (fun K hK => ?_) .nil)
 go_simp
 first | (go_at_call 83; (with_reducible refine (HA.out _).mono ?_); rintro e w3 ⟨rfl, n3, os3, hw3⟩; have HGA := Lib.hid (hHeld.1.trans ⟨n3, os3, hw3⟩); clear hw3) | (go_at_call 83; (with_reducible refine (HB.out _).mono ?_); rintro e w4 ⟨rfl, n4, os4, hw4⟩; have HGB := Lib.hid (hHeld.1.trans ⟨n4, os4, hw4⟩); clear hw4) | (go_at_call 77; refine (cmp_any _ _ _).mono ?_; rintro e w5 ⟨rfl, rfl⟩) | (go_at_call 106; refine (orI_any _ _ _ _ (alloc_new rfl rfl) (alloc_new rfl rfl)).mono ?_; rintro e w6 ⟨rfl, rfl⟩; rw [HCF.out])
 refine hK.out _ _ ?_ (fun hHeld => ?_)
 ·((try dsimp only); (first | exact hHeld | exact KS.out _ (Gw.refl w1).drew | exact KS.out _ HGA.out | exact KS.out _ HGB.out | exact KS.out _ (hHeld.1.alloc _)))
 clear hK K; try simp only [Act.put, lA, lB, lC]
 refine tr [6] (.cons rfl (fun K hK => ?_) .nil)
 go_simp
 first | (go_at_call 77; refine (cmp_any _ _ _).mono ?_; rintro e w5 ⟨rfl, rfl⟩) | (go_at_call 106; refine (orI_any _ _ _ _ (alloc_new rfl rfl) (alloc_new rfl rfl)).mono ?_; rintro e w6 ⟨rfl, rfl⟩; rw [HCF.out])
 refine hK.out _ _ ?_ (fun hHeld => ?_)
 ·((try dsimp only); (first | exact hHeld | exact KS.out _ (Gw.refl w1).drew | exact KS.out _ HGA.out | exact KS.out _ HGB.out | exact KS.out _ (hHeld.1.alloc _)))
 clear hK K; try simp only [Act.put, lA, lB, lC]
 refine tr [11] (.cons rfl (fun K hK => ?_) .nil)
 go_simp
 first | (go_at_call 77; refine (cmp_any _ _ _).mono ?_; rintro e w5 ⟨rfl, rfl⟩) | (go_at_call 106; refine (orI_any _ _ _ _ (alloc_new rfl rfl) (alloc_new rfl rfl)).mono ?_; rintro e w6 ⟨rfl, rfl⟩; rw [HCF.out])
 refine hK.out _ _ ?_ (fun hHeld => ?_)
 ·((try dsimp only); (first | exact hHeld | exact KS.out _ (Gw.refl w1).drew | exact KS.out _ HGA.out | exact KS.out _ HGB.out | exact KS.out _ (hHeld.1.alloc _)))
 clear hK K; try simp only [Act.put, lA, lB, lC]
 refine tr [12] (.cons rfl (fun K hK => ?_) .nil)
 go_simp
 refine hK.out _ _ ?_ (fun hHeld => ?_)
 ·((try dsimp only); (first | exact hHeld | exact KS.out _ (Gw.refl w1).drew | exact KS.out _ HGA.out | exact KS.out _ HGB.out | exact KS.out _ (hHeld.1.alloc _)))
 clear hK K; try simp only [Act.put, lA, lB, lC]
 refine tr [13] (.cons rfl (fun K hK => ?_) .nil)
 go_simp
 first | (go_at_call 77; refine (cmp_any _ _ _).mono ?_; rintro e w5 ⟨rfl, rfl⟩) | (go_at_call 106; refine (orI_any _ _ _ _ (alloc_new rfl rfl) (alloc_new rfl rfl)).mono ?_; rintro e w6 ⟨rfl, rfl⟩; rw [HCF.out])
 refine hK.out _ _ ?_ (fun hHeld => ?_)
 ·((try dsimp only); (first | exact hHeld | exact KS.out _ (Gw.refl w1).drew | exact KS.out _ HGA.out | exact KS.out _ HGB.out | exact KS.out _ (hHeld.1.alloc _)))
 clear hK K; try simp only [Act.put, lA, lB, lC]
 refine ti 14 (some 5) rfl rfl ?_; try simp only [Act.put, lA, lB, lC]
 refine wpAnyH_done ?_ ?_ _
 ·kernel_rfl
 rotate_left
 all_goals
  go_wp2_with fail
  go_ret
  exact ⟨rfl, hg1.trans hHeld.1⟩

set_option maxRecDepth 100000
set_option maxHeartbeats 80000000

def enc4B (x : Sl) : List Value := [.int .i64 x.1, .int .i64 x.2.1, .int .i64 x.2.2.1, .int .i64 x.2.2.2]
theorem enc4_len (x : Sl) : (enc4B x).length = 4 := rfl
theorem enc4_one (x : Sl) : ∀ u ∈ enc4B x, u.oneCell' = true := by intro u hu; simp [enc4B] at hu; rcases hu with rfl | rfl | rfl | rfl <;> rfl
theorem Tryz.infoBnT : (Tryz.prog.info? 162).map (fun i => (i.zero, i.size, i.bytes)) = some (some (.agg #[.int .i64 0, .int .i64 0, .int .i64 0, .int .i64 0]), 4, 32) := by kernel_rfl

theorem flatK4_get (sl : List Sl) {i t : Nat} (hi : i < sl.length) (ht : t < 4) : (flatK enc4B 4 sl.toArray)[i * 4 + t]! = (enc4B (sl.getD i (0, 0, 0, 0)))[t]! := by
 rw [get_flatK _ _ _ _ (by simp; omega), show (i * 4 + t) / 4 = i by omega, show (i * 4 + t) % 4 = t by omega]
 congr 2
 rw [getElem!_pos _ _ (by simpa using hi), List.getD_eq_getElem?_getD, List.getElem?_eq_getElem hi]
 simp
theorem holdsK4 {w : World} {g c base n : Nat} {sl : List Sl} (hn : sl.length = n) (ho : w.ownsRow base 162 4 (.slice (some ⟨g, 0, none⟩) n c) n (flatE enc4B sl)) : HoldsK enc4B 4 w g 0 sl.toArray := fun j hj => by
 have hj' : j < sl.length * 4 := by simpa using hj
 have hR := Rd_of_owns enc4_len hn ho
 obtain ⟨b, off, e, hc⟩ := hR (j / 4) _ (getD_of (0, 0, 0, 0) (by omega))
 cases e
 obtain ⟨cur, hb⟩ : ∃ cur, Blk w g 162 cur := by
  rcases ho.2 with ⟨e, _⟩ | ⟨g', cap, cur, e, _, hb, _⟩
  ·cases e
  ·injection e with e _ _; injection e with e; injection e with e; subst e; exact ⟨cur, hb⟩
 refine ⟨?_, hb.free _⟩
 have e1 := flatK4_get sl (i := j / 4) (t := j % 4) (by omega) (by omega)
 rw [show j / 4 * 4 + j % 4 = j by omega] at e1
 rw [e1]
 have hlt : j % 4 < (enc4B (sl.getD (j / 4) (0, 0, 0, 0))).length := by rw [enc4_len]; omega
 have := hc (j % 4) _ (List.getElem?_eq_getElem hlt)
 rw [show 0 + j / 4 * 4 + j % 4 = 0 + j by omega] at this
 rw [this, getElem!_pos (enc4B (sl.getD (j / 4) (0, 0, 0, 0))) (j % 4) hlt]
 rfl
theorem rd_holdsK4 {w : World} {g : Nat} {sl : List Sl} (h : HoldsK enc4B 4 w g 0 sl.toArray) : Rd 4 enc4B w (some ⟨g, 0, none⟩) sl := fun i x hx => by
 obtain ⟨hi, hx'⟩ := List.getElem?_eq_some_iff.1 hx
 refine ⟨g, 0, rfl, fun t v hv => ?_⟩
 have ht : t < 4 := by have := (List.getElem?_eq_some_iff.1 hv).1; rw [enc4_len] at this; exact this
 have hj := (h (i * 4 + t) (by simp; omega)).1
 rw [flatK4_get sl hi ht] at hj
 rw [show 0 + i * 4 + t = 0 + (i * 4 + t) by omega, hj]
 have hlt : t < (enc4B x).length := by rw [enc4_len]; exact ht
 rw [show sl.getD i (0, 0, 0, 0) = x by rw [List.getD_eq_getElem?_getD, hx]; rfl, getElem!_pos (enc4B x) t hlt]
 rw [List.getElem?_eq_getElem hlt] at hv
 exact hv
theorem gr_sortK {w : World} {g n : Nat} {d : Array Sl} {os : Array Obj} {w0 : World} (h : Gr w0 w) (hg : w0.heap.size ≤ g) : Gr w0 (sortWorldK enc4B 4 w g 0 n d os) := by
 have hb : Gb g w (sortWorldK enc4B 4 w g 0 n d os) := by
  refine ⟨rfl, rfl, rfl, ?_, fun i hi hn => ?_⟩
  ·show w.heap.size ≤ ((w.heap.modify g _) ++ os).size
   simp
  ·show ((w.heap.modify g _) ++ os)[i]? = w.heap[i]?
   rw [Array.getElem?_append_left (by simpa using hi), Array.getElem?_modify, if_neg (fun e => hn (by rw [e]))]
 exact hb.gr h hg

def Un (w : World) (g : Nat) : Prop := (∀ o, w.frozen? ⟨g, o, none⟩ = false) ∧ g < w.heap.size
theorem Un.of {w : World} {g : Nat} {t : TypeId} {cs : Array Value} (h : Blk w g t cs) : Un w g := ⟨fun o => h.free o, h.lt⟩
theorem Un.sortK {w : World} {g n : Nat} {cur : Array Value} {t : TypeId} (d : Array Sl) (os : Array Obj) (h : w.heap[g]? = some (.cells cur t (0, 0))) : Un (sortWorldK enc4B 4 w g 0 n d os) g := by
 have hlt : g < w.heap.size := (Array.getElem?_eq_some_iff.1 h).1
 have e : (sortWorldK enc4B 4 w g 0 n d os).heap[g]? = Option.map (onCells (putCells id 0 (flatK enc4B 4 d))) w.heap[g]? := by
  show ((w.heap.modify g (onCells (putCells id 0 (flatK enc4B 4 d)))) ++ os)[g]? = _
  rw [Array.getElem?_append_left (by simpa using hlt), Array.getElem?_modify, if_pos rfl]
 rw [h] at e
 have : ∃ cs, (sortWorldK enc4B 4 w g 0 n d os).heap[g]? = some (.cells cs t (0, 0)) := ⟨_, e⟩
 obtain ⟨cs, h'⟩ := this
 have h2 : Blk (sortWorldK enc4B 4 w g 0 n d os) g t cs := h'
 exact Un.of h2
theorem Un.put {w : World} {g : Nat} (h : Un w g) (p : Addr) (u : Value) : Un (w.setCell p u) g := ⟨fun o => by rw [frozen_put]; exact h.1 o, by simpa [World.setCell] using h.2⟩
def Fresh (b0 : Nat) (w : World) (A : Option Addr) (k c : Nat) : Prop := (A = none ∧ k = 0 ∧ c = 0) ∨ ∃ g, A = some ⟨g, 0, none⟩ ∧ b0 ≤ g ∧ k ≤ c ∧ Un w g
section
variable {b0 b1 k c : Nat} {w w' : World} {A : Option Addr}
theorem Fresh.put (h : Fresh b0 w A k c) (p : Addr) (u : Value) : Fresh b0 (w.setCell p u) A k c := h.imp id fun ⟨g, h1, h2, h3, h4⟩ => ⟨g, h1, h2, h3, h4.put p u⟩
theorem Fresh.base (h : Fresh b0 w A k c) (hb : b1 ≤ b0) : Fresh b1 w A k c := h.imp id fun ⟨g, h1, h2, h3, h4⟩ => ⟨g, h1, Nat.le_trans hb h2, h3, h4⟩
theorem Fresh.of {e : TypeId} {size n : Nat} {xs : List Value} (hn : n = k) (h : w.ownsRow b0 e size (.slice A k c) n xs) : Fresh b0 w A k c := by
 subst hn
 rcases h.2 with ⟨hv, hz⟩ | ⟨g, cap, cur, hv, hb, hg, hc, _⟩
 ·injection hv with h1 h2 h3
  exact Or.inl ⟨h1, h2, h3⟩
 ·injection hv with h1 h2 h3
  subst h3
  have h2 : Blk w g e cur := hg
  exact Or.inr ⟨g, h1, hb, hc, Un.of h2⟩
end

theorem sortS_bench (g c base n ob : Nat) (sl : List Sl) (w : World) (hn : sl.length = n) (hl : n ≤ 4096) (hob : ob ≠ g) (hc : w.cell? ⟨ob, 0, none⟩ = some (.func (.func 83) #[] #[])) (ho : w.ownsRow base 162 4 (.slice (some ⟨g, 0, none⟩) n c) n (flatE enc4B sl)) {w0 : World} (h0 : Gr w0 w) (hg : w0.heap.size ≤ g) (hgl : g < w.heap.size) :
 Calls Tryz.prog 104 #[.slice (some ⟨g, 0, none⟩) n c, .func (.func 105) #[] #[.pointer (some ⟨ob, 0, none⟩)]] w fun e w' => e = .returned (.tuple #[]) ∧ ∃ sl' : List Sl, sl'.length = n ∧ sl'.Perm sl ∧ Rd 4 enc4B w' (some ⟨g, 0, none⟩) sl' ∧ sl'.Pairwise (fun x y => ltOf (cfS fun x => x.2.1) y x = false) ∧ Gr w0 w' ∧ Un w' g := by
 have hun : ∃ cur t, w.heap[g]? = some (.cells cur t (0, 0)) := by
  rcases ho.2 with ⟨hv, _⟩ | ⟨g', cap, cur, hv, _, hg', _⟩
  ·cases hv
  ·injection hv with h1 _ _
   injection h1 with h1
   injection h1 with h1
   subst h1
   exact ⟨_, _, hg'⟩
 obtain ⟨cur0, t0, hun⟩ := hun
 have eg : ∀ args w, (callFunc 105 args).run Tryz.prog w = .ok (.enter 105 args) w := enters_of Tryz.func105 (by kernel_rfl) rfl
 have aE : ∀ w, (isAgg (Try.sortSlots_ren.t 24)).run Tryz.prog w = .ok true w := fun w => by kernel_rfl
 have zE : ∀ w, (Go.sizeOf (Try.sortSlots_ren.t 24)).run Tryz.prog w = .ok 4 w := fun w => by kernel_rfl
 have hH := holdsK4 hn ho
 have hcmp : CmpLays Tryz.prog 105 #[.pointer (some ⟨ob, 0, none⟩)] enc4B 4 (cfS fun x => x.2.1) g 0 sl.toArray.size w := fun m os dk hdk x y => by
  refine (cmp_benchOf ob x y _ ?_).mono fun e w' ⟨he, q, os', hw⟩ => ⟨he, q, os', hw⟩
  have hlt := World.block_lt_of_cell? w _ hc
  have hb : (sortWorldK enc4B 4 w g 0 m dk os).heap[ob]? = w.heap[ob]? := by
   show ((w.heap.modify g _) ++ os)[ob]? = w.heap[ob]?
   rw [Array.getElem?_append_left (by simpa using hlt), Array.getElem?_modify, if_neg (fun e => hob e.symm)]
  rw [← hc]
  unfold World.cell?
  simp only [hb]
 have h := AnyQ.slices_SortFunc Try.sortSlots 4 aE zE enc4B enc4_len enc4_one (cfS fun x => x.2.1) (swoS _) 105 #[.pointer (some ⟨ob, 0, none⟩)] g 0 c sl.toArray w eg hcmp hH hgl (by simp; omega)
 change Calls Tryz.prog 104 _ _ _ at h
 have e : sl.toArray.size = n := by simp [hn]
 rw [e] at h
 refine h.mono ?_
 rintro e w' ⟨rfl, d', k, os, hp, hs, rfl⟩
 have hsz : d'.size = n := by have := hp.1; rw [this]; simp [hn]
 refine ⟨rfl, d'.toList, by simp [hsz], ?_, ?_, ?_, gr_sortK h0 hg, Un.sortK _ _ hun⟩
 ·have := hp.2.2
  have ex1 : d'.extract 0 n = d' := by rw [← hsz]; simp
  have ex2 : sl.toArray.extract 0 n = sl.toArray := by rw [← hn]; simp
  rw [ex1, ex2] at this
  simpa using this
 ·have h1 : HoldsK enc4B 4 (Sort.ahead w k) g 0 sl.toArray := hH
  have h2 := holds_putRow id (Sort.ahead w k) g 0 _ (flatK enc4B 4 d') h1 (by simp [hsz, hn])
  have h3 := holds_grow id _ os g 0 _ (by show g < (Array.modify _ _ _).size; simpa using hgl) h2
  refine rd_holdsK4 (sl := d'.toList) ?_
  have e : d'.toList.toArray = d' := by simp
  rw [e]
  exact h3
 ·refine List.pairwise_iff_getElem.2 fun i j hi hj hij => ?_
  have hi' : i < d'.size := by simpa using hi
  have hj' : j < d'.size := by simpa using hj
  have := hs i j (Nat.zero_le _) hij (by omega)
  rw [getElem!_pos d' i hi', getElem!_pos d' j hj'] at this
  simpa using this

theorem inOrder_any (fn : Nat) (w : World) : Calls Tryz.prog 82 #[.func (.func fn) #[] #[]] w fun e w' => ∃ ob, e = .returned (.func (.func 105) #[] #[.pointer (some ⟨ob, 0, none⟩)]) ∧ w'.cell? ⟨ob, 0, none⟩ = some (.func (.func fn) #[] #[]) ∧ w.heap.size ≤ ob ∧ Gr w w' := by
 go_enter Tryz.func82, Tryz.ntmps82
 go_wp2_with fail
 go_ret
 exact ⟨w.heap.size, rfl, alloc_new rfl rfl, Nat.le_refl _, (Gr.refl w).alloc _⟩

def CloneSPost (ns : List Sl) (w : World) (e : Ending) (w' : World) : Prop :=
 ∃ g c, e = .returned (.slice (some ⟨g, 0, none⟩) ns.length c) ∧ ns.length ≤ c ∧ w.heap.size ≤ g ∧ g < w'.heap.size ∧ w'.ownsRow w.heap.size 162 4 (.slice (some ⟨g, 0, none⟩) ns.length c) ns.length (flatE enc4B ns) ∧ Gr w w'

theorem cloneS_any (b off n c : Nat) (ns : List Sl) (w : World) (hn : ns.length = n) (hl : n ≤ 4096) (hp : Rd 4 enc4B w (some ⟨b, off, none⟩) ns) :
 Calls Tryz.prog 103 #[.slice (some ⟨b, off, none⟩) n c] w (CloneSPost ns w) := by
 obtain ⟨i0, hi, hz0, hz1, hz2⟩ := info_parts Tryz.infoBnT
 have q : ∀ (w : World) (a : Option Addr) (n c n' c' : Nat), (binOp .eql 51 (.slice a n c) (.slice none n' c')).run Tryz.prog w = .ok (.bool a.isNone) w := fun w a n c n' c' => Lib.run_eql_slice_nil w _ _ a n c n' c' Tryz.underlying51
 have HN := Lib.hid hn
 have HP := Lib.hid hp
 clear hn hp
 go_enter Tryz.func103, Tryz.ntmps103
 go_wp2_with (at_builtin; refine wpList_append_own _ rfl _ _ 51 rfl w.heap.size 162 i0 _ 4 32 Tryz.underlying51 hi hz0 hz1 hz2 rfl (by decide) _ _ _ rfl (World.ownsRow_made w #[] 0 (Nat.le_refl _) (Nat.zero_le _) (by simp)) ⟨b, off, none⟩ n c (flatE enc4B ns) rfl ?qc1 ?qc2 ?qc3 ?qc4 ?qc5 ?qc6 ?_)
 case qc1 => rw [flatE_len enc4_len, HN.out]
 case qc2 =>
  intro j u hj
  rw [Addr.add_lit]
  exact alloc_old (flatE_cells enc4_len (by decide) HP.out j u hj)
 case qc3 => exact oneCell_flat enc4_one ns
 case qc4 => unfold maxLen; omega
 case qc5 => omega
 case qc6 => simp
 intro v' w1 hown hgrow hnil
 have hown' : w1.ownsRow w.heap.size 162 4 v' n (flatE enc4B ns) := by simpa using hown
 have HO := Lib.hid hown'
 have HG := Lib.hid hgrow
 have HNIL := Lib.hid hnil
 clear hown hgrow hnil hi hz0 hz1 hz2 q hown'
 go_wp2
 go_ret
 rcases HO.out.2 with ⟨ev, _⟩ | ⟨g, cap, cur, rfl, hg, hgb, hnc, _⟩
 ·exact (HNIL.out ev).elim
 ·refine ⟨g, cap, by rw [HN.out]; rfl, by rw [HN.out]; exact hnc, hg, (Array.getElem?_eq_some_iff.1 hgb).1, by rw [HN.out]; exact HO.out, ?_⟩
  exact ((Below.refl _ w).alloc (Nat.le_refl _) _).grown HG.out (by simp) (by intro k hk; simp [Value.ownBlock] at hk; omega)

theorem sortedS_bench (b off n c ob : Nat) (ns : List Sl) (w : World) (hn : ns.length = n) (hl : n ≤ 4096) (hc : w.cell? ⟨ob, 0, none⟩ = some (.func (.func 83) #[] #[])) (hp : Rd 4 enc4B w (some ⟨b, off, none⟩) ns) :
 Calls Tryz.prog 81 #[.slice (some ⟨b, off, none⟩) n c, .func (.func 105) #[] #[.pointer (some ⟨ob, 0, none⟩)]] w fun e w' => ∃ g c' sl, e = .returned (.slice (some ⟨g, 0, none⟩) n c') ∧ sl.length = n ∧ List.Perm sl ns ∧ Rd 4 enc4B w' (some ⟨g, 0, none⟩) sl ∧ sl.Pairwise (fun x y => ltOf (cfS fun x => x.2.1) y x = false) ∧ w.heap.size ≤ g ∧ Gr w w' ∧ (n ≤ c' ∧ Un w' g) := by
 have HC := Lib.hid (cloneS_any b off n c ns w hn hl hp)
 have HN := Lib.hid hn
 have HO := Lib.hid hc
 have hob := World.block_lt_of_cell? w _ hc
 clear hn hp hc
 go_enter Tryz.func81, Tryz.ntmps81
 go_wp2_with fail
 refine HC.out.mono ?_
 rintro e w1 ⟨g, c1, rfl, hcc, hg, hgl, hown, hgr⟩
 rw [HN.out] at hown hcc ⊢
 have HS := Lib.hid (sortS_bench g c1 w.heap.size n ob ns w1 HN.out hl (by omega) (hgr.keep HO.out) hown (w0 := w) hgr hg hgl)
 clear hown HC
 go_wp2_with fail
 refine HS.out.mono ?_
 rintro e w2 ⟨rfl, sl, h1, h2, h3, h4, h5, h6⟩
 have HR := Lib.hid (And.intro h1 (And.intro h2 (And.intro h3 (And.intro h4 (And.intro h5 h6)))))
 have HCC := Lib.hid hcc
 clear h1 h2 h3 h4 h5 h6 HS hcc
 go_wp2_with fail
 go_ret
 obtain ⟨h1, h2, h3, h4, h5, h6⟩ := HR.out
 exact ⟨g, c1, sl, rfl, h1, h2, h3, h4, hg, h5, HCC.out, h6⟩

end Go.Proofs.YtobcdkjomehdkaaGreat
