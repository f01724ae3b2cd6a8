/- Layer 4: a task. -/
import Derived.Test.YtobcdkjomehdkaaGreatBu41
import Derived.Shelf.SlicesQ.IndexFunc
import Derived.Test.YtobcdkjomehdkaaGreatBu37
import Init
import Derived.Test.YtobcdkjomehdkaaGreatBu0
import Derived.Test.YtobcdkjomehdkaaGreatBu2
namespace Go.Proofs.YtobcdkjomehdkaaGreat
open Go.RowKit
set_option linter.unusedSimpArgs false
set_option maxRecDepth 100000
set_option maxHeartbeats 80000000

def okJ (x : Jb) : Bool := decide ((0 ≤ x.1 ∧ x.1 < x.2.1 ∧ x.2.1 ≤ 1048576) ∧ 1 ≤ x.2.2 ∧ x.2.2 ≤ 1048576)

theorem isJob_any (x : Jb) (w : World) (r : Bool) (hr : okJ x = r) : Calls Tryz.prog 51 #[.agg #[.int .i64 x.1, .int .i64 x.2.1, .int .i64 x.2.2]] w fun e w' => e = .returned (.bool r) ∧ Gr w w' := by
 subst hr
 obtain ⟨a, b, c⟩ := x
 dsimp only
 unfold okJ
 dsimp only
 by_cases h1 : 0 ≤ a
 ·by_cases h2 : a < b
  ·by_cases h3 : b ≤ 1048576
   ·by_cases h4 : 1 ≤ c
    ·by_cases h5 : c ≤ 1048576
     all_goals
      have hd : decide ((0 ≤ a ∧ a < b ∧ b ≤ 1048576) ∧ 1 ≤ c ∧ c ≤ 1048576) = decide (c ≤ 1048576) := by rw [decide_eq_decide]; omega
      rw [hd]
      clear hd
      go_enter Tryz.func51, Tryz.ntmps51
      go_wp2_with fail
      go_ret
      exact ⟨ret_bool (by simp [h5]), by (repeat (first | exact Gr.refl _ | assumption | (refine Gr.drew ?_) | (refine Gr.drewN ?_ _) | (refine Gr.alloc ?_ _) | (refine Gr.trans ?_ (by assumption))))⟩
    ·have hd : decide ((0 ≤ a ∧ a < b ∧ b ≤ 1048576) ∧ 1 ≤ c ∧ c ≤ 1048576) = false := decide_eq_false (by omega)
     rw [hd]
     clear hd
     go_enter Tryz.func51, Tryz.ntmps51
     go_wp2_with fail
     go_ret
     exact ⟨rfl, by (repeat (first | exact Gr.refl _ | assumption | (refine Gr.drew ?_) | (refine Gr.drewN ?_ _) | (refine Gr.alloc ?_ _) | (refine Gr.trans ?_ (by assumption))))⟩
   ·have hd : decide ((0 ≤ a ∧ a < b ∧ b ≤ 1048576) ∧ 1 ≤ c ∧ c ≤ 1048576) = false := decide_eq_false (by omega)
    rw [hd]
    clear hd
    go_enter Tryz.func51, Tryz.ntmps51
    go_wp2_with fail
    go_ret
    exact ⟨rfl, by (repeat (first | exact Gr.refl _ | assumption | (refine Gr.drew ?_) | (refine Gr.drewN ?_ _) | (refine Gr.alloc ?_ _) | (refine Gr.trans ?_ (by assumption))))⟩
  ·have hd : decide ((0 ≤ a ∧ a < b ∧ b ≤ 1048576) ∧ 1 ≤ c ∧ c ≤ 1048576) = false := decide_eq_false (by omega)
   rw [hd]
   clear hd
   go_enter Tryz.func51, Tryz.ntmps51
   go_wp2_with fail
   go_ret
   exact ⟨rfl, by (repeat (first | exact Gr.refl _ | assumption | (refine Gr.drew ?_) | (refine Gr.drewN ?_ _) | (refine Gr.alloc ?_ _) | (refine Gr.trans ?_ (by assumption))))⟩
 ·have hd : decide ((0 ≤ a ∧ a < b ∧ b ≤ 1048576) ∧ 1 ≤ c ∧ c ≤ 1048576) = false := decide_eq_false (by omega)
  rw [hd]
  clear hd
  go_enter Tryz.func51, Tryz.ntmps51
  go_wp2_with fail
  go_ret
  exact ⟨rfl, by (repeat (first | exact Gr.refl _ | assumption | (refine Gr.drew ?_) | (refine Gr.drewN ?_ _) | (refine Gr.alloc ?_ _) | (refine Gr.trans ?_ (by assumption))))⟩

theorem isTask1_any (x : Jb) (w : World) (r : Bool) (hr : (!okJ x) = r) : Calls Tryz.prog 50 #[.agg #[.int .i64 x.1, .int .i64 x.2.1, .int .i64 x.2.2]] w fun e w' => e = .returned (.bool r) ∧ Gr w w' := by
 obtain ⟨q, hq⟩ : ∃ q, okJ x = q := ⟨_, rfl⟩
 have HI := Lib.hid (fun W => isJob_any x W q hq)
 obtain rfl : r = !q := by rw [← hr, hq]
 clear hr hq
 obtain ⟨a, b, c⟩ := x
 dsimp only
 go_enter Tryz.func50, Tryz.ntmps50
 go_wp2_with fail
 refine (HI.out _).mono ?_
 rintro e w' ⟨rfl, hg⟩
 cases q
 all_goals
  go_wp2_with fail
  go_ret
  exact ⟨rfl, Gr.trans (by (repeat (first | exact Gr.refl _ | assumption | (refine Gr.drew ?_) | (refine Gr.drewN ?_ _) | (refine Gr.alloc ?_ _) | (refine Gr.trans ?_ (by assumption))))) hg⟩

theorem any_not_all (l : List Jb) : l.any (fun x => !okJ x) = !l.all okJ := by
 induction l with
 | nil => rfl
 | cons a l ih => simp [ih, Bool.not_and]

theorem hasBad_any (A : Option Addr) (n c : Nat) (l : List Jb) (w : World) (hn : l.length = n) (hl : n ≤ 32) (hp : Tris w A l) (r : Bool) (hr : l.all okJ = r) :
 Calls Tryz.prog 49 #[.slice A n c, .func (.func 50) #[] #[]] w fun e w' => e = .returned (.bool (!r)) ∧ Gr w w' := by
 rcases Nat.eq_zero_or_pos n with h0 | h1
 ·subst h0
  have : l = [] := List.eq_nil_of_length_eq_zero hn
  subst this
  have hr' : r = true := hr.symm
  subst hr'
  clear hn hl hp hr
  have HI : Calls Tryz.prog 74 #[.slice A 0 c, .func (.func 50) #[] #[]] w fun e w' => e = .returned (.int .i64 (-1)) ∧ w' = w := by
   go_enter Tryz.func74, Tryz.ntmps74
   go_wp2_with fail
   go_loop [5, 8] (fun _ z => z = .int .i64 0) (fun _ _ => 0)
   case atStart => rfl
   case round =>
    subst hrel
    go_wp2_with fail
    try rw [Exit.noGoto_ret]
    go_ret
    exact ⟨rfl, rfl⟩
  have HI := Lib.hid HI
  go_enter Tryz.func49, Tryz.ntmps49
  go_wp2_with fail
  refine HI.out.mono ?_
  rintro e w1 ⟨rfl, rfl⟩
  go_wp2_with fail
  go_ret
  exact ⟨rfl, Gr.refl _⟩
 ·obtain ⟨b, off, rfl, h0, -⟩ := Tris_at hp (i := 0) (by omega)
  have eg : ∀ args w, (callFunc 50 args).run Tryz.prog w = .ok (.enter 50 args) w := enters_of Tryz.func50 (by kernel_rfl) rfl
  have aE : ∀ w, (isAgg (Try.hasJobs_ren.t 23)).run Tryz.prog w = .ok true w := fun w => by kernel_rfl
  have zE : ∀ w, (Go.sizeOf (Try.hasJobs_ren.t 23)).run Tryz.prog w = .ok 3 w := fun w => by kernel_rfl
  have hpred : PredBelow Tryz.prog 50 #[] (fun x => .agg (enc3 x).toArray) (fun x => !okJ x) w := fun W x hb =>
   (isTask1_any x W _ rfl).mono fun e w' ⟨he, hg⟩ => ⟨he, Gr.trans hb hg⟩
  have h := AnyQ.slices_ContainsFunc Try.hasJobs 3 aE zE enc3 enc3_len (fun x => !okJ x) 50 #[] eg b off n c l w hpred (by omega) (by omega) (World.block_lt_of_cell? w _ h0) (fun j hj i v hv => by
   obtain ⟨b', off', e, hc⟩ := hp j l[j]! (by rw [getElem!_pos l j hj, List.getElem?_eq_getElem hj])
   cases e
   exact hc i v hv)
  change Calls Tryz.prog 49 _ _ _ at h
  rw [show l.take n = l from List.take_of_length_le (by omega), any_not_all, hr] at h
  exact h

def okT (B : Int) (l : List Jb) : Bool := decide (1 ≤ B) && decide (B ≤ 8) && decide (l.length ≤ 32) && l.all okJ

theorem isTaskB_any (B : Int) (A : Option Addr) (n c : Nat) (l : List Jb) (w : World) (hn : l.length = n) (hb : n ≤ 281474976710656) (hp : Tris w A l) (r : Bool) (hr : okT B l = r) :
 Calls Tryz.prog 31 #[.int .i64 B, .slice A n c] w fun e w' => e = .returned (.bool r) ∧ Gr w w' := by
 by_cases h1 : B < 1
 ·obtain rfl : r = false := by rw [← hr]; unfold okT; simp; omega
  clear hr hn hp
  go_enter Tryz.func31, Tryz.ntmps31
  go_wp2_with fail
  go_ret
  exact ⟨rfl, Gr.refl _⟩
 ·by_cases h2 : 8 < B
  ·obtain rfl : r = false := by rw [← hr]; unfold okT; simp; omega
   clear hr hn hp
   go_enter Tryz.func31, Tryz.ntmps31
   go_wp2_with fail
   go_ret
   exact ⟨rfl, Gr.refl _⟩
  ·by_cases h3 : 32 < n
   ·obtain rfl : r = false := by rw [← hr]; unfold okT; simp; omega
    have h3' : (32 : Int) < (n : Int) := by omega
    clear hr hn hp
    go_enter Tryz.func31, Tryz.ntmps31
    go_wp2_with fail
    go_ret
    exact ⟨rfl, Gr.refl _⟩
   ·have hq : l.all okJ = r := by
     rw [← hr]; unfold okT
     rw [decide_eq_true (by omega : 1 ≤ B), decide_eq_true (by omega : B ≤ 8), decide_eq_true (by omega : l.length ≤ 32)]
     rfl
    have HC := Lib.hid (hasBad_any A n c l w hn (by omega) hp r hq)
    have h3' : ¬ (32 : Int) < (n : Int) := by omega
    clear hr hn hp hq
    go_enter Tryz.func31, Tryz.ntmps31
    go_wp2_with fail
    refine HC.out.mono ?_
    rintro e w1 ⟨rfl, hg⟩
    cases r
    all_goals
     go_wp2_with fail
     go_ret
     exact ⟨rfl, hg⟩

set_option maxRecDepth 100000
set_option maxHeartbeats 80000000

theorem okT_v {B : Int} {l : List Jb} (h : okT B l = true) : (1 ≤ B ∧ B ≤ 8) ∧ l.length ≤ 32 ∧ JobsV l := by
 unfold okT at h
 simp only [Bool.and_eq_true, decide_eq_true_eq, List.all_eq_true] at h
 obtain ⟨⟨⟨h1, h2⟩, h3⟩, h4⟩ := h
 refine ⟨⟨h1, h2⟩, h3, fun j hj => ?_⟩
 have := h4 j hj
 simpa [okJ] using this

def PlanAt (B n : Nat) (A : Option Addr) (c : Nat) (l : List Jb) (p : Nat) (F : Nat → Option Nat) (r' : Nat → Nat → Int) (w : World) : Prop :=
 ∃ g m fb SA sc nx, PlanR w p g m fb B A n c SA ((tms l).length - 1) sc (tms l) F r' ∧ Left B n ((tms l).length - 1) l (tms l) r' F nx 4096 ∧ F 0 = some 0
theorem PlanPost4.at_ {B n : Nat} {A : Option Addr} {c : Nat} {l : List Jb} {w w' : World} {e : Ending} (hJ : JobsP l) (h : PlanPost4 B n A c l w e w') : ∃ p F r', e = .returned (.pointer (some ⟨p, 0, none⟩)) ∧ PlanAt B n A c l p F r' w' ∧ Gr w w' := by
 obtain ⟨p, g, m, fb, SA, sc, nx, F, r', e, h1, h2, h3, h4, h5, h6, h7, h8, h9, h10⟩ := h
 exact ⟨p, F, r', e, ⟨g, m, fb, SA, sc, nx, ⟨h1, h2, h3, h4, h5⟩, ⟨h8, h6, h7, h9, fun s => (lnA_bd hJ s).1, fun j => (jbA_bd hJ j).1⟩, h6.zero⟩, h10⟩

def PlanP (B : Int) (l : List Jb) (w : World) (e : Ending) (w' : World) : Prop :=
 (okT B l = false ∧ e = .returned (.tuple #[.agg #[.bool false, .slice none 0 0, .slice none 0 0, .slice none 0 0], .int .i64 2]) ∧ Gr w w') ∨
 (okT B l = true ∧ ∃ v, e = .returned (.tuple #[v, .int .i64 0]) ∧ AnsP B.toNat l w (.returned v) w')

theorem planB_any (B : Int) (A : Option Addr) (n c : Nat) (l : List Jb) (w : World) (hn : l.length = n) (hb : n ≤ 281474976710656) (hp : Tris w A l) :
 Calls Tryz.prog 14 #[.int .i64 B, .slice A n c] w (PlanP B l w) := by
 have HIT := Lib.hid (fun W (hW : Gr w W) r hr => isTaskB_any B A n c l W hn hb (hp.keep hW) r hr)
 cases hr : okT B l with
 | false =>
   have HE := Lib.hid hr
   clear hr
   go_enter Tryz.func14, Tryz.ntmps14
   go_wp2_with fail
   generalize hW1 : World.alloc w _ = w1
   have hg1 : Gr w w1 := by rw [← hW1]; exact (Gr.refl w).alloc _
   have hR1 : Blk w1 w.heap.size 54 #[.bool false, .slice none 0 0, .slice none 0 0, .slice none 0 0] := by rw [← hW1]; exact heap_alloc_new w _
   obtain ⟨R, hRe⟩ : ∃ R, w.heap.size = R := ⟨_, rfl⟩
   rw [hRe] at hR1 ⊢
   have hRle : w.heap.size ≤ R := by omega
   clear hW1 hRe
   refine (HIT.out _ hg1 _ HE.out).mono ?_
   rintro e w2 ⟨rfl, hg2⟩
   have HR3 := Lib.hid (hR1.keep hg2)
   have hg3 := hg1.trans hg2
   clear hR1 hg1 hg2
   have y0 := HR3.out.cell 0
   have y1 := HR3.out.cell 1
   have y2 := HR3.out.cell 2
   have y3 := HR3.out.cell 3
   have z0 := HR3.out.free 0
   have z1 := HR3.out.free 1
   have z2 := HR3.out.free 2
   have z3 := HR3.out.free 3
   go_wp2_with fail
   obtain ⟨-, hgf, u0, u1, u2, u3⟩ := ans_put HR3.out hg3 hRle (.bool false) (.slice none 0 0) (.slice none 0 0) (.slice none 0 0) _ rfl
   refine bodyPost_ret (v := .tuple #[.agg #[.bool false, .slice none 0 0, .slice none 0 0, .slice none 0 0], .int .i64 2]) ?_ ?_ ?_
   ·simp [results, Tryz.results14, go_sem, u0, u1, u2, u3]
   ·rfl
   ·exact Or.inl ⟨HE.out, rfl, hgf⟩
 | true =>
   obtain ⟨⟨hB1, hB8⟩, hn32, hV⟩ := okT_v hr
   rw [hn] at hn32
   obtain ⟨N, rfl⟩ : ∃ N : Nat, B = N := ⟨B.toNat, by omega⟩
   have HE := Lib.hid hr
   have HV := Lib.hid hV
   have HNP := Lib.hid (fun W (hW : Gr w W) => newPlan_any N A n c l W (by omega) hn hn32 hV.p (hp.keep hW))
   have HAN := Lib.hid (fun (p g m fb : Nat) (SA : Option Addr) (sc : Nat) (F : Nat → Option Nat) (r' : Nat → Nat → Int) (nx : Nat → List Nat) W => answer_any (p := p) (g := g) (m := m) (fb := fb) (B := N) (A := A) (c := c) (SA := SA) (sc := sc) (F := F) (r' := r') (nx := nx) W hn hn32 (by omega) hV)
   clear hr hV hp hn
   go_enter Tryz.func14, Tryz.ntmps14
   go_wp2_with fail
   generalize hW1 : World.alloc w _ = w1
   have hg1 : Gr w w1 := by rw [← hW1]; exact (Gr.refl w).alloc _
   have hR1 : Blk w1 w.heap.size 54 #[.bool false, .slice none 0 0, .slice none 0 0, .slice none 0 0] := by rw [← hW1]; exact heap_alloc_new w _
   obtain ⟨R, hRe⟩ : ∃ R, w.heap.size = R := ⟨_, rfl⟩
   rw [hRe] at hR1 ⊢
   have hRle : w.heap.size ≤ R := by omega
   clear hW1 hRe
   refine (HIT.out _ hg1 _ HE.out).mono ?_
   rintro e w2 ⟨rfl, hg2⟩
   have HR2 := Lib.hid (hR1.keep hg2)
   have hg2' := hg1.trans hg2
   clear hR1 hg1 hg2
   go_wp2_with fail
   refine (HNP.out _ hg2').mono ?_
   intro e w3 hpost
   obtain ⟨p, F, r', rfl, ⟨g, m, fb, SA, sc, nx, hPR, hL, h0⟩, hg3⟩ := hpost.at_ HV.out.p
   have HA := Lib.hid (HAN.out p g m fb SA sc F r' nx w3 hPR hL h0)
   have HR3 := Lib.hid (HR2.out.keep hg3)
   have hg3' := hg2'.trans hg3
   clear hpost hPR hL h0 hg3 hg2' HR2 HAN HNP HIT
   go_wp2_with fail
   refine HA.out.mono ?_
   intro e w4 hans
   clear HA
   rcases hans with ⟨A3, k3, c3, sl, rfl, e1, e2, e3, ef, e4⟩ | ⟨JA, jc, SB, sd, J, S, rfl, e1, e2, e3, ef, e4⟩
   ·have HQ := Lib.hid (And.intro e1 (And.intro e2 e3))
    have HEF := Lib.hid (ef.base hg3'.size)
    have HR4 := Lib.hid (HR3.out.keep e4)
    have hg4 := hg3'.trans e4
    clear e1 e2 e3 e4 ef HR3 hg3'
    have y0 := HR4.out.cell 0
    have y1 := HR4.out.cell 1
    have y2 := HR4.out.cell 2
    have y3 := HR4.out.cell 3
    have z0 := HR4.out.free 0
    have z1 := HR4.out.free 1
    have z2 := HR4.out.free 2
    have z3 := HR4.out.free 3
    go_wp2_with fail
    obtain ⟨hrd, hgf, u0, u1, u2, u3⟩ := ans_put HR4.out hg4 hRle (.bool true) (.slice A3 k3 c3) (.slice none 0 0) (.slice none 0 0) _ rfl
    refine bodyPost_ret (v := .tuple #[.agg #[.bool true, .slice A3 k3 c3, .slice none 0 0, .slice none 0 0], .int .i64 0]) ?_ ?_ ?_
    ·simp [results, Tryz.results14, go_sem, u0, u1, u2, u3]
    ·rfl
    ·exact Or.inr ⟨HE.out, _, rfl, Or.inl ⟨_, _, _, _, rfl, HQ.out.1, hrd enc4_int HQ.out.2.1, HQ.out.2.2, (((HEF.out.put _ _).put _ _).put _ _).put _ _, hgf⟩⟩
   ·have HQ := Lib.hid (And.intro e1 (And.intro e2 e3))
    have HEF := Lib.hid (And.intro (ef.1.base hg3'.size) (ef.2.base hg3'.size))
    have HR4 := Lib.hid (HR3.out.keep e4)
    have hg4 := hg3'.trans e4
    clear e1 e2 e3 e4 ef HR3 hg3'
    have y0 := HR4.out.cell 0
    have y1 := HR4.out.cell 1
    have y2 := HR4.out.cell 2
    have y3 := HR4.out.cell 3
    have z0 := HR4.out.free 0
    have z1 := HR4.out.free 1
    have z2 := HR4.out.free 2
    have z3 := HR4.out.free 3
    go_wp2_with fail
    obtain ⟨hrd, hgf, u0, u1, u2, u3⟩ := ans_put HR4.out hg4 hRle (.bool false) (.slice none 0 0) (.slice JA J.length jc) (.slice SB S.length sd) _ rfl
    refine bodyPost_ret (v := .tuple #[.agg #[.bool false, .slice none 0 0, .slice JA J.length jc, .slice SB S.length sd], .int .i64 0]) ?_ ?_ ?_
    ·simp [results, Tryz.results14, go_sem, u0, u1, u2, u3]
    ·rfl
    ·exact Or.inr ⟨HE.out, _, rfl, Or.inr ⟨_, _, _, _, _, _, rfl, hrd enc1_int HQ.out.1, hrd enc2_int HQ.out.2.1, HQ.out.2.2, ⟨(((HEF.out.1.put _ _).put _ _).put _ _).put _ _, (((HEF.out.2.put _ _).put _ _).put _ _).put _ _⟩, hgf⟩⟩

end Go.Proofs.YtobcdkjomehdkaaGreat

namespace Go.Proofs.YtobcdkjomehdkaaGreat
set_option linter.unusedSimpArgs false
set_option maxRecDepth 100000
set_option maxHeartbeats 80000000

def xt (a : Nat) : Nat := if 255 < 2 * a then (2 * a) ^^^ 285 else 2 * a
def mulF : Nat → Nat → Nat → Nat
 | 0, _, _ => 0
 | n + 1, a, b => (if b % 2 = 1 then a else 0) ^^^ mulF n (xt a) (b / 2)
def mulN (a b : Nat) : Nat := mulF 8 a b
def pw : Nat → Nat
 | 0 => 1
 | n + 1 => xt (pw n)

theorem xt_all : ∀ a : Fin 256, xt a.val < 256 := by decide +kernel
theorem xt_lt {a : Nat} (h : a < 256) : xt a < 256 := xt_all ⟨a, h⟩
theorem xor_lt {a b : Nat} (h : a < 256) (k : b < 256) : a ^^^ b < 256 := Nat.xor_lt_two_pow (n := 8) h k
theorem xt_eq (a : Nat) (h : a < 256) : xt a = (2 * a) ^^^ (if a / 128 = 1 then 285 else 0) := by
 unfold xt
 by_cases e : 255 < 2 * a
 ·rw [if_pos e, if_pos (by omega)]
 ·rw [if_neg e, if_neg (by omega), Nat.xor_zero]
theorem nxor_left (a b c : Nat) : a ^^^ (b ^^^ c) = b ^^^ (a ^^^ c) := by rw [← Nat.xor_assoc, Nat.xor_comm a b, Nat.xor_assoc]
theorem dbl_xor (a b : Nat) : 2 * (a ^^^ b) = 2 * a ^^^ 2 * b := by
 have := Nat.shiftLeft_xor_distrib (a := a) (b := b) (i := 1)
 simp only [Nat.shiftLeft_eq, Nat.pow_one] at this
 rw [Nat.mul_comm 2 (a ^^^ b), Nat.mul_comm 2 a, Nat.mul_comm 2 b]; exact this
theorem div_xor (a b k : Nat) : (a ^^^ b) / 2 ^ k = a / 2 ^ k ^^^ b / 2 ^ k := by
 have := Nat.shiftRight_xor_distrib (a := a) (b := b) (i := k)
 simpa only [Nat.shiftRight_eq_div_pow] using this
theorem sel_xor (x y k : Nat) (hx : x = 0 ∨ x = 1) (hy : y = 0 ∨ y = 1) : (if x ^^^ y = 1 then k else 0) = (if x = 1 then k else 0) ^^^ (if y = 1 then k else 0) := by
 rcases hx with rfl | rfl <;> rcases hy with rfl | rfl <;> simp
theorem xt_xor {a b : Nat} (h : a < 256) (k : b < 256) : xt (a ^^^ b) = xt a ^^^ xt b := by
 rw [xt_eq _ (xor_lt h k), xt_eq _ h, xt_eq _ k, dbl_xor]
 have e : (a ^^^ b) / 128 = a / 128 ^^^ b / 128 := div_xor a b 7
 rw [e, sel_xor _ _ _ (by omega) (by omega)]
 simp only [Nat.xor_assoc, Nat.xor_comm, nxor_left]
theorem xt_zero : xt 0 = 0 := rfl
theorem mulF_lt : ∀ (n : Nat) {a : Nat} (b : Nat), a < 256 → mulF n a b < 256
 | 0, _, _, _ => by simp [mulF]
 | n + 1, a, b, h => by
   unfold mulF
   exact xor_lt (by split <;> omega) (mulF_lt n _ (xt_lt h))
theorem mulN_lt {a : Nat} (b : Nat) (h : a < 256) : mulN a b < 256 := mulF_lt 8 b h
theorem mulF_zero : ∀ (n b : Nat), mulF n 0 b = 0
 | 0, _ => rfl
 | n + 1, b => by unfold mulF; rw [xt_zero, mulF_zero n]; simp
theorem mulF_xt : ∀ (n : Nat) {a : Nat} (b : Nat), a < 256 → mulF n (xt a) b = xt (mulF n a b)
 | 0, _, _, _ => by simp [mulF, xt_zero]
 | n + 1, a, b, h => by
   unfold mulF
   rw [mulF_xt n _ (xt_lt h), xt_xor (by split <;> omega) (mulF_lt n _ (xt_lt h))]
   split <;> simp [xt_zero]
theorem mul_one_all : ∀ b : Fin 256, mulF 8 1 b.val = b.val := by decide +kernel
theorem pw_lt : ∀ n, pw n < 256
 | 0 => by decide
 | n + 1 => xt_lt (pw_lt n)
def it : Nat → Nat → Nat
 | 0, a => a
 | n + 1, a => xt (it n a)
theorem it_one : ∀ n, it n 1 = pw n
 | 0 => rfl
 | n + 1 => by rw [it, it_one n, pw]
theorem it_lt : ∀ (n : Nat) {a : Nat}, a < 256 → it n a < 256
 | 0, _, h => h
 | n + 1, _, h => xt_lt (it_lt n h)
theorem it_add : ∀ (m n a : Nat), it (m + n) a = it m (it n a)
 | 0, n, a => by rw [Nat.zero_add]; rfl
 | m + 1, n, a => by rw [show m + 1 + n = (m + n) + 1 by omega, it, it, it_add m]
theorem pw_mul : ∀ (n : Nat) {b : Nat}, b < 256 → mulN (pw n) b = it n b
 | 0, b, h => mul_one_all ⟨b, h⟩
 | n + 1, b, h => by
   show mulF 8 (xt (pw n)) b = xt (it n b)
   rw [mulF_xt 8 b (pw_lt n)]
   exact congrArg xt (pw_mul n h)
theorem pw_add (m n : Nat) : mulN (pw m) (pw n) = pw (m + n) := by rw [pw_mul m (pw_lt n), ← it_one n, ← it_one (m + n), it_add]

def pwL : Nat → Nat → List Nat
 | 0, _ => []
 | n + 1, a => a :: pwL n (xt a)
theorem pwL_get : ∀ (n a i : Nat), i < n → (pwL n a)[i]? = some (it i a)
 | n + 1, a, 0, _ => rfl
 | n + 1, a, i + 1, h => by
   rw [pwL, List.getElem?_cons_succ, pwL_get n (xt a) i (by omega), show xt a = it 1 a from rfl, ← it_add]
theorem pwL_all : ∀ a : Fin 256, a.val = 0 ∨ a.val ∈ pwL 255 1 := by decide +kernel
theorem pwL_len : ∀ (n a : Nat), (pwL n a).length = n
 | 0, _ => rfl
 | n + 1, a => by rw [pwL, List.length_cons, pwL_len n]
theorem pw_some {a : Nat} (h : a < 256) (h0 : a ≠ 0) : ∃ i, i < 255 ∧ pw i = a := by
 rcases pwL_all ⟨a, h⟩ with e | e
 ·exact absurd e h0
 ·obtain ⟨i, hi⟩ := List.mem_iff_getElem?.1 e
  have hl : i < 255 := by have := (List.getElem?_eq_some_iff.1 hi).1; rwa [pwL_len] at this
  rw [pwL_get 255 1 i hl, it_one] at hi
  exact ⟨i, hl, Option.some.inj hi⟩
theorem pw_255 : pw 255 = 1 := by decide +kernel
theorem pw_wrap : ∀ (q r : Nat), pw (255 * q + r) = pw r
 | 0, r => by rw [Nat.mul_zero, Nat.zero_add]
 | q + 1, r => by
   rw [show 255 * (q + 1) + r = 255 + (255 * q + r) by omega, ← pw_add, pw_255, pw_wrap q r]
   exact mul_one_all ⟨_, pw_lt r⟩
theorem pw_mod (n : Nat) : pw (n % 255) = pw n := by
 have := pw_wrap (n / 255) (n % 255)
 rw [Nat.div_add_mod] at this
 exact this.symm
theorem pwL_nodup : (pwL 255 1).Nodup := by decide +kernel
theorem pw_inj {i j : Nat} (hi : i < 255) (hj : j < 255) (h : pw i = pw j) : i = j := by
 have a := pwL_get 255 1 i hi
 have b := pwL_get 255 1 j hj
 rw [it_one] at a b
 rw [h, ← b] at a
 exact (List.getElem?_inj (by rw [pwL_len]; exact hi) pwL_nodup).1 a

structure G where
 v : Nat
 lt : v < 256
theorem G.eq {a b : G} (h : a.v = b.v) : a = b := by cases a; cases b; cases h; rfl
instance : DecidableEq G := fun a b => if h : a.v = b.v then isTrue (G.eq h) else isFalse (fun e => h (by rw [e]))
instance : Add G := ⟨fun a b => ⟨a.v ^^^ b.v, xor_lt a.lt b.lt⟩⟩
instance : Mul G := ⟨fun a b => ⟨mulN a.v b.v, mulN_lt _ a.lt⟩⟩
instance : Inhabited G := ⟨⟨0, by decide⟩⟩
def g0 : G := ⟨0, by decide⟩
def g1 : G := ⟨1, by decide⟩
def gp (n : Nat) : G := ⟨pw n, pw_lt n⟩
theorem gadd_comm (a b : G) : a + b = b + a := G.eq (Nat.xor_comm _ _)
theorem gadd_zero (a : G) : a + g0 = a := G.eq (Nat.xor_zero _)
theorem gzero_add (a : G) : g0 + a = a := G.eq (Nat.zero_xor _)
theorem g_some {a : G} (h : a ≠ g0) : ∃ i, i < 255 ∧ gp i = a := by
 obtain ⟨i, hi, e⟩ := pw_some a.lt (fun e => h (G.eq e))
 exact ⟨i, hi, G.eq e⟩
theorem gp_add (m n : Nat) : gp m * gp n = gp (m + n) := G.eq (pw_add m n)
theorem gzero_mul (a : G) : g0 * a = g0 := G.eq (mulF_zero 8 _)
theorem gone_mul (a : G) : g1 * a = a := G.eq (mul_one_all ⟨a.v, a.lt⟩)
theorem mulF_right0 : ∀ n a, mulF n a 0 = 0
 | 0, _ => rfl
 | n + 1, a => by unfold mulF; rw [mulF_right0 n]; simp
theorem gmul_zero (a : G) : a * g0 = g0 := G.eq (mulF_right0 8 _)
theorem gmul_comm (a b : G) : a * b = b * a := by
 by_cases ha : a = g0
 ·subst ha; rw [gzero_mul, gmul_zero]
 by_cases hb : b = g0
 ·subst hb; rw [gzero_mul, gmul_zero]
 obtain ⟨i, -, rfl⟩ := g_some ha
 obtain ⟨j, -, rfl⟩ := g_some hb
 rw [gp_add, gp_add, Nat.add_comm]
theorem gmul_one (a : G) : a * g1 = a := by rw [gmul_comm, gone_mul]
theorem gp_mod (n : Nat) : gp (n % 255) = gp n := G.eq (pw_mod n)
def glog (a : G) : Nat := (List.range 255).findIdx (fun i => gp i == a)
theorem glog_spec {a : G} (h : a ≠ g0) : glog a < 255 ∧ gp (glog a) = a := by
 obtain ⟨i, hi, e⟩ := g_some h
 have hm : ∃ x ∈ List.range 255, (fun i => gp i == a) x = true := ⟨i, List.mem_range.2 hi, by simp [e]⟩
 have hl : List.findIdx (fun i => gp i == a) (List.range 255) < (List.range 255).length := List.findIdx_lt_length_of_exists hm
 have hg := List.findIdx_getElem (p := fun i => gp i == a) (xs := List.range 255) (w := hl)
 rw [List.getElem_range] at hg
 unfold glog
 rw [List.length_range] at hl
 exact ⟨hl, by simpa using hg⟩
def ginv (a : G) : G := gp ((255 - glog a) % 255)
theorem gmul_log {a b : G} (ha : a ≠ g0) (hb : b ≠ g0) : a * b = gp ((glog a + glog b) % 255) := by
 conv => lhs; rw [← (glog_spec ha).2, ← (glog_spec hb).2]
 rw [gp_mod, gp_add]
set_option maxRecDepth 100000
set_option maxHeartbeats 80000000

def gw (x : G) : Nat → G
 | 0 => g1
 | n + 1 => gw x n * x
def valF (s : G) : List G → G → G
 | [], _ => s
 | c :: r, x => valF (s * x + c) r x
def val (q : List G) (x : G) : G := valF g0 q x
def es : List (G × G) → (G → G) → G
 | [], _ => g0
 | (x, y) :: r, f => y * f x + es r f
def dsum : List G → (Nat → G) → Nat → G
 | [], _, _ => g0
 | c :: _, s, 0 => c * s 0
 | c :: r, s, t + 1 => c * s (t + 1) + dsum r s t
def later (s : Nat → G) : Nat → G
 | 0 => g0
 | t + 1 => s t
def pws (E : List (G × G)) (t : Nat) : G := es E (fun x => gw x t)
def timesR (q : List G) (r : G) : List G := List.zipWith (· + ·) (q ++ [g0]) (g0 :: q.map (· * r))
theorem timesR_len (q : List G) (r : G) : (timesR q r).length = q.length + 1 := by simp [timesR]
def rootsL (q : List G) : List G → List G
 | [] => q
 | r :: t => rootsL (timesR q r) t
def prodR (x : G) : List G → G
 | [] => g1
 | r :: t => (x + r) * prodR x t
theorem rootsL_len (rs : List G) : ∀ q : List G, (rootsL q rs).length = q.length + rs.length := by
 induction rs with
 | nil => intro q; rfl
 | cons r t ih => intro q; rw [rootsL, ih, timesR_len, List.length_cons]; omega
def rootP (rs : List G) : List G := rootsL [g1] rs
theorem rootP_len (rs : List G) : (rootP rs).length = rs.length + 1 := by rw [rootP, rootsL_len]; simp; omega
def horL (s r : G) : List G → List G
 | [] => []
 | c :: t => (s * r + c) :: horL (s * r + c) r t
theorem snoc_of {q : List G} (h : q ≠ []) : ∃ a c, q = a ++ [c] := ⟨q.dropLast, q.getLast h, (List.dropLast_concat_getLast h).symm⟩
set_option maxRecDepth 100000
set_option maxHeartbeats 80000000

def addLP : List G → List G → List G
 | [], b => b
 | a :: r, [] => a :: r
 | a :: r, b :: t => (a + b) :: addLP r t
structure Bm where
 now : List G
 bef : List G
 deg : Nat
def bmStep (s : Nat → G) (at_ : Nat) (m : Bm) : Bm :=
 if dsum m.now s at_ = g0 then ⟨m.now, g0 :: m.bef, m.deg⟩
 else if 2 * m.deg ≤ at_ then ⟨addLP m.now ((g0 :: m.bef).map (dsum m.now s at_ * ·)), m.now.map (ginv (dsum m.now s at_) * ·), at_ + 1 - m.deg⟩
 else ⟨addLP m.now ((g0 :: m.bef).map (dsum m.now s at_ * ·)), g0 :: m.bef, m.deg⟩
def bmL (s : Nat → G) : Nat → Bm
 | 0 => ⟨[g1], [g1], 0⟩
 | n + 1 => bmStep s n (bmL s n)
structure BmI (s : Nat → G) (e n : Nat) (m : Bm) : Prop where
 head : m.now.head? = some g1
 len : m.now.length ≤ m.deg + 1
 blen : m.bef.length + m.deg ≤ n + 1
 deg : m.deg ≤ n
 few : m.deg ≤ e
 gen : ∀ t, m.deg ≤ t → t < n → dsum m.now s t = g0
 bgen : m.deg = 0 ∨ (dsum (g0 :: m.bef) s n = g1 ∧ ∀ t, n + 1 - m.deg ≤ t → t < n → dsum (g0 :: m.bef) s t = g0)
end Go.Proofs.YtobcdkjomehdkaaGreat

namespace Go.Proofs.YtobcdkjomehdkaaGreat
open Go.RowKit
set_option linter.unusedSimpArgs false
set_option maxRecDepth 100000
set_option maxHeartbeats 80000000

theorem i64_xor_nat (a b : Nat) (ha : a < 1048576) (hb : b < 1048576) : bits .xor .i64 (a : Int) (b : Int) = ((a ^^^ b : Nat) : Int) := by
 have hx : a ^^^ b < 2 ^ 20 := Nat.xor_lt_two_pow (by omega) (by omega)
 have e : ∀ x : Nat, x < 1048576 → (BitVec.ofInt 64 (x : Int)).toNat = x := fun x h => by
  rw [BitVec.ofInt_natCast, BitVec.toNat_ofNat]; exact Nat.mod_eq_of_lt (by omega)
 show IntKind.i64.wrap ((BitVec.ofInt 64 (a : Int) ^^^ BitVec.ofInt 64 (b : Int)).toNat : Int) = _
 rw [BitVec.toNat_xor, e a ha, e b hb]
 exact IntWalk.i64_in _ (by omega)
theorem mulF_top : ∀ (k a b : Nat), mulF (k + 1) a b = mulF k a b ^^^ (if b / 2 ^ k % 2 = 1 then it k a else 0)
 | 0, a, b => by simp [mulF, it]
 | k + 1, a, b => by
   rw [mulF, mulF_top k, mulF, Nat.xor_assoc]
   congr 2
   have e : b / 2 / 2 ^ k = b / 2 ^ (k + 1) := by rw [Nat.div_div_eq_div_mul, Nat.pow_succ, Nat.mul_comm]
   have e2 : it k (xt a) = it (k + 1) a := by rw [show xt a = it 1 a from rfl, ← it_add]
   rw [e, e2]

theorem bit_test (b k : Nat) (hb : b < 256) : (bits .and .u8 ((b : Int) / 2 ^ k) 1 == 1) = decide (b / 2 ^ k % 2 = 1) := by
 have e : ((b : Int) / 2 ^ k) = ((b / 2 ^ k : Nat) : Int) := by rw [Int.natCast_ediv, Int.natCast_pow]; rfl
 have hlt : b / 2 ^ k < 256 := Nat.lt_of_le_of_lt (Nat.div_le_self _ _) hb
 rw [e, show (1 : Int) = ((1 : Nat) : Int) from rfl, u8_and_nat _ 1 hlt (by omega), Nat.and_one_is_mod]
 rw [Bool.eq_iff_iff]
 simp only [beq_iff_eq, decide_eq_true_eq]
 omega

theorem Mul_any (a b : Nat) (ha : a < 256) (hb : b < 256) (w : World) : Calls Tryz.prog 88 #[.int .u8 (a : Int), .int .u8 (b : Int)] w fun e w' => e = .returned (.int .u8 (mulN a b : Int)) ∧ w' = w := by
 go_enter Tryz.func88, Tryz.ntmps88
 go_wp2_with fail
 go_loop [5, 6, 10] (fun p s z => ∃ k : Nat, k ≤ 8 ∧ z = .int .i64 k ∧ p = .int .i64 (mulF k a b : Int) ∧ s = .int .i64 (it k a : Int)) (fun _ _ z => 8 - (intOf z).toNat)
 case atStart => exact ⟨0, by omega, rfl, rfl, rfl⟩
 case round =>
  obtain ⟨k, hk, rfl, rfl, rfl⟩ := hrel
  by_cases hlt : k < 8
  ·have HT := Lib.hid (mulF_top k a b)
   have hp := mulF_lt k b ha
   have hs := it_lt k ha
   have HS : Hid (it (k + 1) a = xt (it k a)) := Lib.hid rfl
   generalize mulF k a b = p at hp HT ⊢
   generalize it k a = s at hs HT HS ⊢
   have x1 := i64_xor_nat p s (by omega) (by omega)
   have x2 : bits .xor .i64 ((s : Int) * 2) 285 = ((2 * s ^^^ 285 : Nat) : Int) := by
    have := i64_xor_nat (2 * s) 285 (by omega) (by omega)
    rw [show ((s : Int) * 2) = ((2 * s : Nat) : Int) by omega]; exact this
   have hbt := bit_test b k hb
   by_cases hbit : b / 2 ^ k % 2 = 1
   all_goals
    first | rw [decide_eq_true hbit] at hbt | rw [decide_eq_false hbit] at hbt
    first | rw [if_pos hbit] at HT | rw [if_neg hbit] at HT
    by_cases h2 : 255 < 2 * s
    all_goals
     have hs2 : Hid (xt s = if 255 < 2 * s then 2 * s ^^^ 285 else 2 * s) := Lib.hid rfl
     first | rw [if_pos h2] at hs2 | rw [if_neg h2] at hs2
     clear hbit
     go_wp2_with fail
     go_round
     case rel => exact ⟨k + 1, by omega, by go_num, by rw [HT.out]; first | done | rfl | simp, by rw [HS.out, hs2.out]; first | done | rfl | go_num | exact vint8 (by omega)⟩
     case measure => simp [intOf] <;> omega
  ·obtain rfl : k = 8 := by omega
   have hp := mulF_lt 8 b ha
   have HP : Hid (mulN a b = mulF 8 a b) := Lib.hid rfl
   generalize mulF 8 a b = p at hp HP ⊢
   go_wp2_with fail
   go_ret
   exact ⟨by rw [HP.out]; first | rfl | (congr 1), rfl⟩

set_option maxRecDepth 100000
set_option maxHeartbeats 80000000

set_option maxRecDepth 1000000 in
theorem zero_tables : Tryz.zeroCells172 = Array.replicate 255 (.int .u8 0) ++ Array.replicate 256 (.int .i64 0) := by kernel_rfl
def TabB (cs : Array Value) (k : Nat) : Prop := cs.size = 511 ∧ (∀ i, i < k → cs[i]? = some (.int .u8 (pw i : Int))) ∧ ∀ i, i < k → cs[255 + pw i]? = some (.int .i64 (i : Int))
theorem TabB.next {cs : Array Value} {k : Nat} (h : TabB cs k) (hk : k < 255) : TabB ((cs.setIfInBounds k (.int .u8 (pw k : Int))).setIfInBounds (255 + pw k) (.int .i64 (k : Int))) (k + 1) := by
 obtain ⟨h1, h2, h3⟩ := h
 have hp := pw_lt k
 refine ⟨by simp [h1], fun i hi => ?_, fun i hi => ?_⟩
 ·rw [Array.getElem?_setIfInBounds_ne (by omega)]
  by_cases e : i = k
  ·subst e; rw [Array.getElem?_setIfInBounds_self_of_lt (by omega)]
  ·rw [Array.getElem?_setIfInBounds_ne (by omega)]; exact h2 i (by omega)
 ·by_cases e : i = k
  ·subst e; rw [Array.getElem?_setIfInBounds_self_of_lt (by simp [h1]; omega)]
  ·have hne : pw i ≠ pw k := fun h => e (pw_inj (by omega) hk h)
   rw [Array.getElem?_setIfInBounds_ne (by omega), Array.getElem?_setIfInBounds_ne (by omega)]; exact h3 i (by omega)
def Tabs (T : Nat) (w : World) : Prop := (∀ i, i < 255 → w.cell? ⟨T, i, none⟩ = some (.int .u8 ((gp i).v : Int))) ∧ ∀ a : G, a ≠ g0 → w.cell? ⟨T, 255 + a.v, none⟩ = some (.int .i64 (glog a : Int))
theorem Tabs.keep {T : Nat} {w w' : World} (h : Tabs T w) (hg : Gr w w') : Tabs T w' := ⟨fun i hi => hg.keep (h.1 i hi), fun a ha => hg.keep (h.2 a ha)⟩
theorem Tabs.of {T : Nat} {t : TypeId} {w : World} {cs : Array Value} (hb : Blk w T t cs) (h : TabB cs 255) : Tabs T w := by
 obtain ⟨h1, h2, h3⟩ := h
 refine ⟨fun i hi => by rw [hb.cell]; exact h2 i hi, fun a ha => ?_⟩
 obtain ⟨h4, h5⟩ := glog_spec ha
 have := h3 _ h4
 rw [show pw (glog a) = a.v from congrArg G.v h5] at this
 rw [hb.cell]; exact this

theorem newTables_any (w : World) : Calls Tryz.prog 68 #[] w fun e w' => ∃ T, e = .returned (.pointer (some ⟨T, 0, none⟩)) ∧ w.heap.size ≤ T ∧ Tabs T w' ∧ Gr w w' := by
 obtain ⟨S, hS⟩ : ∃ S, w.heap.size = S := ⟨_, rfl⟩
 have hblk : Blk (w.alloc (.cells Tryz.zeroCells172 172)) S 172 Tryz.zeroCells172 := Blk.new _ _ _ hS
 have htab : TabB Tryz.zeroCells172 0 := ⟨by rw [zero_tables]; simp, fun i hi => absurd hi (by omega), fun i hi => absurd hi (by omega)⟩
 have hg0 : Gr w (w.alloc (.cells Tryz.zeroCells172 172)) := (Gr.refl w).alloc _
 have HB := Lib.hid hblk
 have HT := Lib.hid htab
 clear hblk htab
 subst hS
 go_enter Tryz.func68, Tryz.ntmps68
 go_wp2_with fail
 generalize hW0 : World.alloc w _ = W0 at HB hg0
 have HG0 := Lib.hid hg0
 clear hg0 hW0
 go_loopw [2, 6] (fun el z wr => ∃ (k : Nat) (cs : Array Value), k ≤ 255 ∧ z = .int .i64 k ∧ el = .int .u8 (pw k : Int) ∧ Hid (Blk wr w.heap.size 172 cs) ∧ Hid (TabB cs k) ∧ Hid (Gb w.heap.size W0 wr)) (fun _ z _ => 255 - (intOf z).toNat)
 case atStart => exact ⟨0, _, Nat.zero_le _, rfl, rfl, HB, HT, Lib.hid (Gb.refl _ _)⟩
 case round =>
  obtain ⟨k, cs, hk, rfl, rfl, hB, hT, hG⟩ := hrel
  by_cases hlt : k < 255
  ·have hp := pw_lt k
   have HM : Hid (mulN (pw k) 2 = pw (k + 1)) := Lib.hid (pw_add k 1)
   have HN := Lib.hid (hT.out.next hlt)
   have hsz := hT.out.1
   obtain ⟨v1, e1⟩ : ∃ v, cs[k]? = some v := ⟨_, Array.getElem?_eq_getElem (by omega)⟩
   obtain ⟨v2, e2⟩ : ∃ v, cs[255 + pw k]? = some v := ⟨_, Array.getElem?_eq_getElem (by omega)⟩
   have c1 := (hB.out.cell k).trans e1
   have c2 := (hB.out.cell (255 + pw k)).trans e2
   have f1 := hB.out.free k
   have f2 := hB.out.free (255 + pw k)
   have HB2 := Lib.hid ((hB.out.put k (.int .u8 (pw k : Int))).put (255 + pw k) (.int .i64 (k : Int)))
   have HG2 := Lib.hid ((hG.out.put k (.int .u8 (pw k : Int))).put (255 + pw k) (.int .i64 (k : Int)))
   clear hsz e1 e2
   generalize pw k = p at hp HM HN c2 f2 HB2 HG2 ⊢
   go_wp2_with fail
   refine (Mul_any p 2 hp (by omega) _).mono ?_
   rintro e w1 ⟨rfl, rfl⟩
   rw [HM.out]
   go_wp2_with fail
   go_roundw
   case rel => exact ⟨k + 1, _, by omega, by go_num, rfl, HB2, HN, HG2⟩
   case measure => simp [intOf] <;> omega
  ·obtain rfl : k = 255 := by omega
   go_wp2_with fail
   go_ret
   exact ⟨_, rfl, Nat.le_refl _, Tabs.of hB.out hT.out, hG.out.gr HG0.out (Nat.le_refl _)⟩

end Go.Proofs.YtobcdkjomehdkaaGreat
