/- Through the layers: jobs that share one window of time. Plain mathematics. -/
import Derived.Test.YtobcdkjomehdkaaGreatBu38
import Derived.Test.YtobcdkjomehdkaaGreatBu23
import Derived.Test.YtobcdkjomehdkaaGreatBu42
namespace Go.Proofs.YtobcdkjomehdkaaGreat
set_option linter.unusedSimpArgs false
set_option maxRecDepth 100000
set_option maxHeartbeats 80000000

def WinJ (d : Nat) (l : List Jb) : Prop := ∀ j ∈ l, j.1 = 0 ∧ j.2.1 = (d : Int) ∧ 1 ≤ j.2.2
def wkS (l : List Jb) : Int := lsum (fun j => j.2.2) l
theorem jbA_mem {l : List Jb} {j : Nat} (hj : j < l.length) : jbA l j ∈ l := by
 unfold jbA; rw [List.getD_eq_getElem?_getD, List.getElem?_eq_getElem hj]; exact List.getElem_mem hj
theorem wkS_take {l : List Jb} {j : Nat} (hj : j < l.length) : wkS (l.take (j + 1)) = wkS (l.take j) + (jbA l j).2.2 := by
 unfold wkS jbA
 rw [List.take_add_one, lsum_app, List.getElem?_eq_getElem hj, List.getD_eq_getElem?_getD, List.getElem?_eq_getElem hj]
 simp [lsum]
def winF (l : List Jb) (j _s : Nat) : Nat := (jbA l j).2.2.toNat
def winG (d : Nat) (hd : 1 ≤ d) : Grid where
 K := 1
 at_ := fun _ => 0
 ln := fun _ => d
 pos := fun _ _ => hd
 up := fun s t h1 h2 => by omega
theorem upto_win {d : Nat} {l : List Jb} (h : WinJ d l) (s : Nat) : ∀ j, j ≤ l.length → ((upto (winF l) s j : Nat) : Int) = wkS (l.take j)
 | 0, _ => by simp [upto, wkS, lsum]
 | j + 1, hj => by
   have h1 := upto_win h s j (by omega)
   have h2 := (h _ (jbA_mem (l := l) (j := j) (by omega))).2.2
   rw [wkS_take (by omega)]
   simp only [upto, winF]
   omega
theorem win_sched {d n : Nat} {l : List Jb} (hd : 1 ≤ d) (h : WinJ d l) (hN : l.length ≤ 32) (hn : n ≤ 8) (hle : ∀ j ∈ l, j.2.2 ≤ (d : Int)) (hs : wkS l ≤ (n : Int) * d) : ∃ s, SchedP n l s := by
 refine full_sched (G := winG d hd) (f := winF l) (by show 1 ≤ 64; omega) hN hn ?_ ?_ ?_ ?_
 ·intro j s hj _ _
  have h2 := h _ (jbA_mem hj)
  show (jbA l j).1 ≤ 0 ∧ (0 : Int) + (d : Nat) ≤ (jbA l j).2.1
  omega
 ·intro j s hj _
  have h2 := hle _ (jbA_mem hj)
  show (jbA l j).2.2.toNat ≤ d
  omega
 ·intro s _
  have h1 := upto_win h s l.length (Nat.le_refl _)
  rw [List.take_length] at h1
  show upto (winF l) s l.length ≤ n * d
  have : ((n * d : Nat) : Int) = (n : Int) * d := by rw [Int.natCast_mul]
  omega
 ·intro j hj
  have h2 := (h _ (jbA_mem hj)).2.2
  show smN (fun s => (winF l j s : Int)) 1 = _
  simp only [smN, winF]
  omega
theorem win_jobs {d : Nat} {l : List Jb} (hd : 1 ≤ d) (hb : d ≤ 1048576) (h : WinJ d l) : ∀ j ∈ l, 0 ≤ j.1 ∧ j.1 < j.2.1 ∧ j.2.1 ≤ 1048576 := fun j hj => by
 have := h j hj; omega
theorem win_sum {d n : Nat} {l : List Jb} (hd : 1 ≤ d) (hb : d ≤ 1048576) (h : WinJ d l) (hs : ∃ s, SchedP n l s) : wkS l ≤ (n : Int) * d := by
 obtain ⟨s, hs⟩ := hs
 refine Int.not_lt.1 fun hlt => ?_
 have hsum : ∀ (m : List Jb) , lsum (fun j : Int => (jbA m j.toNat).2.2) ((List.range m.length).map fun i : Nat => (i : Int)) = wkS m := by
  intro m
  rw [lsum_map]
  have : ∀ k, k ≤ m.length → lsum (fun i : Nat => (jbA m (Int.toNat (i : Int))).2.2) (List.range k) = wkS (m.take k) := by
   intro k
   induction k with
   | zero => intro _; simp [wkS, lsum]
   | succ k ih =>
     intro hk
     rw [List.range_succ, lsum_app, ih (by omega), wkS_take (by omega)]
     simp [lsum]
  have h2 := this m.length (Nat.le_refl _)
  rwa [List.take_length] at h2
 refine dual (win_jobs hd hb h) hs (J := (List.range l.length).map fun i : Nat => (i : Int)) (S := [(0, (d : Int))]) ⟨by simp, ⟨?_, by simp⟩, ?_, ?_, ?_⟩
 ·intro p hp
  obtain rfl := List.mem_singleton.1 hp
  show (0 : Int) ≤ 0 ∧ (0 : Int) < d ∧ (d : Int) ≤ 1048576
  omega
 ·intro j hj
  obtain ⟨i, hi, rfl⟩ := List.mem_map.1 hj
  rw [List.mem_range] at hi
  omega
 ·rw [List.pairwise_map]
  exact List.pairwise_lt_range.imp fun h => by omega
 ·rw [hsum l]
  have e : lsum (fun j : Int => besS [(0, (d : Int))] (jbA l j.toNat)) ((List.range l.length).map fun i : Nat => (i : Int)) = 0 := by
   rw [lsum_map, lsum_congr (g := fun _ => 0), lsum_zero]
   intro i hi
   rw [List.mem_range] at hi
   have := h _ (jbA_mem hi)
   simp only [besS, lsum, Int.toNat_natCast, ovr]
   omega
  rw [e]
  simp only [roomS, lsum]
  have : (n : Int) * ((d : Int) - 0) = n * d := by rw [Int.sub_zero]
  omega
def wantN (sum d : Int) (large : Bool) : Int := if large = true ∨ 8 < max 1 ((sum + d - 1) / d) then 0 else max 1 ((sum + d - 1) / d)
set_option maxRecDepth 100000
set_option maxHeartbeats 80000000

def jbH (d : Nat) (ys : List Int) : List Jb := ys.map (fun y => (0, (d : Int), y))
theorem jbH_len (d : Nat) (ys : List Int) : (jbH d ys).length = ys.length := by unfold jbH; simp
theorem jbH_app (d : Nat) (ys : List Int) (y : Int) : jbH d (ys ++ [y]) = jbH d ys ++ [(0, (d : Int), y)] := by unfold jbH; rw [List.map_append]; rfl
theorem jbH_wk (d : Nat) : ∀ (ys : List Int), wkS (jbH d ys) = ys.sum
 | [] => by simp [jbH, wkS, lsum]
 | y :: r => by
   have ih := jbH_wk d r
   rw [List.sum_cons, ← ih]
   simp [jbH, wkS, lsum]
structure HrsOk (n d : Nat) (ys : List Int) : Prop where
 n1 : 1 ≤ n ∧ n ≤ 8
 d1 : 1 ≤ d ∧ d ≤ 30
 len : ys.length ≤ 12
 y1 : ∀ y ∈ ys, 1 ≤ y ∧ y ≤ (d : Int)
theorem HrsOk.win {n d : Nat} {ys : List Int} (h : HrsOk n d ys) : WinJ d (jbH d ys) := fun j hj => by
 obtain ⟨y, hy, rfl⟩ := List.mem_map.1 hj
 exact ⟨rfl, rfl, (h.y1 y hy).1⟩
theorem HrsOk.okT {n d : Nat} {ys : List Int} (h : HrsOk n d ys) : okT (n : Int) (jbH d ys) = true := by
 have h1 := h.n1
 have h2 := h.d1
 have h3 := h.len
 unfold Go.Proofs.YtobcdkjomehdkaaGreat.okT
 rw [jbH_len]
 have : (jbH d ys).all okJ = true := by
  rw [List.all_eq_true]
  intro j hj
  obtain ⟨y, hy, rfl⟩ := List.mem_map.1 hj
  have := h.y1 y hy
  unfold okJ
  simp
  omega
 rw [this]
 simp
 omega
theorem hours_plan {n d : Nat} {ys : List Int} (h : HrsOk n d ys) {w w' : World} {e : Ending} (hp : PlanP (n : Int) (jbH d ys) w e w') :
 ∃ (p : Bool) (A : Option Addr) (k c : Nat) (v2 v3 : Value), e = .returned (.tuple #[.agg #[.bool p, .slice A k c, v2, v3], .int .i64 0]) ∧ (∃ n2 n3 c2 c3 A2 A3, v2 = .slice A2 n2 c2 ∧ v3 = .slice A3 n3 c3) ∧ (p = true ↔ ys.sum ≤ (n : Int) * d) ∧ Gr w w' := by
 have h1 := h.n1
 have h2 := h.d1
 rcases hp with ⟨hno, -⟩ | ⟨-, v, rfl, hp⟩
 ·rw [h.okT] at hno; cases hno
 rw [Int.toNat_natCast] at hp
 rcases hp with ⟨A, k, c, s, e, -, -, h3, -, hg⟩ | ⟨JA, jc, SA, sc, J, S, e, -, -, h3, -, hg⟩
 ·injection e with e
  subst e
  refine ⟨true, A, k, c, _, _, rfl, ⟨_, _, _, _, _, _, rfl, rfl⟩, ⟨fun _ => ?_, fun _ => rfl⟩, hg⟩
  have := win_sum h2.1 (by omega) h.win ⟨s, h3⟩
  rw [jbH_wk] at this
  exact this
 ·injection e with e
  subst e
  refine ⟨false, none, 0, 0, _, _, rfl, ⟨_, _, _, _, _, _, rfl, rfl⟩, ⟨fun e => (by cases e), fun hs => ?_⟩, hg⟩
  exfalso
  obtain ⟨s, hs⟩ := win_sched h2.1 h.win (by rw [jbH_len]; have := h.len; omega) h1.2 (fun j hj => by
   obtain ⟨y, hy, rfl⟩ := List.mem_map.1 hj
   exact (h.y1 y hy).2) (by rw [jbH_wk]; exact hs)
  exact dual (win_jobs h2.1 (by omega) h.win) hs h3
def mvH (ys : List Int) : List (List Mv) := ys.map (fun y => mv2 1 y)
theorem mvH_app (ys : List Int) (y : Int) : mvH (ys ++ [y]) = mvH ys ++ [mv2 1 y] := by unfold mvH; rw [List.map_append]; rfl
theorem mvH_sum (f : Int → Int) (ys : List Int) : sumF f (mvH ys) 0 = (ys.map (fun y => f (-y))).sum ∧ sumF f (mvH ys) 1 = (ys.map f).sum := by
 have h1 : ∀ y : Int, chg (mv2 1 y) 0 = -y := fun y => (chg_mv2 (by decide)).1
 have h2 : ∀ y : Int, chg (mv2 1 y) 1 = y := fun y => (chg_mv2 (by decide)).2.1
 rw [sumF_all, sumF_all]
 unfold mvH
 rw [List.map_map, List.map_map]
 refine ⟨?_, ?_⟩
 ·congr 1
  exact List.map_congr_left (fun y _ => by simp only [Function.comp, h1])
 ·congr 1
  exact List.map_congr_left (fun y _ => by simp only [Function.comp, h2])
theorem sum_neg : ∀ (ys : List Int), (ys.map (fun y => -y)).sum = - ys.sum
 | [] => rfl
 | y :: r => by rw [List.map_cons, List.sum_cons, List.sum_cons, sum_neg r]; omega
theorem sum_no {ys : List Int} {f : Int → Int} (h : ∀ y ∈ ys, f y = 0) : (ys.map f).sum = 0 := by
 induction ys with
 | nil => rfl
 | cons y r ih => rw [List.map_cons, List.sum_cons, h y List.mem_cons_self, ih (fun x hx => h x (List.mem_cons_of_mem _ hx))]; rfl
theorem sum_eq {ys : List Int} {f g : Int → Int} (h : ∀ y ∈ ys, f y = g y) : (ys.map f).sum = (ys.map g).sum := by
 rw [List.map_congr_left h]
theorem sum_up {ys : List Int} {d : Int} (h : ∀ y ∈ ys, 1 ≤ y ∧ y ≤ d) : 0 ≤ ys.sum ∧ ys.sum ≤ ys.length * d := by
 induction ys with
 | nil => simp
 | cons y r ih =>
   have h1 := h y List.mem_cons_self
   have h2 := ih (fun x hx => h x (List.mem_cons_of_mem _ hx))
   have e : ((y :: r).length : Int) * d = d + (r.length : Int) * d := by
    rw [List.length_cons, Int.natCast_add, Int.add_mul]
    omega
   rw [List.sum_cons, e]
   omega
theorem HrsOk.fits {n d : Nat} {ys : List Int} (h : HrsOk n d ys) (hF : ys.sum ≤ (n : Int) * d) : ∀ k : Nat, k < ([(n : Int) * d, 0] : List Int).length → 0 ≤ ([(n : Int) * d, 0] : List Int).getD k 0 + sumF negP (mvH ys) (k : Int) ∧ ([(n : Int) * d, 0] : List Int).getD k 0 + sumF posP (mvH ys) (k : Int) ≤ 1099511627776 := by
 have hs := sum_up h.y1
 have h1 := h.n1
 have h2 := h.d1
 have h3 := h.len
 have hnd : (n : Int) * d ≤ 8 * 30 := Int.mul_le_mul (by omega) (by omega) (by omega) (by omega)
 have hnd0 : 0 ≤ (n : Int) * d := Int.mul_nonneg (by omega) (by omega)
 have hld : (ys.length : Int) * d ≤ 12 * 30 := Int.mul_le_mul (by omega) (by omega) (by omega) (by omega)
 obtain ⟨a0, a1⟩ := mvH_sum negP ys
 obtain ⟨b0, b1⟩ := mvH_sum posP ys
 have n0 : (ys.map (fun y => negP (-y))).sum = - ys.sum := by
  rw [← sum_neg]
  exact sum_eq (fun y hy => by have := h.y1 y hy; unfold negP; rw [if_pos (by omega)])
 have n1 : (ys.map negP).sum = 0 := sum_no (fun y hy => by have := h.y1 y hy; unfold negP; rw [if_neg (by omega)])
 have p0 : (ys.map (fun y => posP (-y))).sum = 0 := sum_no (fun y hy => by have := h.y1 y hy; unfold posP; rw [if_pos (by omega)])
 have p1 : (ys.map posP).sum = ys.sum := by
  have := sum_eq (f := posP) (g := id) (fun y hy => by have := h.y1 y hy; unfold posP; rw [if_neg (by omega)]; rfl)
  rw [this]; simp
 intro k hk
 match k, hk with
 | 0, _ =>
   show 0 ≤ (n : Int) * d + sumF negP (mvH ys) 0 ∧ (n : Int) * d + sumF posP (mvH ys) 0 ≤ _
   rw [a0, b0, n0, p0]
   omega
 | 1, _ =>
   show 0 ≤ 0 + sumF negP (mvH ys) 1 ∧ 0 + sumF posP (mvH ys) 1 ≤ _
   rw [a1, b1, n1, p1]
   omega
def bkN (N : Nx) (i : Nat) : Nat := ((List.range i).filter (fun (j : Nat) => (atN N ((j : Int) + 1) 0).kp)).length
theorem bkN_succ (N : Nx) (i : Nat) : bkN N (i + 1) = bkN N i + if (atN N ((i : Int) + 1) 0).kp then 1 else 0 := by
 unfold bkN
 rw [List.range_succ, List.filter_append, List.length_append]
 congr 1
 by_cases h : (atN N ((i : Int) + 1) 0).kp = true
 ·simp [h]
 ·simp [h]
theorem bkN_le (N : Nx) (i : Nat) : bkN N i ≤ i := by
 unfold bkN
 have := List.length_filter_le (fun (j : Nat) => (atN N ((j : Int) + 1) 0).kp) (List.range i)
 simpa using this
theorem bkN_all {N : Nx} : ∀ {i : Nat}, bkN N i = i ↔ ∀ j : Nat, j < i → (atN N ((j : Int) + 1) 0).kp = true
 | 0 => ⟨fun _ j hj => by omega, fun _ => rfl⟩
 | i + 1 => by
   have ih := bkN_all (N := N) (i := i)
   have hle := bkN_le N i
   rw [bkN_succ]
   refine ⟨fun h j hj => ?_, fun h => ?_⟩
   ·by_cases hk : (atN N ((i : Int) + 1) 0).kp = true
    ·rw [if_pos hk] at h
     by_cases e : j = i
     ·rw [e]; exact hk
     ·exact ih.1 (by omega) j (by omega)
    ·rw [if_neg hk] at h; omega
   ·rw [if_pos (h i (by omega)), ih.2 (fun j hj => h j (by omega))]
theorem part_mvH {ys : List Int} {t : Int} (h1 : 1 ≤ t) (h2 : t ≤ (ys.length : Int)) : isP (paA (mvH ys) t) 0 ∧ isP (paA (mvH ys) t) 1 := by
 have e : ∃ y, paA (mvH ys) t = mv2 1 y := by
  have hl : t.toNat - 1 < ys.length := by omega
  refine ⟨ys[t.toNat - 1], ?_⟩
  unfold paA mvH
  rw [List.getD_eq_getElem?_getD, List.getElem?_map, List.getElem?_eq_getElem hl]
  rfl
 obtain ⟨y, hy⟩ := e
 rw [hy]
 exact ⟨⟨-y, by simp [mv2]⟩, ⟨y, by simp [mv2]⟩⟩
theorem hours_end {n d : Nat} {ys : List Int} (_h : HrsOk n d ys) {N : Nx} (hN : N.sites.length = 2) (hs : SlN (nzN N) [(n : Int) * d, 0] (mvH ys) (ys.sum ≤ (n : Int) * d)) (hm : (nzN N).mail = []) :
 (bkN (nzN N) ys.length = ys.length ↔ ys.sum ≤ (n : Int) * d) ∧ refS N 1 = 0 ∧ stockN N 1 ≤ (n : Int) * d ∧ 0 ≤ stockN N 1 ∧ (ys.sum ≤ (n : Int) * d → stockN N 1 = ys.sum) := by
 have hc := hs.cm
 have hlen := hc.len
 have hml : (mvH ys).length = ys.length := by unfold mvH; simp
 have hN2 : (nzN N).sites.length = 2 := by rw [nz_len]; exact hN
 have s0 : (nzN N).sites[0]? = some ((nzN N).sites[0]'(by omega)) := List.getElem?_eq_getElem _
 have s1 : (nzN N).sites[1]? = some ((nzN N).sites[1]'(by omega)) := List.getElem?_eq_getElem _
 generalize (nzN N).sites[0]'_ = z0 at s0
 generalize (nzN N).sites[1]'_ = z1 at s1
 have hr : refS N 1 = 0 := by unfold refS; rw [if_neg (by omega), if_neg (by omega)]
 have hst : stockN N 1 = z1.stock := by
  rw [← stockN_nz]
  unfold stockN
  rw [refS_nz, hr, show (1 : Int).toNat = 1 from rfl, s1]
  rfl
 have o0 := (hc.ok.site 0 z0 s0).1.stock
 have o1 := (hc.ok.site 1 z1 s1).1.stock
 have hsum := hc.sum hm
 have hss : (nzN N).sites = [z0, z1] := by
  refine List.ext_getElem? (fun k => ?_)
  match k with
  | 0 => rw [s0]; rfl
  | 1 => rw [s1]; rfl
  | k + 2 => rw [List.getElem?_eq_none (by omega)]; rfl
 rw [hss] at hsum
 simp only [List.map_cons, List.map_nil, List.sum_cons, List.sum_nil] at hsum
 have k0 := hc.stk.2 0 z0 s0
 have k1 := hc.stk.2 1 z1 s1
 have hbe : (nzN N).begun.toNat = (mvH ys).length := by omega
 rw [hbe] at k0 k1
 refine ⟨⟨fun hb => ?_, fun hF => ?_⟩, hr, by rw [hst]; omega, by rw [hst]; omega, fun hF => ?_⟩
 ·have hall := bkN_all.1 hb
  have e := kpS_all (N := nzN N) (all := mvH ys) (i := 0) (fun t h1 h2 _ => by
   have := hall (t.toNat - 1) (by omega)
   rw [show ((t.toNat - 1 : Nat) : Int) + 1 = t by omega] at this
   exact this)
  rw [show ((0 : Nat) : Int) = 0 from rfl, e, (mvH_sum id ys).1] at k0
  have e2 : (ys.map (fun y => id (-y))).sum = - ys.sum := sum_neg ys
  rw [e2] at k0
  have e3 : ([(n : Int) * d, 0] : List Int).getD 0 0 = (n : Int) * d := rfl
  omega
 ·refine bkN_all.2 (fun j hj => ?_)
  exact hs.kept hF hm (by omega) (by omega) (part_mvH (by omega) (by omega)).1
 ·have e := kpS_all (N := nzN N) (all := mvH ys) (i := 1) (fun t h1 h2 hp => hs.kept hF hm h1 (by omega) hp)
  rw [show ((1 : Nat) : Int) = 1 from rfl, e, (mvH_sum id ys).2] at k1
  have e3 : ([(n : Int) * d, 0] : List Int).getD 1 0 = 0 := rfl
  rw [hst, k1, e3]
  simp

end Go.Proofs.YtobcdkjomehdkaaGreat
