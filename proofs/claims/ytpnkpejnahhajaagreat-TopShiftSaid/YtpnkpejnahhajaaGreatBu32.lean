/- Through the layers: jobs that share one window of time. Plain mathematics.
Layer 2: tables of numbers; the least that a bound's number may be. -/
import Derived.Test.YtpnkpejnahhajaaGreatBu13
import Derived.Test.YtpnkpejnahhajaaGreatBu15
import Derived.Test.YtpnkpejnahhajaaGreatBu4
namespace Go.Proofs.YtpnkpejnahhajaaGreat

/-- All jobs share the window from 0 to d. -/
def WinJ (d : Nat) (l : List Jb) : Prop := ∀ j ∈ l, j.1 = 0 ∧ j.2.1 = (d : Int) ∧ 1 ≤ j.2.2
def wkS (l : List Jb) : Int := lsum (fun j => j.2.2) l
theorem jbA_mem {l : List Jb} {j : Nat} (hj : j < l.length) : jbA l j ∈ l := by
  unfold jbA; rw [List.getD_eq_getElem?_getD, List.getElem?_eq_getElem hj]; exact List.getElem_mem hj
theorem wkS_take {l : List Jb} {j : Nat} (hj : j < l.length) : wkS (l.take (j + 1)) = wkS (l.take j) + (jbA l j).2.2 := by
  unfold wkS jbA
  rw [List.take_add_one, lsum_app, List.getElem?_eq_getElem hj, List.getD_eq_getElem?_getD, List.getElem?_eq_getElem hj]
  simp [lsum]
def winF (l : List Jb) (j _s : Nat) : Nat := (jbA l j).2.2.toNat
def winG (d : Nat) (hd : 1 ≤ d) : Grid where
  K := 1
  at_ := fun _ => 0
  ln := fun _ => d
  pos := fun _ _ => hd
  up := fun s t h1 h2 => by omega
theorem upto_win {d : Nat} {l : List Jb} (h : WinJ d l) (s : Nat) : ∀ j, j ≤ l.length → ((upto (winF l) s j : Nat) : Int) = wkS (l.take j)
  | 0, _ => by simp [upto, wkS, lsum]
  | j + 1, hj => by
    have h1 := upto_win h s j (by omega)
    have h2 := (h _ (jbA_mem (l := l) (j := j) (by omega))).2.2
    rw [wkS_take (by omega)]
    simp only [upto, winF]
    omega
theorem win_sched {d n : Nat} {l : List Jb} (hd : 1 ≤ d) (h : WinJ d l) (hN : l.length ≤ 32) (hn : n ≤ 8) (hle : ∀ j ∈ l, j.2.2 ≤ (d : Int)) (hs : wkS l ≤ (n : Int) * d) : ∃ s, SchedP n l s := by
  refine full_sched (G := winG d hd) (f := winF l) (by show 1 ≤ 64; omega) hN hn ?_ ?_ ?_ ?_
  · intro j s hj _ _
    have h2 := h _ (jbA_mem hj)
    show (jbA l j).1 ≤ 0 ∧ (0 : Int) + (d : Nat) ≤ (jbA l j).2.1
    omega
  · intro j s hj _
    have h2 := hle _ (jbA_mem hj)
    show (jbA l j).2.2.toNat ≤ d
    omega
  · intro s _
    have h1 := upto_win h s l.length (Nat.le_refl _)
    rw [List.take_length] at h1
    show upto (winF l) s l.length ≤ n * d
    have : ((n * d : Nat) : Int) = (n : Int) * d := by rw [Int.natCast_mul]
    omega
  · intro j hj
    have h2 := (h _ (jbA_mem hj)).2.2
    show smN (fun s => (winF l j s : Int)) 1 = _
    simp only [smN, winF]
    omega
theorem win_jobs {d : Nat} {l : List Jb} (hd : 1 ≤ d) (hb : d ≤ 1048576) (h : WinJ d l) : ∀ j ∈ l, 0 ≤ j.1 ∧ j.1 < j.2.1 ∧ j.2.1 ≤ 1048576 := fun j hj => by
  have := h j hj; omega
/-- A job that is larger than the window has no schedule. -/
theorem win_large {d n : Nat} {l : List Jb} (hd : 1 ≤ d) (hb : d ≤ 1048576) (h : WinJ d l) {k : Jb} (hk : k ∈ l) (hl : (d : Int) < k.2.2) : ¬ ∃ s, SchedP n l s := by
  rintro ⟨s, hs⟩
  obtain ⟨i, hi, e⟩ := List.getElem_of_mem hk
  have e2 : jbA l i = k := by unfold jbA; rw [List.getD_eq_getElem?_getD, List.getElem?_eq_getElem hi]; exact e
  refine dual (win_jobs hd hb h) hs (J := [(i : Int)]) (S := []) ⟨by simp, ⟨by simp, List.Pairwise.nil⟩, ?_, by simp, ?_⟩
  · intro j hj
    obtain rfl := List.mem_singleton.1 hj
    omega
  · have := h k hk
    simp only [roomS, lsum, besS, Int.toNat_natCast, e2]
    omega
/-- All work fits the benches. -/
theorem win_sum {d n : Nat} {l : List Jb} (hd : 1 ≤ d) (hb : d ≤ 1048576) (h : WinJ d l) (hs : ∃ s, SchedP n l s) : wkS l ≤ (n : Int) * d := by
  obtain ⟨s, hs⟩ := hs
  refine Int.not_lt.1 fun hlt => ?_
  have hsum : ∀ (m : List Jb) , lsum (fun j : Int => (jbA m j.toNat).2.2) ((List.range m.length).map fun i : Nat => (i : Int)) = wkS m := by
    intro m
    rw [lsum_map]
    have : ∀ k, k ≤ m.length → lsum (fun i : Nat => (jbA m (Int.toNat (i : Int))).2.2) (List.range k) = wkS (m.take k) := by
      intro k
      induction k with
      | zero => intro _; simp [wkS, lsum]
      | succ k ih =>
        intro hk
        rw [List.range_succ, lsum_app, ih (by omega), wkS_take (by omega)]
        simp [lsum]
    have h2 := this m.length (Nat.le_refl _)
    rwa [List.take_length] at h2
  refine dual (win_jobs hd hb h) hs (J := (List.range l.length).map fun i : Nat => (i : Int)) (S := [(0, (d : Int))]) ⟨by simp, ⟨?_, by simp⟩, ?_, ?_, ?_⟩
  · intro p hp
    obtain rfl := List.mem_singleton.1 hp
    show (0 : Int) ≤ 0 ∧ (0 : Int) < d ∧ (d : Int) ≤ 1048576
    omega
  · intro j hj
    obtain ⟨i, hi, rfl⟩ := List.mem_map.1 hj
    rw [List.mem_range] at hi
    omega
  · rw [List.pairwise_map]
    exact List.pairwise_lt_range.imp fun h => by omega
  · rw [hsum l]
    have e : lsum (fun j : Int => besS [(0, (d : Int))] (jbA l j.toNat)) ((List.range l.length).map fun i : Nat => (i : Int)) = 0 := by
      rw [lsum_map, lsum_congr (g := fun _ => 0), lsum_zero]
      intro i hi
      rw [List.mem_range] at hi
      have := h _ (jbA_mem hi)
      simp only [besS, lsum, Int.toNat_natCast, ovr]
      omega
    rw [e]
    simp only [roomS, lsum]
    have : (n : Int) * ((d : Int) - 0) = n * d := by rw [Int.sub_zero]
    omega
/-- How many benches are enough: the least number, or none. -/
def wantN (sum d : Int) (large : Bool) : Int := if large = true ∨ 8 < max 1 ((sum + d - 1) / d) then 0 else max 1 ((sum + d - 1) / d)
theorem win_few {d r : Nat} {l : List Jb} {large : Bool} (hd : 1 ≤ d) (hb : d ≤ 1048576) (h : WinJ d l) (hN : l.length ≤ 32) (hlg : large = true ↔ ∃ j ∈ l, (d : Int) < j.2.2)
    (h8 : r ≤ 8) (h0 : r = 0 → ∀ B : Nat, 1 ≤ B → B ≤ 8 → ¬ ∃ s, SchedP B l s) (h1 : 1 ≤ r → (∃ s, SchedP r l s) ∧ ∀ B : Nat, 1 ≤ B → B < r → ¬ ∃ s, SchedP B l s) : (r : Int) = wantN (wkS l) d large := by
  have hw0 : 0 ≤ wkS l := lsum_nonneg l fun j hj => by have := h j hj; omega
  have key : ∀ B : Nat, ((wkS l + d - 1) / (d : Int) ≤ B ↔ wkS l ≤ (B : Int) * d) := by
    intro B
    have hd' : (0 : Int) < d := by omega
    rw [← Int.lt_add_one_iff, Int.ediv_lt_iff_lt_mul hd', Int.add_mul]
    omega
  unfold wantN
  cases hl : large with
  | true =>
    rw [if_pos (Or.inl rfl)]
    obtain ⟨j, hj, hlt⟩ := hlg.1 hl
    rcases Nat.eq_zero_or_pos r with e | e
    · omega
    · exact absurd (h1 e).1 (win_large hd hb h hj hlt)
  | false =>
    have hle : ∀ j ∈ l, j.2.2 ≤ (d : Int) := fun j hj => by
      refine Int.not_lt.1 fun hlt => ?_
      have := hlg.2 ⟨j, hj, hlt⟩
      rw [hl] at this; cases this
    have hyes : ∀ B : Nat, B ≤ 8 → wkS l ≤ (B : Int) * d → ∃ s, SchedP B l s := fun B hB hs => win_sched hd h hN hB hle hs
    generalize hq : (wkS l + d - 1) / (d : Int) = q at *
    by_cases hc : 8 < max 1 q
    · rw [if_pos (Or.inr hc)]
      rcases Nat.eq_zero_or_pos r with e | e
      · omega
      · have := win_sum hd hb h (h1 e).1
        have := (key r).2 this
        omega
    · rw [if_neg (by simp; omega)]
      have hm : ∃ m : Nat, (m : Int) = max 1 q := ⟨(max 1 q).toNat, by omega⟩
      obtain ⟨m, hm⟩ := hm
      rw [← hm]
      have hm8 : m ≤ 8 := by omega
      have hm1 : 1 ≤ m := by omega
      have hs := hyes m hm8 ((key m).1 (by omega))
      rcases Nat.eq_zero_or_pos r with e | e
      · exact absurd hs (h0 e m hm1 hm8)
      · rcases Nat.lt_trichotomy r m with c | c | c
        · have := (key r).2 (win_sum hd hb h (h1 e).1)
          omega
        · rw [c]
        · exact absurd hs ((h1 e).2 m hm1 c)

end Go.Proofs.YtpnkpejnahhajaaGreat

namespace Go.Proofs.YtpnkpejnahhajaaGreat
open Go.RowKit
set_option linter.unusedSimpArgs false

/-- A slice of slices of numbers reads as a table. -/
def RdRows (w : World) (A : Option Addr) (tb : List (List Int)) : Prop :=
  ∀ i row, tb[i]? = some row → ∃ b off Ai ci, A = some ⟨b, off, none⟩ ∧ w.cell? ⟨b, off + i, none⟩ = some (.slice Ai row.length ci) ∧ Ints w Ai row
theorem RdRows.keep {w w' : World} {A : Option Addr} {tb : List (List Int)} (h : RdRows w A tb) (hg : Gr w w') : RdRows w' A tb := fun i row hr => by
  obtain ⟨b, off, Ai, ci, e, hc, hI⟩ := h i row hr
  exact ⟨b, off, Ai, ci, e, hg.keep hc, hI.keep hg⟩
def at2 (tb : List (List Int)) (w h : Nat) : Int := (tb.getD w []).getD h 0
def numB (n : Int) : Bool := decide (0 ≤ n) && decide (n ≤ 1099511627776)
/-- The right lengths, and numbers that are small. -/
def Frm (W H : Nat) (tb : List (List Int)) : Prop := tb.length = W + 1 ∧ ∀ w, w ≤ W → (tb.getD w []).length = H + 1 ∧ ∀ h, h ≤ H → 0 ≤ at2 tb w h ∧ at2 tb w h ≤ 1099511627776
theorem RdRows.at {w : World} {A : Option Addr} {tb : List (List Int)} {W H : Nat} (h : RdRows w A tb) (hF : Frm W H tb) {i k : Nat} (hi : i ≤ W) (hk : k ≤ H) :
    ∃ b off b' off' c', A = some ⟨b, off, none⟩ ∧ w.cell? ⟨b, off + i, none⟩ = some (.slice (some ⟨b', off', none⟩) (H + 1) c') ∧ w.cell? ⟨b', off' + k, none⟩ = some (.int .i64 (at2 tb i k)) := by
  obtain ⟨h1, h2⟩ := hF
  obtain ⟨h3, -⟩ := h2 i hi
  obtain ⟨b, off, Ai, ci, e, hc, hI⟩ := h i _ (getD_of [] (by omega : i < tb.length))
  obtain ⟨b', off', e', hc'⟩ := Ints_at hI (i := k) (by omega)
  subst e'
  rw [h3] at hc
  exact ⟨b, off, b', off', ci, e, hc, hc'⟩
theorem RdRows.row {w : World} {A : Option Addr} {tb : List (List Int)} {W H : Nat} (h : RdRows w A tb) (hF : Frm W H tb) {b off b' off' c' : Nat} {i : Nat} (hi : i ≤ W) (hA : A = some ⟨b, off, none⟩) (hc : w.cell? ⟨b, off + i, none⟩ = some (.slice (some ⟨b', off', none⟩) (H + 1) c')) {k : Nat} (hk : k ≤ H) :
    w.cell? ⟨b', off' + k, none⟩ = some (.int .i64 (at2 tb i k)) := by
  obtain ⟨b2, off2, b3, off3, c3, e, h1, h2⟩ := h.at hF hi hk
  rw [hA] at e
  obtain ⟨rfl, rfl⟩ : b = b2 ∧ off = off2 := by simpa using e
  rw [hc] at h1
  obtain ⟨⟨rfl, rfl⟩, -⟩ : (b' = b3 ∧ off' = off3) ∧ c' = c3 := by simpa using h1
  exact h2

theorem cutT_end {f : Nat → Int} {s k : Nat} (h1 : 1 ≤ k) (h2 : 2 * (k - 1) ≤ s) (h3 : s < 2 * k) : cutT f s k = cutT f s s := by
  by_cases e : k ≤ s
  · exact cutT_half f s k e h3
  · obtain rfl : k = 1 := by omega
    have hs : s = 0 := by omega
    subst hs; rfl
theorem blT_bd {bs : List Bl} (hb : ∀ b ∈ bs, blB b = true) (w h : Int) (k : Nat) (hk : k ≤ bs.length) : 0 ≤ blT bs w h k ∧ blT bs w h k ≤ 1048576 :=
  ⟨blT_nonneg bs w h k, blT_le bs w h (by omega) k (fun i hi _ => ((blB_iff _).1 (hb _ (bl_mem (by omega)))).2.2.2)⟩
end Go.Proofs.YtpnkpejnahhajaaGreat
