/- Plain mathematics of layer 2: tasks, plans, tables of greatest worth. Nothing of the program. -/
import Derived.Test.YtobcdkjomehdkaaGreatBu0
namespace Go.Proofs.YtobcdkjomehdkaaGreat
set_option linter.unusedSimpArgs false
set_option maxRecDepth 100000
set_option maxHeartbeats 80000000

abbrev Bl := Int × Int × Int
abbrev St := Int × Int
def sideB (n : Int) : Bool := decide (1 ≤ n) && decide (n ≤ 48)
def blB (b : Bl) : Bool := sideB b.1 && (sideB b.2.1 && (decide (0 ≤ b.2.2) && decide (b.2.2 ≤ 1048576)))
theorem blB_iff (b : Bl) : blB b = true ↔ (1 ≤ b.1 ∧ b.1 ≤ 48) ∧ (1 ≤ b.2.1 ∧ b.2.1 ≤ 48) ∧ 0 ≤ b.2.2 ∧ b.2.2 ≤ 1048576 := by simp [blB, sideB]
def taskB (w h : Int) (bs : List Bl) : Bool := sideB w && (sideB h && (decide (bs.length ≤ 16) && bs.all blB))
theorem taskB_iff (w h : Int) (bs : List Bl) : taskB w h bs = true ↔ (1 ≤ w ∧ w ≤ 48) ∧ (1 ≤ h ∧ h ≤ 48) ∧ bs.length ≤ 16 ∧ ∀ b ∈ bs, blB b = true := by simp [taskB, sideB]
def fitsB (b : Bl) (w h : Int) : Bool := decide (b.1 ≤ w) && decide (b.2.1 ≤ h)
def bl (bs : List Bl) (i : Nat) : Bl := bs.getD i (0, 0, 0)

def two2 (a : Option (List Bl × List St)) (k : List St → Option (List Bl × List St)) : Option (List Bl × List St) :=
 match a with
 | none => none
 | some (m, r) => match k r with
   | none => none
   | some (m', r') => some (m ++ m', r')

def rd (bs : List Bl) : Nat → Int → Int → List St → Option (List Bl × List St)
 | 0, _, _, _ => none
 | _ + 1, _, _, [] => none
 | n + 1, w, h, s :: r =>
   if s.1 = 0 then (if s.2 = 0 then some ([], r) else none)
   else if s.1 = 1 then (if 0 ≤ s.2 ∧ s.2 < bs.length ∧ fitsB (bl bs s.2.toNat) w h = true then some ([bl bs s.2.toNat], r) else none)
   else if s.1 = 2 then (if 1 ≤ s.2 ∧ s.2 < w then two2 (rd bs n s.2 h r) (fun r' => rd bs n (w - s.2) h r') else none)
   else if s.1 = 3 then (if 1 ≤ s.2 ∧ s.2 < h then two2 (rd bs n w s.2 r) (fun r' => rd bs n w (h - s.2) r') else none)
   else none

theorem two2_some {a : Option (List Bl × List St)} {k : List St → Option (List Bl × List St)} {m : List Bl} {r : List St} (h : two2 a k = some (m, r)) :
 ∃ m1 r1 m2, a = some (m1, r1) ∧ k r1 = some (m2, r) ∧ m = m1 ++ m2 := by
 unfold two2 at h
 split at h
 ·cases h
 ·rename_i m1 r1
  split at h
  ·cases h
  ·rename_i m2 r2 hk
   injection h with h
   injection h with h1 h2
   subst h2
   exact ⟨m1, r1, m2, rfl, hk, h1.symm⟩

theorem rd_end (bs : List Bl) : ∀ (n : Nat) (w h : Int) (p : List St) (m : List Bl) (r : List St), rd bs n w h p = some (m, r) → ∃ q, p = q ++ r ∧ 1 ≤ q.length
 | 0, _, _, _, _, _, h => by simp [rd] at h
 | _ + 1, _, _, [], _, _, h => by simp [rd] at h
 | n + 1, w, h, s :: t, m, r, e => by
   have ih := rd_end bs n
   unfold rd at e
   split at e
   ·split at e
    ·injection e with e; injection e with e1 e2; subst e2; exact ⟨[s], rfl, by simp⟩
    ·cases e
   ·split at e
    ·split at e
     ·injection e with e; injection e with e1 e2; subst e2; exact ⟨[s], rfl, by simp⟩
     ·cases e
    ·split at e
     ·split at e
      ·obtain ⟨m1, r1, m2, h1, h2, -⟩ := two2_some e
       obtain ⟨q1, rfl, -⟩ := ih _ _ _ _ _ h1
       obtain ⟨q2, rfl, -⟩ := ih _ _ _ _ _ h2
       exact ⟨s :: (q1 ++ q2), by simp, by simp⟩
      ·cases e
     ·split at e
      ·split at e
       ·obtain ⟨m1, r1, m2, h1, h2, -⟩ := two2_some e
        obtain ⟨q1, rfl, -⟩ := ih _ _ _ _ _ h1
        obtain ⟨q2, rfl, -⟩ := ih _ _ _ _ _ h2
        exact ⟨s :: (q1 ++ q2), by simp, by simp⟩
       ·cases e
      ·cases e

theorem two2_congr {a a' : Option (List Bl × List St)} {k k' : List St → Option (List Bl × List St)} (ha : a = a') (hk : ∀ m r, a = some (m, r) → k r = k' r) : two2 a k = two2 a' k' := by
 subst ha
 unfold two2
 cases a with
 | none => rfl
 | some x => obtain ⟨m, r⟩ := x; dsimp only; rw [hk m r rfl]

theorem rd_fuel (bs : List Bl) : ∀ (n n' : Nat) (w h : Int) (p : List St), p.length ≤ n → p.length ≤ n' → rd bs n w h p = rd bs n' w h p
 | 0, 0, _, _, _, _, _ => rfl
 | 0, n' + 1, w, h, p, h1, _ => by
   obtain rfl : p = [] := List.eq_nil_of_length_eq_zero (by omega)
   simp [rd]
 | n + 1, 0, w, h, p, _, h2 => by
   obtain rfl : p = [] := List.eq_nil_of_length_eq_zero (by omega)
   simp [rd]
 | n + 1, n' + 1, w, h, [], _, _ => by simp [rd]
 | n + 1, n' + 1, w, h, s :: t, h1, h2 => by
   have l1 : t.length ≤ n := by simpa using h1
   have l2 : t.length ≤ n' := by simpa using h2
   have ih := fun w h p (a : p.length ≤ n) (b : p.length ≤ n') => rd_fuel bs n n' w h p a b
   have short : ∀ {w h m r}, rd bs n w h t = some (m, r) → r.length ≤ t.length := fun {w h m r} e => by
    obtain ⟨q, rfl, -⟩ := rd_end bs n _ _ _ _ _ e
    simp
   unfold rd
   split
   ·rfl
   ·split
    ·rfl
    ·split
     ·split
      ·exact two2_congr (ih _ _ _ l1 l2) (fun m r e => ih _ _ _ (by have := short e; omega) (by have := short e; omega))
      ·rfl
     ·split
      ·split
       ·exact two2_congr (ih _ _ _ l1 l2) (fun m r e => ih _ _ _ (by have := short e; omega) (by have := short e; omega))
       ·rfl
      ·rfl

def rdP (bs : List Bl) (w h : Int) (p : List St) : Option (List Bl × List St) := rd bs p.length w h p
theorem rd_rdP (bs : List Bl) {n : Nat} (w h : Int) {p : List St} (hp : p.length ≤ n) : rd bs n w h p = rdP bs w h p := rd_fuel bs n _ w h p hp (Nat.le_refl _)
theorem rdP_nil (bs : List Bl) (w h : Int) : rdP bs w h [] = none := rfl
theorem rdP_cons (bs : List Bl) (w h : Int) (s : St) (r : List St) : rdP bs w h (s :: r) =
 if s.1 = 0 then (if s.2 = 0 then some ([], r) else none)
 else if s.1 = 1 then (if 0 ≤ s.2 ∧ s.2 < bs.length ∧ fitsB (bl bs s.2.toNat) w h = true then some ([bl bs s.2.toNat], r) else none)
 else if s.1 = 2 then (if 1 ≤ s.2 ∧ s.2 < w then two2 (rdP bs s.2 h r) (rdP bs (w - s.2) h) else none)
 else if s.1 = 3 then (if 1 ≤ s.2 ∧ s.2 < h then two2 (rdP bs w s.2 r) (rdP bs w (h - s.2)) else none)
 else none := by
 have short : ∀ {w h m r'}, rd bs r.length w h r = some (m, r') → r'.length ≤ r.length := fun {w h m r'} e => by
  obtain ⟨q, h1, -⟩ := rd_end bs _ _ _ _ _ _ e
  have := congrArg List.length h1
  simp at this; omega
 show rd bs (r.length + 1) w h (s :: r) = _
 rw [rd]
 split
 ·rfl
 ·split
  ·rfl
  ·split
   ·split
    ·exact two2_congr rfl (fun m r' e => rd_rdP bs _ _ (short e))
    ·rfl
   ·split
    ·split
     ·exact two2_congr rfl (fun m r' e => rd_rdP bs _ _ (short e))
     ·rfl
    ·rfl

def sumV : List Bl → Int
 | [] => 0
 | b :: r => b.2.2 + sumV r
def sumA : List Bl → Int
 | [] => 0
 | b :: r => b.1 * b.2.1 + sumA r
theorem sumV_app (a b : List Bl) : sumV (a ++ b) = sumV a + sumV b := by induction a with
 | nil => simp [sumV]
 | cons x r ih => simp only [List.cons_append, sumV, ih]; omega
theorem sumA_app (a b : List Bl) : sumA (a ++ b) = sumA a + sumA b := by induction a with
 | nil => simp [sumA]
 | cons x r ih => simp only [List.cons_append, sumA, ih]; omega

theorem bl_mem {bs : List Bl} {i : Nat} (h : i < bs.length) : bl bs i ∈ bs := by
 unfold bl; rw [List.getD_eq_getElem?_getD, List.getElem?_eq_getElem h]; exact List.getElem_mem h

theorem rdP_made (bs : List Bl) : ∀ (n : Nat) (w h : Int) (p : List St) (m : List Bl) (r : List St), p.length ≤ n → rdP bs w h p = some (m, r) → (∀ b ∈ m, b ∈ bs) ∧ m.length + r.length ≤ p.length
 | 0, w, h, p, m, r, hn, e => by
   obtain rfl : p = [] := List.eq_nil_of_length_eq_zero (by omega)
   cases e
 | n + 1, w, h, [], m, r, hn, e => by cases e
 | n + 1, w, h, s :: t, m, r, hn, e => by
   have ht : t.length ≤ n := by simpa using hn
   have ih := fun w h p m r (a : p.length ≤ n) => rdP_made bs n w h p m r a
   have both : ∀ {w1 h1 w2 h2 : Int}, two2 (rdP bs w1 h1 t) (rdP bs w2 h2) = some (m, r) → (∀ b ∈ m, b ∈ bs) ∧ m.length + r.length ≤ t.length := fun {w1 h1 w2 h2} e => by
    obtain ⟨m1, r1, m2, h1, h2, rfl⟩ := two2_some e
    obtain ⟨a1, a2⟩ := ih _ _ _ _ _ ht h1
    obtain ⟨b1, b2⟩ := ih _ _ _ _ _ (by omega) h2
    refine ⟨fun b hb => ?_, by rw [List.length_append]; omega⟩
    rcases List.mem_append.1 hb with h | h
    ·exact a1 b h
    ·exact b1 b h
   rw [rdP_cons] at e
   split at e
   ·split at e
    ·injection e with e; injection e with e1 e2; subst e1; subst e2; simp
    ·cases e
   ·split at e
    ·split at e
     ·rename_i hc
      injection e with e; injection e with e1 e2; subst e1; subst e2
      refine ⟨fun b hb => ?_, by simp; omega⟩
      obtain rfl : b = _ := List.mem_singleton.1 hb
      exact bl_mem (by omega)
     ·cases e
    ·split at e
     ·split at e
      ·have := both e; exact ⟨this.1, by simp; omega⟩
      ·cases e
     ·split at e
      ·split at e
       ·have := both e; exact ⟨this.1, by simp; omega⟩
       ·cases e
      ·cases e

theorem sum_bd {bs m : List Bl} (hb : ∀ b ∈ bs, blB b = true) (hm : ∀ b ∈ m, b ∈ bs) : (0 ≤ sumV m ∧ sumV m ≤ 1048576 * m.length) ∧ (0 ≤ sumA m ∧ sumA m ≤ 2304 * m.length) := by
 induction m with
 | nil => simp [sumV, sumA]
 | cons b r ih =>
   have h1 := ih (fun x hx => hm x (List.mem_cons_of_mem _ hx))
   obtain ⟨w1, h2, v1, v2⟩ := (blB_iff b).1 (hb b (hm b (List.mem_cons_self ..)))
   have p1 : b.1 * b.2.1 ≤ 48 * 48 := Int.le_trans (Int.mul_le_mul_of_nonneg_right w1.2 (by omega)) (Int.mul_le_mul_of_nonneg_left h2.2 (by omega))
   have p2 : 0 ≤ b.1 * b.2.1 := Int.mul_nonneg (by omega) (by omega)
   simp only [sumV, sumA, List.length_cons]
   omega


/-! Tables. -/
def blT (bs : List Bl) (w h : Int) : Nat → Int
 | 0 => 0
 | k + 1 => if fitsB (bl bs k) w h = true then max (blT bs w h k) (bl bs k).2.2 else blT bs w h k
def cutT (f : Nat → Int) (s : Nat) : Nat → Int
 | 0 => 0
 | 1 => 0
 | k + 2 => max (cutT f s (k + 1)) (f (k + 1) + f (s - (k + 1)))

theorem cutT_nonneg (f : Nat → Int) (s : Nat) : ∀ k, 0 ≤ cutT f s k
 | 0 => Int.le_refl _
 | 1 => Int.le_refl _
 | k + 2 => by have := cutT_nonneg f s (k + 1); simp only [cutT]; omega
theorem cutT_ge (f : Nat → Int) (s : Nat) : ∀ k x, 1 ≤ x → x < k → f x + f (s - x) ≤ cutT f s k
 | 0, x, _, h => by omega
 | 1, x, _, h => by omega
 | k + 2, x, h1, h => by
   simp only [cutT]
   by_cases e : x = k + 1
   ·subst e; omega
   ·have := cutT_ge f s (k + 1) x h1 (by omega); omega
theorem cutT_le (f : Nat → Int) (s : Nat) {b : Int} (h0 : 0 ≤ b) : ∀ k, (∀ x, 1 ≤ x → x < k → f x + f (s - x) ≤ b) → cutT f s k ≤ b
 | 0, _ => h0
 | 1, _ => h0
 | k + 2, h => by
   have h1 := cutT_le f s h0 (k + 1) (fun x a b => h x a (by omega))
   have h2 := h (k + 1) (by omega) (by omega)
   simp only [cutT]; omega
theorem cutT_step (f : Nat → Int) (s k : Nat) (h : 1 ≤ k) : cutT f s (k + 1) = max (cutT f s k) (f k + f (s - k)) := by
 obtain ⟨j, rfl⟩ : ∃ j, k = j + 1 := ⟨k - 1, by omega⟩
 rfl
theorem cutT_half (f : Nat → Int) (s k : Nat) (h1 : k ≤ s) (h2 : s < 2 * k) : cutT f s k = cutT f s s := by
 apply Int.le_antisymm
 ·exact cutT_le f s (cutT_nonneg f s s) k (fun x a b => cutT_ge f s s x a (by omega))
 ·refine cutT_le f s (cutT_nonneg f s k) s (fun x a b => ?_)
  by_cases e : x < k
  ·exact cutT_ge f s k x a e
  ·have := cutT_ge f s k (s - x) (by omega) (by omega)
   rw [show s - (s - x) = x by omega] at this
   omega
theorem cutT_congr {f g : Nat → Int} {s : Nat} (h : ∀ x, 1 ≤ x → x < s → f x = g x) : ∀ k, k ≤ s → cutT f s k = cutT g s k
 | 0, _ => rfl
 | 1, _ => rfl
 | k + 2, hk => by
   simp only [cutT]
   rw [cutT_congr h (k + 1) (by omega), h (k + 1) (by omega) (by omega), h (s - (k + 1)) (by omega) (by omega)]
theorem blT_nonneg (bs : List Bl) (w h : Int) : ∀ k, 0 ≤ blT bs w h k
 | 0 => Int.le_refl _
 | k + 1 => by have := blT_nonneg bs w h k; simp only [blT]; split <;> omega
theorem blT_le (bs : List Bl) (w h : Int) {b : Int} (h0 : 0 ≤ b) : ∀ k, (∀ i, i < k → fitsB (bl bs i) w h = true → (bl bs i).2.2 ≤ b) → blT bs w h k ≤ b
 | 0, _ => h0
 | k + 1, hk => by
   have h1 := blT_le bs w h h0 k (fun i a => hk i (by omega))
   simp only [blT]
   split
   ·have := hk k (by omega) (by assumption); omega
   ·exact h1

def needT (bs : List Bl) (T : Nat → Nat → Int) (w h : Nat) : Int :=
 max (max (blT bs w h bs.length) (cutT (fun x => T x h) w w)) (cutT (fun y => T w y) h h)

def mstF (bs : List Bl) : Nat → Nat → Nat → Int
 | 0, _, _ => 0
 | n + 1, w, h => if w = 0 ∨ h = 0 then 0 else needT bs (mstF bs n) w h
def mst (bs : List Bl) (w h : Nat) : Int := mstF bs (w + h) w h
theorem mstF_fuel (bs : List Bl) : ∀ n n' w h : Nat, w + h ≤ n → w + h ≤ n' → mstF bs n w h = mstF bs n' w h
 | 0, 0, _, _, _, _ => rfl
 | 0, n' + 1, w, h, h1, _ => by simp only [mstF]; rw [if_pos (by omega)]
 | n + 1, 0, w, h, _, h2 => by simp only [mstF]; rw [if_pos (by omega)]
 | n + 1, n' + 1, w, h, h1, h2 => by
   simp only [mstF]
   split
   ·rfl
   ·unfold needT
    rw [cutT_congr (f := fun x => mstF bs n x h) (g := fun x => mstF bs n' x h) (fun x a b => mstF_fuel bs n n' x h (by omega) (by omega)) w (Nat.le_refl _),
     cutT_congr (f := fun y => mstF bs n w y) (g := fun y => mstF bs n' w y) (fun y a b => mstF_fuel bs n n' w y (by omega) (by omega)) h (Nat.le_refl _)]
theorem mst_zero (bs : List Bl) {w h : Nat} (e : w = 0 ∨ h = 0) : mst bs w h = 0 := by
 unfold mst
 generalize w + h = n
 cases n with
 | zero => rfl
 | succ n => simp only [mstF]; rw [if_pos e]
theorem mst_eq (bs : List Bl) {w h : Nat} (hw : 1 ≤ w) (hh : 1 ≤ h) : mst bs w h = needT bs (mst bs) w h := by
 unfold mst
 obtain ⟨n, hn⟩ : ∃ n, w + h = n + 1 := ⟨w + h - 1, by omega⟩
 rw [hn]
 simp only [mstF]
 rw [if_neg (by omega)]
 unfold needT
 rw [cutT_congr (f := fun x => mstF bs n x h) (g := fun x => mstF bs (x + h) x h) (fun x a b => mstF_fuel bs n _ x h (by omega) (Nat.le_refl _)) w (Nat.le_refl _),
  cutT_congr (f := fun y => mstF bs n w y) (g := fun y => mstF bs (w + y) w y) (fun y a b => mstF_fuel bs n _ w y (by omega) (Nat.le_refl _)) h (Nat.le_refl _)]
theorem mst_nonneg (bs : List Bl) (w h : Nat) : 0 ≤ mst bs w h := by
 by_cases e : w = 0 ∨ h = 0
 ·rw [mst_zero bs e]; exact Int.le_refl _
 ·rw [mst_eq bs (by omega) (by omega)]
  have := blT_nonneg bs w h bs.length
  unfold needT; omega
theorem mst_le {bs : List Bl} (hb : ∀ b ∈ bs, blB b = true) : ∀ n w h : Nat, w + h ≤ n → mst bs w h ≤ 1048576 * ((w * h : Nat) : Int)
 | 0, w, h, hn => by rw [mst_zero bs (by omega)]; exact Int.mul_nonneg (by omega) (by omega)
 | n + 1, w, h, hn => by
   by_cases e : w = 0 ∨ h = 0
   ·rw [mst_zero bs e]; exact Int.mul_nonneg (by omega) (by omega)
   ·rw [mst_eq bs (by omega) (by omega)]
    have hpos : 1 ≤ w * h := Nat.mul_pos (by omega) (by omega)
    have h0 : (0 : Int) ≤ 1048576 * ((w * h : Nat) : Int) := Int.mul_nonneg (by omega) (by omega)
    unfold needT
    have c1 := blT_le bs w h h0 bs.length (fun i hi _ => by
     have := ((blB_iff _).1 (hb _ (bl_mem hi))).2.2.2
     omega)
    have c2 := cutT_le (fun x => mst bs x h) w h0 w (fun x a b => by
     have h1 := mst_le hb n x h (by omega)
     have h2 := mst_le hb n (w - x) h (by omega)
     have h3 : x * h + (w - x) * h = w * h := by rw [← Nat.add_mul]; congr 1; omega
     omega)
    have c3 := cutT_le (fun y => mst bs w y) h h0 h (fun y a b => by
     have h1 := mst_le hb n w y (by omega)
     have h2 := mst_le hb n w (h - y) (by omega)
     have h3 : w * y + w * (h - y) = w * h := by rw [← Nat.mul_add]; congr 1; omega
     omega)
    omega
theorem mst_bd {bs : List Bl} (hb : ∀ b ∈ bs, blB b = true) {w h : Nat} (hw : w ≤ 48) (hh : h ≤ 48) : 0 ≤ mst bs w h ∧ mst bs w h ≤ 2415919104 := by
 have h1 := mst_le hb _ w h (Nat.le_refl _)
 have h2 : w * h ≤ 48 * 48 := Nat.mul_le_mul hw hh
 exact ⟨mst_nonneg bs w h, by omega⟩

def BoundF (bs : List Bl) (T : Nat → Nat → Int) (W H : Nat) : Prop := ∀ w h : Nat, w ≤ W → h ≤ H → needT bs T w h ≤ T w h
inductive Makes (bs : List Bl) : Nat → Nat → List St → List Bl → Prop
 | waste (w h : Nat) : Makes bs w h [(0, 0)] []
 | make (w h i : Nat) : i < bs.length → fitsB (bl bs i) w h = true → Makes bs w h [(1, (i : Int))] [bl bs i]
 | across (w h x : Nat) (P Q : List St) (m n : List Bl) : 1 ≤ x → x < w → Makes bs x h P m → Makes bs (w - x) h Q n → Makes bs w h ((2, (x : Int)) :: (P ++ Q)) (m ++ n)
 | along (w h y : Nat) (P Q : List St) (m n : List Bl) : 1 ≤ y → y < h → Makes bs w y P m → Makes bs w (h - y) Q n → Makes bs w h ((3, (y : Int)) :: (P ++ Q)) (m ++ n)
theorem Makes.rd {bs : List Bl} {w h : Nat} {P : List St} {m : List Bl} (k : Makes bs w h P m) : ∀ r, rdP bs w h (P ++ r) = some (m, r) := by
 induction k with
 | waste w h => intro r; rw [List.cons_append, rdP_cons]; simp
 | make w h i hi hf => intro r; rw [List.cons_append, rdP_cons]; simp [hi, hf]
 | across w h x P Q m n h1 h2 _ _ ih1 ih2 =>
   intro r
   rw [List.cons_append, rdP_cons, List.append_assoc]
   simp only [show ((2 : Int) = 0) = False by simp, show ((2 : Int) = 1) = False by simp, if_false, if_true]
   rw [if_pos (by omega), ih1 (Q ++ r)]
   unfold two2
   dsimp only
   rw [show ((w : Int) - (x : Int)) = ((w - x : Nat) : Int) by omega, ih2 r]
 | along w h y P Q m n h1 h2 _ _ ih1 ih2 =>
   intro r
   rw [List.cons_append, rdP_cons, List.append_assoc]
   simp only [show ((3 : Int) = 0) = False by simp, show ((3 : Int) = 1) = False by simp, show ((3 : Int) = 2) = False by simp, if_false, if_true]
   rw [if_pos (by omega), ih1 (Q ++ r)]
   unfold two2
   dsimp only
   rw [show ((h : Int) - (y : Int)) = ((h - y : Nat) : Int) by omega, ih2 r]
theorem Makes.len {bs : List Bl} {w h : Nat} {P : List St} {m : List Bl} (k : Makes bs w h P m) : 1 ≤ w → 1 ≤ h → P.length + 1 ≤ 2 * (w * h) := by
 induction k with
 | waste w h => intro a b; have : 1 ≤ w * h := Nat.mul_pos a b; simp; omega
 | make w h i _ _ => intro a b; have : 1 ≤ w * h := Nat.mul_pos a b; simp; omega
 | across w h x P Q m n h1 h2 _ _ ih1 ih2 =>
   intro a b
   have e1 := ih1 h1 b
   have e2 := ih2 (by omega) b
   have h3 : x * h + (w - x) * h = w * h := by rw [← Nat.add_mul]; congr 1; omega
   simp; omega
 | along w h y P Q m n h1 h2 _ _ ih1 ih2 =>
   intro a b
   have e1 := ih1 a h1
   have e2 := ih2 a (by omega)
   have h3 : w * y + w * (h - y) = w * h := by rw [← Nat.mul_add]; congr 1; omega
   simp; omega

def goodS (bs : List Bl) (T : Nat → Nat → Int) (w h : Nat) (v : Int) (s : St) : Prop :=
 (s = (0, 0) ∧ v = 0) ∨ (∃ i : Nat, i < bs.length ∧ fitsB (bl bs i) w h = true ∧ s = (1, (i : Int)) ∧ v = (bl bs i).2.2 ∧ blT bs w h i < v) ∨
 (∃ x : Nat, 1 ≤ x ∧ x < w ∧ s = (2, (x : Int)) ∧ v = T x h + T (w - x) h ∧ max (blT bs w h bs.length) (cutT (fun x => T x h) w x) < v) ∨
 (∃ y : Nat, 1 ≤ y ∧ y < h ∧ s = (3, (y : Int)) ∧ v = T w y + T w (h - y) ∧ max (max (blT bs w h bs.length) (cutT (fun x => T x h) w w)) (cutT (fun y => T w y) h y) < v)
inductive PlanOf (bs : List Bl) : Nat → Nat → List St → Prop
 | leaf (x y : Nat) (s : St) : goodS bs (mst bs) x y (mst bs x y) s → (s.1 = 0 ∨ s.1 = 1) → PlanOf bs x y [s]
 | across (x y a : Nat) (P Q : List St) : goodS bs (mst bs) x y (mst bs x y) (2, (a : Int)) → PlanOf bs a y P → PlanOf bs (x - a) y Q → PlanOf bs x y ((2, (a : Int)) :: (P ++ Q))
 | along (x y a : Nat) (P Q : List St) : goodS bs (mst bs) x y (mst bs x y) (3, (a : Int)) → PlanOf bs x a P → PlanOf bs x (y - a) Q → PlanOf bs x y ((3, (a : Int)) :: (P ++ Q))
end Go.Proofs.YtobcdkjomehdkaaGreat

namespace Go.Proofs.YtobcdkjomehdkaaGreat
open Go.RowKit
set_option linter.unusedSimpArgs false
set_option maxRecDepth 100000
set_option maxHeartbeats 80000000

theorem isSide_any (n : Int) (w : World) (r : Bool) (hr : sideB n = r) : Calls Tryz.prog 62 #[.int .i64 n] w fun e w' => e = .returned (.bool r) ∧ w = w' := by
 subst hr
 go_enter Tryz.func62, Tryz.ntmps62
 go_wp2
 ·have h : 1 ≤ n := by assumption
  go_ret
  exact ⟨ret_bool (by simp [sideB, h]), rfl⟩
 ·have h : n < 1 := by assumption
  go_ret
  exact ⟨ret_bool (by simp [sideB]; omega), rfl⟩
def cutB (a n : Int) : Bool := decide (1 ≤ a) && decide (a < n)
theorem isCut_any (a n : Int) (w : World) (r : Bool) (hr : cutB a n = r) : Calls Tryz.prog 87 #[.int .i64 a, .int .i64 n] w fun e w' => e = .returned (.bool r) ∧ w = w' := by
 subst hr
 go_enter Tryz.func87, Tryz.ntmps87
 go_wp2
 ·have h : 1 ≤ a := by assumption
  go_ret
  exact ⟨ret_bool (by simp [cutB, h]), rfl⟩
 ·have h : a < 1 := by assumption
  go_ret
  exact ⟨ret_bool (by simp [cutB]; omega), rfl⟩
theorem fits_any (b : Bl) (w0 h : Int) (w : World) (r : Bool) (hr : fitsB b w0 h = r) : Calls Tryz.prog 85 #[.agg #[.int .i64 b.1, .int .i64 b.2.1, .int .i64 b.2.2], .int .i64 w0, .int .i64 h] w fun e w' => e = .returned (.bool r) ∧ Gr w w' := by
 subst hr
 obtain ⟨x, y, v⟩ := b
 dsimp only
 go_enter Tryz.func85, Tryz.ntmps85
 go_wp2
 ·have h : x ≤ w0 := by assumption
  go_ret
  exact ⟨ret_bool (by simp [fitsB, h]), (Gr.refl _).alloc _⟩
 ·have h : w0 < x := by assumption
  go_ret
  exact ⟨ret_bool (by simp [fitsB]; omega), (Gr.refl _).alloc _⟩
theorem bl_getD (bs : List Bl) (k : Nat) : bs.getD k (0, 0, 0) = bl bs k := rfl
theorem isTask_any (W0 H0 : Int) (A : Option Addr) (n c : Nat) (bs : List Bl) (w : World) (hn : bs.length = n) (hl : n ≤ 281474976710656) (hp : Tris w A bs) (r : Bool) (hr : taskB W0 H0 bs = r) :
 Calls Tryz.prog 35 #[.int .i64 W0, .int .i64 H0, .slice A n c] w fun e w' => e = .returned (.bool r) ∧ Gr w w' := by
 rcases hw : sideB W0 with _ | _
 ·obtain rfl : r = false := by rw [← hr]; simp [taskB, hw]
  have HS := Lib.hid hw
  clear hr hw hn hp
  go_enter Tryz.func35, Tryz.ntmps35
  go_wp2_with fail
  refine (isSide_any _ _ _ HS.out).mono ?_
  rintro e w1 ⟨rfl, rfl⟩
  go_wp2_with fail
  go_ret
  exact ⟨rfl, by (repeat (first | exact Gr.refl _ | assumption | (refine Gr.drew ?_) | (refine Gr.drewN ?_ _) | (refine Gr.alloc ?_ _) | (refine Gr.trans ?_ (by assumption))))⟩
 ·rcases hh : sideB H0 with _ | _
  ·obtain rfl : r = false := by rw [← hr]; simp [taskB, hh]
   have HS := Lib.hid hw
   have HS2 := Lib.hid hh
   clear hr hw hn hp hh
   go_enter Tryz.func35, Tryz.ntmps35
   go_wp2_with fail
   refine (isSide_any _ _ _ HS.out).mono ?_
   rintro e w1 ⟨rfl, rfl⟩
   go_wp2_with fail
   refine (isSide_any _ _ _ HS2.out).mono ?_
   rintro e w1 ⟨rfl, rfl⟩
   go_wp2_with fail
   go_ret
   exact ⟨rfl, by (repeat (first | exact Gr.refl _ | assumption | (refine Gr.drew ?_) | (refine Gr.drewN ?_ _) | (refine Gr.alloc ?_ _) | (refine Gr.trans ?_ (by assumption))))⟩
  ·by_cases h16 : n ≤ 16
   ·have HR : Hid (bs.all blB = r) := Lib.hid (by rw [← hr]; unfold taskB; rw [hw, hh, hn]; simp [h16])
    have HS := Lib.hid hw
    have HS2 := Lib.hid hh
    have HN := Lib.hid hn
    have HP := Lib.hid hp
    clear hr hw hh hn hp
    go_enter Tryz.func35, Tryz.ntmps35
    go_wp2_with fail
    refine (isSide_any _ _ _ HS.out).mono ?_
    rintro e w1 ⟨rfl, rfl⟩
    go_wp2_with fail
    refine (isSide_any _ _ _ HS2.out).mono ?_
    rintro e w1 ⟨rfl, rfl⟩
    go_wp2_with fail
    go_loopw [24] (fun i wr => ∃ k : Nat, k ≤ n ∧ i = .int .i64 k ∧ Hid ((bs.take k).all blB = true) ∧ Gr w wr) (fun i _ => n - (intOf i).toNat)
    case atStart => exact ⟨0, Nat.zero_le _, rfl, Lib.hid (by simp), by (repeat (first | exact Gr.refl _ | assumption | (refine Gr.drew ?_) | (refine Gr.drewN ?_ _) | (refine Gr.alloc ?_ _) | (refine Gr.trans ?_ (by assumption))))⟩
    case round =>
     obtain ⟨k, hk, rfl, hall, hg⟩ := hrel
     by_cases hlt : k < n
     ·have hkl : k < bs.length := by have := HN.out; omega
      obtain ⟨b, off, rfl, h0, h1, h2⟩ := Tris_at (HP.out.keep hg) hkl
      have HALL : blB (bs.getD k (0, 0, 0)) = false → Hid (bs.all blB = false) := fun h => Lib.hid (all_false blB bs (0, 0, 0) k hkl h)
      have HNEXT : blB (bs.getD k (0, 0, 0)) = true → Hid ((bs.take (k + 1)).all blB = true) := fun h => Lib.hid (by rw [all_take_succ _ _ (0, 0, 0) _ hkl, hall.out, h]; rfl)
      generalize bs.getD k (0, 0, 0) = q at h0 h1 h2 HALL HNEXT
      obtain ⟨x, y, v⟩ := q
      dsimp only at h0 h1 h2
      rcases e1 : sideB x with _ | _
      ·have HF : Hid (r = false) := Lib.hid (by rw [← HR.out]; exact (HALL (by simp [blB, e1])).out)
       have E1 := Lib.hid e1
       clear e1 HALL HNEXT
       go_wp2_with fail
       refine (isSide_any _ _ _ E1.out).mono ?_
       rintro e w1 ⟨rfl, rfl⟩
       go_wp2_with fail
       go_ret
       exact ⟨ret_bool HF.out.symm, by (repeat (first | exact Gr.refl _ | assumption | (refine Gr.drew ?_) | (refine Gr.drewN ?_ _) | (refine Gr.alloc ?_ _) | (refine Gr.trans ?_ (by assumption))))⟩
      ·rcases e2 : sideB y with _ | _
       ·have HF : Hid (r = false) := Lib.hid (by rw [← HR.out]; exact (HALL (by simp [blB, e2])).out)
        have E1 := Lib.hid e1
        have E2 := Lib.hid e2
        clear e1 e2 HALL HNEXT
        go_wp2_with fail
        refine (isSide_any _ _ _ E1.out).mono ?_
        rintro e w1 ⟨rfl, rfl⟩
        go_wp2_with fail
        refine (isSide_any _ _ _ E2.out).mono ?_
        rintro e w1 ⟨rfl, rfl⟩
        go_wp2_with fail
        go_ret
        exact ⟨ret_bool HF.out.symm, by (repeat (first | exact Gr.refl _ | assumption | (refine Gr.drew ?_) | (refine Gr.drewN ?_ _) | (refine Gr.alloc ?_ _) | (refine Gr.trans ?_ (by assumption))))⟩
       ·by_cases hv : 0 ≤ v ∧ v ≤ 1048576
        ·have HX : Hid ((bs.take (k + 1)).all blB = true) := HNEXT (by simp [blB, e1, e2, hv])
         obtain ⟨v1, v2⟩ := hv
         have E1 := Lib.hid e1
         have E2 := Lib.hid e2
         clear e1 e2 HALL HNEXT
         go_wp2_with fail
         refine (isSide_any _ _ _ E1.out).mono ?_
         rintro e w1 ⟨rfl, rfl⟩
         go_wp2_with fail
         refine (isSide_any _ _ _ E2.out).mono ?_
         rintro e w1 ⟨rfl, rfl⟩
         go_wp2_with fail
         go_roundw
         case rel => exact ⟨k + 1, by omega, by go_num, HX, by (repeat (first | exact Gr.refl _ | assumption | (refine Gr.drew ?_) | (refine Gr.drewN ?_ _) | (refine Gr.alloc ?_ _) | (refine Gr.trans ?_ (by assumption))))⟩
         case measure => simp [intOf]; omega
        ·have HF : Hid (r = false) := Lib.hid (by rw [← HR.out]; exact (HALL (by simp [blB]; omega)).out)
         have E1 := Lib.hid e1
         have E2 := Lib.hid e2
         clear e1 e2 HALL HNEXT
         by_cases v1 : 0 ≤ v
         ·have v2 : 1048576 < v := by omega
          go_wp2_with fail
          refine (isSide_any _ _ _ E1.out).mono ?_
          rintro e w1 ⟨rfl, rfl⟩
          go_wp2_with fail
          refine (isSide_any _ _ _ E2.out).mono ?_
          rintro e w1 ⟨rfl, rfl⟩
          go_wp2_with fail
          go_ret
          exact ⟨ret_bool HF.out.symm, by (repeat (first | exact Gr.refl _ | assumption | (refine Gr.drew ?_) | (refine Gr.drewN ?_ _) | (refine Gr.alloc ?_ _) | (refine Gr.trans ?_ (by assumption))))⟩
         ·have v2 : v < 0 := by omega
          clear hv
          go_wp2_with fail
          refine (isSide_any _ _ _ E1.out).mono ?_
          rintro e w1 ⟨rfl, rfl⟩
          go_wp2_with fail
          refine (isSide_any _ _ _ E2.out).mono ?_
          rintro e w1 ⟨rfl, rfl⟩
          go_wp2_with fail
          go_ret
          exact ⟨ret_bool HF.out.symm, by (repeat (first | exact Gr.refl _ | assumption | (refine Gr.drew ?_) | (refine Gr.drewN ?_ _) | (refine Gr.alloc ?_ _) | (refine Gr.trans ?_ (by assumption))))⟩
     ·go_wp2_with fail
      go_ret
      exact ⟨ret_bool (by have h := hall.out; rw [List.take_of_length_le (by have := HN.out; omega)] at h; rw [← HR.out]; exact h.symm), hg⟩
   ·obtain rfl : r = false := by rw [← hr]; unfold taskB; rw [hn]; simp [h16]
    have h17 : 16 < n := by omega
    have HS := Lib.hid hw
    have HS2 := Lib.hid hh
    clear hr hw hh hn hp h16
    go_enter Tryz.func35, Tryz.ntmps35
    go_wp2_with fail
    refine (isSide_any _ _ _ HS.out).mono ?_
    rintro e w1 ⟨rfl, rfl⟩
    go_wp2_with fail
    refine (isSide_any _ _ _ HS2.out).mono ?_
    rintro e w1 ⟨rfl, rfl⟩
    go_wp2_with fail
    go_ret
    exact ⟨rfl, by (repeat (first | exact Gr.refl _ | assumption | (refine Gr.drew ?_) | (refine Gr.drewN ?_ _) | (refine Gr.alloc ?_ _) | (refine Gr.trans ?_ (by assumption))))⟩

set_option maxRecDepth 100000
set_option maxHeartbeats 80000000

structure RSt (wb : World) (a p b m f : Nat) (pv bv fv : Value) (k : Nat) (ms : List Bl) (v : Value) (w : World) : Prop where
 at_ : Blk w a 3 #[.int .i64 (k : Int)]
 plan : Blk w p 60 #[pv]
 blanks : Blk w b 22 #[bv]
 made : Blk w m 22 #[v]
 self : Blk w f 138 #[fv]
 row : w.ownsRow wb.heap.size 59 3 v ms.length (flatE enc3 ms)
 old : Gr wb w
 la : wb.heap.size ≤ a
 lm : wb.heap.size ≤ m
 ne : b ≠ m

theorem RSt.step {wb : World} {a p b m f : Nat} {pv bv fv : Value} {k : Nat} {ms : List Bl} {v : Value} {w : World} (h : RSt wb a p b m f pv bv fv k ms v w) (o : Obj) :
 RSt wb a p b m f pv bv fv (k + 1) ms v ((w.alloc o).setCell ⟨a, 0, none⟩ (.int .i64 ((k : Int) + 1))) := by
 have hx := (h.at_.alloc o).put 0 (.int .i64 ((k : Int) + 1))
 refine ⟨?_, ?_, ?_, ?_, ?_, ?_, ?_, h.la, h.lm, h.ne⟩
 ·exact hx
 ·exact (h.plan.alloc o).other (h.plan.differ h.at_ (by decide)) _
 ·exact (h.blanks.alloc o).other (h.blanks.differ h.at_ (by decide)) _
 ·exact (h.made.alloc o).other (h.made.differ h.at_ (by decide)) _
 ·exact (h.self.alloc o).other (h.self.differ h.at_ (by decide)) _
 ·have h1 : (w.alloc o).ownsRow wb.heap.size 59 3 v ms.length (flatE enc3 ms) := h.row.alloc _
  exact ownsRow_setCell_other h1 (fun e => (h.at_.alloc o).apart h1 (by decide) e.symm) _
 ·exact (h.old.alloc o).setCell h.la _

theorem RSt.facts {wb : World} {a p b m f : Nat} {pv bv fv : Value} {k : Nat} {ms : List Bl} {v : Value} {w : World} (h : RSt wb a p b m f pv bv fv k ms v w) (x y : Value) (t : TypeId) :
 ((w.alloc (.cells #[x, y] t)).cell? ⟨a, 0, none⟩ = some (.int .i64 (k : Int)) ∧ (w.alloc (.cells #[x, y] t)).frozen? ⟨a, 0, none⟩ = false) ∧
 ((w.alloc (.cells #[x, y] t)).setCell ⟨a, 0, none⟩ (.int .i64 ((k : Int) + 1))).cell? ⟨w.heap.size, 0, none⟩ = some x ∧
 ((w.alloc (.cells #[x, y] t)).setCell ⟨a, 0, none⟩ (.int .i64 ((k : Int) + 1))).cell? ⟨w.heap.size, 1, none⟩ = some y := by
 have hne : (⟨a, 0, none⟩ : Addr).block ≠ w.heap.size := fun e => by have := h.at_.lt; dsimp only at e; omega
 have hn : ∀ i, (⟨a, 0, none⟩ : Addr) ≠ ⟨w.heap.size, i, none⟩ := fun i e => hne (congrArg Addr.block e)
 refine ⟨⟨(h.at_.alloc _).cell 0, (h.at_.alloc _).free 0⟩, ?_, ?_⟩
 ·rw [World.cell?_setCell_other _ _ _ _ (hn 0)]; exact alloc_new rfl rfl
 ·rw [World.cell?_setCell_other _ _ _ _ (hn 1)]; exact alloc_new rfl rfl

theorem RSt.keep {wb : World} {a p b m f : Nat} {pv bv fv : Value} {k : Nat} {ms : List Bl} {v : Value} {w w1 : World} (h : RSt wb a p b m f pv bv fv k ms v w) (hg : Gr w w1) : RSt wb a p b m f pv bv fv k ms v w1 :=
 ⟨h.at_.keep hg, h.plan.keep hg, h.blanks.keep hg, h.made.keep hg, h.self.keep hg, owns_gr h.row hg, h.old.trans hg, h.la, h.lm, h.ne⟩

theorem RSt.more {wb : World} {a p b m f : Nat} {pv bv fv : Value} {k : Nat} {ms : List Bl} {v : Value} {w : World} (h : RSt wb a p b m f pv bv fv k ms v w) {w2 : World} {v' : Value} {x : Bl}
 (hown : w2.ownsRow wb.heap.size 59 3 v' (ms.length + 1) (flatE enc3 ms ++ enc3 x)) (hgrow : w.grownBy w2 v.ownBlock) :
 RSt wb a p b m f pv bv fv k (ms ++ [x]) v' (w2.setCell ⟨m, 0, none⟩ v') := by
 have hm := h.made.grown hgrow (h.made.apart h.row (by decide))
 have hr : w2.ownsRow wb.heap.size 59 3 v' (ms ++ [x]).length (flatE enc3 (ms ++ [x])) := by rw [flatE_snoc, List.length_append]; exact hown
 refine ⟨?_, ?_, ?_, ?_, ?_, ?_, ?_, h.la, h.lm, h.ne⟩
 ·exact (h.at_.grown hgrow (h.at_.apart h.row (by decide))).other (h.at_.differ h.made (by decide)) _
 ·exact (h.plan.grown hgrow (h.plan.apart h.row (by decide))).other (h.plan.differ h.made (by decide)) _
 ·exact (h.blanks.grown hgrow (h.blanks.apart h.row (by decide))).other h.ne _
 ·exact hm.put 0 v'
 ·exact (h.self.grown hgrow (h.self.apart h.row (by decide))).other (h.self.differ h.made (by decide)) _
 ·exact ownsRow_setCell_other hr (fun e => hm.apart hr (by decide) e.symm) _
 ·exact Gr.setCell (Below.grown h.old hgrow h.old.size (fun t ht => (h.row.lt t ht).1)) h.lm _

def StK (w w' : World) : Prop := ∀ g cs, Blk w g 97 cs → Blk w' g 97 cs
theorem StK.refl (w : World) : StK w w := fun _ _ h => h
theorem StK.trans {a b c : World} (h : StK a b) (k : StK b c) : StK a c := fun g cs x => k g cs (h g cs x)
theorem StK.of {w w' : World} (h : Gr w w') : StK w w' := fun _ _ x => x.keep h
theorem RSt.stk {wb : World} {a p b m f : Nat} {pv bv fv : Value} {k : Nat} {ms : List Bl} {v : Value} {w : World} (h : RSt wb a p b m f pv bv fv k ms v w) (o : Obj) (u : Value) : StK w ((w.alloc o).setCell ⟨a, 0, none⟩ u) :=
 fun _ _ x => (x.alloc o).other (x.differ h.at_ (by decide)) _
theorem RSt.stk_more {wb : World} {a p b m f : Nat} {pv bv fv : Value} {k : Nat} {ms : List Bl} {v : Value} {w : World} (h : RSt wb a p b m f pv bv fv k ms v w) {w2 : World} (hgrow : w.grownBy w2 v.ownBlock) (u : Value) : StK w (w2.setCell ⟨m, 0, none⟩ u) :=
 fun _ _ x => (x.grown hgrow (x.apart h.row (by decide))).other (x.differ h.made (by decide)) _

end Go.Proofs.YtobcdkjomehdkaaGreat
