/- Through the layers: blanks sold by transactions (plain mathematics). -/
import Derived.Test.YtobcdkjomehdkaaGreatBu23
import Derived.Test.YtobcdkjomehdkaaGreatBu24
namespace Go.Proofs.YtobcdkjomehdkaaGreat
set_option linter.unusedSimpArgs false
set_option maxRecDepth 100000
set_option maxHeartbeats 80000000

def slL (ss : List Int) : List (List Mv) := ss.map (fun s => mv2 s 1)
theorem slL_app (ss : List Int) (s : Int) : slL (ss ++ [s]) = slL ss ++ [mv2 s 1] := by unfold slL; rw [List.map_append]; rfl
theorem slL_len (ss : List Int) : (slL ss).length = ss.length := by unfold slL; simp
def cS (k : Int) (ss : List Int) : Int := (ss.map (fun s => chg (mv2 s 1) k)).sum
theorem cS_app (k : Int) (ss : List Int) (s : Int) : cS k (ss ++ [s]) = cS k ss + chg (mv2 s 1) k := by unfold cS; rw [List.map_append, List.sum_append]; simp
theorem sale_chg {s : Int} (h : s = 1 ∨ s = 2) : chg (mv2 s 1) 0 = -1 ∧ chg (mv2 s 1) 1 = (if s = 1 then 1 else 0) ∧ chg (mv2 s 1) 2 = (if s = 2 then 1 else 0) := by
 obtain ⟨h0, h1, h2⟩ := chg_mv2 (s := s) (x := 1) (by omega)
 rcases h with rfl | rfl
 ·exact ⟨h0, h1, h2 2 (by omega) (by omega)⟩
 ·exact ⟨h0, h2 1 (by omega) (by omega), h1⟩
theorem slL_sum (f : Int → Int) (ss : List Int) (k : Int) : sumF f (slL ss) k = (ss.map (fun s => f (chg (mv2 s 1) k))).sum := by
 rw [sumF_all]
 unfold slL
 rw [List.map_map]
 rfl
theorem cS_rng {ss : List Int} (h : ∀ s ∈ ss, s = 1 ∨ s = 2) : cS 0 ss = -(ss.length : Int) ∧ (0 ≤ cS 1 ss ∧ cS 1 ss ≤ ss.length) ∧ 0 ≤ cS 2 ss ∧ cS 2 ss ≤ ss.length := by
 induction ss with
 | nil => simp [cS]
 | cons s r ih =>
   have ih := ih (fun x hx => h x (List.mem_cons_of_mem _ hx))
   obtain ⟨c0, c1, c2⟩ := sale_chg (h s List.mem_cons_self)
   have e : ∀ k, cS k (s :: r) = chg (mv2 s 1) k + cS k r := fun k => by unfold cS; rw [List.map_cons, List.sum_cons]
   rw [e, e, e, c0, c1, c2, List.length_cons]
   refine ⟨by omega, ?_, ?_⟩
   ·split <;> omega
   ·split <;> omega
theorem sums_of {ss : List Int} (h : ∀ s ∈ ss, s = 1 ∨ s = 2) : (sumF negP (slL ss) 0 = -(ss.length : Int) ∧ sumF posP (slL ss) 0 = 0) ∧ (sumF negP (slL ss) 1 = 0 ∧ sumF posP (slL ss) 1 = cS 1 ss) ∧ sumF negP (slL ss) 2 = 0 ∧ sumF posP (slL ss) 2 = cS 2 ss := by
 simp only [slL_sum]
 unfold cS
 induction ss with
 | nil => simp
 | cons s r ih =>
   obtain ⟨⟨i1, i2⟩, ⟨i3, i4⟩, i5, i6⟩ := ih (fun x hx => h x (List.mem_cons_of_mem _ hx))
   obtain ⟨c0, c1, c2⟩ := sale_chg (h s List.mem_cons_self)
   simp only [List.map_cons, List.sum_cons, i1, i2, i3, i4, i5, i6, c0, c1, c2, List.length_cons]
   have n1 : negP (-1) = -1 := rfl
   have p1 : posP (-1) = 0 := rfl
   have n2 : negP (if s = 1 then 1 else 0) = 0 := by split <;> rfl
   have p2 : posP (if s = 1 then 1 else 0) = if s = 1 then 1 else 0 := by split <;> rfl
   have n3 : negP (if s = 2 then 1 else 0) = 0 := by split <;> rfl
   have p3 : posP (if s = 2 then 1 else 0) = if s = 2 then 1 else 0 := by split <;> rfl
   rw [n1, p1, n2, p2, n3, p3]
   omega
theorem sold_fits {ss : List Int} (h : ∀ s ∈ ss, s = 1 ∨ s = 2) (h30 : ss.length ≤ 30) : ∀ k : Nat, k < ([(ss.length : Int), 0, 0] : List Int).length → 0 ≤ ([(ss.length : Int), 0, 0] : List Int).getD k 0 + sumF negP (slL ss) (k : Int) ∧ ([(ss.length : Int), 0, 0] : List Int).getD k 0 + sumF posP (slL ss) (k : Int) ≤ 1099511627776 := by
 obtain ⟨⟨i1, i2⟩, ⟨i3, i4⟩, i5, i6⟩ := sums_of h
 have hr := cS_rng h
 intro k hk
 match k, hk with
 | 0, _ =>
   show 0 ≤ (ss.length : Int) + sumF negP (slL ss) 0 ∧ (ss.length : Int) + sumF posP (slL ss) 0 ≤ _
   rw [i1, i2]; omega
 | 1, _ =>
   show 0 ≤ 0 + sumF negP (slL ss) 1 ∧ 0 + sumF posP (slL ss) 1 ≤ _
   rw [i3, i4]; omega
 | 2, _ =>
   show 0 ≤ 0 + sumF negP (slL ss) 2 ∧ 0 + sumF posP (slL ss) 2 ≤ _
   rw [i5, i6]; omega
def wantS (ss : List Int) (k : Nat) : Int := if k = 0 then 0 else cS (k : Int) ss
theorem sold_end {ss : List Int} (h : ∀ s ∈ ss, s = 1 ∨ s = 2) {N : Nx} (hN : N.sites.length = 3) (hs : SlN (nzN N) [(ss.length : Int), 0, 0] (slL ss) True) (hm : (nzN N).mail = []) : ∀ k : Nat, k < 3 → refS N (k : Int) = 0 ∧ stockN N (k : Int) = wantS ss k := by
 have hc := hs.cm
 have hlen := hc.len
 intro k hk
 have hN2 : (nzN N).sites.length = 3 := by rw [nz_len]; exact hN
 have s0 : (nzN N).sites[k]? = some ((nzN N).sites[k]'(by omega)) := List.getElem?_eq_getElem _
 generalize (nzN N).sites[k]'_ = z0 at s0
 have hr : refS N (k : Int) = 0 := by unfold refS; rw [if_neg (by omega), if_neg (by omega)]
 have hst : stockN N (k : Int) = z0.stock := by
  rw [← stockN_nz]
  unfold stockN
  rw [refS_nz, hr, show ((k : Int)).toNat = k from rfl, s0]
  rfl
 have k0 := hc.stk.2 k z0 s0
 have hbe : (nzN N).begun.toNat = (slL ss).length := by omega
 rw [hbe, kpS_all (N := nzN N) (all := slL ss) (i := (k : Int)) (fun t h1 h2 hp => hs.kept trivial hm h1 (by omega) hp), slL_sum] at k0
 refine ⟨hr, ?_⟩
 rw [hst, k0]
 have e : (ss.map (fun s => id (chg (mv2 s 1) (k : Int)))).sum = cS (k : Int) ss := rfl
 rw [e]
 have hr0 := (cS_rng h).1
 unfold wantS
 match k, hk with
 | 0, _ =>
   show (ss.length : Int) + cS 0 ss = 0
   omega
 | 1, _ =>
   show 0 + cS 1 ss = cS 1 ss
   omega
 | 2, _ =>
   show 0 + cS 2 ss = cS 2 ss
   omega

set_option maxRecDepth 100000
set_option maxHeartbeats 80000000

def msL (bs : List Bl) : List St → List Bl
 | [] => []
 | s :: r => if s.1 = 1 then bl bs s.2.toNat :: msL bs r else msL bs r
theorem drop_at {P : List St} {k : Nat} (h : k < P.length) : P.drop k = P.getD k (0, 0) :: P.drop (k + 1) := by
 rw [List.drop_eq_getElem_cons h, List.getD_eq_getElem?_getD, List.getElem?_eq_getElem h]; rfl
set_option maxRecDepth 100000
set_option maxHeartbeats 80000000

structure Bx where
 x : Nat
 y : Nat
 w : Nat
 h : Nat
 k : Int

inductive Boxes (bs : List Bl) : Nat → Nat → Nat → Nat → List St → List Bx → Prop
 | waste (x y w h : Nat) : Boxes bs x y w h [(0, 0)] [⟨x, y, w, h, -1⟩]
 | make (x y w h i : Nat) : i < bs.length → fitsB (bl bs i) w h = true → Boxes bs x y w h [(1, (i : Int))] [⟨x, y, w, h, i⟩]
 | across (x y w h c : Nat) (P Q : List St) (l r : List Bx) : 1 ≤ c → c < w → Boxes bs x y c h P l → Boxes bs (x + c) y (w - c) h Q r → Boxes bs x y w h ((2, (c : Int)) :: (P ++ Q)) (l ++ r)
 | along (x y w h c : Nat) (P Q : List St) (l r : List Bx) : 1 ≤ c → c < h → Boxes bs x y w c P l → Boxes bs x (y + c) w (h - c) Q r → Boxes bs x y w h ((3, (c : Int)) :: (P ++ Q)) (l ++ r)

def bxA (b : Bx) : Int := (b.w : Int) * b.h
def sumBx : List Bx → Int
 | [] => 0
 | b :: r => bxA b + sumBx r
def madeBx (bs : List Bl) : List Bx → Int
 | [] => 0
 | b :: r => (if 0 ≤ b.k then (bl bs b.k.toNat).1 * (bl bs b.k.toNat).2.1 else 0) + madeBx bs r
theorem madeBx_app (bs : List Bl) (a b : List Bx) : madeBx bs (a ++ b) = madeBx bs a + madeBx bs b := by
 induction a with
 | nil => simp [madeBx]
 | cons x r ih => simp only [List.cons_append, madeBx, ih]; omega

theorem Makes.boxes {bs : List Bl} {w h : Nat} {P : List St} {m : List Bl} (k : Makes bs w h P m) : ∀ x y, ∃ l, Boxes bs x y w h P l ∧ madeBx bs l = sumA m := by
 induction k with
 | waste w h => intro x y; exact ⟨_, .waste x y w h, rfl⟩
 | make w h i hi hf =>
   intro x y
   refine ⟨_, .make x y w h i hi hf, ?_⟩
   simp [madeBx, sumA]
 | across w h c P Q m n h1 h2 _ _ ih1 ih2 =>
   intro x y
   obtain ⟨l, a1, a2⟩ := ih1 x y
   obtain ⟨r, b1, b2⟩ := ih2 (x + c) y
   exact ⟨_, .across x y w h c P Q l r h1 h2 a1 b1, by rw [madeBx_app, sumA_app, a2, b2]⟩
 | along w h c P Q m n h1 h2 _ _ ih1 ih2 =>
   intro x y
   obtain ⟨l, a1, a2⟩ := ih1 x y
   obtain ⟨r, b1, b2⟩ := ih2 x (y + c)
   exact ⟨_, .along x y w h c P Q l r h1 h2 a1 b1, by rw [madeBx_app, sumA_app, a2, b2]⟩

def BxIn (x y w h : Nat) (b : Bx) : Prop := (x ≤ b.x ∧ b.x + b.w ≤ x + w) ∧ (y ≤ b.y ∧ b.y + b.h ≤ y + h) ∧ 1 ≤ b.w ∧ 1 ≤ b.h
def BxApart (a b : Bx) : Prop := a.x + a.w ≤ b.x ∨ b.x + b.w ≤ a.x ∨ a.y + a.h ≤ b.y ∨ b.y + b.h ≤ a.y
def BxFits (bs : List Bl) (b : Bx) : Prop := b.k = -1 ∨ ∃ i : Nat, b.k = i ∧ i < bs.length ∧ fitsB (bl bs i) b.w b.h = true

theorem Boxes.count {bs : List Bl} {x y w h : Nat} {P : List St} {l : List Bx} (k : Boxes bs x y w h P l) : 1 ≤ l.length ∧ l.length ≤ P.length ∧ 1 ≤ P.length := by
 induction k with
 | waste x y w h => simp
 | make x y w h i _ _ => simp
 | across x y w h c P Q l r _ _ _ _ ih1 ih2 => simp only [List.length_append, List.length_cons]; omega
 | along x y w h c P Q l r _ _ _ _ ih1 ih2 => simp only [List.length_append, List.length_cons]; omega

def cornB (b : Bx) : List (Int × Int) := [(3 * b.x + 1, 3 * b.y + 1), (3 * (b.x + b.w) - 1, 3 * b.y + 1), (3 * (b.x + b.w) - 1, 3 * (b.y + b.h) - 1), (3 * b.x + 1, 3 * (b.y + b.h) - 1)]

end Go.Proofs.YtobcdkjomehdkaaGreat
