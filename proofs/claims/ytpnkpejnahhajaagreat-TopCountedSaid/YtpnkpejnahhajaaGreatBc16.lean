/- Layer 2: the blanks that a plan makes, step by step (mathematics).
The parts of a plan as boxes. Plain mathematics.
TopLaid: the parts of a plan, as the law reads them. -/
import Derived.Test.YtpnkpejnahhajaaGreatBc13
import Derived.Test.YtpnkpejnahhajaaGreatBc0
import Derived.Deep.CutRange
import Derived.Laws.AppendOwnNone
import Derived.BigRegion
import Derived.RegionTactic
namespace Go.Proofs.YtpnkpejnahhajaaGreat

/-- The blanks that the steps make, in their order. -/
def msL (bs : List Bl) : List St → List Bl
  | [] => []
  | s :: r => if s.1 = 1 then bl bs s.2.toNat :: msL bs r else msL bs r
theorem msL_app (bs : List Bl) (a b : List St) : msL bs (a ++ b) = msL bs a ++ msL bs b := by
  induction a with
  | nil => rfl
  | cons s r ih => simp only [List.cons_append, msL, ih]; split <;> simp
theorem Makes.made {bs : List Bl} {w h : Nat} {P : List St} {m : List Bl} (k : Makes bs w h P m) : msL bs P = m ∧ ∀ s ∈ P, s.1 = 1 → 0 ≤ s.2 ∧ s.2 < bs.length := by
  induction k with
  | waste w h => exact ⟨rfl, fun s hs => by obtain rfl : s = (0, 0) := by simpa using hs
                                            intro e; exact absurd e (by decide)⟩
  | make w h i hi hf => exact ⟨by simp [msL], fun s hs _ => by obtain rfl : s = (1, (i : Int)) := by simpa using hs
                                                               dsimp only; omega⟩
  | across w h x P Q m n h1 h2 _ _ ih1 ih2 =>
    refine ⟨by simp [msL, msL_app, ih1.1, ih2.1], fun s hs e => ?_⟩
    rcases List.mem_cons.1 hs with rfl | hs
    · exact absurd e (by simp)
    · rcases List.mem_append.1 hs with hs | hs
      · exact ih1.2 s hs e
      · exact ih2.2 s hs e
  | along w h x P Q m n h1 h2 _ _ ih1 ih2 =>
    refine ⟨by simp [msL, msL_app, ih1.1, ih2.1], fun s hs e => ?_⟩
    rcases List.mem_cons.1 hs with rfl | hs
    · exact absurd e (by simp)
    · rcases List.mem_append.1 hs with hs | hs
      · exact ih1.2 s hs e
      · exact ih2.2 s hs e
theorem Makes.area {bs : List Bl} (hb : ∀ b ∈ bs, blB b = true) {w h : Nat} {P : List St} {m : List Bl} (k : Makes bs w h P m) : sumA m ≤ (w : Int) * h := by
  induction k with
  | waste w h => exact Int.mul_nonneg (by omega) (by omega)
  | make w h i hi hf =>
    have h1 := (blB_iff _).1 (hb _ (bl_mem hi))
    have h2 := (fitsB_iff _ _ _).1 hf
    simp only [sumA, Int.add_zero]
    exact Int.mul_le_mul h2.1 h2.2 (by omega) (by omega)
  | across w h x P Q m n h1 h2 _ _ ih1 ih2 =>
    rw [sumA_app]
    have e : (w : Int) * h = (x : Int) * h + ((w - x : Nat) : Int) * h := by rw [← Int.add_mul]; congr 1; omega
    omega
  | along w h x P Q m n h1 h2 _ _ ih1 ih2 =>
    rw [sumA_app]
    have e : (w : Int) * h = (w : Int) * x + (w : Int) * ((h - x : Nat) : Int) := by rw [← Int.mul_add]; congr 1; omega
    omega
end Go.Proofs.YtpnkpejnahhajaaGreat

namespace Go.Proofs.YtpnkpejnahhajaaGreat

/-- A part: where it lies, its size, and which blank is made of it (-1: waste). -/
structure Bx where
  x : Nat
  y : Nat
  w : Nat
  h : Nat
  k : Int

/-- The steps P cut the piece (x, y, w, h) into these parts. -/
inductive Boxes (bs : List Bl) : Nat → Nat → Nat → Nat → List St → List Bx → Prop
  | waste (x y w h : Nat) : Boxes bs x y w h [(0, 0)] [⟨x, y, w, h, -1⟩]
  | make (x y w h i : Nat) : i < bs.length → fitsB (bl bs i) w h = true → Boxes bs x y w h [(1, (i : Int))] [⟨x, y, w, h, i⟩]
  | across (x y w h c : Nat) (P Q : List St) (l r : List Bx) : 1 ≤ c → c < w → Boxes bs x y c h P l → Boxes bs (x + c) y (w - c) h Q r → Boxes bs x y w h ((2, (c : Int)) :: (P ++ Q)) (l ++ r)
  | along (x y w h c : Nat) (P Q : List St) (l r : List Bx) : 1 ≤ c → c < h → Boxes bs x y w c P l → Boxes bs x (y + c) w (h - c) Q r → Boxes bs x y w h ((3, (c : Int)) :: (P ++ Q)) (l ++ r)

def bxA (b : Bx) : Int := (b.w : Int) * b.h
def sumBx : List Bx → Int
  | [] => 0
  | b :: r => bxA b + sumBx r
/-- The areas of the blanks that are made. -/
def madeBx (bs : List Bl) : List Bx → Int
  | [] => 0
  | b :: r => (if 0 ≤ b.k then (bl bs b.k.toNat).1 * (bl bs b.k.toNat).2.1 else 0) + madeBx bs r
theorem sumBx_app (a b : List Bx) : sumBx (a ++ b) = sumBx a + sumBx b := by
  induction a with
  | nil => simp [sumBx]
  | cons x r ih => simp only [List.cons_append, sumBx, ih]; omega
theorem madeBx_app (bs : List Bl) (a b : List Bx) : madeBx bs (a ++ b) = madeBx bs a + madeBx bs b := by
  induction a with
  | nil => simp [madeBx]
  | cons x r ih => simp only [List.cons_append, madeBx, ih]; omega

theorem Makes.boxes {bs : List Bl} {w h : Nat} {P : List St} {m : List Bl} (k : Makes bs w h P m) : ∀ x y, ∃ l, Boxes bs x y w h P l ∧ madeBx bs l = sumA m := by
  induction k with
  | waste w h => intro x y; exact ⟨_, .waste x y w h, rfl⟩
  | make w h i hi hf =>
    intro x y
    refine ⟨_, .make x y w h i hi hf, ?_⟩
    simp [madeBx, sumA]
  | across w h c P Q m n h1 h2 _ _ ih1 ih2 =>
    intro x y
    obtain ⟨l, a1, a2⟩ := ih1 x y
    obtain ⟨r, b1, b2⟩ := ih2 (x + c) y
    exact ⟨_, .across x y w h c P Q l r h1 h2 a1 b1, by rw [madeBx_app, sumA_app, a2, b2]⟩
  | along w h c P Q m n h1 h2 _ _ ih1 ih2 =>
    intro x y
    obtain ⟨l, a1, a2⟩ := ih1 x y
    obtain ⟨r, b1, b2⟩ := ih2 x (y + c)
    exact ⟨_, .along x y w h c P Q l r h1 h2 a1 b1, by rw [madeBx_app, sumA_app, a2, b2]⟩

/-- A part lies in a piece. -/
def BxIn (x y w h : Nat) (b : Bx) : Prop := (x ≤ b.x ∧ b.x + b.w ≤ x + w) ∧ (y ≤ b.y ∧ b.y + b.h ≤ y + h) ∧ 1 ≤ b.w ∧ 1 ≤ b.h
/-- Two parts lie side by side. -/
def BxApart (a b : Bx) : Prop := a.x + a.w ≤ b.x ∨ b.x + b.w ≤ a.x ∨ a.y + a.h ≤ b.y ∨ b.y + b.h ≤ a.y
/-- A part is waste, or a blank fits it. -/
def BxFits (bs : List Bl) (b : Bx) : Prop := b.k = -1 ∨ ∃ i : Nat, b.k = i ∧ i < bs.length ∧ fitsB (bl bs i) b.w b.h = true

theorem BxIn.mono {x y w h x' y' w' h' : Nat} {b : Bx} (k : BxIn x y w h b) (h1 : x' ≤ x ∧ x + w ≤ x' + w') (h2 : y' ≤ y ∧ y + h ≤ y' + h') : BxIn x' y' w' h' b := by
  unfold BxIn at *
  omega
theorem Boxes.inside {bs : List Bl} {x y w h : Nat} {P : List St} {l : List Bx} (k : Boxes bs x y w h P l) : 1 ≤ w → 1 ≤ h → ∀ b ∈ l, BxIn x y w h b := by
  induction k with
  | waste x y w h => intro a b c hc; obtain rfl := List.mem_singleton.1 hc; unfold BxIn; dsimp only; omega
  | make x y w h i _ _ => intro a b c hc; obtain rfl := List.mem_singleton.1 hc; unfold BxIn; dsimp only; omega
  | across x y w h c P Q l r h1 h2 _ _ ih1 ih2 =>
    intro a b d hd
    rcases List.mem_append.1 hd with hd | hd
    · exact (ih1 h1 b d hd).mono (by omega) (by omega)
    · exact (ih2 (by omega) b d hd).mono (by omega) (by omega)
  | along x y w h c P Q l r h1 h2 _ _ ih1 ih2 =>
    intro a b d hd
    rcases List.mem_append.1 hd with hd | hd
    · exact (ih1 a h1 d hd).mono (by omega) (by omega)
    · exact (ih2 a (by omega) d hd).mono (by omega) (by omega)
theorem Boxes.apart {bs : List Bl} {x y w h : Nat} {P : List St} {l : List Bx} (k : Boxes bs x y w h P l) : 1 ≤ w → 1 ≤ h → l.Pairwise BxApart := by
  induction k with
  | waste x y w h => intro _ _; exact List.pairwise_singleton _ _
  | make x y w h i _ _ => intro _ _; exact List.pairwise_singleton _ _
  | across x y w h c P Q l r h1 h2 k1 k2 ih1 ih2 =>
    intro a b
    refine List.pairwise_append.2 ⟨ih1 h1 b, ih2 (by omega) b, fun p hp q hq => ?_⟩
    have i1 := k1.inside h1 b p hp
    have i2 := k2.inside (by omega) b q hq
    unfold BxIn at i1 i2
    unfold BxApart
    omega
  | along x y w h c P Q l r h1 h2 k1 k2 ih1 ih2 =>
    intro a b
    refine List.pairwise_append.2 ⟨ih1 a h1, ih2 a (by omega), fun p hp q hq => ?_⟩
    have i1 := k1.inside a h1 p hp
    have i2 := k2.inside a (by omega) q hq
    unfold BxIn at i1 i2
    unfold BxApart
    omega
theorem Boxes.fits {bs : List Bl} {x y w h : Nat} {P : List St} {l : List Bx} (k : Boxes bs x y w h P l) : ∀ b ∈ l, BxFits bs b := by
  induction k with
  | waste x y w h => intro c hc; obtain rfl := List.mem_singleton.1 hc; exact Or.inl rfl
  | make x y w h i hi hf => intro c hc; obtain rfl := List.mem_singleton.1 hc; exact Or.inr ⟨i, rfl, hi, hf⟩
  | across x y w h c P Q l r _ _ _ _ ih1 ih2 => intro d hd; exact (List.mem_append.1 hd).elim (ih1 d) (ih2 d)
  | along x y w h c P Q l r _ _ _ _ ih1 ih2 => intro d hd; exact (List.mem_append.1 hd).elim (ih1 d) (ih2 d)
theorem Boxes.area {bs : List Bl} {x y w h : Nat} {P : List St} {l : List Bx} (k : Boxes bs x y w h P l) : sumBx l = (w : Int) * h := by
  induction k with
  | waste x y w h => simp [sumBx, bxA]
  | make x y w h i _ _ => simp [sumBx, bxA]
  | across x y w h c P Q l r h1 h2 _ _ ih1 ih2 =>
    rw [sumBx_app, ih1, ih2]
    have e : (w : Int) * h = (c : Int) * h + ((w - c : Nat) : Int) * h := by rw [← Int.add_mul]; congr 1; omega
    omega
  | along x y w h c P Q l r h1 h2 _ _ ih1 ih2 =>
    rw [sumBx_app, ih1, ih2]
    have e : (w : Int) * h = (w : Int) * c + (w : Int) * ((h - c : Nat) : Int) := by rw [← Int.mul_add]; congr 1; omega
    omega
/-- The corners of a part, three times as great, shrunk by one on each side. -/
def cornB (b : Bx) : List (Int × Int) := [(3 * b.x + 1, 3 * b.y + 1), (3 * (b.x + b.w) - 1, 3 * b.y + 1), (3 * (b.x + b.w) - 1, 3 * (b.y + b.h) - 1), (3 * b.x + 1, 3 * (b.y + b.h) - 1)]

end Go.Proofs.YtpnkpejnahhajaaGreat

namespace Go.Proofs.YtpnkpejnahhajaaGreat
open Go.RowKit
set_option linter.unusedSimpArgs false

def enc5 (b : Bx) : List Value := [.int .i64 b.x, .int .i64 b.y, .int .i64 b.w, .int .i64 b.h, .int .i64 b.k]
def BxPost (l : List Bx) (at' : Int) (w : World) (e : Ending) (w' : World) : Prop :=
  ∃ g c, e = .returned (.tuple #[.slice (some ⟨g, 0, none⟩) l.length c, .int .i64 at']) ∧ l.length ≤ c ∧ w'.ownsRow w.heap.size 37 5 (.slice (some ⟨g, 0, none⟩) l.length c) l.length (flatE enc5 l) ∧ Gr w w'
theorem Blk.beside {w : World} {g : Nat} {t : TypeId} {cs : Array Value} (h : Blk w g t cs) {p : Addr} (hne : g ≠ p.block) (u : Value) : Blk (w.setCell p u) g t cs := (Below.heap_setCell w p u g hne).trans h
/-- The law's boxes in the making: the argument (U), the step (S), the two parts (A, B). -/
structure Tbx (w0 : World) (U S A B : Nat) (u s a b : Array Value) (w : World) : Prop where
  bu : Blk w U 37 u
  bs : Blk w S 61 s
  ba : Blk w A 37 a
  bb : Blk w B 37 b
  gr : Gr w0 w
  ne : U < S ∧ S < A ∧ S < B ∧ A ≠ B
  le : w0.heap.size ≤ U
theorem Tbx.keep {w0 w w' : World} {U S A B : Nat} {u s a b : Array Value} (h : Tbx w0 U S A B u s a b w) (hg : Gr w w') : Tbx w0 U S A B u s a b w' :=
  ⟨h.bu.keep hg, h.bs.keep hg, h.ba.keep hg, h.bb.keep hg, h.gr.trans hg, h.ne, h.le⟩
section
variable (bs : List Bl) (w0 : World) (BA PA : Option Addr) (bn bc n pc : Nat) (plan : List St)
/-- What the law's reading of a piece comes to. -/
def BxAll (x y w h : Nat) (P : List St) (l : List Bx) : Prop := x + w ≤ 48 → y + h ≤ 48 → ∀ (k0 : Int) (at_ : Nat) (rest : List St) (W : World), Gr w0 W → plan.drop at_ = P ++ rest →
  Calls Tryz.prog 26 #[.agg #[.int .i64 x, .int .i64 y, .int .i64 w, .int .i64 h, .int .i64 k0], .slice BA bn bc, .slice PA n pc, .int .i64 at_] W (BxPost l ((at_ + P.length : Nat) : Int) W)
end

end Go.Proofs.YtpnkpejnahhajaaGreat
