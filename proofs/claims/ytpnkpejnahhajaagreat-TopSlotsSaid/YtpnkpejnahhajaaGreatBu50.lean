/- Separate.
The hull, and the greatest distance.
Hulls: the reference wraps the ring. Plain mathematics.
Hulls: a linear function is greatest at a corner, and so is a distance. Plain mathematics. -/
import Derived.Test.YtpnkpejnahhajaaGreatBu49
import Derived.Test.YtpnkpejnahhajaaGreatBu46
namespace Go.Proofs.YtpnkpejnahhajaaGreat
open Go.RowKit
set_option linter.unusedSimpArgs false

theorem chainL_memb (ps : List (Int × Int)) : ∀ x ∈ chainL ps, x ∈ ps := by
  have h : ∀ (ps st : List (Int × Int)), ∀ x ∈ chainR st ps, x ∈ st ∨ x ∈ ps := by
    intro ps
    induction ps with
    | nil => intro st x hx; exact .inl hx
    | cons p ps ih =>
      intro st x hx
      unfold chainR at hx
      rcases ih _ x hx with h | h
      · rcases List.mem_cons.1 h with rfl | h
        · exact .inr (List.mem_cons_self ..)
        · exact .inl (popR_mem p st x h)
      · exact .inr (List.mem_cons_of_mem _ h)
  intro x hx
  unfold chainL at hx
  rcases h ps [] x (List.mem_reverse.1 hx) with h | h
  · simp at h
  · exact h
theorem cornersL_mem (ps : List (Int × Int)) : ∀ x ∈ cornersL ps, x ∈ ps := by
  intro x hx
  unfold cornersL at hx
  split at hx
  · exact sdL_mem ps x hx
  · rcases List.mem_append.1 hx with h | h
    · exact sdL_mem ps x (chainL_memb _ x (List.dropLast_subset _ h))
    · exact sdL_mem ps x (List.mem_reverse.1 (chainL_memb _ x (List.dropLast_subset _ h)))
theorem cornersL_co {ps : List (Int × Int)} (h : Cos ps) : Cos (cornersL ps) := Cos_all fun p hp => all_Cos h p (cornersL_mem ps p hp)
theorem cornersL_len (ps : List (Int × Int)) (h : 1 ≤ ps.length) : 1 ≤ (cornersL ps).length ∧ (cornersL ps).length ≤ 2 * ps.length := by
  have h1 := sdL_pos ps h
  have h2 := sdL_len ps
  unfold cornersL
  split
  · omega
  · have h3 := chainL_two (sdL ps) (by omega)
    have h4 := chainL_le (sdL ps)
    have h5 := chainL_le (sdL ps).reverse
    rw [List.length_reverse] at h5
    rw [List.length_append, List.length_dropLast, List.length_dropLast]
    omega

def sepV (H1 H2 : List (Int × Int)) : Value :=
  match lineL H1 H2 with
  | some t => apartV false 0 0 0 t.1 t.2.1 t.2.2
  | none => apartV true (sharedL H1 H2).1 (sharedL H1 H2).2.1 (sharedL H1 H2).2.2 0 0 0

set_option maxRecDepth 100000 in
set_option maxHeartbeats 4000000 in
theorem Separate_yes (A B : Option Addr) (n c n' c' : Nat) (ps qs : List (Int × Int)) (w : World) (hn : ps.length = n) (hn' : qs.length = n') (h1 : 1 ≤ n) (h1' : 1 ≤ n') (hl : n ≤ 512) (hl' : n' ≤ 512)
    (hp : Pts w A ps) (hq : Pts w B qs) (hv : (ps.all fun p => vld p.1 p.2) = true) (hv' : (qs.all fun p => vld p.1 p.2) = true) :
    Calls Tryz.prog 22 #[.slice A n c, .slice B n' c'] w fun e w' => e = .returned (.tuple #[sepV (cornersL ps) (cornersL qs), .int .i64 0]) ∧ Gr w w' := by
  have HN := Lib.hid hn
  have HN' := Lib.hid hn'
  have HP := Lib.hid hp
  have HQ := Lib.hid hq
  have HV := Lib.hid hv
  have HV' := Lib.hid hv'
  have HL1 := Lib.hid (cornersL_len ps (by omega))
  have HL2 := Lib.hid (cornersL_len qs (by omega))
  have HC1 := Lib.hid (cornersL_co (Cos_of hv))
  have HC2 := Lib.hid (cornersL_co (Cos_of hv'))
  have HT : Hid ((decide (1 ≤ n ∧ n ≤ 512) && ps.all fun p => vld p.1 p.2) = true) := Lib.hid (by rw [hv]; simp; omega)
  have HT' : Hid ((decide (1 ≤ n' ∧ n' ≤ 512) && qs.all fun p => vld p.1 p.2) = true) := Lib.hid (by rw [hv']; simp; omega)
  clear hn hn' hp hq hv hv'
  generalize hSV : sepV (cornersL ps) (cornersL qs) = SV
  have HSV : Hid (SV = match lineL (cornersL ps) (cornersL qs) with
    | some t => apartV false 0 0 0 t.1 t.2.1 t.2.2
    | none => apartV true (sharedL (cornersL ps) (cornersL qs)).1 (sharedL (cornersL ps) (cornersL qs)).2.1 (sharedL (cornersL ps) (cornersL qs)).2.2 0 0 0) := Lib.hid hSV.symm
  clear hSV
  go_enter Tryz.func22, Tryz.ntmps22
  go_wp2_with fail
  generalize hW : World.alloc w _ = W
  have hgW : Gr w W := by rw [← hW]; exact (Gr.refl _).alloc _
  have hBk : Blk W w.heap.size 74 #[.bool false, .int .i64 0, .int .i64 0, .int .i64 0, .int .i64 0, .int .i64 0, .int .i64 0] := by rw [← hW]; exact heap_alloc_new w _
  clear hW
  have HB := Lib.hid hBk
  clear hBk
  refine (isSet_any A n c ps _ HN.out (by omega) (HP.out.keep hgW) _ HT.out).mono ?_
  rintro e w1 ⟨rfl, hg⟩
  go_wp2_with fail
  refine (isSet_any B n' c' qs _ HN'.out (by omega) (HQ.out.keep (hgW.trans hg)) _ HT'.out).mono ?_
  rintro e w2 ⟨rfl, hb⟩
  replace hg := hg.trans hb
  clear hb
  go_wp2_with fail
  refine (corners_any A n c ps _ HN.out (by omega) (by omega) (HP.out.keep (hgW.trans hg)) (Cos_of HV.out)).mono ?_
  rintro e w3 ⟨g1, c1, rfl, hc1, -, hO1, hb⟩
  replace hg := hg.trans hb
  clear hb
  have HO1 := Lib.hid hO1.pts
  clear hO1
  go_wp2_with fail
  refine (corners_any B n' c' qs _ HN'.out (by omega) (by omega) (HQ.out.keep (hgW.trans hg)) (Cos_of HV'.out)).mono ?_
  rintro e w4 ⟨g2, c2, rfl, hc2, -, hO2, hb⟩
  replace hg := hg.trans hb
  have HO1 := Lib.hid (HO1.out.keep hb)
  have HO2 := Lib.hid hO2.pts
  clear hO2 hb
  obtain ⟨m1, hm1⟩ : ∃ m, (cornersL ps).length = m := ⟨_, rfl⟩
  obtain ⟨m2, hm2⟩ : ∃ m, (cornersL qs).length = m := ⟨_, rfl⟩
  have hlm1 : 1 ≤ m1 ∧ m1 ≤ 1024 := by have := HL1.out; have := HN.out; omega
  have hlm2 : 1 ≤ m2 ∧ m2 ≤ 1024 := by have := HL2.out; have := HN'.out; omega
  rw [hm1] at hc1 ⊢
  rw [hm2] at hc2 ⊢
  generalize cornersL ps = H1 at hm1 HO1 HC1 HSV ⊢
  generalize cornersL qs = H2 at hm2 HO2 HC2 HSV ⊢
  have HM1 := Lib.hid hm1
  have HM2 := Lib.hid hm2
  clear hm1 hm2 HL1 HL2 HT HT' HV HV' HP HQ
  go_wp2_with fail
  refine (line_any g1 m1 c1 g2 m2 c2 H1 H2 _ HM1.out HM2.out (by omega) (by omega) (by omega) (by omega) hc1 hc2 HO1.out HO2.out HC1.out HC2.out).mono ?_
  rintro e w5 ⟨rfl, hb⟩
  replace hg := hg.trans hb
  rcases hline : lineL H1 H2 with _ | ⟨u, v, t⟩
  · rw [hline] at HSV
    simp only [lineV, apartV]
    go_wp2_with fail
    generalize hW : World.alloc w5 _ = W2
    have hgW2 : Gr w5 W2 := by rw [← hW]; exact (Gr.refl _).alloc _
    clear hW
    refine (shared_any _ _ m1 c1 m2 c2 H1 H2 _ HM1.out HM2.out (by omega) (by omega) (HO1.out.keep (hb.trans hgW2)) (HO2.out.keep (hb.trans hgW2)) HC1.out HC2.out).mono ?_
    rintro e w6 ⟨rfl, hb6⟩
    replace hg := (hg.trans hgW2).trans hb6
    generalize sharedL H1 H2 = m at HSV ⊢
    obtain ⟨px, py, pd⟩ := m
    simp only [placeV]
    obtain ⟨⟨r0, r1, r2, r3, r4, r5, r6⟩, z0, z1, z2, z3, z4, z5, z6⟩ := Blk7 ((HB.out.keep hg).keep ((Gr.refl _).alloc (.cells #[.int .i64 px, .int .i64 py, .int .i64 pd] 119)))
    go_wp2_with fail
    refine bodyPost_ret (v := .tuple #[apartV true px py pd 0 0 0, .int .i64 0]) ?_ rfl ⟨by rw [HSV.out], ?_⟩
    · simp [results, Tryz.results22, r0, r1, r2, r3, r4, r5, r6, go_sem, apartV]
    · exact Gr.set7 ((hgW.trans hg).alloc _) (Nat.le_refl _)
  · rw [hline] at HSV
    simp only [lineV, apartV]
    obtain ⟨⟨r0, r1, r2, r3, r4, r5, r6⟩, z0, z1, z2, z3, z4, z5, z6⟩ := Blk7 ((HB.out.keep hg).keep ((Gr.refl _).alloc (.cells #[.bool false, .int .i64 0, .int .i64 0, .int .i64 0, .int .i64 u, .int .i64 v, .int .i64 t] 74)))
    go_wp2_with fail
    refine bodyPost_ret (v := .tuple #[apartV false 0 0 0 u v t, .int .i64 0]) ?_ rfl ⟨by rw [HSV.out], ?_⟩
    · simp [results, Tryz.results22, r0, r1, r2, r3, r4, r5, r6, go_sem, apartV]
    · exact Gr.set7 ((hgW.trans hg).alloc _) (Nat.le_refl _)

end Go.Proofs.YtpnkpejnahhajaaGreat

namespace Go.Proofs.YtpnkpejnahhajaaGreat
open Go.RowKit
set_option linter.unusedSimpArgs false

def HullPost (qs : List (Int × Int)) (w : World) (e : Ending) (w' : World) : Prop :=
  ∃ g c, e = .returned (.tuple #[.slice (some ⟨g, 0, none⟩) qs.length c, .int .i64 0]) ∧ qs.length ≤ c ∧ w.heap.size ≤ g ∧ Own w' g 0 qs ∧ Gr w w'

def sqP (p q : Int × Int) : Int := sqd p.1 p.2 q.1 q.2
theorem sqP_bd {p q : Int × Int} (hp : Co p.1 ∧ Co p.2) (hq : Co q.1 ∧ Co q.2) : 0 ≤ sqP p q ∧ sqP p q ≤ 134217728 := by
  unfold sqP sqd
  unfold Co at *
  have b1 := mul_bd (a := q.1 - p.1) (b := q.1 - p.1) (A := 8192) (B := 8192) (by omega) (by omega)
  have b2 := mul_bd (a := q.2 - p.2) (b := q.2 - p.2) (A := 8192) (B := 8192) (by omega) (by omega)
  have n1 : 0 ≤ (q.1 - p.1) * (q.1 - p.1) := by
    rcases Int.le_total 0 (q.1 - p.1) with h | h
    · exact Int.mul_nonneg h h
    · exact Int.mul_nonneg_of_nonpos_of_nonpos h h
  have n2 : 0 ≤ (q.2 - p.2) * (q.2 - p.2) := by
    rcases Int.le_total 0 (q.2 - p.2) with h | h
    · exact Int.mul_nonneg h h
    · exact Int.mul_nonneg_of_nonpos_of_nonpos h h
  omega
def wiJ (cs : List (Int × Int)) (i : Nat) (a : Int) : Nat → Int
  | 0 => a
  | j + 1 => max (wiJ cs i a j) (sqP (cs.getD i (0, 0)) (cs.getD (i + 1 + j) (0, 0)))
def wiI (cs : List (Int × Int)) : Nat → Int
  | 0 => 0
  | i + 1 => wiJ cs i (wiI cs i) (cs.length - (i + 1))
def widestL (cs : List (Int × Int)) : Int := wiI cs cs.length
end Go.Proofs.YtpnkpejnahhajaaGreat

namespace Go.Proofs.YtpnkpejnahhajaaGreat
open Go.RowKit

/-- Behind a, on the way from a to b: to the right of the way that leads to a. -/
theorem behind {z a b q : Int × Int} (h1 : lt2 a b) (h2 : lt2 q a) (h0 : cr a b q = 0) (h3 : 0 < cr z a b) (h4 : 0 ≤ cr z a q) : False := by
  have k : 0 < -cr z a q := by
    refine comb_pos (a := 0) (b := cr z a b) (vx := b.1 - a.1) (vy := b.2 - a.2) (wx := 0) (wy := 0) (ux := a.1 - q.1) (uy := a.2 - q.2) ?_ ?_ h1.lp h2.lp (Or.inr ⟨rfl, by omega⟩) (by omega) h3
    · unfold cr crs at *; clear h1 h2 h3 h4; grind
    · unfold cr crs at *; clear h1 h2 h3 h4; grind
  omega
/-- A point on the way from a to b lies between them. -/
def Btw (Q : Int × Int → Prop) (a b : Int × Int) : Prop := ∀ q, Q q → q ≠ a → cr a b q = 0 → q = b ∨ (lt2 a q ∧ lt2 q b)
theorem FC.col {Q : Int × Int → Prop} {M : Int × Int} (hi : ∀ q, Q q → q = M ∨ lt2 q M) : ∀ (r : List (Int × Int)) (a b : Int × Int), FC Q (a :: b :: r) → (a :: b :: r).getLast? = some M → (∀ q, Q q → lt2 q a → cr a b q = 0 → False) → Prs (Btw Q) (a :: b :: r)
  | [], a, b, h, e, hlo => by
    obtain rfl : b = M := by simpa using e
    refine ⟨fun q hq hne h0 => ?_, trivial⟩
    rcases lt2.tri q a with k | k | k
    · exact (hlo q hq k h0).elim
    · exact absurd k hne
    · rcases hi q hq with k2 | k2
      · exact Or.inl k2
      · exact Or.inr ⟨k, k2⟩
  | c :: r, a, b, ⟨h1, h2, h3, h4⟩, e, hlo => by
    have ht := h3 c r rfl
    refine ⟨fun q hq hne h0 => ?_, FC.col hi r b c h4 (by simpa using e) (fun q hq hlt h0 => behind h4.1 hlt h0 ht (h2 q hq))⟩
    rcases lt2.tri q a with k | k | k
    · exact (hlo q hq k h0).elim
    · exact absurd k hne
    · rcases lt2.tri q b with k2 | k2 | k2
      · exact Or.inr ⟨k, k2⟩
      · exact Or.inl k2
      · exact (beyond h1 k2 h0 ht (h4.2.1 q hq)).elim
theorem dot_nn {ux uy wx wy : Int} (hu : LP ux uy) (hw : LP wx wy) (h : ux * wy = uy * wx) : 0 ≤ ux * wx + uy * wy := by
  rcases hu with hu | ⟨hu, hu'⟩
  · rcases hw with hw | ⟨hw, hw'⟩
    · have p := Int.mul_pos hu hw
      have e : (ux * wx) * (uy * wy) = (uy * wx) * (uy * wx) := by
        have := congrArg (fun z => z * (uy * wx)) h
        grind
      have n : 0 ≤ (uy * wx) * (uy * wx) := by
        rcases Int.le_total 0 (uy * wx) with k | k
        · exact Int.mul_nonneg k k
        · exact Int.mul_nonneg_of_nonpos_of_nonpos k k
      rcases Int.lt_or_le (uy * wy) 0 with k | k
      · have := Int.mul_neg_of_pos_of_neg p k; omega
      · omega
    · rw [hw, Int.mul_zero] at h
      have := Int.mul_pos hu hw'; omega
  · rw [hu, Int.zero_mul] at h
    rcases hw with hw | ⟨hw, hw'⟩
    · have := Int.mul_pos hu' hw; omega
    · rw [hu, hw]
      have := Int.mul_pos hu' hw'; omega
theorem sqP_pos {a b : Int × Int} (h : a ≠ b) : 0 < sqP a b := by
  have n : ∀ z : Int, 0 ≤ z * z := fun z => by
    rcases Int.le_total 0 z with k | k
    · exact Int.mul_nonneg k k
    · exact Int.mul_nonneg_of_nonpos_of_nonpos k k
  have n1 := n (b.1 - a.1)
  have n2 := n (b.2 - a.2)
  rcases Int.lt_or_eq_of_le (show 0 ≤ sqP a b by unfold sqP sqd; omega) with k | k
  · exact k
  · exfalso
    unfold sqP sqd at k
    have z : ∀ z : Int, z * z = 0 → z = 0 := fun z h => by rcases Int.mul_eq_zero.1 h with h | h <;> exact h
    have e1 := z _ (show (b.1 - a.1) * (b.1 - a.1) = 0 by omega)
    have e2 := z _ (show (b.2 - a.2) * (b.2 - a.2) = 0 by omega)
    exact h (Prod.ext (by omega) (by omega))
theorem sq_btw {a b q : Int × Int} (h1 : lt2 a q) (h2 : lt2 q b) (h0 : cr a b q = 0) : sqP a q < sqP a b := by
  have d := dot_nn h1.lp h2.lp (by unfold cr crs at h0; grind)
  have p := sqP_pos (a := q) (b := b) (fun e => by rw [e] at h2; exact h2.irr)
  have e : sqP a b = sqP a q + 2 * ((q.1 - a.1) * (b.1 - q.1) + (q.2 - a.2) * (b.2 - q.2)) + sqP q b := by unfold sqP sqd; grind
  omega
theorem sqP_ng (a b : Int × Int) : sqP (ng a) (ng b) = sqP a b := by unfold sqP sqd ng; grind

/-- What an edge of the ring is, to the reference: nothing lies to its right, and nothing farther on it. -/
def Way (s : List (Int × Int)) (a b : Int × Int) : Prop := a ≠ b ∧ ∀ q ∈ s, 0 ≤ cr a b q ∧ (q ≠ a → cr a b q = 0 → q = b ∨ sqP a q < sqP a b)
section
variable {s : List (Int × Int)} {m M : Int × Int} {L U : List (Int × Int)}
theorem prs_and {R R' : Int × Int → Int × Int → Prop} : ∀ L, Prs R L → Prs R' L → Prs (fun a b => R a b ∧ R' a b) L
  | [], _, _ => trivial
  | [_], _, _ => trivial
  | _ :: b :: r, h, k => ⟨⟨h.1, k.1⟩, prs_and (b :: r) h.2 k.2⟩
theorem Hul.wayL (h : Hul s m M L U) : Prs (Way s) (m :: L) := by
  match L, h with
  | [], _ => exact trivial
  | b :: r, h =>
    have hc := FC.col (Q := (· ∈ s)) h.hi r m b h.fl h.ll (fun q hq hlt _ => by
      rcases h.lo q hq with e | e
      · rw [e] at hlt; exact hlt.irr
      · exact (e.trans hlt).irr)
    have hp := h.low
    refine Prs.imp (fun a b k => ⟨fun e => by have := k.1.1; rw [e] at this; exact this.irr, fun q hq => ⟨k.1.2 q hq, fun hq1 h0 => ?_⟩⟩) _ (prs_and _ hp hc)
    rcases k.2 q hq hq1 h0 with e | ⟨e1, e2⟩
    · exact Or.inl e
    · exact Or.inr (sq_btw e1 e2 h0)
theorem Hul.wayU (h : Hul s m M L U) : Prs (Way s) (M :: U) := by
  match U, h with
  | [], _ => exact trivial
  | b :: r, h =>
    have hlast : (ng M :: ng b :: r.map ng).getLast? = some (ng m) := by
      have : ng M :: ng b :: r.map ng = (M :: b :: r).map ng := rfl
      rw [this, List.getLast?_map, h.lu]; rfl
    have hfc : FC (fun q => ng q ∈ s) (ng M :: ng b :: r.map ng) := by
      exact h.fu
    have hc := FC.col (Q := fun q => ng q ∈ s) (M := ng m) (fun q hq => by
      rcases h.lo (ng q) hq with e | e
      · left; rw [← e, ng_ng]
      · right; rw [← ng_ng q]; exact lt_ng.2 e) (r.map ng) (ng M) (ng b) hfc hlast (fun q hq hlt _ => by
      rcases h.hi (ng q) hq with e | e
      · rw [← e, ng_ng] at hlt; exact hlt.irr
      · have := lt_ng.2 e; rw [ng_ng] at this; exact (this.trans hlt).irr)
    have hc2 : Prs (fun a b => Btw (fun q => ng q ∈ s) (ng a) (ng b)) (M :: b :: r) := Prs.ng _ hc
    have hp := h.upp
    refine Prs.imp (fun a b k => ⟨fun e => by have := k.1.1; rw [e] at this; exact this.irr, fun q hq => ⟨k.1.2 q hq, fun hq1 h0 => ?_⟩⟩) _ (prs_and _ hp hc2)
    rcases k.2 (ng q) (by show ng (ng q) ∈ s; rw [ng_ng]; exact hq) (fun e => hq1 (by rw [← ng_ng q, e, ng_ng])) (by rw [cr_ng]; exact h0) with e | ⟨e1, e2⟩
    · left; rw [← ng_ng q, e, ng_ng]
    · right
      have := sq_btw e1 e2 (by rw [cr_ng]; exact h0)
      rwa [sqP_ng, sqP_ng] at this
theorem Hul.first (h : Hul s m M L U) : (ring m M L U).getD 0 (0, 0) = m := by
  obtain ⟨X, Y, e, hX, -, hXn, -⟩ := h.split
  cases X with
  | nil => exact absurd rfl hXn
  | cons x X => rw [e]; simp at hX; simp [hX.1]
theorem Hul.way (h : Hul s m M L U) {i : Nat} (hi : i < (ring m M L U).length) : Way s ((ring m M L U).getD i (0, 0)) ((ring m M L U).getD ((i + 1) % (ring m M L U).length) (0, 0)) := by
  obtain ⟨X, Y, e, hX, hY, hXn, -⟩ := h.split
  have eC : ring m M L U ++ [m] = X ++ M :: U := by rw [e, List.append_assoc, hY]
  have hP : Prs (Way s) (ring m M L U ++ [m]) := by
    rw [eC]; exact Prs.append h.wayU X (by rw [hX]; exact h.wayL)
  have k := Prs.at_ _ i hP (by rw [List.length_append]; simpa using hi)
  have e1 : (ring m M L U ++ [m]).getD i (0, 0) = (ring m M L U).getD i (0, 0) := getD_left hi
  have e2 : (ring m M L U ++ [m]).getD (i + 1) (0, 0) = (ring m M L U).getD ((i + 1) % (ring m M L U).length) (0, 0) := by
    rcases Nat.lt_or_ge (i + 1) (ring m M L U).length with k | k
    · rw [Nat.mod_eq_of_lt k, getD_left k]
    · have : i + 1 = (ring m M L U).length := by omega
      rw [this, Nat.mod_self, h.first, getD_right (Nat.le_refl _)]; simp
  rw [e1, e2] at k
  exact k
theorem rise_all {R : Int × Int → Int × Int → Prop} (hR : ∀ a b c, R a b → R b c → R a c) {a : Int × Int} : ∀ L, Prs R (a :: L) → ∀ x ∈ L, R a x
  | [], _, x, hx => by simp at hx
  | b :: r, h, x, hx => by
    rcases List.mem_cons.1 hx with e | e
    · rw [e]; exact h.1
    · exact hR a b x h.1 (rise_all hR r h.2 x e)
/-- The first corner comes once. -/
theorem Hul.once (h : Hul s m M L U) {j : Nat} (h0 : 0 < j) (hj : j < (ring m M L U).length) : (ring m M L U).getD j (0, 0) ≠ m := by
  obtain ⟨X, Y, e, hX, hY, hXn, hYn⟩ := h.split
  have hup : ∀ x ∈ Y, lt2 m x := by
    have hu := Prs.imp (fun a b k => k.1) _ h.upp
    rw [← hY] at hu
    intro x hx
    have : ∀ Z : List (Int × Int), Prs (fun a b => lt2 b a) (Z ++ [m]) → ∀ x ∈ Z, lt2 m x := by
      intro Z
      induction Z with
      | nil => intro _ x hx; simp at hx
      | cons z Z ih =>
        intro k x hx
        cases Z with
        | nil =>
          obtain rfl : x = z := by simpa using hx
          exact k.1
        | cons z' Z' =>
          rcases List.mem_cons.1 hx with rfl | hx
          · exact (ih k.2 z' (by simp)).trans k.1
          · exact ih k.2 x hx
    exact this Y hu x hx
  have hlo : ∀ x ∈ L, lt2 m x := rise_all (R := lt2) (fun _ _ _ h k => h.trans k) L (Prs.imp (fun a b k => k.1) _ h.low)
  have hx : lt2 m ((ring m M L U).getD j (0, 0)) := by
    rw [e] at hj ⊢
    rw [List.length_append] at hj
    rcases Nat.lt_or_ge j X.length with k | k
    · rw [getD_left k]
      cases X with
      | nil => exact absurd rfl hXn
      | cons x X =>
        obtain ⟨j', rfl⟩ : ∃ j', j = j' + 1 := ⟨j - 1, by omega⟩
        have hm : (x :: X).getD (j' + 1) (0, 0) ∈ X := by
          have := getD_of (0, 0) (l := X) (k := j') (by simpa using k)
          simpa using List.mem_of_getElem? this
        simp at hX
        exact hlo _ (by rw [← hX.2]; exact List.mem_append_left _ hm)
    · rw [getD_right k]
      exact hup _ (List.mem_of_getElem? (getD_of (0, 0) (by omega)))
  intro e
  rw [e] at hx
  exact hx.irr
end

/-- One step of the reference's choice, and all of them. -/
def sel (at_ cur p : Int × Int) : Int × Int := if p = at_ then cur else if cur = at_ ∨ cr at_ cur p < 0 ∨ (cr at_ cur p = 0 ∧ sqP at_ cur < sqP at_ p) then p else cur
def selI (at_ : Int × Int) (l : List (Int × Int)) : Nat → Int × Int
  | 0 => at_
  | i + 1 => sel at_ (selI at_ l i) (l.getD i (0, 0))
/-- What the reference's wrapping leans on. -/
structure Wrap (l cs : List (Int × Int)) : Prop where
  pos : 1 ≤ cs.length
  one : cs.length = 1 → selI (cs.getD 0 (0, 0)) l l.length = cs.getD 0 (0, 0)
  next : 1 < cs.length → ∀ k, k < cs.length → selI (cs.getD k (0, 0)) l l.length = cs.getD ((k + 1) % cs.length) (0, 0)
  step : ∀ k, k + 1 < cs.length → cs.getD (k + 1) (0, 0) ≠ cs.getD k (0, 0) ∧ cs.getD (k + 1) (0, 0) ≠ cs.getD 0 (0, 0)
  last : 1 < cs.length → cs.getD 0 (0, 0) ≠ cs.getD (cs.length - 1) (0, 0)
  mem : ∀ k, k < cs.length → cs.getD k (0, 0) ∈ l
  least : ∀ q ∈ l, q = cs.getD 0 (0, 0) ∨ lt2 (cs.getD 0 (0, 0)) q
end Go.Proofs.YtpnkpejnahhajaaGreat

namespace Go.Proofs.YtpnkpejnahhajaaGreat
open Go.RowKit

/-- A point above a way that falls off to below: not beyond both ends. -/
theorem top_btw {α β : Int} {a b q : Int × Int} (hβ : β ≤ 0) (h1 : lt2 a q) (h2 : lt2 q b) (h0 : 0 ≤ cr a b q) :
    α * q.1 + β * q.2 ≤ α * a.1 + β * a.2 ∨ α * q.1 + β * q.2 ≤ α * b.1 + β * b.2 := by
  have ux : 0 ≤ q.1 - a.1 := by unfold lt2 at h1; omega
  have wx : q.1 - a.1 ≤ b.1 - a.1 := by unfold lt2 at h2; omega
  have ef : ∀ z : Int × Int, α * z.1 + β * z.2 = (α * a.1 + β * a.2) + (α * (z.1 - a.1) + β * (z.2 - a.2)) := fun z => by grind
  rw [ef q, ef b]
  generalize hF : α * a.1 + β * a.2 = F
  suffices h : α * (q.1 - a.1) + β * (q.2 - a.2) ≤ 0 ∨ α * (q.1 - a.1) + β * (q.2 - a.2) ≤ α * (b.1 - a.1) + β * (b.2 - a.2) by omega
  have hc : 0 ≤ (b.1 - a.1) * (q.2 - a.2) - (b.2 - a.2) * (q.1 - a.1) := by unfold cr crs at h0; exact h0
  have hu : q.1 - a.1 = 0 → 0 < q.2 - a.2 := fun h => by unfold lt2 at h1; omega
  generalize q.1 - a.1 = u at *
  generalize q.2 - a.2 = u' at *
  generalize b.1 - a.1 = v at *
  generalize b.2 - a.2 = v' at *
  rcases Int.lt_or_eq_of_le (show 0 ≤ v by omega) with hv | hv
  · have k1 : v * (α * u + β * u') ≤ u * (α * v + β * v') := by
      have := Int.mul_nonpos_of_nonpos_of_nonneg hβ hc
      have e : v * (α * u + β * u') - u * (α * v + β * v') = β * (v * u' - v' * u) := by grind
      omega
    rcases Int.le_total (α * v + β * v') 0 with k | k
    · left
      have := Int.mul_nonpos_of_nonneg_of_nonpos ux k
      rcases Int.lt_or_le 0 (α * u + β * u') with j | j
      · have := Int.mul_pos hv j; omega
      · exact j
    · right
      have k2 := Int.mul_le_mul_of_nonneg_right wx k
      exact Int.le_of_mul_le_mul_left (by omega : v * (α * u + β * u') ≤ v * (α * v + β * v')) hv
  · left
    have h0 : u = 0 := by omega
    have := hu h0
    rw [h0, Int.mul_zero, Int.zero_add]
    exact Int.mul_nonpos_of_nonpos_of_nonneg hβ (by omega)
theorem FC.top {Q : Int × Int → Prop} {α β : Int} (hβ : β ≤ 0) {M : Int × Int} : ∀ (L : List (Int × Int)) (a q : Int × Int), FC Q (a :: L) → (a :: L).getLast? = some M → Q q → (q = a ∨ lt2 a q) → (q = M ∨ lt2 q M) → ∃ x ∈ a :: L, α * q.1 + β * q.2 ≤ α * x.1 + β * x.2
  | [], a, q, _, e, _, h1, h2 => by
    obtain rfl : a = M := by simpa using e
    refine ⟨a, by simp, ?_⟩
    rcases h1 with h | h
    · rw [h]; omega
    · rcases h2 with k | k
      · rw [k]; omega
      · exact (h.trans k).irr.elim
  | b :: r, a, q, h, e, hq, h1, h2 => by
    rcases h1 with h1 | h1
    · exact ⟨a, by simp, by rw [h1]; omega⟩
    · rcases lt2.tri q b with k | k | k
      · rcases top_btw (α := α) hβ h1 k (h.2.1 q hq) with j | j
        · exact ⟨a, by simp, j⟩
        · exact ⟨b, by simp, j⟩
      · exact ⟨b, by simp, by rw [k]; omega⟩
      · obtain ⟨x, hx, j⟩ := FC.top (α := α) hβ r b q h.2.2.2 (by simpa using e) hq (Or.inr k) h2
        exact ⟨x, List.mem_cons_of_mem _ hx, j⟩
/-- A linear function is nowhere greater than at a corner. -/
theorem corners_top (l : List (Int × Int)) (h1 : 1 ≤ l.length) (α β : Int) {q : Int × Int} (hq : q ∈ l) : ∃ x ∈ cornersL l, α * q.1 + β * q.2 ≤ α * x.1 + β * x.2 := by
  have hpos := sdL_pos l h1
  have hqs := (mem_sdL l q).2 hq
  by_cases h : (sdL l).length = 1
  · obtain ⟨m, hm⟩ := List.length_eq_one_iff.1 h
    have hc : cornersL l = [m] := by unfold cornersL; rw [if_pos h, hm]
    rw [hm] at hqs
    obtain rfl : q = m := by simpa using hqs
    rw [hc]; exact ⟨q, by simp, by omega⟩
  · obtain ⟨m, M, L, U, hH, e, e'⟩ := hul_of (sdL_rise l) (by omega)
    rw [corners_ring h e e']
    rcases Int.le_total β 0 with hb | hb
    · obtain ⟨x, hx, k⟩ := FC.top (α := α) hb L m q hH.fl hH.ll hqs (hH.lo q hqs) (hH.hi q hqs)
      exact ⟨x, (hH.mem x).2 (Or.inl hx), k⟩
    · have hl : (ng M :: U.map ng).getLast? = some (ng m) := by
        have : ng M :: U.map ng = (M :: U).map ng := rfl
        rw [this, List.getLast?_map, hH.lu]; rfl
      have c1 : ng q = ng M ∨ lt2 (ng M) (ng q) := by
        rcases hH.hi q hqs with k | k
        · exact Or.inl (by rw [k])
        · exact Or.inr (lt_ng.2 k)
      have c2 : ng q = ng m ∨ lt2 (ng q) (ng m) := by
        rcases hH.lo q hqs with k | k
        · exact Or.inl (by rw [k])
        · exact Or.inr (lt_ng.2 k)
      obtain ⟨x, hx, k⟩ := FC.top (Q := fun q => ng q ∈ sdL l) (α := -α) (β := -β) (by omega) (U.map ng) (ng M) (ng q) hH.fu hl (by show ng (ng q) ∈ sdL l; rw [ng_ng]; exact hqs) c1 c2
      have hx' : x ∈ (M :: U).map ng := hx
      obtain ⟨y, hy, rfl⟩ := List.mem_map.1 hx'
      refine ⟨y, (hH.mem y).2 (Or.inr hy), ?_⟩
      unfold ng at k
      simp only [Int.neg_mul_neg] at k
      exact k

/-- The greatest distance of two points of a list. -/
def IsMax (l : List (Int × Int)) (v : Int) : Prop := (∀ p ∈ l, ∀ q ∈ l, sqP p q ≤ v) ∧ ∃ p ∈ l, ∃ q ∈ l, v = sqP p q
/-- The reference's. -/
def rwJ (l : List (Int × Int)) (i : Nat) (a : Int) : Nat → Int
  | 0 => a
  | j + 1 => max (rwJ l i a j) (sqP (l.getD i (0, 0)) (l.getD j (0, 0)))
def rwI (l : List (Int × Int)) : Nat → Int
  | 0 => 0
  | i + 1 => rwJ l i (rwI l i) i
/-- The least distance of the pairs in D, and of some pair. -/
def MinOn (l : List (Int × Int)) (D : Nat → Nat → Prop) (v : Int) : Prop :=
  (∀ i j, i < j → j < l.length → D i j → v ≤ sqP (l.getD i (0, 0)) (l.getD j (0, 0))) ∧ ∃ i j, i < j ∧ j < l.length ∧ v = sqP (l.getD i (0, 0)) (l.getD j (0, 0))
theorem MinOn.imp {l : List (Int × Int)} {D D' : Nat → Nat → Prop} {v : Int} (h : MinOn l D v) (hd : ∀ i j, i < j → j < l.length → D' i j → D i j) : MinOn l D' v :=
  ⟨fun i j h1 h2 h3 => h.1 i j h1 h2 (hd i j h1 h2 h3), h.2⟩
theorem MinOn.step {l : List (Int × Int)} {D D' : Nat → Nat → Prop} {v : Int} {i j : Nat} (h : MinOn l D v) (hij : i < j) (hj : j < l.length) (hd : ∀ i' j', D' i' j' → D i' j' ∨ (i' = i ∧ j' = j)) : MinOn l D' (min v (sqP (l.getD i (0, 0)) (l.getD j (0, 0)))) := by
  constructor
  · intro i' j' h1 h2 h3
    rcases hd i' j' h3 with k | ⟨rfl, rfl⟩
    · have := h.1 i' j' h1 h2 k; omega
    · omega
  · rcases Int.le_total v (sqP (l.getD i (0, 0)) (l.getD j (0, 0))) with k | k
    · rw [Int.min_eq_left k]; exact h.2
    · rw [Int.min_eq_right k]; exact ⟨i, j, hij, hj, rfl⟩
theorem MinOn.bd {l : List (Int × Int)} {D : Nat → Nat → Prop} {v : Int} (h : MinOn l D v) (hc : Cos l) : 0 ≤ v ∧ v ≤ 134217728 := by
  obtain ⟨-, i, j, -, -, e⟩ := h
  rw [e]; exact sqP_bd (hc i) (hc j)

end Go.Proofs.YtpnkpejnahhajaaGreat
