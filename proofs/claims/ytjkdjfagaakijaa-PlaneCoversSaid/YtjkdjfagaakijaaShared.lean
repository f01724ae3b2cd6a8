/- A place that two hulls share. -/
import Derived.Test.YtjkdjfagaakijaaMeeting
namespace Go.Proofs.Ytjkdjfagaakijaa
open Go.RowKit
set_option linter.unusedSimpArgs false

/-- The first that is there. -/
def firstN {α : Type} (f : Nat → Option α) : Nat → Option α
  | 0 => none
  | k + 1 => match firstN f k with
    | some a => some a
    | none => f k
theorem firstN_step {α : Type} {f : Nat → Option α} {k : Nat} (h : firstN f k = none) : firstN f (k + 1) = f k := by
  unfold firstN; rw [h]
theorem firstN_up {α : Type} {f : Nat → Option α} {a : α} {k : Nat} (h : firstN f k = some a) : ∀ d, firstN f (k + d) = some a
  | 0 => h
  | d + 1 => by
    have ih := firstN_up h d
    show firstN f (k + d + 1) = some a
    unfold firstN; rw [ih]
theorem firstN_at {α : Type} {f : Nat → Option α} {a : α} {k n : Nat} (h : firstN f k = none) (hf : f k = some a) (hk : k < n) : firstN f n = some a := by
  have h1 : firstN f (k + 1) = some a := (firstN_step h).trans hf
  have := firstN_up h1 (n - (k + 1))
  rwa [show k + 1 + (n - (k + 1)) = n by omega] at this

def crossR (ps qs : List (Int × Int)) (i : Nat) : Option (Int × Int × Int) :=
  firstN (fun j => if touchE (ed ps i) (ed qs j) then some (meetP (ed ps i) (ed qs j)) else none) qs.length
def crossL (ps qs : List (Int × Int)) : Int × Int × Int := (firstN (crossR ps qs) ps.length).getD (0, 0, 0)
def inQ (ps qs : List (Int × Int)) (i : Nat) : Option (Int × Int × Int) :=
  if holdsL qs (ps.getD i (0, 0)).1 (ps.getD i (0, 0)).2 1 then some ((ps.getD i (0, 0)).1, (ps.getD i (0, 0)).2, 1) else none
def sharedL (ps qs : List (Int × Int)) : Int × Int × Int :=
  match firstN (inQ ps qs) ps.length with
  | some m => m
  | none => match firstN (inQ qs ps) qs.length with
    | some m => m
    | none => crossL ps qs
def placeV (m : Int × Int × Int) : Value := .agg #[.int .i64 m.1, .int .i64 m.2.1, .int .i64 m.2.2]

theorem box4h {w W : World} {t : TypeId} {a0 a1 a2 a3 : Value} (hW : w.alloc (.cells #[a0, a1, a2, a3] t) = W) :
    Gr w W ∧ W.cell? ⟨w.heap.size, 0, none⟩ = some a0 ∧ W.cell? ⟨w.heap.size, 1, none⟩ = some a1 ∧ W.cell? ⟨w.heap.size, 2, none⟩ = some a2 ∧ W.cell? ⟨w.heap.size, 3, none⟩ = some a3 := box4 hW

theorem Blk3 {w : World} {g : Nat} {t : TypeId} {a b c : Value} (h : Blk w g t #[a, b, c]) :
    (w.cell? ⟨g, 0, none⟩ = some a ∧ w.cell? ⟨g, 1, none⟩ = some b ∧ w.cell? ⟨g, 2, none⟩ = some c) ∧ w.frozen? ⟨g, 0, none⟩ = false ∧ w.frozen? ⟨g, 1, none⟩ = false ∧ w.frozen? ⟨g, 2, none⟩ = false :=
  ⟨⟨h.cell _, h.cell _, h.cell _⟩, h.free _, h.free _, h.free _⟩

set_option maxRecDepth 100000 in
set_option maxHeartbeats 4000000 in
theorem crossing_any (A B : Option Addr) (n c n' c' : Nat) (ps qs : List (Int × Int)) (w : World) (hn : ps.length = n) (hn' : qs.length = n') (hl : n ≤ 1048576) (hl' : n' ≤ 1048576) (hp : Pts w A ps) (hq : Pts w B qs) (hv : Cos ps) (hv' : Cos qs) :
    Calls Try.prog 75 #[.slice A n c, .slice B n' c'] w fun e w' => e = .returned (placeV (crossL ps qs)) ∧ Gr w w' := by
  have HN := Lib.hid hn
  have HN' := Lib.hid hn'
  have HP := Lib.hid hp
  have HQ := Lib.hid hq
  have HV := Lib.hid hv
  have HV' := Lib.hid hv'
  have HCR : Hid (crossL ps qs = (firstN (crossR ps qs) n).getD (0, 0, 0)) := Lib.hid (by rw [← hn]; rfl)
  have HCJ : Hid (∀ i, crossR ps qs i = firstN (fun j => if touchE (ed ps i) (ed qs j) then some (meetP (ed ps i) (ed qs j)) else none) n') := Lib.hid (by intro i; rw [← hn']; rfl)
  clear hn hn' hp hq hv hv'
  go_enter Try.func75, Try.ntmps75
  go_wp2_with fail
  generalize hW : World.alloc w _ = W
  have hgW : Gr w W := by rw [← hW]; exact (Gr.refl _).alloc _
  have hBk : Blk W w.heap.size 64 #[.int .i64 0, .int .i64 0, .int .i64 0] := by rw [← hW]; exact heap_alloc_new w _
  clear hW
  refine (edges_any A n c ps _ HN.out (by omega) (HP.out.keep hgW)).mono ?_
  rintro e w3 ⟨g, rfl, hE, hg3⟩
  replace hBk := hBk.keep hg3
  replace hgW := hgW.trans hg3
  clear hg3
  rw [HN.out]
  have HE := Lib.hid hE
  clear hE HP
  have HB := Lib.hid hBk
  clear hBk
  go_wp2_with fail
  go_loopw [12] (fun i wr => ∃ k : Nat, k ≤ n ∧ i = .int .i64 k ∧ Hid (firstN (crossR ps qs) k = none) ∧ Gr w3 wr) (fun i _ => n - (intOf i).toNat)
  case atStart => exact ⟨0, Nat.zero_le _, rfl, Lib.hid rfl, Gr.refl _⟩
  case round =>
    obtain ⟨k, hk, rfl, hok, hg⟩ := hrel
    by_cases hlt : k < n
    · obtain ⟨k0, k1, k2, k3⟩ := Eds_at (HE.out.keep hg) (k := k) (by have := HN.out; omega)
      have HC4 := Lib.hid (ed_co HV.out k)
      have HCK := Lib.hid (HCJ.out k)
      have HSTEP : Hid (crossR ps qs k = none → firstN (crossR ps qs) (k + 1) = none) := Lib.hid (fun h => (firstN_step hok.out).trans h)
      have HFND : Hid (∀ m, crossR ps qs k = some m → crossL ps qs = m) := Lib.hid (fun m h => by rw [HCR.out, firstN_at hok.out h hlt]; rfl)
      generalize ed ps k = q at k0 k1 k2 k3 HC4 HCK
      obtain ⟨⟨x, y⟩, x', y'⟩ := q
      dsimp only at k0 k1 k2 k3
      go_wp2_with fail
      generalize hW : World.alloc wr _ = W
      obtain ⟨hWg, l0, l1, l2, l3⟩ := box4h hW
      clear hW k0 k1 k2 k3
      refine (edges_any B n' c' qs _ HN'.out (by omega) (HQ.out.keep ((hgW.trans hg).trans hWg))).mono ?_
      rintro e w4 ⟨g', rfl, hE', hg4⟩
      have HL : Hid (w4.cell? ⟨wr.heap.size, 0, none⟩ = some (.int .i64 x) ∧ w4.cell? ⟨wr.heap.size, 1, none⟩ = some (.int .i64 y) ∧ w4.cell? ⟨wr.heap.size, 2, none⟩ = some (.int .i64 x') ∧ w4.cell? ⟨wr.heap.size, 3, none⟩ = some (.int .i64 y')) := Lib.hid ⟨hg4.keep l0, hg4.keep l1, hg4.keep l2, hg4.keep l3⟩
      have hgr : Gr w3 w4 := (hg.trans hWg).trans hg4
      clear l0 l1 l2 l3 hg hWg hg4
      rw [HN'.out]
      have HE' := Lib.hid hE'
      clear hE'
      generalize wr.heap.size = eb at HL ⊢
      clear wr W
      go_wp2_with fail
      go_loopw [19] (fun i wr => ∃ j : Nat, j ≤ n' ∧ i = .int .i64 j ∧ Hid (firstN (fun j => if touchE ((x, y), x', y') (ed qs j) then some (meetP ((x, y), x', y') (ed qs j)) else none) j = none) ∧ Gr w4 wr) (fun i _ => n' - (intOf i).toNat)
      case atStart => exact ⟨0, Nat.zero_le _, rfl, Lib.hid rfl, Gr.refl _⟩
      case round =>
        obtain ⟨j, hj, rfl, hok2, hg⟩ := hrel
        obtain ⟨l0, l1, l2, l3⟩ := HL.out
        replace l0 := hg.keep l0
        replace l1 := hg.keep l1
        replace l2 := hg.keep l2
        replace l3 := hg.keep l3
        by_cases hltj : j < n'
        · obtain ⟨k0, k1, k2, k3⟩ := Eds_at (HE'.out.keep hg) (k := j) (by have := HN'.out; omega)
          have HC5 := Lib.hid (ed_co HV'.out j)
          have HST2 := Lib.hid (firstN_step hok2.out)
          have HFN2 : Hid (touchE ((x, y), x', y') (ed qs j) = true → crossL ps qs = meetP ((x, y), x', y') (ed qs j)) := Lib.hid (fun h => HFND.out _ (by rw [HCK.out]; exact firstN_at hok2.out (if_pos h) hltj))
          generalize ed qs j = q at k0 k1 k2 k3 HC5 HST2 HFN2
          obtain ⟨⟨a, b⟩, a', b'⟩ := q
          dsimp only at k0 k1 k2 k3
          have e0 : ∀ o, (wr.alloc o).cell? ⟨eb, 0, none⟩ = some (.int .i64 x) := fun o => alloc_old l0
          have e1 : ∀ o, (wr.alloc o).cell? ⟨eb, 1, none⟩ = some (.int .i64 y) := fun o => alloc_old l1
          have e2 : ∀ o, (wr.alloc o).cell? ⟨eb, 2, none⟩ = some (.int .i64 x') := fun o => alloc_old l2
          have e3 : ∀ o, (wr.alloc o).cell? ⟨eb, 3, none⟩ = some (.int .i64 y') := fun o => alloc_old l3
          go_wp2_with fail
          clear e0 e1 e2 e3
          generalize hW : World.alloc wr _ = W
          obtain ⟨hWg, t0, t1, t2, t3⟩ := box4h hW
          clear hW k0 k1 k2 k3
          obtain ⟨c1, c2, c3, c4⟩ := HC4.out
          obtain ⟨d1, d2, d3, d4⟩ := HC5.out
          rcases ht : touchL x y x' y' a b a' b' with _ | _
          · have HT := Lib.hid ht
            clear ht
            refine (touch_any _ _ _ _ _ _ _ _ _ c1 c2 c3 c4 d1 d2 d3 d4 _ HT.out).mono ?_
            rintro e w5 ⟨rfl, hb⟩
            clear c1 c2 c3 c4 d1 d2 d3 d4
            go_wp2_with fail
            go_roundw
            case rel => exact ⟨j + 1, by omega, by go_num, Lib.hid (HST2.out.trans (if_neg (by rw [show touchE ((x, y), x', y') ((a, b), a', b') = touchL x y x' y' a b a' b' from rfl, HT.out]; decide))), by (repeat (first | exact Gr.refl _ | assumption | (refine Gr.drew ?_) | (refine Gr.drewN ?_ _) | (refine Gr.alloc ?_ _) | (refine Gr.trans ?_ (by assumption))))⟩
            case measure => simp [intOf]; omega
          · have HT := Lib.hid ht
            have HM := Lib.hid (HFN2.out ht)
            clear ht
            refine (touch_any _ _ _ _ _ _ _ _ _ c1 c2 c3 c4 d1 d2 d3 d4 _ HT.out).mono ?_
            rintro e w5 ⟨rfl, hb⟩
            replace l0 := (hWg.trans hb).keep l0
            replace l1 := (hWg.trans hb).keep l1
            replace l2 := (hWg.trans hb).keep l2
            replace l3 := (hWg.trans hb).keep l3
            replace t0 := hb.keep t0
            replace t1 := hb.keep t1
            replace t2 := hb.keep t2
            replace t3 := hb.keep t3
            go_wp2_with fail
            refine (meeting_any _ _ _ _ _ _ _ _ _ c1 c2 c3 c4 d1 d2 d3 d4 _ rfl).mono ?_
            rintro e w6 ⟨rfl, hb6⟩
            have hgg : Gr w3 w6 := (((hgr.trans hg).trans hWg).trans hb).trans hb6
            obtain ⟨⟨r0, r1, r2⟩, z0, z1, z2⟩ := Blk3 (HB.out.keep hgg)
            rw [← HM.out]
            go_wp2_with fail
            refine bodyPost_ret (v := placeV (crossL ps qs)) ?_ rfl ⟨rfl, ?_⟩
            · simp [results, Try.results75, r0, r1, r2, go_sem, placeV]
            · replace hgg := hgW.trans hgg
              repeat (first | exact hgg | (refine Gr.setCell ?_ (by show w.heap.size ≤ w.heap.size; omega) _))
        · go_wp2_with fail
          go_roundw
          case rel => exact ⟨k + 1, by omega, by go_num, Lib.hid (HSTEP.out (by rw [HCK.out]; obtain rfl : j = n' := by omega
                                                                                exact hok2.out)), hgr.trans hg⟩
          case measure => simp [intOf]; omega
    · obtain ⟨⟨r0, r1, r2⟩, z0, z1, z2⟩ := Blk3 (HB.out.keep hg)
      go_wp2_with fail
      refine bodyPost_ret (v := placeV (crossL ps qs)) ?_ rfl ⟨rfl, ?_⟩
      · obtain rfl : k = n := by omega
        rw [HCR.out, hok.out]
        simp [results, Try.results75, r0, r1, r2, go_sem, placeV]
      · have hgg := hgW.trans hg
        repeat (first | exact hgg | (refine Gr.setCell ?_ (by show w.heap.size ≤ w.heap.size; omega) _))

theorem box2r {w W : World} {t u : TypeId} {a b c d e : Value} (hW : (w.alloc (.cells #[a, b] t)).alloc (.cells #[c, d, e] u) = W) :
    Gr w W ∧ W.cell? ⟨w.heap.size + 1, 0, none⟩ = some c ∧ W.cell? ⟨w.heap.size + 1, 1, none⟩ = some d ∧ W.cell? ⟨w.heap.size + 1, 2, none⟩ = some e := by
  subst hW
  exact ⟨((Gr.refl _).alloc _).alloc _, alloc_new (by simp) rfl, alloc_new (by simp) rfl, alloc_new (by simp) rfl⟩
theorem Pc_one {x y : Int} (hx : Co x) (hy : Co y) : Pc x y 1 := by unfold Pc Co at *; omega

set_option maxRecDepth 100000 in
set_option maxHeartbeats 4000000 in
theorem shared_any (A B : Option Addr) (n c n' c' : Nat) (ps qs : List (Int × Int)) (w : World) (hn : ps.length = n) (hn' : qs.length = n') (hl : n ≤ 1048576) (hl' : n' ≤ 1048576) (hp : Pts w A ps) (hq : Pts w B qs) (hv : Cos ps) (hv' : Cos qs) :
    Calls Try.prog 43 #[.slice A n c, .slice B n' c'] w fun e w' => e = .returned (placeV (sharedL ps qs)) ∧ Gr w w' := by
  have HN := Lib.hid hn
  have HN' := Lib.hid hn'
  have HP := Lib.hid hp
  have HQ := Lib.hid hq
  have HV := Lib.hid hv
  have HV' := Lib.hid hv'
  have HS1 : Hid (∀ m, firstN (inQ ps qs) n = some m → sharedL ps qs = m) := Lib.hid (by rw [← hn]; intro m h; unfold sharedL; rw [h])
  have HS2 : Hid (firstN (inQ ps qs) n = none → ∀ m, firstN (inQ qs ps) n' = some m → sharedL ps qs = m) := Lib.hid (by rw [← hn, ← hn']; intro h0 m h; unfold sharedL; rw [h0]; dsimp only; rw [h])
  have HS3 : Hid (firstN (inQ ps qs) n = none → firstN (inQ qs ps) n' = none → sharedL ps qs = crossL ps qs) := Lib.hid (by rw [← hn, ← hn']; intro h0 h; unfold sharedL; rw [h0]; dsimp only; rw [h])
  clear hn hn' hp hq hv hv'
  go_enter Try.func43, Try.ntmps43
  go_wp2_with fail
  generalize hW : World.alloc w _ = W
  have hgW : Gr w W := by rw [← hW]; exact (Gr.refl _).alloc _
  have hBk : Blk W w.heap.size 64 #[.int .i64 0, .int .i64 0, .int .i64 0] := by rw [← hW]; exact heap_alloc_new w _
  clear hW
  have HB := Lib.hid hBk
  clear hBk
  go_wp2_with fail
  go_loopw [13] (fun i wr => ∃ k : Nat, k ≤ n ∧ i = .int .i64 k ∧ Hid (firstN (inQ ps qs) k = none) ∧ Gr W wr) (fun i _ => n - (intOf i).toNat)
  case atStart => exact ⟨0, Nat.zero_le _, rfl, Lib.hid rfl, Gr.refl _⟩
  case round =>
    obtain ⟨k, hk, rfl, hok, hg⟩ := hrel
    by_cases hlt : k < n
    · obtain ⟨b', o', rfl, x0, x1⟩ := Pts_at (HP.out.keep (hgW.trans hg)) (k := k) (by have := HN.out; omega)
      have HIN : Hid (inQ ps qs k = if holdsL qs (ps.getD k (0, 0)).1 (ps.getD k (0, 0)).2 1 then some ((ps.getD k (0, 0)).1, (ps.getD k (0, 0)).2, 1) else none) := Lib.hid rfl
      obtain ⟨a0, a1⟩ := HV.out k
      generalize ps.getD k (0, 0) = p at x0 x1 a0 a1 HIN
      obtain ⟨x, y⟩ := p
      dsimp only at x0 x1 a0 a1 HIN
      go_wp2_with fail
      generalize hW : World.alloc (World.alloc wr _) _ = W2
      obtain ⟨hWg, l0, l1, l2⟩ := box2r hW
      clear hW
      rcases hh : holdsL qs x y 1 with _ | _
      · have HST := Lib.hid ((firstN_step hok.out).trans (HIN.out.trans (if_neg (by rw [hh]; decide))))
        have HHH := Lib.hid hh
        clear hh
        refine (holds_any B n' c' qs x y 1 _ HN'.out (by omega) (HQ.out.keep ((hgW.trans hg).trans hWg)) HV'.out (Pc_one a0 a1)).mono ?_
        rintro e w5 ⟨rfl, hb⟩
        rw [HHH.out]
        go_wp2_with fail
        go_roundw
        case rel => exact ⟨k + 1, by omega, by go_num, HST, by (repeat (first | exact Gr.refl _ | assumption | (refine Gr.drew ?_) | (refine Gr.drewN ?_ _) | (refine Gr.alloc ?_ _) | (refine Gr.trans ?_ (by assumption))))⟩
        case measure => simp [intOf]; omega
      · have HFD := Lib.hid (HS1.out (x, y, 1) (firstN_at hok.out (HIN.out.trans (if_pos hh)) hlt))
        have HHH := Lib.hid hh
        clear hh
        refine (holds_any B n' c' qs x y 1 _ HN'.out (by omega) (HQ.out.keep ((hgW.trans hg).trans hWg)) HV'.out (Pc_one a0 a1)).mono ?_
        rintro e w5 ⟨rfl, hb⟩
        rw [HHH.out]
        have hgg : Gr W w5 := (hg.trans hWg).trans hb
        obtain ⟨⟨r0, r1, r2⟩, z0, z1, z2⟩ := Blk3 (HB.out.keep hgg)
        replace l0 := hb.keep l0
        replace l1 := hb.keep l1
        replace l2 := hb.keep l2
        go_wp2_with fail
        refine bodyPost_ret (v := placeV (x, y, 1)) ?_ rfl ⟨by rw [HFD.out], ?_⟩
        · simp [results, Try.results43, r0, r1, r2, go_sem, placeV]
        · replace hgg := hgW.trans hgg
          repeat (first | exact hgg | (refine Gr.setCell ?_ (by show w.heap.size ≤ w.heap.size; omega) _))
    · obtain rfl : k = n := by omega
      go_wp2_with fail
      obtain ⟨w8, hw8⟩ : ∃ w8, w8 = wr := ⟨_, rfl⟩
      have hg8 : Gr W w8 := by rw [hw8]; exact hg
      rw [← hw8]
      clear hw8 hg
      go_loopw [29] (fun i wr => ∃ j : Nat, j ≤ n' ∧ i = .int .i64 j ∧ Hid (firstN (inQ qs ps) j = none) ∧ Gr w8 wr) (fun i _ => n' - (intOf i).toNat)
      case atStart => exact ⟨0, Nat.zero_le _, rfl, Lib.hid rfl, Gr.refl _⟩
      case round =>
        obtain ⟨j, hj, rfl, hok2, hg⟩ := hrel
        by_cases hlt : j < n'
        · obtain ⟨b', o', rfl, x0, x1⟩ := Pts_at (HQ.out.keep ((hgW.trans hg8).trans hg)) (k := j) (by have := HN'.out; omega)
          have HIN : Hid (inQ qs ps j = if holdsL ps (qs.getD j (0, 0)).1 (qs.getD j (0, 0)).2 1 then some ((qs.getD j (0, 0)).1, (qs.getD j (0, 0)).2, 1) else none) := Lib.hid rfl
          obtain ⟨a0, a1⟩ := HV'.out j
          generalize qs.getD j (0, 0) = p at x0 x1 a0 a1 HIN
          obtain ⟨x, y⟩ := p
          dsimp only at x0 x1 a0 a1 HIN
          go_wp2_with fail
          generalize hW : World.alloc (World.alloc wr _) _ = W2
          obtain ⟨hWg, l0, l1, l2⟩ := box2r hW
          clear hW
          rcases hh : holdsL ps x y 1 with _ | _
          · have HST := Lib.hid ((firstN_step hok2.out).trans (HIN.out.trans (if_neg (by rw [hh]; decide))))
            have HHH := Lib.hid hh
            clear hh
            refine (holds_any A k c ps x y 1 _ HN.out (by omega) (HP.out.keep (((hgW.trans hg8).trans hg).trans hWg)) HV.out (Pc_one a0 a1)).mono ?_
            rintro e w5 ⟨rfl, hb⟩
            rw [HHH.out]
            go_wp2_with fail
            go_roundw
            case rel => exact ⟨j + 1, by omega, by go_num, HST, by (repeat (first | exact Gr.refl _ | assumption | (refine Gr.drew ?_) | (refine Gr.drewN ?_ _) | (refine Gr.alloc ?_ _) | (refine Gr.trans ?_ (by assumption))))⟩
            case measure => simp [intOf]; omega
          · have HFD := Lib.hid (HS2.out hok.out (x, y, 1) (firstN_at hok2.out (HIN.out.trans (if_pos hh)) hlt))
            have HHH := Lib.hid hh
            clear hh
            refine (holds_any A k c ps x y 1 _ HN.out (by omega) (HP.out.keep (((hgW.trans hg8).trans hg).trans hWg)) HV.out (Pc_one a0 a1)).mono ?_
            rintro e w5 ⟨rfl, hb⟩
            rw [HHH.out]
            have hgg : Gr W w5 := hg8.trans ((hg.trans hWg).trans hb)
            obtain ⟨⟨r0, r1, r2⟩, z0, z1, z2⟩ := Blk3 (HB.out.keep hgg)
            replace l0 := hb.keep l0
            replace l1 := hb.keep l1
            replace l2 := hb.keep l2
            go_wp2_with fail
            refine bodyPost_ret (v := placeV (x, y, 1)) ?_ rfl ⟨by rw [HFD.out], ?_⟩
            · simp [results, Try.results43, r0, r1, r2, go_sem, placeV]
            · replace hgg := hgW.trans hgg
              repeat (first | exact hgg | (refine Gr.setCell ?_ (by show w.heap.size ≤ w.heap.size; omega) _))
        · obtain rfl : j = n' := by omega
          go_wp2_with fail
          refine (crossing_any A B k c j c' ps qs _ HN.out HN'.out (by omega) (by omega) (HP.out.keep (hgW.trans (hg8.trans hg))) (HQ.out.keep (hgW.trans (hg8.trans hg))) HV.out HV'.out).mono ?_
          rintro e w6 ⟨rfl, hb6⟩
          have HS4 := Lib.hid (HS3.out hok.out hok2.out)
          have hgg : Gr W w6 := (hg8.trans hg).trans hb6
          obtain ⟨⟨r0, r1, r2⟩, z0, z1, z2⟩ := Blk3 (HB.out.keep hgg)
          generalize crossL ps qs = m at HS4 ⊢
          simp only [placeV]
          go_wp2_with fail
          refine bodyPost_ret (v := placeV m) ?_ rfl ⟨by rw [HS4.out], ?_⟩
          · simp [results, Try.results43, r0, r1, r2, go_sem, placeV]
          · replace hgg := hgW.trans hgg
            repeat (first | exact hgg | (refine Gr.setCell ?_ (by show w.heap.size ≤ w.heap.size; omega) _))


end Go.Proofs.Ytjkdjfagaakijaa
