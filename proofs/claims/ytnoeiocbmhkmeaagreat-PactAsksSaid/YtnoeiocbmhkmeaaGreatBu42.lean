/- Layer 5: the law's do: a call on both sides. -/
import Derived.Test.YtnoeiocbmhkmeaaGreatBu40
import Derived.Test.YtnoeiocbmhkmeaaGreatBu41
namespace Go.Proofs.YtnoeiocbmhkmeaaGreat
open Go.RowKit
set_option linter.unusedSimpArgs false
set_option maxRecDepth 100000
set_option maxHeartbeats 80000000

def DoP (B : Nat) (S0 : List Nat) (w : World) (N : Nx) (e : Ending) (w' : World) : Prop := ∃ N' L', e = .returned (.tuple #[L'.v, .bool true]) ∧ NetTo B w N N' w' ∧ Two (nzN N') L'.era ∧ XAt (S0 ++ ownB N') w' L'
theorem box343 {w W : World} {t t' : TypeId} {a b c x0 x1 x2 x3 a' b' c' : Value} {g : Nat} (hg : w.heap.size = g) (hW : ((w.alloc (.cells #[a, b, c] t)).alloc (.cells #[x0, x1, x2, x3] t')).alloc (.cells #[a', b', c'] t) = W) : Gr w W ∧ Blk W g t #[a, b, c] ∧ Blk W (g + 1) t' #[x0, x1, x2, x3] ∧ Blk W (g + 2) t #[a', b', c'] ∧ W.heap.size = g + 3 := by
 subst hW hg
 have h1 : (w.alloc (.cells #[a, b, c] t)).heap.size = w.heap.size + 1 := by simp
 have h2 : ((w.alloc (.cells #[a, b, c] t)).alloc (.cells #[x0, x1, x2, x3] t')).heap.size = w.heap.size + 2 := by simp
 exact ⟨(((Gr.refl _).alloc _).alloc _).alloc _, (Blk.new _ _ _ rfl).keep (((Gr.refl _).alloc _).alloc _), (Blk.new _ _ _ h1).keep ((Gr.refl _).alloc _), Blk.new _ _ _ h2, by simp⟩
section
variable {B g : Nat} {S0 : List Nat} {w w1 w2 w3 w4 w5 : World} {N N' : Nx} {L L2 : LN}
def doS (g : Nat) (S0 : List Nat) (N : Nx) : List Nat := g :: (g + 1) :: (g + 2) :: (S0 ++ ownB N)
theorem do_at (hx : XAt (S0 ++ ownB N) w L) (hg : w.heap.size = g) (hg1 : Gr w w1) : XAt (doS g S0 N) w1 L := hx.ch (Ch.of hg1) (fun t ht => by
 simp only [doS, List.mem_cons] at ht
 rcases ht with rfl | rfl | rfl | ht
 ·exact Or.inr (by omega)
 ·exact Or.inr (by omega)
 ·exact Or.inr (by omega)
 ·exact Or.inl ht)
theorem do_lt (h : NetR B w N) (h0 : ∀ t ∈ S0, t < w.heap.size) (hg : w.heap.size = g) (hs : w1.heap.size = g + 3) : ∀ t ∈ doS g S0 N, t < w1.heap.size := fun t ht => by
 simp only [doS, List.mem_cons, List.mem_append] at ht
 rcases ht with rfl | rfl | rfl | ht | ht
 ·omega
 ·omega
 ·omega
 ·have := h0 t ht; omega
 ·have := (h.own t ht).2; omega
theorem do_net (h : NetR B w N) (hg : w.heap.size = g) (hg2 : Gr w w2) (hc3 : Ch [g] w2 w3) : NetR B w3 N := (h.keep hg2).turn2 hc3 (fun t ht hm => by
 have := (h.own t ht).2
 rw [List.mem_singleton.1 hm] at this
 omega)
theorem do_far (h : NetR B w N) (hg : w.heap.size = g) {t : Nat} (ht : g ≤ t) : t ∉ ownB N := fun hm => by
 have := (h.own t hm).2
 omega
theorem do_end (h : NetR B w N) (hg : w.heap.size = g) (hg2 : Gr w w2) (hx2 : XAt (doS g S0 N) w2 L2) (hc3 : Ch [g] w2 w3) (hto : NetTo B w3 N N' w4) (hc5 : Ch [g + 2] w4 w5) (HSZ : g + 3 ≤ w2.heap.size) : NetTo B w N N' w5 ∧ XAt (S0 ++ ownB N') w5 L2 := by
 have hs := hg2.size
 have h3 := hc3.size
 have hc35 : Ch (doS g S0 N) w2 w5 := ((hc3.mono (T := doS g S0 N) (by simp [doS])).trans hto.ch (fun t ht => Or.inl (by simp [doS, ht]))).trans hc5 (fun t ht => Or.inl (by rw [List.mem_singleton.1 ht]; simp [doS]))
 have h4 := hto.ch.size
 refine ⟨⟨hto.net.turn2 hc5 (fun t ht hm => ?_), ((((Ch.of (S := ownB N) hg2).trans hc3 (fun t ht => Or.inr (by rw [List.mem_singleton.1 ht]; omega))).trans hto.ch (fun t ht => Or.inl ht)).trans hc5 (fun t ht => Or.inr (by rw [List.mem_singleton.1 ht]; omega))), fun t ht => (hto.own t ht).imp id (fun h => by omega), hto.p, hto.sv⟩, hx2.ch hc35 (fun t ht => ?_)⟩
 ·rw [List.mem_singleton.1 hm] at ht
  rcases hto.own _ ht with h1 | h1
  ·exact do_far h hg (by omega) h1
  ·omega
 ·rcases List.mem_append.1 ht with ht | ht
  ·exact Or.inl (by simp [doS, ht])
  ·rcases hto.own t ht with h1 | h1
   ·exact Or.inl (by simp [doS, h1])
   ·exact Or.inr (by omega)
end
theorem do5_any {B : Nat} {S0 : List Nat} {w : World} {N : Nx} (L : LN) (a : Ac) (h : NetR B w N) (h0S : ∀ t ∈ S0, t < w.heap.size) (ht : Two (nzN N) L.era) (hx : XAt (S0 ++ ownB N) w L) (ha : AcOk w a) :
 Calls Tryz.prog 11 #[.pointer (some ⟨N.p, 0, none⟩), L.v, .agg #[.int .i64 a.kd, .int .i64 a.st, .int .i64 a.nn, .slice a.A a.n a.c]] w (DoP B S0 w N) := by
 obtain ⟨As, At, Al, n, m, l, cs, ct, cl, hsh⟩ := hx.rd.shp
 have HSH := Lib.hid hsh
 have HTWO := Lib.hid ht
 have HN := Lib.hid h
 have H0S := Lib.hid h0S
 have HINT : Hid (I64 a.nn) := Lib.hid ha.ino
 have HAC := Lib.hid ha
 obtain ⟨p, hp⟩ : ∃ p, N.p = p := ⟨_, rfl⟩
 have HP := Lib.hid hp
 rw [hsh.v, hp]
 obtain ⟨M, hM⟩ : ∃ M, DoP B S0 w N = M := ⟨_, rfl⟩
 rw [hM]
 have HM := Lib.hid hM
 have HX0 := Lib.hid hx
 obtain ⟨g, hg⟩ : ∃ g, w.heap.size = g := ⟨_, rfl⟩
 have HS := Lib.hid hg
 clear h h0S ht hx ha hp hsh hM hg
 go_enter Tryz.func11, Tryz.ntmps11
 go_upto_region 2 with fail
 generalize hW1 : World.alloc (World.alloc (World.alloc w _) _) _ = w1
 obtain ⟨hg1, k1, k2, k3, hs1⟩ := box343 HS.out hW1
 have HG1 := Lib.hid hg1
 have HS1 := Lib.hid hs1
 have HK1 := Lib.hid k1
 have HKA := Lib.hid k2
 have HKR := Lib.hid k3
 have HX1 := Lib.hid (do_at HX0.out HS.out hg1)
 have HLT := Lib.hid (do_lt (w1 := w1) HN.out H0S.out HS.out hs1)
 rw [HS.out]
 have b0 := k1.cell 0
 have b1 := k1.cell 1
 have b2 := k1.cell 2
 simp only [List.getElem?_toArray, List.getElem?_cons_succ, List.getElem?_cons_zero] at b0 b1 b2
 have a0 := k2.cell 0
 have a1 := k2.cell 1
 have a2 := k2.cell 2
 simp only [List.getElem?_toArray, List.getElem?_cons_succ, List.getElem?_cons_zero] at a0 a1 a2
 clear hW1 hg1 k1 k2 k3 hs1
 have e15 : (IntKind.u64.wrap 15) = 15 := by rfl
 go_upto_region 5 with fail
 generalize (IntKind.u64.wrap a.kd).tmod 15 = κ
 clear a0
 by_cases h0 : κ = 0
 ·subst h0
  have a3 := HKA.out.cell 3
  simp only [List.getElem?_toArray, List.getElem?_cons_succ, List.getElem?_cons_zero] at a3
  obtain ⟨q, hq⟩ : ∃ q, min a.n 9 = q := ⟨_, rfl⟩
  obtain ⟨ps, hps⟩ : ∃ ps, a.bs.take 9 = ps := ⟨_, rfl⟩
  have HPL : Hid (ps.length = q ∧ q ≤ 9) := Lib.hid ⟨by rw [← hps, List.length_take, HAC.out.parts.len]; omega, by omega⟩
  have HPA : Hid (∀ W, Gr w W → Calls Tryz.prog 31 #[.slice a.A a.n a.c] W fun e w' => ∃ A' c', e = .returned (.slice A' q c') ∧ CopyP enc2 2 ps q W A' c' w') := Lib.hid (fun W hW => by
   have := parts_any a.A a.n a.c a.bs W HAC.out.parts.len HAC.out.parts.le HAC.out.parts.max HAC.out.parts.nil (HAC.out.parts.rd.keep hW)
   rw [hq, hps] at this
   exact this)
  have HPI : Hid (∀ y ∈ ps, I64 y.1 ∧ I64 y.2) := Lib.hid (fun y hy => HAC.out.parts.small y (by rw [← hps] at hy; exact List.mem_of_mem_take hy))
  obtain ⟨er, her⟩ : ∃ er, xErrB L.era a.st ps = er := ⟨_, rfl⟩
  obtain ⟨tx, htx⟩ : ∃ tx : Int, (if er = 0 then (L.txs.length : Int) + 1 else 0) = tx := ⟨_, rfl⟩
  have HER : Hid (begE N a.st ps = er ∧ begT N a.st ps = tx) := Lib.hid (by
   have ht := HTWO.out
   have e : begE N a.st ps = er := by rw [← begE_nz, ht.errB]; exact her
   have hl : (L.txs.length : Int) = N.begun := by have := ht.lens.2; rw [lens_era.2.1] at this; exact this
   refine ⟨e, ?_⟩
   unfold begT
   rw [e, ← htx, hl])
  have HREF : Hid (∀ A4 c4 w4, CopyP enc2 2 ps q w1 A4 c4 w4 → Calls Tryz.prog 28 #[.agg #[.slice As n cs, .slice At m ct, .slice Al l cl], .int .i64 a.st, .slice A4 q c4] w4 fun e w' => ∃ L', e = .returned (.tuple #[L'.v, .int .i64 tx, .int .i64 er]) ∧ XAt (doS g S0 N) w' L' ∧ L'.era = xBeginO L.era a.st ps ∧ Gr w4 w') := Lib.hid (fun A4 c4 w4 hcp => by
   have := xbegin_any (doS g S0 N) w4 L (HX1.out.gr hcp.gr) (fun t ht => by have := HLT.out t ht; have := hcp.gr.size; omega) HTWO.out.le a.st A4 q c4 ps HPL.out.1 (by have := HPL.out.2; omega) hcp.rd
   rw [HSH.out.v] at this
   refine this.mono ?_
   rintro e w' ⟨L', he, h1, h2, h3⟩
   rw [her, htx] at he
   exact ⟨L', he, h1, h2, h3⟩)
  have HTW2 : Hid (Two (begI (nzN N) a.st ps) (xBeginO L.era a.st ps)) := Lib.hid (HTWO.out.beg a.st ps)
  clear her htx hq hps
  go_wp2_with fail
  refine (HPA.out _ HG1.out).mono ?_
  rintro e w2 ⟨A4, c4, rfl, hcp⟩
  have HCP := Lib.hid hcp
  have HK2 := Lib.hid (HK1.out.keep hcp.gr)
  have HA2 := Lib.hid (HKA.out.keep hcp.gr)
  have HR2 := Lib.hid (HKR.out.keep hcp.gr)
  clear b0 b1 b2 a1 a2 a3 hcp
  have b0 := HK2.out.cell 0
  have b1 := HK2.out.cell 1
  have b2 := HK2.out.cell 2
  simp only [List.getElem?_toArray, List.getElem?_cons_succ, List.getElem?_cons_zero] at b0 b1 b2
  have a1 := HA2.out.cell 1
  simp only [List.getElem?_toArray, List.getElem?_cons_succ, List.getElem?_cons_zero] at a1
  go_wp2_with fail
  refine (HREF.out _ _ _ HCP.out).mono ?_
  rintro e w3 ⟨L2, rfl, hx2, hera2, hg3⟩
  obtain ⟨As2, At2, Al2, n2, m2, l2, cs2, ct2, cl2, hsh2⟩ := hx2.rd.shp
  have HX2 := Lib.hid hx2
  have HERA2 := Lib.hid hera2
  have HG3 := Lib.hid (HCP.out.gr.trans hg3)
  have HGC9 := hg3
  have HSH2 := Lib.hid hsh2
  rw [hsh2.v]
  have hal := (Gr.refl w3).alloc (.cells #[.slice none 0 0, .slice none 0 0, .slice none 0 0] 33)
  clear b0 b1 b2 a1 hx2 hera2 hg3 hsh2
  go_upto_region 9 with fail
  generalize hW4 : World.alloc w3 _ = w4
  obtain ⟨gy, hgy⟩ : ∃ gy, w3.heap.size = gy := ⟨_, rfl⟩
  have ky : Blk w4 gy 33 #[.slice As2 n2 cs2, .slice At2 m2 ct2, .slice Al2 l2 cl2] := by rw [← hW4]; exact Blk.new _ _ _ hgy
  have hg4 : Gr w3 w4 := by rw [← hW4]; exact (Gr.refl w3).alloc _
  rw [hgy]
  have HKY := Lib.hid ky
  have HG4 := Lib.hid (HG3.out.trans hg4)
  have HX4 := Lib.hid (HX2.out.gr hg4)
  have HGY : Hid (g + 2 < gy) := Lib.hid (by have := HG3.out.size; have := HS1.out; omega)
  have HA4 := Lib.hid (HKA.out.keep HG4.out)
  have HR4a := Lib.hid (HKR.out.keep HG4.out)
  have HN4 := Lib.hid (HN.out.keep (HG1.out.trans HG4.out))
  have a1 := HA4.out.cell 1
  simp only [List.getElem?_toArray, List.getElem?_cons_succ, List.getElem?_cons_zero] at a1
  have HNET : Hid (Calls Tryz.prog 16 #[.pointer (some ⟨p, 0, none⟩), .int .i64 a.st, .slice A4 q c4] w4 fun e w' => e = .returned (.tuple #[.int .i64 tx, .int .i64 er]) ∧ ∃ N', nzN N' = begI (nzN N) a.st ps ∧ NetTo B w4 N N' w') := Lib.hid (by
   have hgc : Gr w2 w4 := by
    have h1 := hg4
    exact HGC9.trans h1
   have := Begin_all a.st A4 q c4 ps w4 HN4.out HTWO.out.ok HPL.out.1 (by have := HPL.out.2; omega) (fun W hW => HCP.out.away (S := ownB N) (fun y hy => by have := (HN.out.own y hy).2; have := HG1.out.size; omega) W ((Ch.of hgc).trans hW (fun _ hm => Or.inl hm))) (fun y hy => (HPI.out y hy).1)
   unfold BeginP at this
   rw [HER.out.1, HER.out.2, HP.out] at this
   exact this)
  clear hal hW4 hgy ky hg4 HGC9
  go_wp2_with fail
  refine HNET.out.mono ?_
  rintro e w5 ⟨rfl, N', hnz, hto⟩
  have HTO := Lib.hid hto
  have HNZ := Lib.hid hnz
  have k5 : Blk w5 gy _ _ := (hto.ch.block gy HKY.out.lt (do_far HN.out HS.out (by have := HGY.out; omega))).trans HKY.out
  have kr5 : Blk w5 (g + 2) _ _ := (hto.ch.block (g + 2) HR4a.out.lt (do_far HN.out HS.out (by omega))).trans HR4a.out
  have HR5 := Lib.hid kr5
  have b0 := k5.cell 0
  have b1 := k5.cell 1
  have b2 := k5.cell 2
  simp only [List.getElem?_toArray, List.getElem?_cons_succ, List.getElem?_cons_zero] at b0 b1 b2
  have f0 := kr5.free 0
  have f1 := kr5.free 1
  have f2 := kr5.free 2
  have d0 := kr5.cell 0
  have d1 := kr5.cell 1
  have d2 := kr5.cell 2
  simp only [List.getElem?_toArray, List.getElem?_cons_succ, List.getElem?_cons_zero] at d0 d1 d2
  have hee : (er == er) = true := by simp
  have htt : (tx == tx) = true := by simp
  clear a1 hto hnz k5 kr5
  go_wp2_with fail
  generalize hW6 : World.setCell (World.setCell (World.setCell w5 _ _) _ _) _ _ = w6
  obtain ⟨k6, c6⟩ := put33 HR5.out hW6
  have u0 := k6.cell 0
  have u1 := k6.cell 1
  have u2 := k6.cell 2
  refine bodyPost_ret (v := .tuple #[.agg #[.slice As2 n2 cs2, .slice At2 m2 ct2, .slice Al2 l2 cl2], .bool true]) ?_ ?_ ?_
  ·simp [results, Tryz.results11, go_sem, u0, u1, u2]
  ·rfl
  ·rw [← HM.out]
   obtain ⟨r1, r2⟩ := do_end HN.out HS.out (HG1.out.trans HG4.out) HX4.out (Ch.refl (w := w4)) HTO.out c6 (by have := HG4.out.size; have := HS1.out; omega)
   exact ⟨N', L2, by rw [HSH2.out.v], r1, by rw [HNZ.out, HERA2.out]; exact HTW2.out, r2⟩
 have hb0 : (κ == 0) = false := by simpa using h0
 by_cases h1 : κ = 1
 ·subst h1
  have a3 := HKA.out.cell 3
  simp only [List.getElem?_toArray, List.getElem?_cons_succ, List.getElem?_cons_zero] at a3
  obtain ⟨q, hq⟩ : ∃ q, min a.n 9 = q := ⟨_, rfl⟩
  obtain ⟨ps, hps⟩ : ∃ ps, a.bs.take 9 = ps := ⟨_, rfl⟩
  have HPL : Hid (ps.length = q ∧ q ≤ 9) := Lib.hid ⟨by rw [← hps, List.length_take, HAC.out.parts.len]; omega, by omega⟩
  have HPA : Hid (∀ W, Gr w W → Calls Tryz.prog 31 #[.slice a.A a.n a.c] W fun e w' => ∃ A' c', e = .returned (.slice A' q c') ∧ CopyP enc2 2 ps q W A' c' w') := Lib.hid (fun W hW => by
   have := parts_any a.A a.n a.c a.bs W HAC.out.parts.len HAC.out.parts.le HAC.out.parts.max HAC.out.parts.nil (HAC.out.parts.rd.keep hW)
   rw [hq, hps] at this
   exact this)
  have HPI : Hid (∀ y ∈ ps, I64 y.1 ∧ I64 y.2) := Lib.hid (fun y hy => HAC.out.parts.small y (by rw [← hps] at hy; exact List.mem_of_mem_take hy))
  obtain ⟨er, her⟩ : ∃ er, xErrB L.era a.st ps = er := ⟨_, rfl⟩
  obtain ⟨tx, htx⟩ : ∃ tx : Int, (if er = 0 then (L.txs.length : Int) + 1 else 0) = tx := ⟨_, rfl⟩
  have HER : Hid (begE N a.st ps = er ∧ begT N a.st ps = tx) := Lib.hid (by
   have ht := HTWO.out
   have e : begE N a.st ps = er := by rw [← begE_nz, ht.errB]; exact her
   have hl : (L.txs.length : Int) = N.begun := by have := ht.lens.2; rw [lens_era.2.1] at this; exact this
   refine ⟨e, ?_⟩
   unfold begT
   rw [e, ← htx, hl])
  have HREF : Hid (∀ A4 c4 w4, CopyP enc2 2 ps q w1 A4 c4 w4 → Calls Tryz.prog 28 #[.agg #[.slice As n cs, .slice At m ct, .slice Al l cl], .int .i64 a.st, .slice A4 q c4] w4 fun e w' => ∃ L', e = .returned (.tuple #[L'.v, .int .i64 tx, .int .i64 er]) ∧ XAt (doS g S0 N) w' L' ∧ L'.era = xBeginO L.era a.st ps ∧ Gr w4 w') := Lib.hid (fun A4 c4 w4 hcp => by
   have := xbegin_any (doS g S0 N) w4 L (HX1.out.gr hcp.gr) (fun t ht => by have := HLT.out t ht; have := hcp.gr.size; omega) HTWO.out.le a.st A4 q c4 ps HPL.out.1 (by have := HPL.out.2; omega) hcp.rd
   rw [HSH.out.v] at this
   refine this.mono ?_
   rintro e w' ⟨L', he, h1, h2, h3⟩
   rw [her, htx] at he
   exact ⟨L', he, h1, h2, h3⟩)
  have HTW2 : Hid (Two (begI (nzN N) a.st ps) (xBeginO L.era a.st ps)) := Lib.hid (HTWO.out.beg a.st ps)
  clear her htx hq hps
  go_wp2_with fail
  refine (HPA.out _ HG1.out).mono ?_
  rintro e w2 ⟨A4, c4, rfl, hcp⟩
  have HCP := Lib.hid hcp
  have HK2 := Lib.hid (HK1.out.keep hcp.gr)
  have HA2 := Lib.hid (HKA.out.keep hcp.gr)
  have HR2 := Lib.hid (HKR.out.keep hcp.gr)
  clear b0 b1 b2 a1 a2 a3 hcp
  have b0 := HK2.out.cell 0
  have b1 := HK2.out.cell 1
  have b2 := HK2.out.cell 2
  simp only [List.getElem?_toArray, List.getElem?_cons_succ, List.getElem?_cons_zero] at b0 b1 b2
  have a1 := HA2.out.cell 1
  simp only [List.getElem?_toArray, List.getElem?_cons_succ, List.getElem?_cons_zero] at a1
  go_wp2_with fail
  refine (HREF.out _ _ _ HCP.out).mono ?_
  rintro e w3 ⟨L2, rfl, hx2, hera2, hg3⟩
  obtain ⟨As2, At2, Al2, n2, m2, l2, cs2, ct2, cl2, hsh2⟩ := hx2.rd.shp
  have HX2 := Lib.hid hx2
  have HERA2 := Lib.hid hera2
  have HG3 := Lib.hid (HCP.out.gr.trans hg3)
  have HGC9 := hg3
  have HSH2 := Lib.hid hsh2
  rw [hsh2.v]
  have hal := (Gr.refl w3).alloc (.cells #[.slice none 0 0, .slice none 0 0, .slice none 0 0] 33)
  clear b0 b1 b2 a1 hx2 hera2 hg3 hsh2
  go_upto_region 9 with fail
  generalize hW4 : World.alloc w3 _ = w4
  obtain ⟨gy, hgy⟩ : ∃ gy, w3.heap.size = gy := ⟨_, rfl⟩
  have ky : Blk w4 gy 33 #[.slice As2 n2 cs2, .slice At2 m2 ct2, .slice Al2 l2 cl2] := by rw [← hW4]; exact Blk.new _ _ _ hgy
  have hg4 : Gr w3 w4 := by rw [← hW4]; exact (Gr.refl w3).alloc _
  rw [hgy]
  have HKY := Lib.hid ky
  have HG4 := Lib.hid (HG3.out.trans hg4)
  have HX4 := Lib.hid (HX2.out.gr hg4)
  have HGY : Hid (g + 2 < gy) := Lib.hid (by have := HG3.out.size; have := HS1.out; omega)
  have HA4 := Lib.hid (HKA.out.keep HG4.out)
  have HR4a := Lib.hid (HKR.out.keep HG4.out)
  have HN4 := Lib.hid (HN.out.keep (HG1.out.trans HG4.out))
  have a1 := HA4.out.cell 1
  simp only [List.getElem?_toArray, List.getElem?_cons_succ, List.getElem?_cons_zero] at a1
  have HNET : Hid (Calls Tryz.prog 16 #[.pointer (some ⟨p, 0, none⟩), .int .i64 a.st, .slice A4 q c4] w4 fun e w' => e = .returned (.tuple #[.int .i64 tx, .int .i64 er]) ∧ ∃ N', nzN N' = begI (nzN N) a.st ps ∧ NetTo B w4 N N' w') := Lib.hid (by
   have hgc : Gr w2 w4 := by
    have h1 := hg4
    exact HGC9.trans h1
   have := Begin_all a.st A4 q c4 ps w4 HN4.out HTWO.out.ok HPL.out.1 (by have := HPL.out.2; omega) (fun W hW => HCP.out.away (S := ownB N) (fun y hy => by have := (HN.out.own y hy).2; have := HG1.out.size; omega) W ((Ch.of hgc).trans hW (fun _ hm => Or.inl hm))) (fun y hy => (HPI.out y hy).1)
   unfold BeginP at this
   rw [HER.out.1, HER.out.2, HP.out] at this
   exact this)
  clear hal hW4 hgy ky hg4 HGC9
  go_wp2_with fail
  refine HNET.out.mono ?_
  rintro e w5 ⟨rfl, N', hnz, hto⟩
  have HTO := Lib.hid hto
  have HNZ := Lib.hid hnz
  have k5 : Blk w5 gy _ _ := (hto.ch.block gy HKY.out.lt (do_far HN.out HS.out (by have := HGY.out; omega))).trans HKY.out
  have kr5 : Blk w5 (g + 2) _ _ := (hto.ch.block (g + 2) HR4a.out.lt (do_far HN.out HS.out (by omega))).trans HR4a.out
  have HR5 := Lib.hid kr5
  have b0 := k5.cell 0
  have b1 := k5.cell 1
  have b2 := k5.cell 2
  simp only [List.getElem?_toArray, List.getElem?_cons_succ, List.getElem?_cons_zero] at b0 b1 b2
  have f0 := kr5.free 0
  have f1 := kr5.free 1
  have f2 := kr5.free 2
  have d0 := kr5.cell 0
  have d1 := kr5.cell 1
  have d2 := kr5.cell 2
  simp only [List.getElem?_toArray, List.getElem?_cons_succ, List.getElem?_cons_zero] at d0 d1 d2
  have hee : (er == er) = true := by simp
  have htt : (tx == tx) = true := by simp
  clear a1 hto hnz k5 kr5
  go_wp2_with fail
  generalize hW6 : World.setCell (World.setCell (World.setCell w5 _ _) _ _) _ _ = w6
  obtain ⟨k6, c6⟩ := put33 HR5.out hW6
  have u0 := k6.cell 0
  have u1 := k6.cell 1
  have u2 := k6.cell 2
  refine bodyPost_ret (v := .tuple #[.agg #[.slice As2 n2 cs2, .slice At2 m2 ct2, .slice Al2 l2 cl2], .bool true]) ?_ ?_ ?_
  ·simp [results, Tryz.results11, go_sem, u0, u1, u2]
  ·rfl
  ·rw [← HM.out]
   obtain ⟨r1, r2⟩ := do_end HN.out HS.out (HG1.out.trans HG4.out) HX4.out (Ch.refl (w := w4)) HTO.out c6 (by have := HG4.out.size; have := HS1.out; omega)
   exact ⟨N', L2, by rw [HSH2.out.v], r1, by rw [HNZ.out, HERA2.out]; exact HTW2.out, r2⟩
 have hb1 : (κ == 1) = false := by simpa using h1
 by_cases h2 : κ = 2
 ·subst h2
  obtain ⟨er, her⟩ : ∃ er, xErrC L.era a.st a.nn = er := ⟨_, rfl⟩
  have HREF : Hid (Calls Tryz.prog 32 #[.agg #[.slice As n cs, .slice At m ct, .slice Al l cl], .int .i64 a.st, .int .i64 a.nn] w1 (EndX (doS g S0 N) w1 (xCancelO L.era a.st a.nn) er)) := Lib.hid (by
   have := xcancel_any (doS g S0 N) w1 L HX1.out HLT.out HTWO.out.le a.st a.nn
   rw [HSH.out.v, her] at this
   exact this)
  have HNET : Hid (∀ W, NetR B W N → Calls Tryz.prog 19 #[.pointer (some ⟨p, 0, none⟩), .int .i64 a.st, .int .i64 a.nn] W (NumP B W N er (canI (nzN N) a.st a.nn))) := Lib.hid (fun W hW => by
   have := Cancel_all a.st a.nn hW HTWO.out.ok HINT.out
   have e : canE N a.st a.nn = er := by have ht := HTWO.out; rw [← canE_nz, ht.errC]; exact her
   rw [e, HP.out] at this
   exact this)
  have HTW2 : Hid (Two (canI (nzN N) a.st a.nn) (xCancelO L.era a.st a.nn)) := Lib.hid (HTWO.out.can a.st a.nn)
  clear her
  go_wp2_with fail
  refine HREF.out.mono ?_
  rintro e w2 ⟨L2, rfl, hx2, hera2, hg2⟩
  obtain ⟨As2, At2, Al2, n2, m2, l2, cs2, ct2, cl2, hsh2⟩ := hx2.rd.shp
  have HX2 := Lib.hid hx2
  have HERA2 := Lib.hid hera2
  have HG2 := Lib.hid hg2
  have HSH2 := Lib.hid hsh2
  have HK2 := Lib.hid (HK1.out.keep hg2)
  have HA2 := Lib.hid (HKA.out.keep hg2)
  have HR2 := Lib.hid (HKR.out.keep hg2)
  rw [hsh2.v]
  clear b0 b1 b2 a1 a2 hx2 hera2 hg2 hsh2
  have f0 := HK2.out.free 0
  have f1 := HK2.out.free 1
  have f2 := HK2.out.free 2
  have d0 := HK2.out.cell 0
  have d1 := HK2.out.cell 1
  have d2 := HK2.out.cell 2
  simp only [List.getElem?_toArray, List.getElem?_cons_succ, List.getElem?_cons_zero] at d0 d1 d2
  go_upto_region 13 with fail
  generalize hW3 : World.setCell (World.setCell (World.setCell w2 _ _) _ _) _ _ = w3
  obtain ⟨k3, c3⟩ := put33 HK2.out hW3
  have ka : Blk w3 (g + 1) _ _ := (c3.block (g + 1) HA2.out.lt (by simp)).trans HA2.out
  have kr : Blk w3 (g + 2) _ _ := (c3.block (g + 2) HR2.out.lt (by simp)).trans HR2.out
  have HK3 := Lib.hid k3
  have HC3 := Lib.hid c3
  have HR3 := Lib.hid kr
  have HN3 := Lib.hid (do_net HN.out HS.out (HG1.out.trans HG2.out) c3)
  have a1 := ka.cell 1
  have a2 := ka.cell 2
  simp only [List.getElem?_toArray, List.getElem?_cons_succ, List.getElem?_cons_zero] at a1 a2
  clear f0 f1 f2 d0 d1 d2 hW3 k3 c3 ka kr
  go_wp2_with fail
  refine (HNET.out _ HN3.out).mono ?_
  rintro e w4 ⟨rfl, N', hnz, hto⟩
  have HTO := Lib.hid hto
  have HNZ := Lib.hid hnz
  have k4 : Blk w4 g _ _ := (hto.ch.block g HK3.out.lt (do_far HN.out HS.out (Nat.le_refl _))).trans HK3.out
  have kr4 : Blk w4 (g + 2) _ _ := (hto.ch.block (g + 2) HR3.out.lt (do_far HN.out HS.out (by omega))).trans HR3.out
  have HR4 := Lib.hid kr4
  have b0 := k4.cell 0
  have b1 := k4.cell 1
  have b2 := k4.cell 2
  simp only [List.getElem?_toArray, List.getElem?_cons_succ, List.getElem?_cons_zero] at b0 b1 b2
  have f0 := kr4.free 0
  have f1 := kr4.free 1
  have f2 := kr4.free 2
  have d0 := kr4.cell 0
  have d1 := kr4.cell 1
  have d2 := kr4.cell 2
  simp only [List.getElem?_toArray, List.getElem?_cons_succ, List.getElem?_cons_zero] at d0 d1 d2
  have hee : (er == er) = true := by simp
  clear a1 a2 hto hnz k4 kr4
  go_wp2_with fail
  generalize hW5 : World.setCell (World.setCell (World.setCell w4 _ _) _ _) _ _ = w5
  obtain ⟨k5, c5⟩ := put33 HR4.out hW5
  have u0 := k5.cell 0
  have u1 := k5.cell 1
  have u2 := k5.cell 2
  refine bodyPost_ret (v := .tuple #[.agg #[.slice As2 n2 cs2, .slice At2 m2 ct2, .slice Al2 l2 cl2], .bool true]) ?_ ?_ ?_
  ·simp [results, Tryz.results11, go_sem, u0, u1, u2]
  ·rfl
  ·rw [← HM.out]
   obtain ⟨r1, r2⟩ := do_end HN.out HS.out (HG1.out.trans HG2.out) HX2.out HC3.out HTO.out c5 (by have := HG2.out.size; have := HS1.out; omega)
   exact ⟨N', L2, by rw [HSH2.out.v], r1, by rw [HNZ.out, HERA2.out]; exact HTW2.out, r2⟩
 have hb2 : (κ == 2) = false := by simpa using h2
 by_cases h3 : κ = 3
 ·subst h3
  obtain ⟨er, her⟩ : ∃ er, xErrL L.era a.nn = er := ⟨_, rfl⟩
  have HREF : Hid (Calls Tryz.prog 33 #[.agg #[.slice As n cs, .slice At m ct, .slice Al l cl], .int .i64 a.nn] w1 (EndX (doS g S0 N) w1 (xDeliverO L.era a.nn) er)) := Lib.hid (by
   have := xdeliver_any (doS g S0 N) w1 L HX1.out HLT.out HTWO.out.le a.nn HTWO.out.rg (fun x hx => HTWO.out.let5 hx)
   rw [HSH.out.v, her] at this
   exact this)
  have HNET : Hid (∀ W, NetR B W N → Calls Tryz.prog 20 #[.pointer (some ⟨p, 0, none⟩), .int .i64 a.nn] W (NumP B W N er (delI (nzN N) a.nn))) := Lib.hid (fun W hW => by
   have := Deliver_all a.nn hW HTWO.out.ok
   have e : refL N a.nn = er := by have ht := HTWO.out; rw [← refL_nz, ht.errL]; exact her
   rw [e, HP.out] at this
   exact this)
  have HTW2 : Hid (Two (delI (nzN N) a.nn) (xDeliverO L.era a.nn)) := Lib.hid (HTWO.out.del a.nn)
  clear her
  go_wp2_with fail
  refine HREF.out.mono ?_
  rintro e w2 ⟨L2, rfl, hx2, hera2, hg2⟩
  obtain ⟨As2, At2, Al2, n2, m2, l2, cs2, ct2, cl2, hsh2⟩ := hx2.rd.shp
  have HX2 := Lib.hid hx2
  have HERA2 := Lib.hid hera2
  have HG2 := Lib.hid hg2
  have HSH2 := Lib.hid hsh2
  have HK2 := Lib.hid (HK1.out.keep hg2)
  have HA2 := Lib.hid (HKA.out.keep hg2)
  have HR2 := Lib.hid (HKR.out.keep hg2)
  rw [hsh2.v]
  clear b0 b1 b2 a1 a2 hx2 hera2 hg2 hsh2
  have f0 := HK2.out.free 0
  have f1 := HK2.out.free 1
  have f2 := HK2.out.free 2
  have d0 := HK2.out.cell 0
  have d1 := HK2.out.cell 1
  have d2 := HK2.out.cell 2
  simp only [List.getElem?_toArray, List.getElem?_cons_succ, List.getElem?_cons_zero] at d0 d1 d2
  go_upto_region 20 with fail
  generalize hW3 : World.setCell (World.setCell (World.setCell w2 _ _) _ _) _ _ = w3
  obtain ⟨k3, c3⟩ := put33 HK2.out hW3
  have ka : Blk w3 (g + 1) _ _ := (c3.block (g + 1) HA2.out.lt (by simp)).trans HA2.out
  have kr : Blk w3 (g + 2) _ _ := (c3.block (g + 2) HR2.out.lt (by simp)).trans HR2.out
  have HK3 := Lib.hid k3
  have HC3 := Lib.hid c3
  have HR3 := Lib.hid kr
  have HN3 := Lib.hid (do_net HN.out HS.out (HG1.out.trans HG2.out) c3)
  have a1 := ka.cell 1
  have a2 := ka.cell 2
  simp only [List.getElem?_toArray, List.getElem?_cons_succ, List.getElem?_cons_zero] at a1 a2
  clear f0 f1 f2 d0 d1 d2 hW3 k3 c3 ka kr
  go_wp2_with fail
  refine (HNET.out _ HN3.out).mono ?_
  rintro e w4 ⟨rfl, N', hnz, hto⟩
  have HTO := Lib.hid hto
  have HNZ := Lib.hid hnz
  have k4 : Blk w4 g _ _ := (hto.ch.block g HK3.out.lt (do_far HN.out HS.out (Nat.le_refl _))).trans HK3.out
  have kr4 : Blk w4 (g + 2) _ _ := (hto.ch.block (g + 2) HR3.out.lt (do_far HN.out HS.out (by omega))).trans HR3.out
  have HR4 := Lib.hid kr4
  have b0 := k4.cell 0
  have b1 := k4.cell 1
  have b2 := k4.cell 2
  simp only [List.getElem?_toArray, List.getElem?_cons_succ, List.getElem?_cons_zero] at b0 b1 b2
  have f0 := kr4.free 0
  have f1 := kr4.free 1
  have f2 := kr4.free 2
  have d0 := kr4.cell 0
  have d1 := kr4.cell 1
  have d2 := kr4.cell 2
  simp only [List.getElem?_toArray, List.getElem?_cons_succ, List.getElem?_cons_zero] at d0 d1 d2
  have hee : (er == er) = true := by simp
  clear a1 a2 hto hnz k4 kr4
  go_wp2_with fail
  generalize hW5 : World.setCell (World.setCell (World.setCell w4 _ _) _ _) _ _ = w5
  obtain ⟨k5, c5⟩ := put33 HR4.out hW5
  have u0 := k5.cell 0
  have u1 := k5.cell 1
  have u2 := k5.cell 2
  refine bodyPost_ret (v := .tuple #[.agg #[.slice As2 n2 cs2, .slice At2 m2 ct2, .slice Al2 l2 cl2], .bool true]) ?_ ?_ ?_
  ·simp [results, Tryz.results11, go_sem, u0, u1, u2]
  ·rfl
  ·rw [← HM.out]
   obtain ⟨r1, r2⟩ := do_end HN.out HS.out (HG1.out.trans HG2.out) HX2.out HC3.out HTO.out c5 (by have := HG2.out.size; have := HS1.out; omega)
   exact ⟨N', L2, by rw [HSH2.out.v], r1, by rw [HNZ.out, HERA2.out]; exact HTW2.out, r2⟩
 have hb3 : (κ == 3) = false := by simpa using h3
 by_cases h4 : κ = 4
 ·subst h4
  obtain ⟨er, her⟩ : ∃ er, xErrL L.era a.nn = er := ⟨_, rfl⟩
  have HREF : Hid (Calls Tryz.prog 33 #[.agg #[.slice As n cs, .slice At m ct, .slice Al l cl], .int .i64 a.nn] w1 (EndX (doS g S0 N) w1 (xDeliverO L.era a.nn) er)) := Lib.hid (by
   have := xdeliver_any (doS g S0 N) w1 L HX1.out HLT.out HTWO.out.le a.nn HTWO.out.rg (fun x hx => HTWO.out.let5 hx)
   rw [HSH.out.v, her] at this
   exact this)
  have HNET : Hid (∀ W, NetR B W N → Calls Tryz.prog 20 #[.pointer (some ⟨p, 0, none⟩), .int .i64 a.nn] W (NumP B W N er (delI (nzN N) a.nn))) := Lib.hid (fun W hW => by
   have := Deliver_all a.nn hW HTWO.out.ok
   have e : refL N a.nn = er := by have ht := HTWO.out; rw [← refL_nz, ht.errL]; exact her
   rw [e, HP.out] at this
   exact this)
  have HTW2 : Hid (Two (delI (nzN N) a.nn) (xDeliverO L.era a.nn)) := Lib.hid (HTWO.out.del a.nn)
  clear her
  go_wp2_with fail
  refine HREF.out.mono ?_
  rintro e w2 ⟨L2, rfl, hx2, hera2, hg2⟩
  obtain ⟨As2, At2, Al2, n2, m2, l2, cs2, ct2, cl2, hsh2⟩ := hx2.rd.shp
  have HX2 := Lib.hid hx2
  have HERA2 := Lib.hid hera2
  have HG2 := Lib.hid hg2
  have HSH2 := Lib.hid hsh2
  have HK2 := Lib.hid (HK1.out.keep hg2)
  have HA2 := Lib.hid (HKA.out.keep hg2)
  have HR2 := Lib.hid (HKR.out.keep hg2)
  rw [hsh2.v]
  clear b0 b1 b2 a1 a2 hx2 hera2 hg2 hsh2
  have f0 := HK2.out.free 0
  have f1 := HK2.out.free 1
  have f2 := HK2.out.free 2
  have d0 := HK2.out.cell 0
  have d1 := HK2.out.cell 1
  have d2 := HK2.out.cell 2
  simp only [List.getElem?_toArray, List.getElem?_cons_succ, List.getElem?_cons_zero] at d0 d1 d2
  go_upto_region 20 with fail
  generalize hW3 : World.setCell (World.setCell (World.setCell w2 _ _) _ _) _ _ = w3
  obtain ⟨k3, c3⟩ := put33 HK2.out hW3
  have ka : Blk w3 (g + 1) _ _ := (c3.block (g + 1) HA2.out.lt (by simp)).trans HA2.out
  have kr : Blk w3 (g + 2) _ _ := (c3.block (g + 2) HR2.out.lt (by simp)).trans HR2.out
  have HK3 := Lib.hid k3
  have HC3 := Lib.hid c3
  have HR3 := Lib.hid kr
  have HN3 := Lib.hid (do_net HN.out HS.out (HG1.out.trans HG2.out) c3)
  have a1 := ka.cell 1
  have a2 := ka.cell 2
  simp only [List.getElem?_toArray, List.getElem?_cons_succ, List.getElem?_cons_zero] at a1 a2
  clear f0 f1 f2 d0 d1 d2 hW3 k3 c3 ka kr
  go_wp2_with fail
  refine (HNET.out _ HN3.out).mono ?_
  rintro e w4 ⟨rfl, N', hnz, hto⟩
  have HTO := Lib.hid hto
  have HNZ := Lib.hid hnz
  have k4 : Blk w4 g _ _ := (hto.ch.block g HK3.out.lt (do_far HN.out HS.out (Nat.le_refl _))).trans HK3.out
  have kr4 : Blk w4 (g + 2) _ _ := (hto.ch.block (g + 2) HR3.out.lt (do_far HN.out HS.out (by omega))).trans HR3.out
  have HR4 := Lib.hid kr4
  have b0 := k4.cell 0
  have b1 := k4.cell 1
  have b2 := k4.cell 2
  simp only [List.getElem?_toArray, List.getElem?_cons_succ, List.getElem?_cons_zero] at b0 b1 b2
  have f0 := kr4.free 0
  have f1 := kr4.free 1
  have f2 := kr4.free 2
  have d0 := kr4.cell 0
  have d1 := kr4.cell 1
  have d2 := kr4.cell 2
  simp only [List.getElem?_toArray, List.getElem?_cons_succ, List.getElem?_cons_zero] at d0 d1 d2
  have hee : (er == er) = true := by simp
  clear a1 a2 hto hnz k4 kr4
  go_wp2_with fail
  generalize hW5 : World.setCell (World.setCell (World.setCell w4 _ _) _ _) _ _ = w5
  obtain ⟨k5, c5⟩ := put33 HR4.out hW5
  have u0 := k5.cell 0
  have u1 := k5.cell 1
  have u2 := k5.cell 2
  refine bodyPost_ret (v := .tuple #[.agg #[.slice As2 n2 cs2, .slice At2 m2 ct2, .slice Al2 l2 cl2], .bool true]) ?_ ?_ ?_
  ·simp [results, Tryz.results11, go_sem, u0, u1, u2]
  ·rfl
  ·rw [← HM.out]
   obtain ⟨r1, r2⟩ := do_end HN.out HS.out (HG1.out.trans HG2.out) HX2.out HC3.out HTO.out c5 (by have := HG2.out.size; have := HS1.out; omega)
   exact ⟨N', L2, by rw [HSH2.out.v], r1, by rw [HNZ.out, HERA2.out]; exact HTW2.out, r2⟩
 have hb4 : (κ == 4) = false := by simpa using h4
 by_cases h5 : κ = 5
 ·subst h5
  obtain ⟨er, her⟩ : ∃ er, xErrL L.era a.nn = er := ⟨_, rfl⟩
  have HREF : Hid (Calls Tryz.prog 33 #[.agg #[.slice As n cs, .slice At m ct, .slice Al l cl], .int .i64 a.nn] w1 (EndX (doS g S0 N) w1 (xDeliverO L.era a.nn) er)) := Lib.hid (by
   have := xdeliver_any (doS g S0 N) w1 L HX1.out HLT.out HTWO.out.le a.nn HTWO.out.rg (fun x hx => HTWO.out.let5 hx)
   rw [HSH.out.v, her] at this
   exact this)
  have HNET : Hid (∀ W, NetR B W N → Calls Tryz.prog 20 #[.pointer (some ⟨p, 0, none⟩), .int .i64 a.nn] W (NumP B W N er (delI (nzN N) a.nn))) := Lib.hid (fun W hW => by
   have := Deliver_all a.nn hW HTWO.out.ok
   have e : refL N a.nn = er := by have ht := HTWO.out; rw [← refL_nz, ht.errL]; exact her
   rw [e, HP.out] at this
   exact this)
  have HTW2 : Hid (Two (delI (nzN N) a.nn) (xDeliverO L.era a.nn)) := Lib.hid (HTWO.out.del a.nn)
  clear her
  go_wp2_with fail
  refine HREF.out.mono ?_
  rintro e w2 ⟨L2, rfl, hx2, hera2, hg2⟩
  obtain ⟨As2, At2, Al2, n2, m2, l2, cs2, ct2, cl2, hsh2⟩ := hx2.rd.shp
  have HX2 := Lib.hid hx2
  have HERA2 := Lib.hid hera2
  have HG2 := Lib.hid hg2
  have HSH2 := Lib.hid hsh2
  have HK2 := Lib.hid (HK1.out.keep hg2)
  have HA2 := Lib.hid (HKA.out.keep hg2)
  have HR2 := Lib.hid (HKR.out.keep hg2)
  rw [hsh2.v]
  clear b0 b1 b2 a1 a2 hx2 hera2 hg2 hsh2
  have f0 := HK2.out.free 0
  have f1 := HK2.out.free 1
  have f2 := HK2.out.free 2
  have d0 := HK2.out.cell 0
  have d1 := HK2.out.cell 1
  have d2 := HK2.out.cell 2
  simp only [List.getElem?_toArray, List.getElem?_cons_succ, List.getElem?_cons_zero] at d0 d1 d2
  go_upto_region 20 with fail
  generalize hW3 : World.setCell (World.setCell (World.setCell w2 _ _) _ _) _ _ = w3
  obtain ⟨k3, c3⟩ := put33 HK2.out hW3
  have ka : Blk w3 (g + 1) _ _ := (c3.block (g + 1) HA2.out.lt (by simp)).trans HA2.out
  have kr : Blk w3 (g + 2) _ _ := (c3.block (g + 2) HR2.out.lt (by simp)).trans HR2.out
  have HK3 := Lib.hid k3
  have HC3 := Lib.hid c3
  have HR3 := Lib.hid kr
  have HN3 := Lib.hid (do_net HN.out HS.out (HG1.out.trans HG2.out) c3)
  have a1 := ka.cell 1
  have a2 := ka.cell 2
  simp only [List.getElem?_toArray, List.getElem?_cons_succ, List.getElem?_cons_zero] at a1 a2
  clear f0 f1 f2 d0 d1 d2 hW3 k3 c3 ka kr
  go_wp2_with fail
  refine (HNET.out _ HN3.out).mono ?_
  rintro e w4 ⟨rfl, N', hnz, hto⟩
  have HTO := Lib.hid hto
  have HNZ := Lib.hid hnz
  have k4 : Blk w4 g _ _ := (hto.ch.block g HK3.out.lt (do_far HN.out HS.out (Nat.le_refl _))).trans HK3.out
  have kr4 : Blk w4 (g + 2) _ _ := (hto.ch.block (g + 2) HR3.out.lt (do_far HN.out HS.out (by omega))).trans HR3.out
  have HR4 := Lib.hid kr4
  have b0 := k4.cell 0
  have b1 := k4.cell 1
  have b2 := k4.cell 2
  simp only [List.getElem?_toArray, List.getElem?_cons_succ, List.getElem?_cons_zero] at b0 b1 b2
  have f0 := kr4.free 0
  have f1 := kr4.free 1
  have f2 := kr4.free 2
  have d0 := kr4.cell 0
  have d1 := kr4.cell 1
  have d2 := kr4.cell 2
  simp only [List.getElem?_toArray, List.getElem?_cons_succ, List.getElem?_cons_zero] at d0 d1 d2
  have hee : (er == er) = true := by simp
  clear a1 a2 hto hnz k4 kr4
  go_wp2_with fail
  generalize hW5 : World.setCell (World.setCell (World.setCell w4 _ _) _ _) _ _ = w5
  obtain ⟨k5, c5⟩ := put33 HR4.out hW5
  have u0 := k5.cell 0
  have u1 := k5.cell 1
  have u2 := k5.cell 2
  refine bodyPost_ret (v := .tuple #[.agg #[.slice As2 n2 cs2, .slice At2 m2 ct2, .slice Al2 l2 cl2], .bool true]) ?_ ?_ ?_
  ·simp [results, Tryz.results11, go_sem, u0, u1, u2]
  ·rfl
  ·rw [← HM.out]
   obtain ⟨r1, r2⟩ := do_end HN.out HS.out (HG1.out.trans HG2.out) HX2.out HC3.out HTO.out c5 (by have := HG2.out.size; have := HS1.out; omega)
   exact ⟨N', L2, by rw [HSH2.out.v], r1, by rw [HNZ.out, HERA2.out]; exact HTW2.out, r2⟩
 have hb5 : (κ == 5) = false := by simpa using h5
 by_cases h6 : κ = 6
 ·subst h6
  obtain ⟨er, her⟩ : ∃ er, xErrL L.era a.nn = er := ⟨_, rfl⟩
  have HREF : Hid (Calls Tryz.prog 33 #[.agg #[.slice As n cs, .slice At m ct, .slice Al l cl], .int .i64 a.nn] w1 (EndX (doS g S0 N) w1 (xDeliverO L.era a.nn) er)) := Lib.hid (by
   have := xdeliver_any (doS g S0 N) w1 L HX1.out HLT.out HTWO.out.le a.nn HTWO.out.rg (fun x hx => HTWO.out.let5 hx)
   rw [HSH.out.v, her] at this
   exact this)
  have HNET : Hid (∀ W, NetR B W N → Calls Tryz.prog 20 #[.pointer (some ⟨p, 0, none⟩), .int .i64 a.nn] W (NumP B W N er (delI (nzN N) a.nn))) := Lib.hid (fun W hW => by
   have := Deliver_all a.nn hW HTWO.out.ok
   have e : refL N a.nn = er := by have ht := HTWO.out; rw [← refL_nz, ht.errL]; exact her
   rw [e, HP.out] at this
   exact this)
  have HTW2 : Hid (Two (delI (nzN N) a.nn) (xDeliverO L.era a.nn)) := Lib.hid (HTWO.out.del a.nn)
  clear her
  go_wp2_with fail
  refine HREF.out.mono ?_
  rintro e w2 ⟨L2, rfl, hx2, hera2, hg2⟩
  obtain ⟨As2, At2, Al2, n2, m2, l2, cs2, ct2, cl2, hsh2⟩ := hx2.rd.shp
  have HX2 := Lib.hid hx2
  have HERA2 := Lib.hid hera2
  have HG2 := Lib.hid hg2
  have HSH2 := Lib.hid hsh2
  have HK2 := Lib.hid (HK1.out.keep hg2)
  have HA2 := Lib.hid (HKA.out.keep hg2)
  have HR2 := Lib.hid (HKR.out.keep hg2)
  rw [hsh2.v]
  clear b0 b1 b2 a1 a2 hx2 hera2 hg2 hsh2
  have f0 := HK2.out.free 0
  have f1 := HK2.out.free 1
  have f2 := HK2.out.free 2
  have d0 := HK2.out.cell 0
  have d1 := HK2.out.cell 1
  have d2 := HK2.out.cell 2
  simp only [List.getElem?_toArray, List.getElem?_cons_succ, List.getElem?_cons_zero] at d0 d1 d2
  go_upto_region 20 with fail
  generalize hW3 : World.setCell (World.setCell (World.setCell w2 _ _) _ _) _ _ = w3
  obtain ⟨k3, c3⟩ := put33 HK2.out hW3
  have ka : Blk w3 (g + 1) _ _ := (c3.block (g + 1) HA2.out.lt (by simp)).trans HA2.out
  have kr : Blk w3 (g + 2) _ _ := (c3.block (g + 2) HR2.out.lt (by simp)).trans HR2.out
  have HK3 := Lib.hid k3
  have HC3 := Lib.hid c3
  have HR3 := Lib.hid kr
  have HN3 := Lib.hid (do_net HN.out HS.out (HG1.out.trans HG2.out) c3)
  have a1 := ka.cell 1
  have a2 := ka.cell 2
  simp only [List.getElem?_toArray, List.getElem?_cons_succ, List.getElem?_cons_zero] at a1 a2
  clear f0 f1 f2 d0 d1 d2 hW3 k3 c3 ka kr
  go_wp2_with fail
  refine (HNET.out _ HN3.out).mono ?_
  rintro e w4 ⟨rfl, N', hnz, hto⟩
  have HTO := Lib.hid hto
  have HNZ := Lib.hid hnz
  have k4 : Blk w4 g _ _ := (hto.ch.block g HK3.out.lt (do_far HN.out HS.out (Nat.le_refl _))).trans HK3.out
  have kr4 : Blk w4 (g + 2) _ _ := (hto.ch.block (g + 2) HR3.out.lt (do_far HN.out HS.out (by omega))).trans HR3.out
  have HR4 := Lib.hid kr4
  have b0 := k4.cell 0
  have b1 := k4.cell 1
  have b2 := k4.cell 2
  simp only [List.getElem?_toArray, List.getElem?_cons_succ, List.getElem?_cons_zero] at b0 b1 b2
  have f0 := kr4.free 0
  have f1 := kr4.free 1
  have f2 := kr4.free 2
  have d0 := kr4.cell 0
  have d1 := kr4.cell 1
  have d2 := kr4.cell 2
  simp only [List.getElem?_toArray, List.getElem?_cons_succ, List.getElem?_cons_zero] at d0 d1 d2
  have hee : (er == er) = true := by simp
  clear a1 a2 hto hnz k4 kr4
  go_wp2_with fail
  generalize hW5 : World.setCell (World.setCell (World.setCell w4 _ _) _ _) _ _ = w5
  obtain ⟨k5, c5⟩ := put33 HR4.out hW5
  have u0 := k5.cell 0
  have u1 := k5.cell 1
  have u2 := k5.cell 2
  refine bodyPost_ret (v := .tuple #[.agg #[.slice As2 n2 cs2, .slice At2 m2 ct2, .slice Al2 l2 cl2], .bool true]) ?_ ?_ ?_
  ·simp [results, Tryz.results11, go_sem, u0, u1, u2]
  ·rfl
  ·rw [← HM.out]
   obtain ⟨r1, r2⟩ := do_end HN.out HS.out (HG1.out.trans HG2.out) HX2.out HC3.out HTO.out c5 (by have := HG2.out.size; have := HS1.out; omega)
   exact ⟨N', L2, by rw [HSH2.out.v], r1, by rw [HNZ.out, HERA2.out]; exact HTW2.out, r2⟩
 have hb6 : (κ == 6) = false := by simpa using h6
 by_cases h7 : κ = 7
 ·subst h7
  obtain ⟨er, her⟩ : ∃ er, xErrL L.era a.nn = er := ⟨_, rfl⟩
  have HREF : Hid (Calls Tryz.prog 33 #[.agg #[.slice As n cs, .slice At m ct, .slice Al l cl], .int .i64 a.nn] w1 (EndX (doS g S0 N) w1 (xDeliverO L.era a.nn) er)) := Lib.hid (by
   have := xdeliver_any (doS g S0 N) w1 L HX1.out HLT.out HTWO.out.le a.nn HTWO.out.rg (fun x hx => HTWO.out.let5 hx)
   rw [HSH.out.v, her] at this
   exact this)
  have HNET : Hid (∀ W, NetR B W N → Calls Tryz.prog 20 #[.pointer (some ⟨p, 0, none⟩), .int .i64 a.nn] W (NumP B W N er (delI (nzN N) a.nn))) := Lib.hid (fun W hW => by
   have := Deliver_all a.nn hW HTWO.out.ok
   have e : refL N a.nn = er := by have ht := HTWO.out; rw [← refL_nz, ht.errL]; exact her
   rw [e, HP.out] at this
   exact this)
  have HTW2 : Hid (Two (delI (nzN N) a.nn) (xDeliverO L.era a.nn)) := Lib.hid (HTWO.out.del a.nn)
  clear her
  go_wp2_with fail
  refine HREF.out.mono ?_
  rintro e w2 ⟨L2, rfl, hx2, hera2, hg2⟩
  obtain ⟨As2, At2, Al2, n2, m2, l2, cs2, ct2, cl2, hsh2⟩ := hx2.rd.shp
  have HX2 := Lib.hid hx2
  have HERA2 := Lib.hid hera2
  have HG2 := Lib.hid hg2
  have HSH2 := Lib.hid hsh2
  have HK2 := Lib.hid (HK1.out.keep hg2)
  have HA2 := Lib.hid (HKA.out.keep hg2)
  have HR2 := Lib.hid (HKR.out.keep hg2)
  rw [hsh2.v]
  clear b0 b1 b2 a1 a2 hx2 hera2 hg2 hsh2
  have f0 := HK2.out.free 0
  have f1 := HK2.out.free 1
  have f2 := HK2.out.free 2
  have d0 := HK2.out.cell 0
  have d1 := HK2.out.cell 1
  have d2 := HK2.out.cell 2
  simp only [List.getElem?_toArray, List.getElem?_cons_succ, List.getElem?_cons_zero] at d0 d1 d2
  go_upto_region 20 with fail
  generalize hW3 : World.setCell (World.setCell (World.setCell w2 _ _) _ _) _ _ = w3
  obtain ⟨k3, c3⟩ := put33 HK2.out hW3
  have ka : Blk w3 (g + 1) _ _ := (c3.block (g + 1) HA2.out.lt (by simp)).trans HA2.out
  have kr : Blk w3 (g + 2) _ _ := (c3.block (g + 2) HR2.out.lt (by simp)).trans HR2.out
  have HK3 := Lib.hid k3
  have HC3 := Lib.hid c3
  have HR3 := Lib.hid kr
  have HN3 := Lib.hid (do_net HN.out HS.out (HG1.out.trans HG2.out) c3)
  have a1 := ka.cell 1
  have a2 := ka.cell 2
  simp only [List.getElem?_toArray, List.getElem?_cons_succ, List.getElem?_cons_zero] at a1 a2
  clear f0 f1 f2 d0 d1 d2 hW3 k3 c3 ka kr
  go_wp2_with fail
  refine (HNET.out _ HN3.out).mono ?_
  rintro e w4 ⟨rfl, N', hnz, hto⟩
  have HTO := Lib.hid hto
  have HNZ := Lib.hid hnz
  have k4 : Blk w4 g _ _ := (hto.ch.block g HK3.out.lt (do_far HN.out HS.out (Nat.le_refl _))).trans HK3.out
  have kr4 : Blk w4 (g + 2) _ _ := (hto.ch.block (g + 2) HR3.out.lt (do_far HN.out HS.out (by omega))).trans HR3.out
  have HR4 := Lib.hid kr4
  have b0 := k4.cell 0
  have b1 := k4.cell 1
  have b2 := k4.cell 2
  simp only [List.getElem?_toArray, List.getElem?_cons_succ, List.getElem?_cons_zero] at b0 b1 b2
  have f0 := kr4.free 0
  have f1 := kr4.free 1
  have f2 := kr4.free 2
  have d0 := kr4.cell 0
  have d1 := kr4.cell 1
  have d2 := kr4.cell 2
  simp only [List.getElem?_toArray, List.getElem?_cons_succ, List.getElem?_cons_zero] at d0 d1 d2
  have hee : (er == er) = true := by simp
  clear a1 a2 hto hnz k4 kr4
  go_wp2_with fail
  generalize hW5 : World.setCell (World.setCell (World.setCell w4 _ _) _ _) _ _ = w5
  obtain ⟨k5, c5⟩ := put33 HR4.out hW5
  have u0 := k5.cell 0
  have u1 := k5.cell 1
  have u2 := k5.cell 2
  refine bodyPost_ret (v := .tuple #[.agg #[.slice As2 n2 cs2, .slice At2 m2 ct2, .slice Al2 l2 cl2], .bool true]) ?_ ?_ ?_
  ·simp [results, Tryz.results11, go_sem, u0, u1, u2]
  ·rfl
  ·rw [← HM.out]
   obtain ⟨r1, r2⟩ := do_end HN.out HS.out (HG1.out.trans HG2.out) HX2.out HC3.out HTO.out c5 (by have := HG2.out.size; have := HS1.out; omega)
   exact ⟨N', L2, by rw [HSH2.out.v], r1, by rw [HNZ.out, HERA2.out]; exact HTW2.out, r2⟩
 have hb7 : (κ == 7) = false := by simpa using h7
 by_cases h8 : κ = 8
 ·subst h8
  obtain ⟨er, her⟩ : ∃ er, xErrL L.era a.nn = er := ⟨_, rfl⟩
  have HREF : Hid (Calls Tryz.prog 34 #[.agg #[.slice As n cs, .slice At m ct, .slice Al l cl], .int .i64 a.nn] w1 (EndX (doS g S0 N) w1 (xRepeatO L.era a.nn) er)) := Lib.hid (by
   have := xrepeat_any (doS g S0 N) w1 L HX1.out HLT.out HTWO.out.le a.nn HTWO.out.rg (fun x hx => HTWO.out.let5 hx)
   rw [HSH.out.v, her] at this
   exact this)
  have HNET : Hid (∀ W, NetR B W N → Calls Tryz.prog 21 #[.pointer (some ⟨p, 0, none⟩), .int .i64 a.nn] W (NumP B W N er (repI (nzN N) a.nn))) := Lib.hid (fun W hW => by
   have := Repeat_all a.nn hW HTWO.out.ok
   have e : refL N a.nn = er := by have ht := HTWO.out; rw [← refL_nz, ht.errL]; exact her
   rw [e, HP.out] at this
   exact this)
  have HTW2 : Hid (Two (repI (nzN N) a.nn) (xRepeatO L.era a.nn)) := Lib.hid (HTWO.out.rep a.nn)
  clear her
  go_wp2_with fail
  refine HREF.out.mono ?_
  rintro e w2 ⟨L2, rfl, hx2, hera2, hg2⟩
  obtain ⟨As2, At2, Al2, n2, m2, l2, cs2, ct2, cl2, hsh2⟩ := hx2.rd.shp
  have HX2 := Lib.hid hx2
  have HERA2 := Lib.hid hera2
  have HG2 := Lib.hid hg2
  have HSH2 := Lib.hid hsh2
  have HK2 := Lib.hid (HK1.out.keep hg2)
  have HA2 := Lib.hid (HKA.out.keep hg2)
  have HR2 := Lib.hid (HKR.out.keep hg2)
  rw [hsh2.v]
  clear b0 b1 b2 a1 a2 hx2 hera2 hg2 hsh2
  have f0 := HK2.out.free 0
  have f1 := HK2.out.free 1
  have f2 := HK2.out.free 2
  have d0 := HK2.out.cell 0
  have d1 := HK2.out.cell 1
  have d2 := HK2.out.cell 2
  simp only [List.getElem?_toArray, List.getElem?_cons_succ, List.getElem?_cons_zero] at d0 d1 d2
  go_upto_region 23 with fail
  generalize hW3 : World.setCell (World.setCell (World.setCell w2 _ _) _ _) _ _ = w3
  obtain ⟨k3, c3⟩ := put33 HK2.out hW3
  have ka : Blk w3 (g + 1) _ _ := (c3.block (g + 1) HA2.out.lt (by simp)).trans HA2.out
  have kr : Blk w3 (g + 2) _ _ := (c3.block (g + 2) HR2.out.lt (by simp)).trans HR2.out
  have HK3 := Lib.hid k3
  have HC3 := Lib.hid c3
  have HR3 := Lib.hid kr
  have HN3 := Lib.hid (do_net HN.out HS.out (HG1.out.trans HG2.out) c3)
  have a1 := ka.cell 1
  have a2 := ka.cell 2
  simp only [List.getElem?_toArray, List.getElem?_cons_succ, List.getElem?_cons_zero] at a1 a2
  clear f0 f1 f2 d0 d1 d2 hW3 k3 c3 ka kr
  go_wp2_with fail
  refine (HNET.out _ HN3.out).mono ?_
  rintro e w4 ⟨rfl, N', hnz, hto⟩
  have HTO := Lib.hid hto
  have HNZ := Lib.hid hnz
  have k4 : Blk w4 g _ _ := (hto.ch.block g HK3.out.lt (do_far HN.out HS.out (Nat.le_refl _))).trans HK3.out
  have kr4 : Blk w4 (g + 2) _ _ := (hto.ch.block (g + 2) HR3.out.lt (do_far HN.out HS.out (by omega))).trans HR3.out
  have HR4 := Lib.hid kr4
  have b0 := k4.cell 0
  have b1 := k4.cell 1
  have b2 := k4.cell 2
  simp only [List.getElem?_toArray, List.getElem?_cons_succ, List.getElem?_cons_zero] at b0 b1 b2
  have f0 := kr4.free 0
  have f1 := kr4.free 1
  have f2 := kr4.free 2
  have d0 := kr4.cell 0
  have d1 := kr4.cell 1
  have d2 := kr4.cell 2
  simp only [List.getElem?_toArray, List.getElem?_cons_succ, List.getElem?_cons_zero] at d0 d1 d2
  have hee : (er == er) = true := by simp
  clear a1 a2 hto hnz k4 kr4
  go_wp2_with fail
  generalize hW5 : World.setCell (World.setCell (World.setCell w4 _ _) _ _) _ _ = w5
  obtain ⟨k5, c5⟩ := put33 HR4.out hW5
  have u0 := k5.cell 0
  have u1 := k5.cell 1
  have u2 := k5.cell 2
  refine bodyPost_ret (v := .tuple #[.agg #[.slice As2 n2 cs2, .slice At2 m2 ct2, .slice Al2 l2 cl2], .bool true]) ?_ ?_ ?_
  ·simp [results, Tryz.results11, go_sem, u0, u1, u2]
  ·rfl
  ·rw [← HM.out]
   obtain ⟨r1, r2⟩ := do_end HN.out HS.out (HG1.out.trans HG2.out) HX2.out HC3.out HTO.out c5 (by have := HG2.out.size; have := HS1.out; omega)
   exact ⟨N', L2, by rw [HSH2.out.v], r1, by rw [HNZ.out, HERA2.out]; exact HTW2.out, r2⟩
 have hb8 : (κ == 8) = false := by simpa using h8
 by_cases h9 : κ = 9
 ·subst h9
  obtain ⟨er, her⟩ : ∃ er, xErrL L.era a.nn = er := ⟨_, rfl⟩
  have HREF : Hid (Calls Tryz.prog 35 #[.agg #[.slice As n cs, .slice At m ct, .slice Al l cl], .int .i64 a.nn] w1 (EndX (doS g S0 N) w1 (xLoseO L.era a.nn) er)) := Lib.hid (by
   have := xlose_any (doS g S0 N) w1 L HX1.out HLT.out HTWO.out.le a.nn
   rw [HSH.out.v, her] at this
   exact this)
  have HNET : Hid (∀ W, NetR B W N → Calls Tryz.prog 22 #[.pointer (some ⟨p, 0, none⟩), .int .i64 a.nn] W (NumP B W N er (losI (nzN N) a.nn))) := Lib.hid (fun W hW => by
   have := Lose_all a.nn hW HTWO.out.ok
   have e : refL N a.nn = er := by have ht := HTWO.out; rw [← refL_nz, ht.errL]; exact her
   rw [e, HP.out] at this
   exact this)
  have HTW2 : Hid (Two (losI (nzN N) a.nn) (xLoseO L.era a.nn)) := Lib.hid (HTWO.out.los a.nn)
  clear her
  go_wp2_with fail
  refine HREF.out.mono ?_
  rintro e w2 ⟨L2, rfl, hx2, hera2, hg2⟩
  obtain ⟨As2, At2, Al2, n2, m2, l2, cs2, ct2, cl2, hsh2⟩ := hx2.rd.shp
  have HX2 := Lib.hid hx2
  have HERA2 := Lib.hid hera2
  have HG2 := Lib.hid hg2
  have HSH2 := Lib.hid hsh2
  have HK2 := Lib.hid (HK1.out.keep hg2)
  have HA2 := Lib.hid (HKA.out.keep hg2)
  have HR2 := Lib.hid (HKR.out.keep hg2)
  rw [hsh2.v]
  clear b0 b1 b2 a1 a2 hx2 hera2 hg2 hsh2
  have f0 := HK2.out.free 0
  have f1 := HK2.out.free 1
  have f2 := HK2.out.free 2
  have d0 := HK2.out.cell 0
  have d1 := HK2.out.cell 1
  have d2 := HK2.out.cell 2
  simp only [List.getElem?_toArray, List.getElem?_cons_succ, List.getElem?_cons_zero] at d0 d1 d2
  go_upto_region 26 with fail
  generalize hW3 : World.setCell (World.setCell (World.setCell w2 _ _) _ _) _ _ = w3
  obtain ⟨k3, c3⟩ := put33 HK2.out hW3
  have ka : Blk w3 (g + 1) _ _ := (c3.block (g + 1) HA2.out.lt (by simp)).trans HA2.out
  have kr : Blk w3 (g + 2) _ _ := (c3.block (g + 2) HR2.out.lt (by simp)).trans HR2.out
  have HK3 := Lib.hid k3
  have HC3 := Lib.hid c3
  have HR3 := Lib.hid kr
  have HN3 := Lib.hid (do_net HN.out HS.out (HG1.out.trans HG2.out) c3)
  have a1 := ka.cell 1
  have a2 := ka.cell 2
  simp only [List.getElem?_toArray, List.getElem?_cons_succ, List.getElem?_cons_zero] at a1 a2
  clear f0 f1 f2 d0 d1 d2 hW3 k3 c3 ka kr
  go_wp2_with fail
  refine (HNET.out _ HN3.out).mono ?_
  rintro e w4 ⟨rfl, N', hnz, hto⟩
  have HTO := Lib.hid hto
  have HNZ := Lib.hid hnz
  have k4 : Blk w4 g _ _ := (hto.ch.block g HK3.out.lt (do_far HN.out HS.out (Nat.le_refl _))).trans HK3.out
  have kr4 : Blk w4 (g + 2) _ _ := (hto.ch.block (g + 2) HR3.out.lt (do_far HN.out HS.out (by omega))).trans HR3.out
  have HR4 := Lib.hid kr4
  have b0 := k4.cell 0
  have b1 := k4.cell 1
  have b2 := k4.cell 2
  simp only [List.getElem?_toArray, List.getElem?_cons_succ, List.getElem?_cons_zero] at b0 b1 b2
  have f0 := kr4.free 0
  have f1 := kr4.free 1
  have f2 := kr4.free 2
  have d0 := kr4.cell 0
  have d1 := kr4.cell 1
  have d2 := kr4.cell 2
  simp only [List.getElem?_toArray, List.getElem?_cons_succ, List.getElem?_cons_zero] at d0 d1 d2
  have hee : (er == er) = true := by simp
  clear a1 a2 hto hnz k4 kr4
  go_wp2_with fail
  generalize hW5 : World.setCell (World.setCell (World.setCell w4 _ _) _ _) _ _ = w5
  obtain ⟨k5, c5⟩ := put33 HR4.out hW5
  have u0 := k5.cell 0
  have u1 := k5.cell 1
  have u2 := k5.cell 2
  refine bodyPost_ret (v := .tuple #[.agg #[.slice As2 n2 cs2, .slice At2 m2 ct2, .slice Al2 l2 cl2], .bool true]) ?_ ?_ ?_
  ·simp [results, Tryz.results11, go_sem, u0, u1, u2]
  ·rfl
  ·rw [← HM.out]
   obtain ⟨r1, r2⟩ := do_end HN.out HS.out (HG1.out.trans HG2.out) HX2.out HC3.out HTO.out c5 (by have := HG2.out.size; have := HS1.out; omega)
   exact ⟨N', L2, by rw [HSH2.out.v], r1, by rw [HNZ.out, HERA2.out]; exact HTW2.out, r2⟩
 have hb9 : (κ == 9) = false := by simpa using h9
 by_cases h10 : κ = 10
 ·subst h10
  obtain ⟨er, her⟩ : ∃ er, xErrD L.era a.st = er := ⟨_, rfl⟩
  have HREF : Hid (Calls Tryz.prog 29 #[.agg #[.slice As n cs, .slice At m ct, .slice Al l cl], .int .i64 a.st] w1 (EndX (doS g S0 N) w1 (xTickO L.era a.st) er)) := Lib.hid (by
   have := xtick_any (doS g S0 N) w1 L HX1.out HLT.out HTWO.out.le a.st
   rw [HSH.out.v, her] at this
   exact this)
  have HNET : Hid (∀ W, NetR B W N → Calls Tryz.prog 23 #[.pointer (some ⟨p, 0, none⟩), .int .i64 a.st] W (NumP B W N er (tikI (nzN N) a.st))) := Lib.hid (fun W hW => by
   have := Tick_all a.st hW HTWO.out.ok
   have e : refD N a.st = er := by have ht := HTWO.out; rw [← refD_nz, ht.errD]; exact her
   rw [e, HP.out] at this
   exact this)
  have HTW2 : Hid (Two (tikI (nzN N) a.st) (xTickO L.era a.st)) := Lib.hid (HTWO.out.tik a.st)
  clear her
  go_wp2_with fail
  refine HREF.out.mono ?_
  rintro e w2 ⟨L2, rfl, hx2, hera2, hg2⟩
  obtain ⟨As2, At2, Al2, n2, m2, l2, cs2, ct2, cl2, hsh2⟩ := hx2.rd.shp
  have HX2 := Lib.hid hx2
  have HERA2 := Lib.hid hera2
  have HG2 := Lib.hid hg2
  have HSH2 := Lib.hid hsh2
  have HK2 := Lib.hid (HK1.out.keep hg2)
  have HA2 := Lib.hid (HKA.out.keep hg2)
  have HR2 := Lib.hid (HKR.out.keep hg2)
  rw [hsh2.v]
  clear b0 b1 b2 a1 a2 hx2 hera2 hg2 hsh2
  have f0 := HK2.out.free 0
  have f1 := HK2.out.free 1
  have f2 := HK2.out.free 2
  have d0 := HK2.out.cell 0
  have d1 := HK2.out.cell 1
  have d2 := HK2.out.cell 2
  simp only [List.getElem?_toArray, List.getElem?_cons_succ, List.getElem?_cons_zero] at d0 d1 d2
  go_upto_region 30 with fail
  generalize hW3 : World.setCell (World.setCell (World.setCell w2 _ _) _ _) _ _ = w3
  obtain ⟨k3, c3⟩ := put33 HK2.out hW3
  have ka : Blk w3 (g + 1) _ _ := (c3.block (g + 1) HA2.out.lt (by simp)).trans HA2.out
  have kr : Blk w3 (g + 2) _ _ := (c3.block (g + 2) HR2.out.lt (by simp)).trans HR2.out
  have HK3 := Lib.hid k3
  have HC3 := Lib.hid c3
  have HR3 := Lib.hid kr
  have HN3 := Lib.hid (do_net HN.out HS.out (HG1.out.trans HG2.out) c3)
  have a1 := ka.cell 1
  have a2 := ka.cell 2
  simp only [List.getElem?_toArray, List.getElem?_cons_succ, List.getElem?_cons_zero] at a1 a2
  clear f0 f1 f2 d0 d1 d2 hW3 k3 c3 ka kr
  go_wp2_with fail
  refine (HNET.out _ HN3.out).mono ?_
  rintro e w4 ⟨rfl, N', hnz, hto⟩
  have HTO := Lib.hid hto
  have HNZ := Lib.hid hnz
  have k4 : Blk w4 g _ _ := (hto.ch.block g HK3.out.lt (do_far HN.out HS.out (Nat.le_refl _))).trans HK3.out
  have kr4 : Blk w4 (g + 2) _ _ := (hto.ch.block (g + 2) HR3.out.lt (do_far HN.out HS.out (by omega))).trans HR3.out
  have HR4 := Lib.hid kr4
  have b0 := k4.cell 0
  have b1 := k4.cell 1
  have b2 := k4.cell 2
  simp only [List.getElem?_toArray, List.getElem?_cons_succ, List.getElem?_cons_zero] at b0 b1 b2
  have f0 := kr4.free 0
  have f1 := kr4.free 1
  have f2 := kr4.free 2
  have d0 := kr4.cell 0
  have d1 := kr4.cell 1
  have d2 := kr4.cell 2
  simp only [List.getElem?_toArray, List.getElem?_cons_succ, List.getElem?_cons_zero] at d0 d1 d2
  have hee : (er == er) = true := by simp
  clear a1 a2 hto hnz k4 kr4
  go_wp2_with fail
  generalize hW5 : World.setCell (World.setCell (World.setCell w4 _ _) _ _) _ _ = w5
  obtain ⟨k5, c5⟩ := put33 HR4.out hW5
  have u0 := k5.cell 0
  have u1 := k5.cell 1
  have u2 := k5.cell 2
  refine bodyPost_ret (v := .tuple #[.agg #[.slice As2 n2 cs2, .slice At2 m2 ct2, .slice Al2 l2 cl2], .bool true]) ?_ ?_ ?_
  ·simp [results, Tryz.results11, go_sem, u0, u1, u2]
  ·rfl
  ·rw [← HM.out]
   obtain ⟨r1, r2⟩ := do_end HN.out HS.out (HG1.out.trans HG2.out) HX2.out HC3.out HTO.out c5 (by have := HG2.out.size; have := HS1.out; omega)
   exact ⟨N', L2, by rw [HSH2.out.v], r1, by rw [HNZ.out, HERA2.out]; exact HTW2.out, r2⟩
 have hb10 : (κ == 10) = false := by simpa using h10
 by_cases h11 : κ = 11
 ·subst h11
  obtain ⟨er, her⟩ : ∃ er, xErrD L.era a.st = er := ⟨_, rfl⟩
  have HREF : Hid (Calls Tryz.prog 29 #[.agg #[.slice As n cs, .slice At m ct, .slice Al l cl], .int .i64 a.st] w1 (EndX (doS g S0 N) w1 (xTickO L.era a.st) er)) := Lib.hid (by
   have := xtick_any (doS g S0 N) w1 L HX1.out HLT.out HTWO.out.le a.st
   rw [HSH.out.v, her] at this
   exact this)
  have HNET : Hid (∀ W, NetR B W N → Calls Tryz.prog 23 #[.pointer (some ⟨p, 0, none⟩), .int .i64 a.st] W (NumP B W N er (tikI (nzN N) a.st))) := Lib.hid (fun W hW => by
   have := Tick_all a.st hW HTWO.out.ok
   have e : refD N a.st = er := by have ht := HTWO.out; rw [← refD_nz, ht.errD]; exact her
   rw [e, HP.out] at this
   exact this)
  have HTW2 : Hid (Two (tikI (nzN N) a.st) (xTickO L.era a.st)) := Lib.hid (HTWO.out.tik a.st)
  clear her
  go_wp2_with fail
  refine HREF.out.mono ?_
  rintro e w2 ⟨L2, rfl, hx2, hera2, hg2⟩
  obtain ⟨As2, At2, Al2, n2, m2, l2, cs2, ct2, cl2, hsh2⟩ := hx2.rd.shp
  have HX2 := Lib.hid hx2
  have HERA2 := Lib.hid hera2
  have HG2 := Lib.hid hg2
  have HSH2 := Lib.hid hsh2
  have HK2 := Lib.hid (HK1.out.keep hg2)
  have HA2 := Lib.hid (HKA.out.keep hg2)
  have HR2 := Lib.hid (HKR.out.keep hg2)
  rw [hsh2.v]
  clear b0 b1 b2 a1 a2 hx2 hera2 hg2 hsh2
  have f0 := HK2.out.free 0
  have f1 := HK2.out.free 1
  have f2 := HK2.out.free 2
  have d0 := HK2.out.cell 0
  have d1 := HK2.out.cell 1
  have d2 := HK2.out.cell 2
  simp only [List.getElem?_toArray, List.getElem?_cons_succ, List.getElem?_cons_zero] at d0 d1 d2
  go_upto_region 30 with fail
  generalize hW3 : World.setCell (World.setCell (World.setCell w2 _ _) _ _) _ _ = w3
  obtain ⟨k3, c3⟩ := put33 HK2.out hW3
  have ka : Blk w3 (g + 1) _ _ := (c3.block (g + 1) HA2.out.lt (by simp)).trans HA2.out
  have kr : Blk w3 (g + 2) _ _ := (c3.block (g + 2) HR2.out.lt (by simp)).trans HR2.out
  have HK3 := Lib.hid k3
  have HC3 := Lib.hid c3
  have HR3 := Lib.hid kr
  have HN3 := Lib.hid (do_net HN.out HS.out (HG1.out.trans HG2.out) c3)
  have a1 := ka.cell 1
  have a2 := ka.cell 2
  simp only [List.getElem?_toArray, List.getElem?_cons_succ, List.getElem?_cons_zero] at a1 a2
  clear f0 f1 f2 d0 d1 d2 hW3 k3 c3 ka kr
  go_wp2_with fail
  refine (HNET.out _ HN3.out).mono ?_
  rintro e w4 ⟨rfl, N', hnz, hto⟩
  have HTO := Lib.hid hto
  have HNZ := Lib.hid hnz
  have k4 : Blk w4 g _ _ := (hto.ch.block g HK3.out.lt (do_far HN.out HS.out (Nat.le_refl _))).trans HK3.out
  have kr4 : Blk w4 (g + 2) _ _ := (hto.ch.block (g + 2) HR3.out.lt (do_far HN.out HS.out (by omega))).trans HR3.out
  have HR4 := Lib.hid kr4
  have b0 := k4.cell 0
  have b1 := k4.cell 1
  have b2 := k4.cell 2
  simp only [List.getElem?_toArray, List.getElem?_cons_succ, List.getElem?_cons_zero] at b0 b1 b2
  have f0 := kr4.free 0
  have f1 := kr4.free 1
  have f2 := kr4.free 2
  have d0 := kr4.cell 0
  have d1 := kr4.cell 1
  have d2 := kr4.cell 2
  simp only [List.getElem?_toArray, List.getElem?_cons_succ, List.getElem?_cons_zero] at d0 d1 d2
  have hee : (er == er) = true := by simp
  clear a1 a2 hto hnz k4 kr4
  go_wp2_with fail
  generalize hW5 : World.setCell (World.setCell (World.setCell w4 _ _) _ _) _ _ = w5
  obtain ⟨k5, c5⟩ := put33 HR4.out hW5
  have u0 := k5.cell 0
  have u1 := k5.cell 1
  have u2 := k5.cell 2
  refine bodyPost_ret (v := .tuple #[.agg #[.slice As2 n2 cs2, .slice At2 m2 ct2, .slice Al2 l2 cl2], .bool true]) ?_ ?_ ?_
  ·simp [results, Tryz.results11, go_sem, u0, u1, u2]
  ·rfl
  ·rw [← HM.out]
   obtain ⟨r1, r2⟩ := do_end HN.out HS.out (HG1.out.trans HG2.out) HX2.out HC3.out HTO.out c5 (by have := HG2.out.size; have := HS1.out; omega)
   exact ⟨N', L2, by rw [HSH2.out.v], r1, by rw [HNZ.out, HERA2.out]; exact HTW2.out, r2⟩
 have hb11 : (κ == 11) = false := by simpa using h11
 by_cases h12 : κ = 12
 ·subst h12
  obtain ⟨er, her⟩ : ∃ er, xErrD L.era a.st = er := ⟨_, rfl⟩
  have HREF : Hid (Calls Tryz.prog 36 #[.agg #[.slice As n cs, .slice At m ct, .slice Al l cl], .int .i64 a.st] w1 (EndX (doS g S0 N) w1 (xCrashO L.era a.st) er)) := Lib.hid (by
   have := xcrash_any (doS g S0 N) w1 L HX1.out HLT.out HTWO.out.le a.st
   rw [HSH.out.v, her] at this
   exact this)
  have HNET : Hid (∀ W, NetR B W N → Calls Tryz.prog 24 #[.pointer (some ⟨p, 0, none⟩), .int .i64 a.st] W (NumP B W N er (craI (nzN N) a.st))) := Lib.hid (fun W hW => by
   have := Crash_all a.st hW 
   have e : refD N a.st = er := by have ht := HTWO.out; rw [← refD_nz, ht.errD]; exact her
   rw [e, HP.out] at this
   exact this)
  have HTW2 : Hid (Two (craI (nzN N) a.st) (xCrashO L.era a.st)) := Lib.hid (HTWO.out.cra a.st)
  clear her
  go_wp2_with fail
  refine HREF.out.mono ?_
  rintro e w2 ⟨L2, rfl, hx2, hera2, hg2⟩
  obtain ⟨As2, At2, Al2, n2, m2, l2, cs2, ct2, cl2, hsh2⟩ := hx2.rd.shp
  have HX2 := Lib.hid hx2
  have HERA2 := Lib.hid hera2
  have HG2 := Lib.hid hg2
  have HSH2 := Lib.hid hsh2
  have HK2 := Lib.hid (HK1.out.keep hg2)
  have HA2 := Lib.hid (HKA.out.keep hg2)
  have HR2 := Lib.hid (HKR.out.keep hg2)
  rw [hsh2.v]
  clear b0 b1 b2 a1 a2 hx2 hera2 hg2 hsh2
  have f0 := HK2.out.free 0
  have f1 := HK2.out.free 1
  have f2 := HK2.out.free 2
  have d0 := HK2.out.cell 0
  have d1 := HK2.out.cell 1
  have d2 := HK2.out.cell 2
  simp only [List.getElem?_toArray, List.getElem?_cons_succ, List.getElem?_cons_zero] at d0 d1 d2
  go_upto_region 33 with fail
  generalize hW3 : World.setCell (World.setCell (World.setCell w2 _ _) _ _) _ _ = w3
  obtain ⟨k3, c3⟩ := put33 HK2.out hW3
  have ka : Blk w3 (g + 1) _ _ := (c3.block (g + 1) HA2.out.lt (by simp)).trans HA2.out
  have kr : Blk w3 (g + 2) _ _ := (c3.block (g + 2) HR2.out.lt (by simp)).trans HR2.out
  have HK3 := Lib.hid k3
  have HC3 := Lib.hid c3
  have HR3 := Lib.hid kr
  have HN3 := Lib.hid (do_net HN.out HS.out (HG1.out.trans HG2.out) c3)
  have a1 := ka.cell 1
  have a2 := ka.cell 2
  simp only [List.getElem?_toArray, List.getElem?_cons_succ, List.getElem?_cons_zero] at a1 a2
  clear f0 f1 f2 d0 d1 d2 hW3 k3 c3 ka kr
  go_wp2_with fail
  refine (HNET.out _ HN3.out).mono ?_
  rintro e w4 ⟨rfl, N', hnz, hto⟩
  have HTO := Lib.hid hto
  have HNZ := Lib.hid hnz
  have k4 : Blk w4 g _ _ := (hto.ch.block g HK3.out.lt (do_far HN.out HS.out (Nat.le_refl _))).trans HK3.out
  have kr4 : Blk w4 (g + 2) _ _ := (hto.ch.block (g + 2) HR3.out.lt (do_far HN.out HS.out (by omega))).trans HR3.out
  have HR4 := Lib.hid kr4
  have b0 := k4.cell 0
  have b1 := k4.cell 1
  have b2 := k4.cell 2
  simp only [List.getElem?_toArray, List.getElem?_cons_succ, List.getElem?_cons_zero] at b0 b1 b2
  have f0 := kr4.free 0
  have f1 := kr4.free 1
  have f2 := kr4.free 2
  have d0 := kr4.cell 0
  have d1 := kr4.cell 1
  have d2 := kr4.cell 2
  simp only [List.getElem?_toArray, List.getElem?_cons_succ, List.getElem?_cons_zero] at d0 d1 d2
  have hee : (er == er) = true := by simp
  clear a1 a2 hto hnz k4 kr4
  go_wp2_with fail
  generalize hW5 : World.setCell (World.setCell (World.setCell w4 _ _) _ _) _ _ = w5
  obtain ⟨k5, c5⟩ := put33 HR4.out hW5
  have u0 := k5.cell 0
  have u1 := k5.cell 1
  have u2 := k5.cell 2
  refine bodyPost_ret (v := .tuple #[.agg #[.slice As2 n2 cs2, .slice At2 m2 ct2, .slice Al2 l2 cl2], .bool true]) ?_ ?_ ?_
  ·simp [results, Tryz.results11, go_sem, u0, u1, u2]
  ·rfl
  ·rw [← HM.out]
   obtain ⟨r1, r2⟩ := do_end HN.out HS.out (HG1.out.trans HG2.out) HX2.out HC3.out HTO.out c5 (by have := HG2.out.size; have := HS1.out; omega)
   exact ⟨N', L2, by rw [HSH2.out.v], r1, by rw [HNZ.out, HERA2.out]; exact HTW2.out, r2⟩
 have hb12 : (κ == 12) = false := by simpa using h12
 ·obtain ⟨er, her⟩ : ∃ er, xErrU L.era a.st = er := ⟨_, rfl⟩
  have HREF : Hid (Calls Tryz.prog 37 #[.agg #[.slice As n cs, .slice At m ct, .slice Al l cl], .int .i64 a.st] w1 (EndX (doS g S0 N) w1 (xStartO L.era a.st) er)) := Lib.hid (by
   have := xstart_any (doS g S0 N) w1 L HX1.out HLT.out HTWO.out.le a.st
   rw [HSH.out.v, her] at this
   exact this)
  have HNET : Hid (∀ W, NetR B W N → Calls Tryz.prog 25 #[.pointer (some ⟨p, 0, none⟩), .int .i64 a.st] W (NumP B W N er (staI (nzN N) a.st))) := Lib.hid (fun W hW => by
   have := Start_all a.st hW 
   have e : staE N a.st = er := by have ht := HTWO.out; rw [← staE_nz, ht.errU]; exact her
   rw [e, HP.out] at this
   exact this)
  have HTW2 : Hid (Two (staI (nzN N) a.st) (xStartO L.era a.st)) := Lib.hid (HTWO.out.sta a.st)
  clear her
  go_wp2_with fail
  refine HREF.out.mono ?_
  rintro e w2 ⟨L2, rfl, hx2, hera2, hg2⟩
  obtain ⟨As2, At2, Al2, n2, m2, l2, cs2, ct2, cl2, hsh2⟩ := hx2.rd.shp
  have HX2 := Lib.hid hx2
  have HERA2 := Lib.hid hera2
  have HG2 := Lib.hid hg2
  have HSH2 := Lib.hid hsh2
  have HK2 := Lib.hid (HK1.out.keep hg2)
  have HA2 := Lib.hid (HKA.out.keep hg2)
  have HR2 := Lib.hid (HKR.out.keep hg2)
  rw [hsh2.v]
  clear b0 b1 b2 a1 a2 hx2 hera2 hg2 hsh2
  have f0 := HK2.out.free 0
  have f1 := HK2.out.free 1
  have f2 := HK2.out.free 2
  have d0 := HK2.out.cell 0
  have d1 := HK2.out.cell 1
  have d2 := HK2.out.cell 2
  simp only [List.getElem?_toArray, List.getElem?_cons_succ, List.getElem?_cons_zero] at d0 d1 d2
  go_upto_region 4 with fail
  generalize hW3 : World.setCell (World.setCell (World.setCell w2 _ _) _ _) _ _ = w3
  obtain ⟨k3, c3⟩ := put33 HK2.out hW3
  have ka : Blk w3 (g + 1) _ _ := (c3.block (g + 1) HA2.out.lt (by simp)).trans HA2.out
  have kr : Blk w3 (g + 2) _ _ := (c3.block (g + 2) HR2.out.lt (by simp)).trans HR2.out
  have HK3 := Lib.hid k3
  have HC3 := Lib.hid c3
  have HR3 := Lib.hid kr
  have HN3 := Lib.hid (do_net HN.out HS.out (HG1.out.trans HG2.out) c3)
  have a1 := ka.cell 1
  have a2 := ka.cell 2
  simp only [List.getElem?_toArray, List.getElem?_cons_succ, List.getElem?_cons_zero] at a1 a2
  clear f0 f1 f2 d0 d1 d2 hW3 k3 c3 ka kr
  go_wp2_with fail
  refine (HNET.out _ HN3.out).mono ?_
  rintro e w4 ⟨rfl, N', hnz, hto⟩
  have HTO := Lib.hid hto
  have HNZ := Lib.hid hnz
  have k4 : Blk w4 g _ _ := (hto.ch.block g HK3.out.lt (do_far HN.out HS.out (Nat.le_refl _))).trans HK3.out
  have kr4 : Blk w4 (g + 2) _ _ := (hto.ch.block (g + 2) HR3.out.lt (do_far HN.out HS.out (by omega))).trans HR3.out
  have HR4 := Lib.hid kr4
  have b0 := k4.cell 0
  have b1 := k4.cell 1
  have b2 := k4.cell 2
  simp only [List.getElem?_toArray, List.getElem?_cons_succ, List.getElem?_cons_zero] at b0 b1 b2
  have f0 := kr4.free 0
  have f1 := kr4.free 1
  have f2 := kr4.free 2
  have d0 := kr4.cell 0
  have d1 := kr4.cell 1
  have d2 := kr4.cell 2
  simp only [List.getElem?_toArray, List.getElem?_cons_succ, List.getElem?_cons_zero] at d0 d1 d2
  have hee : (er == er) = true := by simp
  clear a1 a2 hto hnz k4 kr4
  go_wp2_with fail
  generalize hW5 : World.setCell (World.setCell (World.setCell w4 _ _) _ _) _ _ = w5
  obtain ⟨k5, c5⟩ := put33 HR4.out hW5
  have u0 := k5.cell 0
  have u1 := k5.cell 1
  have u2 := k5.cell 2
  refine bodyPost_ret (v := .tuple #[.agg #[.slice As2 n2 cs2, .slice At2 m2 ct2, .slice Al2 l2 cl2], .bool true]) ?_ ?_ ?_
  ·simp [results, Tryz.results11, go_sem, u0, u1, u2]
  ·rfl
  ·rw [← HM.out]
   obtain ⟨r1, r2⟩ := do_end HN.out HS.out (HG1.out.trans HG2.out) HX2.out HC3.out HTO.out c5 (by have := HG2.out.size; have := HS1.out; omega)
   exact ⟨N', L2, by rw [HSH2.out.v], r1, by rw [HNZ.out, HERA2.out]; exact HTW2.out, r2⟩
end Go.Proofs.YtnoeiocbmhkmeaaGreat
