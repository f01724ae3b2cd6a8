/- Layer 4: the reference's push.
Layer 4: the reference's more: a search for a span with room, and a push along the way to it. -/
import Derived.Test.YtfmojiaaoebodaaBnRPw
import Derived.Deep.CutRange
namespace Go.Proofs.Ytfmojiaaoebodaa
open Go.RowKit
set_option linter.unusedSimpArgs false

/-- What a push leaves: n more of the job, at the span where the way ends. -/
def RPushP (base n K gU gL : Nat) (rw : Nat → Nat) (U : Nat → Nat → Int) (left : Nat → Int) (ln : Nat → Int) (cov : Nat → Nat → Prop) (job span : Nat) (room : Int) (w : World) (e : Ending) (w' : World) : Prop :=
  e = .returned (.tuple #[]) ∧ ∃ (V : Nat → Nat → Int) (m : Int), 1 ≤ m ∧ m ≤ room ∧ m ≤ left job ∧
    ((∀ j, rowU V K j = rowU U K j + if j = job then m else 0) ∧ (∀ s, colU V n s = colU U n s + if s = span then m else 0) ∧ (∀ j s, 0 ≤ V j s) ∧ (∀ j s, j < n → s < K → V j s ≤ ln s) ∧ (∀ j s, j < n → s < K → 0 < V j s → cov j s)) ∧
    PlM w' base n (K + 1) gU gL rw V (updV left job (left job - m)) ∧ Fx (PlS n gL rw) w w'

set_option maxRecDepth 100000 in
set_option maxHeartbeats 4000000 in
theorem rpush_any (b off mT cT base n K gU cU gL cL gb cb gf cf : Nat) (T : List Int) (rw : Nat → Nat) (U : Nat → Nat → Int) (left : Nat → Int) (bya fra : Nat → Int) (rk : Nat → Nat) (cov : Nat → Nat → Prop) (A : Option Addr) (na ca job span : Nat) (room : Int) (w : World)
    (hT : T.length = K + 1) (hTv : ∀ s, 0 ≤ T.getD s 0 ∧ T.getD s 0 ≤ 1048576) (hAT : Ints w (some ⟨b, off, none⟩) T) (hmT : mT = K + 1) (hK : K ≤ 64)
    (hM : PlM w base n (K + 1) gU gL rw U left) (hB : RB w gb (K + 1) bya) (hF : RB w gf n fra) (hS : Sea U (fun s => T.getD (s + 1) 0 - T.getD s 0) cov n K job bya fra rk)
    (hpos : ∀ j s, 0 ≤ U j s) (hcap : ∀ j s, j < n → s < K → U j s ≤ T.getD (s + 1) 0 - T.getD s 0) (hcov : ∀ j s, j < n → s < K → 0 < U j s → cov j s) (hgb : ¬ PlS n gL rw gb) (hgf : ¬ PlS n gL rw gf) (hspan : span < K) (hbs : 0 ≤ bya span) (hroom : 1 ≤ room ∧ room ≤ 8388608) (hleft : 1 ≤ left job ∧ left job ≤ 33554432) :
    Calls Try.prog 46 #[.agg #[.slice (some ⟨b, off, none⟩) mT cT, .slice (some ⟨gU, 0, none⟩) n cU, .slice (some ⟨gL, 0, none⟩) n cL], .slice A na ca, .int .i64 (job : Int), .int .i64 (span : Int), .slice (some ⟨gb, 0, none⟩) (K + 1) cb, .slice (some ⟨gf, 0, none⟩) n cf, .int .i64 room] w (RPushP base n K gU gL rw U left (fun s => T.getD (s + 1) 0 - T.getD s 0) cov job span room w) := by
  have HT := Lib.hid hT
  have HTV := Lib.hid hTv
  have HAT := Lib.hid hAT
  have HM := Lib.hid hM
  have HB := Lib.hid hB
  have HF := Lib.hid hF
  have HS := Lib.hid hS
  have HPOS := Lib.hid hpos
  have HPU := Lib.hid (fun m : Int => Pu.start (n := m) (span := span) (bya := bya) (rk := rk) hpos hcap hcov)
  have HGB := Lib.hid hgb
  have HGF := Lib.hid hgf
  subst hmT
  clear hT hTv hAT hM hB hF hS hpos hcap hcov hgb hgf
  go_enter Try.func46, Try.ntmps46
  go_wp2_with fail
  generalize hW1 : World.alloc w _ = w1
  obtain ⟨hg1, z0, z1, z2⟩ : Gr w w1 ∧ w1.cell? ⟨w.heap.size, 0, none⟩ = some (.slice (some ⟨b, off, none⟩) (K + 1) cT) ∧ w1.cell? ⟨w.heap.size, 1, none⟩ = some (.slice (some ⟨gU, 0, none⟩) n cU) ∧ w1.cell? ⟨w.heap.size, 2, none⟩ = some (.slice (some ⟨gL, 0, none⟩) n cL) := by
    rw [← hW1]; exact ⟨(Gr.refl w).alloc _, alloc_new rfl rfl, alloc_new rfl rfl, alloc_new rfl rfl⟩
  have HZ0 := Lib.hid (show ∃ cs t, Blk w1 w.heap.size t cs ∧ cs[0]? = some (Value.slice (some ⟨b, off, none⟩) (K + 1) cT) ∧ cs[1]? = some (Value.slice (some ⟨gU, 0, none⟩) n cU) ∧ cs[2]? = some (Value.slice (some ⟨gL, 0, none⟩) n cL) by rw [← hW1]; exact ⟨_, _, Blk.new w _ _ rfl, rfl, rfl, rfl⟩)
  clear hW1
  have HZS : Hid (¬ PlS n gL rw w.heap.size) := Lib.hid (fun h => by
    rcases h with e | ⟨j, hj, e⟩
    · obtain ⟨cs, h1, _⟩ := HM.out.left
      have := h1.lt; omega
    · obtain ⟨cs, h1, _⟩ := HM.out.row j hj
      have := h1.lt; omega)
  have HZB : Hid (∃ cs t, Blk w1 w.heap.size t cs ∧ cs[0]? = some (.slice (some ⟨b, off, none⟩) (K + 1) cT) ∧ cs[1]? = some (.slice (some ⟨gU, 0, none⟩) n cU) ∧ cs[2]? = some (.slice (some ⟨gL, 0, none⟩) n cL)) := HZ0
  generalize w.heap.size = Z at z0 z1 z2 HZS HZB ⊢
  go_loopw [14, 15, 16] (fun q z y wr => ∃ (m k : Nat), 1 ≤ m ∧ (m : Int) ≤ room ∧ q = .int .i64 (m : Int) ∧ z = .int .i64 (k : Int) ∧ k < K ∧ Hid (0 ≤ bya k) ∧ Hid (∀ t : Int, t ≤ m → Way U (fun s => T.getD (s + 1) 0 - T.getD s 0) bya fra job t k → Way U (fun s => T.getD (s + 1) 0 - T.getD s 0) bya fra job t span) ∧ Gr w1 wr ∧ y = y) (fun _ z _ _ => rk (bya (intOf z).toNat).toNat)
  case atStart => exact ⟨room.toNat, span, by omega, by omega, by rw [Int.toNat_of_nonneg (by omega)], rfl, hspan, Lib.hid hbs, Lib.hid (fun t _ h => h), Gr.refl _, rfl⟩
  case round =>
    obtain ⟨m, k, hm1, hmr, rfl, rfl, hk, hbk, hway, hgr, -⟩ := hrel
    obtain ⟨i, ei, hi, -, hul, hor⟩ := HS.out.bys k hk hbk.out
    have x0 : wr.cell? ⟨gb, k, none⟩ = some (.int .i64 (i : Int)) := by rw [← ei]; exact (HB.out.keep (hg1.trans hgr)).at (by omega)
    obtain ⟨b1, off1, e1, x1⟩ := Ints_at (HAT.out.keep (hg1.trans hgr)) (i := k + 1) (by rw [HT.out]; omega)
    cases e1
    obtain ⟨b2, off2, e2, x2⟩ := Ints_at (HAT.out.keep (hg1.trans hgr)) (i := k) (by rw [HT.out]; omega)
    cases e2
    have x3 := (HM.out.keep (hg1.trans hgr)).usedAt hi
    have x4 := ((HM.out.keep (hg1.trans hgr)).row i hi).at (i := k) (by omega)
    have y0 := hgr.keep z0
    have y1 := hgr.keep z1
    have hv1 := HTV.out (k + 1)
    have hv2 := HTV.out k
    have hp := HPOS.out i k
    have HLAST : Hid (i = job → ∀ t : Int, t ≤ (T.getD (k + 1) 0 - T.getD k 0) - U i k → Way U (fun s => T.getD (s + 1) 0 - T.getD s 0) bya fra job t k) := Lib.hid (fun e t ht => by subst e; exact Way.last k ei (by omega))
    have HSTEP : Hid (i ≠ job → ∃ k' : Nat, fra i = (k' : Int) ∧ k' < K ∧ 0 ≤ bya k' ∧ 0 < U i k' ∧ rk (bya k').toNat < rk i ∧ ∀ t : Int, t ≤ (T.getD (k + 1) 0 - T.getD k 0) - U i k → t ≤ U i k' → Way U (fun s => T.getD (s + 1) 0 - T.getD s 0) bya fra job t k' → Way U (fun s => T.getD (s + 1) 0 - T.getD s 0) bya fra job t k) := Lib.hid (fun e => by
      obtain ⟨_, k', c1, c2, c3, c4, c5⟩ := HS.out.frs i hi (by rcases hor with h | h <;> omega)
      exact ⟨k', c1, c2, c3, c4, c5, fun t h1 h2 h3 => Way.step k i k' ei e (by omega) c1 h2 h3⟩)
    have HRK : Hid (rk (bya k).toNat = rk i) := Lib.hid (by rw [ei]; rfl)
    have HROW := Lib.hid (fun (k' : Nat) (h : k' < K + 1) => ((HM.out.keep (hg1.trans hgr)).row i hi).at h)
    have HFI := Lib.hid ((HF.out.keep (hg1.trans hgr)).at hi)
    have HLJ := Lib.hid ((HM.out.keep (hg1.trans hgr)).left.at HS.out.jobN)
    have HU := Lib.hid (fun k' (h : k' < K) => HPOS.out i k')
    generalize T.getD (k + 1) 0 = t1 at x1 hv1 hul HLAST HSTEP
    generalize T.getD k 0 = t0 at x2 hv2 hul HLAST HSTEP
    generalize U i k = u at x4 hul hp HLAST HSTEP
    have hkn : (k : Int) + 1 < ((K + 1 : Nat) : Int) := by omega
    have hkk : (k : Int) < ((K + 1 : Nat) : Int) := by omega
    have hin : (i : Int) < (n : Int) := by omega
    have f1 : IntKind.i64.wrap ((k : Int) + 1) = (k : Int) + 1 := IntWalk.i64_in _ (by omega)
    have f2 : (0 : Int) ≤ (k : Int) + 1 := by omega
    have f3 : ((k : Int) + 1).toNat = k + 1 := by omega
    have f4 : IntKind.i64.wrap (t1 - t0) = t1 - t0 := IntWalk.i64_in _ (by omega)
    have f5 : IntKind.i64.wrap (t1 - t0 - u) = t1 - t0 - u := IntWalk.i64_in _ (by omega)
    go_upto_region 4 with fail
    go_quiet (fail)
    obtain ⟨mn, hmn⟩ : ∃ mn : Nat, min (m : Int) (t1 - t0 - u) = (mn : Int) := ⟨(min (m : Int) (t1 - t0 - u)).toNat, by omega⟩
    have hmn1 : 1 ≤ mn := by omega
    have hmn2 : mn ≤ m := by omega
    have HMT : Hid ((mn : Int) ≤ t1 - t0 - u) := Lib.hid (by omega)
    rw [hmn]
    have hgr2 := hgr.drewN nq
    clear hmn x0 x1 x2 x4 f1 f2 f3 f4 f5 hkn hkk hv1 hv2 hul hp
    have x3' := ((Gr.refl wr).drewN nq).keep x3
    have y0' := hgr2.keep z0
    have y1' := hgr2.keep z1
    have y2' := hgr2.keep z2
    have HD : Hid (Gr wr (wr.drewN nq)) := Lib.hid ((Gr.refl wr).drewN nq)
    generalize wr.drewN nq = w3 at hgr2 x3' y0' y1' y2' HD ⊢
    clear x3 y0 y1
    by_cases hij : i = job
    · subst hij
      have HW := Lib.hid (hway.out mn (by omega) (HLAST.out rfl mn HMT.out))
      have hl1 := HD.out.keep HLJ.out
      have hin2 : (i : Int) < (n : Int) := hin
      obtain ⟨lj, HLJE⟩ : ∃ lj, Hid (left i = lj) := ⟨_, Lib.hid rfl⟩
      rw [HLJE.out] at hl1 hleft
      obtain ⟨n0, hn0⟩ : ∃ n0 : Nat, min (mn : Int) lj = (n0 : Int) := ⟨(min (mn : Int) lj).toNat, by omega⟩
      clear HSTEP HLAST HRK HROW HFI HLJ HU hway
      have hn01 : 1 ≤ n0 := by omega
      have hn02 : (n0 : Int) ≤ lj := by omega
      have hn03 : (n0 : Int) ≤ room := by omega
      have HWN := Lib.hid (HW.out.mono (show (n0 : Int) ≤ mn by omega))
      clear HW
      have HM3 := Lib.hid (HM.out.keep (hg1.trans hgr2))
      have HB3 := Lib.hid (HB.out.keep (hg1.trans hgr2))
      have HF3 := Lib.hid (HF.out.keep (hg1.trans hgr2))
      have HZ3 : Hid (∃ cs t, Blk w3 Z t cs ∧ cs[0]? = some (.slice (some ⟨b, off, none⟩) (K + 1) cT) ∧ cs[1]? = some (.slice (some ⟨gU, 0, none⟩) n cU) ∧ cs[2]? = some (.slice (some ⟨gL, 0, none⟩) n cL)) := Lib.hid (by
        obtain ⟨cs, t, h1, h2⟩ := HZB.out
        exact ⟨cs, t, h1.keep hgr2, h2⟩)
      clear HM HB HF HZB hbk hor x3' y0' y1'
      go_wp2_with fail
      go_loopw [17, 18] (fun z y wr => ∃ (k : Nat) (V : Nat → Nat → Int), z = .int .i64 (k : Int) ∧ k < K ∧ Hid (Pu U V (fun s => T.getD (s + 1) 0 - T.getD s 0) cov n K n0 bya rk span k) ∧ Hid (Way U (fun s => T.getD (s + 1) 0 - T.getD s 0) bya fra i n0 k) ∧ Hid (PlM wr base n (K + 1) gU gL rw V left) ∧ Hid (Fx (PlS n gL rw) w3 wr) ∧ y = y) (fun z _ _ => rk (bya (intOf z).toNat).toNat)
      case atStart => exact ⟨span, U, rfl, hspan, Lib.hid (HPU.out n0), HWN, HM3, Lib.hid Fx.refl, rfl⟩
      case round =>
        obtain ⟨k2, V, rfl, hk2, hpu, hwy, hpm, hfx, -⟩ := hrel
        obtain ⟨cs, t, hz, c0, c1, c2⟩ := HZ3.out
        have hz' := hz.fx hfx.out HZS.out
        have y1 : wr.cell? ⟨Z, 1, none⟩ = some (.slice (some ⟨gU, 0, none⟩) n cU) := (hz'.cell 1).trans c1
        have y2 : wr.cell? ⟨Z, 2, none⟩ = some (.slice (some ⟨gL, 0, none⟩) n cL) := (hz'.cell 2).trans c2
        have x0 := (HB3.out.fx hfx.out HGB.out).at (i := k2) (by omega)
        have hkk : (k2 : Int) < ((K + 1 : Nat) : Int) := by omega
        clear hz hz' c0 c1 c2 cs
        have hW : (bya k2 = (i : Int) ∧ U i k2 + n0 ≤ T.getD (k2 + 1) 0 - T.getD k2 0) ∨ ∃ i2 k' : Nat, bya k2 = (i2 : Int) ∧ i2 ≠ i ∧ U i2 k2 + n0 ≤ T.getD (k2 + 1) 0 - T.getD k2 0 ∧ fra i2 = (k' : Int) ∧ (n0 : Int) ≤ U i2 k' ∧ Way U (fun s => T.getD (s + 1) 0 - T.getD s 0) bya fra i n0 k' := by
          cases hwy.out with
          | last _ a b => exact Or.inl ⟨a, b⟩
          | step _ i2 k' a b c d e f => exact Or.inr ⟨i2, k', a, b, c, d, e, f⟩
        rcases hW with ⟨e1, e2⟩ | ⟨i2, k', e1, e2, e3, e4, e5, e6⟩
        · rw [e1] at x0
          have x3 := hpm.out.usedAt hi
          have x4 := (hpm.out.row i hi).at (i := k2) (by omega)
          have f0 := (hpm.out.row i hi).free k2
          have HD := Lib.hid (hpu.out.done HS.out hk2 (by omega) e1 e2)
          have hvv : V i k2 = U i k2 := hpu.out.same i k2 (by rw [e1]; simp)
          have hv0 := HPOS.out i k2
          have hv1 := HTV.out k2
          have hv2 := HTV.out (k2 + 1)
          have f1 : IntKind.i64.wrap (V i k2 + n0) = V i k2 + n0 := IntWalk.i64_in _ (by omega)
          have HPM := Lib.hid (fun v => (hpm.out.keep (Gr.refl wr).drew).putU hi k2 v)
          have HFX := Lib.hid (fun v => (hfx.out.trans (Fx.of (Gr.refl wr).drew)).set (p := ⟨rw i, k2, none⟩) (Or.inr ⟨i, hi, rfl⟩) v)
          generalize V i k2 = v at x4 hvv f1 HD
          clear hvv hv0 hv1 hv2 hpu hwy hpm hfx e1 e2
          go_upto_region 11 with fail
          have hkk9 : (k2 : Int) < (K : Int) + 1 := by omega
          have hkk8 : k2 < K + 1 := by omega
          go_still_tail 17, (by kernel_rfl)
          change wpList _ _ _ _ _ wr.drew
          have x4d : wr.drew.cell? ⟨rw i, k2, none⟩ = some (.int .i64 v) := x4
          have f0d : wr.drew.frozen? ⟨rw i, k2, none⟩ = false := f0
          have HPM5 := Lib.hid (HPM.out (v + n0))
          have HFX5 := Lib.hid (HFX.out (.int .i64 (v + n0)))
          generalize wr.drew = wd at x4d f0d HPM5 HFX5 ⊢
          clear x0 x3 x4 f0 y1 y2 HPM HFX
          obtain ⟨w5, hw5⟩ : ∃ w5, wd.setCell ⟨rw i, k2, none⟩ (.int .i64 (v + n0)) = w5 := ⟨_, rfl⟩
          rw [hw5] at HPM5 HFX5
          go_upto_region 15 with fail
          (try rw [hw5])
          clear hw5 x4d f0d f1
          obtain ⟨cs, t, hz, c0, c1, c2⟩ := HZ3.out
          have hz' := hz.fx HFX5.out HZS.out
          have y2 : w5.cell? ⟨Z, 2, none⟩ = some (.slice (some ⟨gL, 0, none⟩) n cL) := (hz'.cell 2).trans c2
          have l1 := HPM5.out.left.at HS.out.jobN
          have l2 := HPM5.out.left.free i
          have hljl : left i = lj := HLJE.out
          rw [hljl] at l1
          have f2 : IntKind.i64.wrap (lj - n0) = lj - n0 := IntWalk.i64_in _ (by omega)
          clear hz hz' c0 c1 c2 cs hljl
          go_still_tail 11, (by kernel_rfl)
          change wpList _ _ _ _ _ w5.drew
          have l1d : w5.drew.cell? ⟨gL, i, none⟩ = some (.int .i64 lj) := l1
          have l2d : w5.drew.frozen? ⟨gL, i, none⟩ = false := l2
          have HPM6 := Lib.hid ((HPM5.out.keep (Gr.refl w5).drew).putL i (lj - n0))
          have HFX6 := Lib.hid ((HFX5.out.trans (Fx.of (Gr.refl w5).drew)).set (p := ⟨gL, i, none⟩) (Or.inl rfl) (.int .i64 (lj - n0)))
          generalize w5.drew = w6 at l1d l2d HPM6 HFX6 ⊢
          clear l1 l2 y2 HPM5 HFX5
          obtain ⟨w7, hw7⟩ : ∃ w7, w6.setCell ⟨gL, i, none⟩ (.int .i64 (lj - n0)) = w7 := ⟨_, rfl⟩
          rw [hw7] at HPM6 HFX6
          have HL : Hid ((n0 : Int) ≤ left i) := Lib.hid (by rw [HLJE.out]; exact hn02)
          have HPM7 : Hid (PlM w7 base n (K + 1) gU gL rw (updU V i k2 (v + n0)) (updV left i (left i - n0))) := Lib.hid (by rw [HLJE.out]; exact HPM6.out)
          go_wp2_with fail
          (try rw [hw7])
          first | go_ret | go_end0
          exact ⟨rfl, _, (n0 : Int), by omega, by omega, HL.out, HD.out, HPM7.out, (Fx.of (hg1.trans hgr2)).trans HFX6.out⟩
        · have hi2 : i2 < n := by
            obtain ⟨i3, e7, h7, -⟩ := HS.out.bys k2 hk2 (by rw [e1]; omega)
            obtain rfl : i3 = i2 := by omega
            exact h7
          obtain ⟨hk', hnk, hrk', hpu'⟩ := hpu.out.step HS.out hk2 (by omega) hi2 e1 e2 e3 e4 e5
          rw [e1] at x0
          have x3 := hpm.out.usedAt hi2
          have x4 := (hpm.out.row i2 hi2).at (i := k2) (by omega)
          have f0 := (hpm.out.row i2 hi2).free k2
          have hvv : V i2 k2 = U i2 k2 := hpu.out.same i2 k2 (by rw [e1]; simp)
          have hv0 := HPOS.out i2 k2
          have hv1 := HTV.out k2
          have hv2 := HTV.out (k2 + 1)
          have f1 : IntKind.i64.wrap (V i2 k2 + n0) = V i2 k2 + n0 := IntWalk.i64_in _ (by omega)
          have hvk : V i2 k' = U i2 k' := hpu.out.same i2 k' (by rw [e1]; simp)
          have hvk2 := hpu.out.cap i2 k' hi2 hk'
          have hv3 := HTV.out k'
          have hv4 := HTV.out (k' + 1)
          have f2 : IntKind.i64.wrap (V i2 k' - n0) = V i2 k' - n0 := IntWalk.i64_in _ (by omega)
          have HPM := Lib.hid (fun v => (hpm.out.keep (Gr.refl wr).drew).putU hi2 k2 v)
          have HFX := Lib.hid (fun v => (hfx.out.trans (Fx.of (Gr.refl wr).drew)).set (p := ⟨rw i2, k2, none⟩) (Or.inr ⟨i2, hi2, rfl⟩) v)
          have HPU := Lib.hid hpu'
          have HWY := Lib.hid e6
          have HRK : Hid (rk (bya k').toNat < rk (bya k2).toNat) := Lib.hid (by rw [e1]; exact hrk')
          have HUV : Hid (updU V i2 k2 (V i2 k2 + n0) i2 k' = V i2 k') := Lib.hid (if_neg (fun e => hnk e.2))
          have hijb : ((i2 : Int) == (i : Int)) = false := by simpa using (fun e : (i2 : Int) = (i : Int) => e2 (by omega))
          have hin2 : (i2 : Int) < (n : Int) := by omega
          have hkk' : (k' : Int) < (K : Int) + 1 := by omega
          generalize hvd : V i2 k2 = v at x4 f1 HPU HUV
          generalize hvd' : V i2 k' = v' at f2 HPU HUV
          clear hvv hv0 hv1 hv2 hv3 hv4 hvk hvk2 hpu hpu' hwy hpm e1 e2 e3 e5 e6 hrk' hnk hvd hvd'
          go_upto_region 11 with fail
          have hkk9 : (k2 : Int) < (K : Int) + 1 := by omega
          have hkk8 : k2 < K + 1 := by omega
          go_still_tail 17, (by kernel_rfl)
          change wpList _ _ _ _ _ wr.drew
          have x4d : wr.drew.cell? ⟨rw i2, k2, none⟩ = some (.int .i64 v) := x4
          have f0d : wr.drew.frozen? ⟨rw i2, k2, none⟩ = false := f0
          have HPM5 := Lib.hid (HPM.out (v + n0))
          have HFX5 := Lib.hid (HFX.out (.int .i64 (v + n0)))
          generalize wr.drew = wd at x4d f0d HPM5 HFX5 ⊢
          clear x0 x3 x4 f0 y1 y2 HPM HFX hfx
          obtain ⟨w5, hw5⟩ : ∃ w5, wd.setCell ⟨rw i2, k2, none⟩ (.int .i64 (v + n0)) = w5 := ⟨_, rfl⟩
          rw [hw5] at HPM5 HFX5
          have q0 := (HF3.out.fx HFX5.out HGF.out).at hi2
          rw [e4] at q0
          obtain ⟨cs, t, hz, c0, c1, c2⟩ := HZ3.out
          have hz' := hz.fx HFX5.out HZS.out
          have y1 : w5.cell? ⟨Z, 1, none⟩ = some (.slice (some ⟨gU, 0, none⟩) n cU) := (hz'.cell 1).trans c1
          have x3 := HPM5.out.usedAt hi2
          have x4 := (HPM5.out.row i2 hi2).at (i := k') (by omega)
          rw [HUV.out] at x4
          have f0 := (HPM5.out.row i2 hi2).free k'
          clear hz hz' c0 c1 c2 cs e4
          go_upto_region 14 with fail
          (try rw [hw5])
          clear hw5 x4d f0d f1
          go_still_tail 17, (by kernel_rfl)
          change wpList _ _ _ _ _ w5.drew
          have x4d : w5.drew.cell? ⟨rw i2, k', none⟩ = some (.int .i64 v') := x4
          have f0d : w5.drew.frozen? ⟨rw i2, k', none⟩ = false := f0
          have HPM6 := Lib.hid ((HPM5.out.keep (Gr.refl w5).drew).putU hi2 k' (v' - n0))
          have HFX6 := Lib.hid ((HFX5.out.trans (Fx.of (Gr.refl w5).drew)).set (p := ⟨rw i2, k', none⟩) (Or.inr ⟨i2, hi2, rfl⟩) (.int .i64 (v' - n0)))
          generalize w5.drew = w6 at x4d f0d HPM6 HFX6 ⊢
          clear x3 x4 f0 y1 HPM5 HFX5 q0
          obtain ⟨w7, hw7⟩ : ∃ w7, w6.setCell ⟨rw i2, k', none⟩ (.int .i64 (v' - n0)) = w7 := ⟨_, rfl⟩
          rw [hw7] at HPM6 HFX6
          have HPU7 : Hid (Pu U (updU (updU V i2 k2 (v + n0)) i2 k' (v' - n0)) (fun s => T.getD (s + 1) 0 - T.getD s 0) cov n K n0 bya rk span k') := Lib.hid HPU.out
          clear HPU
          go_wp2_with fail
          (try rw [hw7])
          go_roundw
          case rel => exact ⟨k', _, rfl, hk', HPU7, HWY, HPM6, HFX6, by first | rfl | trivial⟩
          case measure => simp [intOf]; exact HRK.out
    · obtain ⟨k', c1, c2, c3, c4, c5, c6⟩ := HSTEP.out hij
      have q0 := HD.out.keep HFI.out
      rw [c1] at q0
      have q1 := HD.out.keep (HROW.out k' (by omega))
      have C6 := Lib.hid c6
      have C3 := Lib.hid c3
      have C5 : Hid (rk (bya k').toNat < rk (bya k).toNat) := Lib.hid (by rw [HRK.out]; exact c5)
      generalize U i k' = u' at q1 c4 C6
      obtain ⟨m', hm'⟩ : ∃ m' : Nat, min (mn : Int) u' = (m' : Int) := ⟨(min (mn : Int) u').toNat, by omega⟩
      have hm1' : 1 ≤ m' := by omega
      have hm2' : m' ≤ mn := by omega
      have HM3 : Hid ((m' : Int) ≤ u') := Lib.hid (by omega)
      have hijb : ((i : Int) == (job : Int)) = false := by simpa using (fun e : (i : Int) = (job : Int) => hij (by omega))
      have hkk' : (k' : Int) < ((K + 1 : Nat) : Int) := by omega
      have HWAY : Hid (∀ t : Int, t ≤ m' → Way U (fun s => T.getD (s + 1) 0 - T.getD s 0) bya fra job t k' → Way U (fun s => T.getD (s + 1) 0 - T.getD s 0) bya fra job t span) := Lib.hid (fun t ht hw => hway.out t (by omega) (C6.out t (by have := HMT.out; omega) (by have := HM3.out; omega) hw))
      clear HSTEP HLAST HRK HROW HFI HLJ HU hway c1 c3 c5 c6 hij c4
      go_wp2_with fail
      go_roundw
      case rel => exact ⟨m', k', hm1', by omega, rfl, rfl, c2, C3, HWAY, hgr2, by first | rfl | trivial⟩
      case measure => simp [intOf]; exact C5.out

end Go.Proofs.Ytfmojiaaoebodaa

namespace Go.Proofs.Ytfmojiaaoebodaa
open Go.RowKit
set_option linter.unusedSimpArgs false

theorem RB.congr {w : World} {g n : Nat} {f f' : Nat → Int} (h : RB w g n f) (he : ∀ i, i < n → f' i = f i) : RB w g n f' := by
  obtain ⟨cs, h1, h2⟩ := h
  exact ⟨cs, h1, fun i hi => by rw [he i hi]; exact h2 i hi⟩
theorem RB.made (w : World) (n : Nat) {g : Nat} (hg : w.heap.size = g) : RB (w.alloc (.cells (icB n (fun _ => 0)) 3)) g n (fun _ => 0) :=
  ⟨_, Blk.new w _ _ hg, fun i hi => by simp [icB, hi]⟩
theorem RB.grown {w w' : World} {g n : Nat} {f : Nat → Int} {row : Option Nat} (h : RB w g n f) (hg : w.grownBy w' row) (hne : some g ≠ row) : RB w' g n f := by
  obtain ⟨cs, h1, h2⟩ := h
  exact ⟨cs, h1.grown hg hne, h2⟩
theorem owns_put {w : World} {base : Nat} {e : TypeId} {size n : Nat} {v : Value} {xs : List Value} (h : w.ownsRow base e size v n xs) (g i : Nat) (hg : g < base) (u : Value) : (w.setCell ⟨g, i, none⟩ u).ownsRow base e size v n xs :=
  h.kept (row := some g) ((Gb.refl g w).put i u) (Or.inr fun e => by have := (h.lt g e).1; omega)

/-- What the search has in memory: its plan's own copy, and from where spans and jobs were reached. -/
structure MoM (w : World) (Z : Nat) (cz : Array Value) (gb gf M n : Nat) (bya fra : Nat → Int) : Prop where
  z : Blk w Z 54 cz
  b : RB w gb M bya
  f : RB w gf n fra
  ne : gb ≠ gf
section
variable {w w' : World} {Z gb gf M n : Nat} {cz : Array Value} {bya fra : Nat → Int}
theorem MoM.keep (h : MoM w Z cz gb gf M n bya fra) (hg : Gr w w') : MoM w' Z cz gb gf M n bya fra := ⟨h.z.keep hg, h.b.keep hg, h.f.keep hg, h.ne⟩
theorem MoM.grown {row : Option Nat} (h : MoM w Z cz gb gf M n bya fra) (hg : w.grownBy w' row) (h1 : some Z ≠ row) (h2 : some gb ≠ row) (h3 : some gf ≠ row) : MoM w' Z cz gb gf M n bya fra := ⟨h.z.grown hg h1, h.b.grown hg h2, h.f.grown hg h3, h.ne⟩
theorem MoM.putB (h : MoM w Z cz gb gf M n bya fra) (i : Nat) (v : Int) : MoM (w.setCell ⟨gb, i, none⟩ (.int .i64 v)) Z cz gb gf M n (updV bya i v) fra := by
  have hne : Z ≠ gb := by
    obtain ⟨ci, e1, _⟩ := h.b
    exact h.z.differ e1 (by decide)
  exact ⟨h.z.other hne _, h.b.put i v, h.f.other h.ne.symm _, h.ne⟩
theorem MoM.putF (h : MoM w Z cz gb gf M n bya fra) (i : Nat) (v : Int) : MoM (w.setCell ⟨gf, i, none⟩ (.int .i64 v)) Z cz gb gf M n bya (updV fra i v) := by
  have hne : Z ≠ gf := by
    obtain ⟨ci, e1, _⟩ := h.f
    exact h.z.differ e1 (by decide)
  exact ⟨h.z.other hne _, h.b.other h.ne _, h.f.put i v, h.ne⟩
end

/-! What the search has found, apart from memory. -/
section
variable {U : Nat → Nat → Int} {ln : Nat → Int} {cov : Nat → Nat → Prop} {B n K q i k j : Nat} {Q : List Nat} {bya fra : Nat → Int}
/-- Reached spans are full, and their jobs are in the queue. -/
def SrF (U : Nat → Nat → Int) (ln : Nat → Int) (B n K : Nat) (Q : List Nat) (bya : Nat → Int) : Prop := ∀ s, s < K → 0 ≤ bya s → (B : Int) * ln s ≤ colU U n s ∧ ∀ j, j < n → 0 < U j s → j ∈ Q
/-- The spans with room of the jobs that the queue has left behind are reached. -/
def SrC (U : Nat → Nat → Int) (ln : Nat → Int) (cov : Nat → Nat → Prop) (K : Nat) (Q : List Nat) (bya : Nat → Int) (q : Nat) : Prop := ∀ t i, t < q → Q[t]? = some i → ∀ s, s < K → cov i s → U i s < ln s → 0 ≤ bya s
def SrI (U : Nat → Nat → Int) (ln : Nat → Int) (cov : Nat → Nat → Prop) (i : Nat) (bya : Nat → Int) (k : Nat) : Prop := ∀ s, s < k → cov i s → U i s < ln s → 0 ≤ bya s
/-- The same, while the jobs of span k go into the queue. -/
def SrG (U : Nat → Nat → Int) (ln : Nat → Int) (B n K : Nat) (Q : List Nat) (bya : Nat → Int) (k j : Nat) : Prop :=
  (∀ s, s < K → s ≠ k → 0 ≤ bya s → (B : Int) * ln s ≤ colU U n s ∧ ∀ j, j < n → 0 < U j s → j ∈ Q) ∧ (B : Int) * ln k ≤ colU U n k ∧ ∀ t, t < j → 0 < U t k → t ∈ Q
theorem SrC.step (h : SrC U ln cov K Q bya q) (hi : Q[q]? = some i) (h2 : SrI U ln cov i bya K) : SrC U ln cov K Q bya (q + 1) := fun t x ht hx s hs hc hu => by
  rcases Nat.lt_or_ge t q with e | e
  · exact h t x e hx s hs hc hu
  · obtain rfl : t = q := by omega
    rw [hi] at hx
    obtain rfl : i = x := by simpa using hx
    exact h2 s hs hc hu
theorem SrC.reach (h : SrC U ln cov K Q bya q) (v : Nat) : SrC U ln cov K Q (updV bya k v) q := fun t x ht hx s hs hc hu => by
  have := h t x ht hx s hs hc hu
  unfold updV; split <;> omega
theorem SrI.reach (h : SrI U ln cov i bya k) (v : Nat) : SrI U ln cov i (updV bya k v) (k + 1) := fun s hs hc hu => by
  unfold updV
  split
  · omega
  · exact h s (by omega) hc hu
theorem SrI.skip (h : SrI U ln cov i bya k) (h2 : 0 ≤ bya k ∨ ¬ (cov i k ∧ U i k < ln k)) : SrI U ln cov i bya (k + 1) := fun s hs hc hu => by
  rcases Nat.lt_or_ge s k with e | e
  · exact h s e hc hu
  · obtain rfl : s = k := by omega
    rcases h2 with h2 | h2
    · exact h2
    · exact absurd ⟨hc, hu⟩ h2
theorem SrC.take (h : SrC U ln cov K Q bya q) (hq : q ≤ Q.length) (x : Nat) : SrC U ln cov K (Q ++ [x]) bya q := fun t i ht hi s hs hc hu => by
  rw [List.getElem?_append_left (by omega)] at hi
  exact h t i ht hi s hs hc hu
theorem SrF.reach (h : SrF U ln B n K Q bya) (v : Nat) (hk : (B : Int) * ln k ≤ colU U n k) : SrG U ln B n K Q (updV bya k v) k 0 :=
  ⟨fun s hs hne h0 => by rw [updV_ne _ _ hne] at h0; exact h s hs h0, hk, fun t ht => by omega⟩
theorem SrG.skip (h : SrG U ln B n K Q bya k j) (h2 : 0 < U j k → j ∈ Q) : SrG U ln B n K Q bya k (j + 1) :=
  ⟨h.1, h.2.1, fun t ht hu => by
    rcases Nat.lt_or_ge t j with e | e
    · exact h.2.2 t e hu
    · obtain rfl : t = j := by omega
      exact h2 hu⟩
theorem SrG.take (h : SrG U ln B n K Q bya k j) : SrG U ln B n K (Q ++ [j]) bya k (j + 1) :=
  ⟨fun s hs hne h0 => ⟨(h.1 s hs hne h0).1, fun t ht hu => List.mem_append_left _ ((h.1 s hs hne h0).2 t ht hu)⟩, h.2.1, fun t ht hu => by
    rcases Nat.lt_or_ge t j with e | e
    · exact List.mem_append_left _ (h.2.2 t e hu)
    · obtain rfl : t = j := by omega
      exact List.mem_append_right _ (by simp)⟩
theorem SrG.all (h : SrG U ln B n K Q bya k n) : SrF U ln B n K Q bya := fun s hs h0 => by
  by_cases e : s = k
  · subst e; exact h.2
  · exact h.1 s hs e h0
theorem smN_small {f : Nat → Int} {c : Int} : ∀ k, (∀ i, i < k → 0 ≤ f i ∧ f i ≤ c) → 0 ≤ smN f k ∧ smN f k ≤ c * k
  | 0, _ => by simp [smN]
  | k + 1, h => by
    have ih := smN_small k (fun i hi => h i (by omega))
    have h1 := h k (by omega)
    have e : c * ((k + 1 : Nat) : Int) = c * k + c := by rw [Int.natCast_add, Int.mul_add]; simp
    simp only [smN]; omega
theorem Sea.congr {ln' : Nat → Int} {job : Nat} {rk : Nat → Nat} (h : Sea U ln cov n K job bya fra rk) (he : ∀ s, s < K → ln' s = ln s) : Sea U ln' cov n K job bya fra rk :=
  ⟨h.jobN, fun k hk h0 => by
    obtain ⟨i, a, b, c, d, e⟩ := h.bys k hk h0
    exact ⟨i, a, b, c, by rw [he k hk]; exact d, e⟩, h.frs, h.nofr⟩
end

section
variable {G : Grid} {B N K : Nat} {l : List Jb} {U V : Nat → Nat → Int} {left : Nat → Int} {T : List Int}
theorem FlU.pushed (h : FlU G B l U left) (hGK : G.K = K) (hn : l.length = N) (hGl : ∀ s, s < K → ((G.ln s : Nat) : Int) = T.getD (s + 1) 0 - T.getD s 0) {job span : Nat} {m : Int} (hnl : m ≤ left job) (hspan : span < K) (hroom : m ≤ B * (T.getD (span + 1) 0 - T.getD span 0) - colU U N span)
    (hV : (∀ j, rowU V K j = rowU U K j + if j = job then m else 0) ∧ (∀ s, colU V N s = colU U N s + if s = span then m else 0) ∧ (∀ j s, 0 ≤ V j s) ∧ (∀ j s, j < N → s < K → V j s ≤ T.getD (s + 1) 0 - T.getD s 0) ∧ (∀ j s, j < N → s < K → 0 < V j s → covG G l j s)) :
    FlU G B l V (updV left job (left job - m)) := by
  subst hGK hn
  exact h.push hnl (fun hs => by rw [hGl _ hs]; exact hroom) ⟨hV.1, hV.2.1, hV.2.2.1, fun j s hj hs => by rw [hGl s hs]; exact hV.2.2.2.1 j s hj hs, hV.2.2.2.2⟩
theorem FlU.cutS (h : FlU G B l U left) (hGK : G.K = K) (hn : l.length = N) (hGl : ∀ s, s < K → ((G.ln s : Nat) : Int) = T.getD (s + 1) 0 - T.getD s 0) {job : Nat} {bya fra : Nat → Int} {Q : List Nat}
    (hS : Sq U (fun s => T.getD (s + 1) 0 - T.getD s 0) (covG G l) N K job bya fra Q) (hC : SrC U (fun s => T.getD (s + 1) 0 - T.getD s 0) (covG G l) K Q bya Q.length) (hF : SrF U (fun s => T.getD (s + 1) 0 - T.getD s 0) B N K Q bya) (hl : 0 < left job) : ∃ f r0 A D, CutF G B l f r0 A D := by
  subst hGK hn
  have hS' : Sq U (fun s => ((G.ln s : Nat) : Int)) (covG G l) l.length G.K job bya fra Q := ⟨hS.sea.congr (fun s hs => hGl s hs), hS.nd, hS.mem⟩
  refine ⟨_, _, _, _, h.cut hS' (fun i hi k hk hc hu => ?_) (fun k hk h0 => ?_) hl⟩
  · obtain ⟨t, ht⟩ := List.mem_iff_getElem?.1 hi
    have htl : t < Q.length := (List.getElem?_eq_some_iff.1 ht).1
    rw [hGl k hk] at hu
    exact hC t i htl ht k hk hc hu
  · have := hF k hk h0
    rw [hGl k hk]
    exact this
end

/-- What more leaves: more of the job flows, or there is a cut. -/
def RMoreP (base n K gU gL : Nat) (rw : Nat → Nat) (left : Nat → Int) (G : Grid) (B : Nat) (l : List Jb) (job : Nat) (w : World) (e : Ending) (w' : World) : Prop :=
  (e = .returned (.bool true) ∧ ∃ (V : Nat → Nat → Int) (m : Int), 1 ≤ m ∧ m ≤ left job ∧ FlU G B l V (updV left job (left job - m)) ∧ PlM w' base n (K + 1) gU gL rw V (updV left job (left job - m)) ∧ Fx (PlS n gL rw) w w') ∨
  (e = .returned (.bool false) ∧ Gr w w' ∧ ∃ f r0 A D, CutF G B l f r0 A D)

set_option maxRecDepth 100000 in
set_option maxHeartbeats 16000000 in
theorem rmore_any (b off mT cT base n K gU cU gL cL cP B job : Nat) (A : Option Addr) (T : List Int) (rw : Nat → Nat) (U : Nat → Nat → Int) (left : Nat → Int) (G : Grid) (l : List Jb) (w : World)
    (hT : T.length = K + 1) (hTv : ∀ s, 0 ≤ T.getD s 0 ∧ T.getD s 0 ≤ 1048576) (hAT : Ints w (some ⟨b, off, none⟩) T) (hmT : mT = K + 1) (hK : K ≤ 64)
    (hGK : G.K = K) (hGl : ∀ s, s < K → ((G.ln s : Nat) : Int) = T.getD (s + 1) 0 - T.getD s 0) (hGa : ∀ s, s < K → G.at_ s = T.getD s 0)
    (hn : l.length = n) (hn32 : n ≤ 32) (hB : 1 ≤ B ∧ B ≤ 8) (hp : Tris w A l)
    (hM : PlM w base n (K + 1) gU gL rw U left) (hF : FlU G B l U left) (hjob : job < n) (hleft : 1 ≤ left job ∧ left job ≤ 33554432) :
    Calls Try.prog 25 #[.agg #[.slice (some ⟨b, off, none⟩) mT cT, .slice (some ⟨gU, 0, none⟩) n cU, .slice (some ⟨gL, 0, none⟩) n cL], .int .i64 (B : Int), .slice A n cP, .int .i64 (job : Int)] w (RMoreP base n K gU gL rw left G B l job w) := by
  have HT := Lib.hid hT
  have HTV := Lib.hid hTv
  have HAT := Lib.hid hAT
  have HMT := Lib.hid hmT
  have HGK := Lib.hid hGK
  have HGL := Lib.hid hGl
  have HGA := Lib.hid hGa
  have HN := Lib.hid hn
  have HP := Lib.hid hp
  have HM := Lib.hid hM
  have HF := Lib.hid hF
  have HLF := Lib.hid hleft
  have hm1 : mT ≤ K + 1 := by omega
  have hm2 : K + 1 ≤ mT := by omega
  have HCOV : Hid (∀ i s, s < K → (covG G l i s ↔ (jbA l i).1 ≤ T.getD s 0 ∧ T.getD (s + 1) 0 ≤ (jbA l i).2.1)) := Lib.hid (fun i s hs => by
    unfold covG
    rw [hGa s hs]
    have := hGl s hs
    constructor <;> (rintro ⟨h1, h2⟩; exact ⟨h1, by omega⟩))
  have HCAP : Hid (∀ j s, j < n → s < K → 0 ≤ U j s ∧ U j s ≤ T.getD (s + 1) 0 - T.getD s 0) := Lib.hid (fun j s hj hs => by
    refine ⟨hF.pos j s, ?_⟩
    rw [← hGl s hs]
    exact hF.cap j s (by omega) (by omega))
  have HLN : Hid (∀ s, s < K → 1 ≤ T.getD (s + 1) 0 - T.getD s 0 ∧ T.getD (s + 1) 0 - T.getD s 0 ≤ 1048576) := Lib.hid (fun s hs => by
    have h1 := hGl s hs
    have h2 := G.pos s (by omega)
    have h3 := hTv s
    have h4 := hTv (s + 1)
    omega)
  have HGBS : Hid (∀ g, w.heap.size ≤ g → ¬ PlS n gL rw g) := Lib.hid (fun g hg h => by
    rcases h with e | ⟨j, hj, e⟩
    · obtain ⟨cs, h1, _⟩ := hM.left
      have := h1.lt; omega
    · obtain ⟨cs, h1, _⟩ := hM.row j hj
      have := h1.lt; omega)
  clear hT hTv hAT hmT hGK hGl hGa hn hp hM hF hleft
  go_enter Try.func25, Try.ntmps25
  go_upto_region 2 with fail
  generalize hW1 : World.alloc w _ = w1
  obtain ⟨hg1, z0, z1, z2⟩ : Gr w w1 ∧ w1.cell? ⟨w.heap.size, 0, none⟩ = some (.slice (some ⟨b, off, none⟩) mT cT) ∧ w1.cell? ⟨w.heap.size, 1, none⟩ = some (.slice (some ⟨gU, 0, none⟩) n cU) ∧ w1.cell? ⟨w.heap.size, 2, none⟩ = some (.slice (some ⟨gL, 0, none⟩) n cL) := by
    rw [← hW1]; exact ⟨(Gr.refl w).alloc _, alloc_new rfl rfl, alloc_new rfl rfl, alloc_new rfl rfl⟩
  have HZB : Hid (Blk w1 w.heap.size 54 #[.slice (some ⟨b, off, none⟩) mT cT, .slice (some ⟨gU, 0, none⟩) n cU, .slice (some ⟨gL, 0, none⟩) n cL]) := Lib.hid (by rw [← hW1]; exact Blk.new w _ _ rfl)
  have HZ1 : Hid (w.heap.size < w1.heap.size) := Lib.hid (by rw [← hW1]; simp)
  clear hW1
  generalize hZ : w.heap.size = Z at z0 z1 z2 HZB HZ1 ⊢
  have HZ := Lib.hid hZ
  clear hZ
  have hmk1 := fun W => mk_icB mT (by omega) W
  have hmk2 := fun W => mk_icB n (by omega) W
  go_cut [10, 11] from 25 to 29 (fun v1 v2 wx => ∃ g1 g2, v1 = .slice (some ⟨g1, 0, none⟩) mT mT ∧ v2 = .slice (some ⟨g2, 0, none⟩) n n ∧ g1 ≠ g2 ∧ Hid (w1.heap.size ≤ g1) ∧ Hid (w1.heap.size ≤ g2) ∧ Hid (g1 < wx.heap.size ∧ g2 < wx.heap.size) ∧ Hid (RB wx g1 mT (fun _ => 0)) ∧ Hid (RB wx g2 n (fun _ => 0)) ∧ Hid (Gr w1 wx))
  case first =>
    go_region_law (fail)
    all_goals
      go_wp2_with fail
      go_meet
      have hgW : ∀ (X Y : Array Value), Gr w1 ((w1.alloc (.cells X 3)).alloc (.cells Y 3)).drew := fun X Y => (((Gr.refl w1).alloc _).alloc _).drew
      first
      | exact ⟨w1.heap.size, w1.heap.size + 1, rfl, rfl, by omega, Lib.hid (Nat.le_refl _), Lib.hid (by omega), Lib.hid (by simp <;> omega), Lib.hid ((RB.made w1 mT rfl).keep (((Gr.refl _).alloc _).drew)), Lib.hid ((RB.made (w1.alloc (.cells (icB mT (fun _ => 0)) 3)) n (by simp)).keep ((Gr.refl _).drew)), Lib.hid (hgW _ _)⟩
      | exact ⟨w1.heap.size + 1, w1.heap.size, rfl, rfl, by omega, Lib.hid (by omega), Lib.hid (Nat.le_refl _), Lib.hid (by simp <;> omega), Lib.hid ((RB.made (w1.alloc (.cells (icB n (fun _ => 0)) 3)) mT (by simp)).keep ((Gr.refl _).drew)), Lib.hid ((RB.made w1 n rfl).keep (((Gr.refl _).alloc _).drew)), Lib.hid (hgW _ _)⟩
  case rest =>
    obtain ⟨gb, gf, rfl, rfl, hne, hgb, hgf, hlt2, HB0, HF0, hg12⟩ := hcut
    clear hmk1 hmk2
    have hgr := hg1.trans hg12.out
    have hgb2 : w.heap.size ≤ gb := by have := hgb.out; have := hg1.size; omega
    have hgf2 : w.heap.size ≤ gf := by have := hgf.out; have := hg1.size; omega
    have HB0 : Hid (MoM wc Z #[.slice (some ⟨b, off, none⟩) mT cT, .slice (some ⟨gU, 0, none⟩) n cU, .slice (some ⟨gL, 0, none⟩) n cL] gb gf mT n (fun _ => 0) (fun _ => 0)) := Lib.hid ⟨HZB.out.keep hg12.out, HB0.out, HF0.out, hne⟩
    obtain ⟨cz, HC0, HC1, HC2, HB0⟩ : ∃ cz : Array Value, Hid (cz[0]? = some (.slice (some ⟨b, off, none⟩) mT cT)) ∧ Hid (cz[1]? = some (.slice (some ⟨gU, 0, none⟩) n cU)) ∧ Hid (cz[2]? = some (.slice (some ⟨gL, 0, none⟩) n cL)) ∧ Hid (MoM wc Z cz gb gf mT n (fun _ => 0) (fun _ => 0)) := ⟨_, Lib.hid rfl, Lib.hid rfl, Lib.hid rfl, HB0⟩
    have HGB2 := Lib.hid hgb2
    have HGF2 := Lib.hid hgf2
    have HZL : Hid (Z < wc.heap.size) := Lib.hid (by have := HZ1.out; have := hg12.out.size; omega)
    clear hgb2 hgf2 hgb hgf z0 z1 z2 HZB HF0 hg12 hg1
    go_wp2_with fail
    go_loopw [12] (fun z wr => ∃ (k : Nat) (f : Nat → Int), k ≤ mT ∧ z = .int .i64 (k : Int) ∧ Hid (∀ i, i < k → f i = -1) ∧ Hid (MoM wr Z cz gb gf mT n f (fun _ => 0)) ∧ Hid (wr.heap.size = wc.heap.size) ∧ Gr w wr) (fun z _ => mT - (intOf z).toNat)
    case atStart => exact ⟨0, _, Nat.zero_le _, rfl, Lib.hid (fun i hi => by omega), HB0, Lib.hid rfl, hgr⟩
    case round =>
      clear hgr HB0
      obtain ⟨k, f, hk, rfl, hf, hm, hsz, hgr⟩ := hrel
      by_cases hlt : k < mT
      · have hki : (k : Int) < (mT : Int) := by omega
        have x0 := hm.out.b.at hlt
        have x1 := hm.out.b.free k
        have HF2 : Hid (∀ i, i < k + 1 → updV f k (-1) i = -1) := Lib.hid (fun i hi => by
          unfold updV; split
          · rfl
          · exact hf.out i (by omega))
        have HM2 := Lib.hid (hm.out.putB k (-1))
        have HG2 := Lib.hid (hgr.setCell (p := ⟨gb, k, none⟩) HGB2.out (.int .i64 (-1)))
        generalize f k = fk at x0
        go_wp2_with fail
        go_roundw
        case rel => exact ⟨k + 1, _, by omega, by go_num, HF2, HM2, Lib.hid (by simpa [World.setCell] using hsz.out), HG2.out⟩
        case measure => simp [intOf]; omega
      · obtain rfl : mT = k := by omega
        have HM1 : Hid (MoM wr Z cz gb gf mT n (fun _ => -1) (fun _ => 0)) := Lib.hid ⟨hm.out.z, hm.out.b.congr (fun i hi => (hf.out i hi).symm), hm.out.f, hm.out.ne⟩
        clear hf hm hlt hk
        obtain ⟨wA, rfl⟩ : ∃ wA, wA = wr := ⟨_, rfl⟩
        go_wp2_with fail
        go_loopw [13] (fun z wr => ∃ (k : Nat) (f : Nat → Int), k ≤ n ∧ z = .int .i64 (k : Int) ∧ Hid (∀ i, i < k → f i = -1) ∧ Hid (MoM wr Z cz gb gf mT n (fun _ => -1) f) ∧ Hid (wr.heap.size = wc.heap.size) ∧ Gr w wr) (fun z _ => n - (intOf z).toNat)
        case atStart => exact ⟨0, _, Nat.zero_le _, rfl, Lib.hid (fun i hi => by omega), HM1, hsz, hgr⟩
        case round =>
          clear hgr HM1 hsz
          obtain ⟨k, f, hk, rfl, hf, hm, hsz, hgr⟩ := hrel
          by_cases hlt : k < n
          · have hki : (k : Int) < (n : Int) := by omega
            have x0 := hm.out.f.at hlt
            have x1 := hm.out.f.free k
            have HF2 : Hid (∀ i, i < k + 1 → updV f k (-1) i = -1) := Lib.hid (fun i hi => by
              unfold updV; split
              · rfl
              · exact hf.out i (by omega))
            have HM2 := Lib.hid (hm.out.putF k (-1))
            have HG2 := Lib.hid (hgr.setCell (p := ⟨gf, k, none⟩) HGF2.out (.int .i64 (-1)))
            generalize f k = fk at x0
            go_wp2_with fail
            go_roundw
            case rel => exact ⟨k + 1, _, by omega, by go_num, HF2, HM2, Lib.hid (by simpa [World.setCell] using hsz.out), HG2.out⟩
            case measure => simp [intOf]; omega
          · obtain rfl : n = k := by omega
            have HM1 : Hid (MoM wr Z cz gb gf mT n (fun _ => -1) (fun _ => -1)) := Lib.hid ⟨hm.out.z, hm.out.b, hm.out.f.congr (fun i hi => (hf.out i hi).symm), hm.out.ne⟩
            clear hf hm hlt hk
            go_upto_region 12 with fail
            generalize hW2 : World.alloc wr _ = w2
            have hg2 : Gr wr w2 := by rw [← hW2]; exact (Gr.refl wr).alloc _
            have HO : Hid (w2.ownsRow wc.heap.size 3 1 (.slice (some ⟨wr.heap.size, 0, none⟩) 1 1) [job].length (flatE enc1 (nodesI [job]))) := Lib.hid (by rw [← hW2]; exact owns_oneI wr (.int .i64 job) (by rw [hsz.out]; exact Nat.le_refl _))
            have HM2 := Lib.hid (HM1.out.keep hg2)
            have hgr2 := hgr.trans hg2
            have HS : Hid (Sq U (fun s => T.getD (s + 1) 0 - T.getD s 0) (covG G l) n K job (fun _ => -1) (fun _ => -1) [job]) := Lib.hid (Sq.start hjob)
            generalize wr.heap.size = gq at HO ⊢
            obtain ⟨ns, hns⟩ : ∃ ns, wc.heap.size = ns := ⟨_, rfl⟩
            rw [hns] at HO
            have HNS := Lib.hid hns
            clear hW2 hns HM1 hg2 hgr hsz
            go_wp2_with fail
            go_loopw [14, 15] (fun qv z wr => ∃ (q : Nat) (Q : List Nat) (bya fra : Nat → Int), q ≤ Q.length ∧ z = .int .i64 (q : Int) ∧ Hid (wr.ownsRow ns 3 1 qv Q.length (flatE enc1 (nodesI Q))) ∧ Hid (MoM wr Z cz gb gf mT n bya fra) ∧ Hid (Sq U (fun s => T.getD (s + 1) 0 - T.getD s 0) (covG G l) n K job bya fra Q) ∧ Hid (SrC U (fun s => T.getD (s + 1) 0 - T.getD s 0) (covG G l) K Q bya q) ∧ Hid (SrF U (fun s => T.getD (s + 1) 0 - T.getD s 0) B n K Q bya) ∧ Gr w wr) (fun _ z _ => n + 1 - (intOf z).toNat)
            case atStart => exact ⟨0, [job], _, _, by simp, rfl, HO, HM2, HS, Lib.hid (fun t i ht => by omega), Lib.hid (fun s _ h => by have h2 : (0 : Int) ≤ -1 := h; omega), hgr2⟩
            case round =>
              clear HM2 HO HS hgr2
              obtain ⟨q, Q, bya, fra, hq, rfl, hown, hm, hS, hC, hF, hgr⟩ := hrel
              have hQn := hS.out.len
              have hQ1 : 0 < Q.length := List.length_pos_of_mem ((hS.out.mem job).2 (Or.inl rfl))
              obtain ⟨gq2, cq, rfl, -⟩ := owns_shape hown.out hQ1
              by_cases hlt : q < Q.length
              · obtain ⟨i, hi⟩ : ∃ i, Q[q]? = some i := ⟨_, List.getElem?_eq_getElem hlt⟩
                have hiN := hS.out.lt (List.mem_of_getElem? hi)
                obtain ⟨bq, oq, eq, cq0⟩ := (Rd_of_owns enc1_len (nodesI_len Q) hown.out) q _ (nodesI_at hi)
                cases eq
                have ck := cq0 0 _ rfl
                simp only [Nat.zero_add, Nat.mul_one, Nat.add_zero] at ck
                obtain ⟨qn, hqn⟩ : ∃ qn, Q.length = qn := ⟨_, rfl⟩
                have HI := Lib.hid hi
                have hki : (q : Int) < (qn : Int) := by omega
                have HOW := Lib.hid hown.out
                rw [hqn] at hq hlt hQn HOW ⊢
                have HQN := Lib.hid hqn
                clear hown hi cq0 hqn hQ1
                obtain ⟨wB, rfl⟩ : ∃ wB, wB = wr := ⟨_, rfl⟩
                go_wp2_with fail
                go_loopw [14, 17] (fun qv z wr => ∃ (k : Nat) (Q' : List Nat) (bya' fra' : Nat → Int) (m : Nat), k ≤ K ∧ z = .int .i64 (k : Int) ∧ Hid (Q'.length = m) ∧ q < m ∧ Hid (Q'[q]? = some i) ∧ Hid (wr.ownsRow ns 3 1 qv m (flatE enc1 (nodesI Q'))) ∧ Hid (MoM wr Z cz gb gf mT n bya' fra') ∧ Hid (Sq U (fun s => T.getD (s + 1) 0 - T.getD s 0) (covG G l) n K job bya' fra' Q') ∧ Hid (SrC U (fun s => T.getD (s + 1) 0 - T.getD s 0) (covG G l) K Q' bya' q) ∧ Hid (SrI U (fun s => T.getD (s + 1) 0 - T.getD s 0) (covG G l) i bya' k) ∧ Hid (SrF U (fun s => T.getD (s + 1) 0 - T.getD s 0) B n K Q' bya') ∧ Gr w wr) (fun _ z _ => K - (intOf z).toNat)
                case atStart => exact ⟨0, Q, bya, fra, qn, Nat.zero_le _, rfl, HQN, hlt, HI, HOW, hm, hS, hC, Lib.hid (fun s h => by omega), hF, hgr⟩
                case round =>
                  clear hgr HOW hm hS hC hF ck HI HQN hQn hq hlt hki
                  obtain ⟨k, Q', bya', fra', m, hk, rfl, hL', hqm, hI', hown, hm, hS, hC, hI, hF, hgr⟩ := hrel
                  have hmn : m ≤ n := by rw [← hL'.out]; exact hS.out.len
                  obtain ⟨gq3, cq3, rfl, -⟩ := owns_shape hown.out (by omega)
                  by_cases hkK : k < K
                  · obtain ⟨b1, off1, e1, x1⟩ := Ints_at (HAT.out.keep hgr) (i := k + 1) (by rw [HT.out]; omega)
                    cases e1
                    obtain ⟨b2, off2, e2, x2⟩ := Ints_at (HAT.out.keep hgr) (i := k) (by rw [HT.out]; omega)
                    cases e2
                    have z0 : wr.cell? ⟨Z, 0, none⟩ = some (.slice (some ⟨b, off, none⟩) mT cT) := (hm.out.z.cell 0).trans HC0.out
                    have z1 : wr.cell? ⟨Z, 1, none⟩ = some (.slice (some ⟨gU, 0, none⟩) n cU) := (hm.out.z.cell 1).trans HC1.out
                    have y0 := hm.out.b.at (i := k) (by omega)
                    obtain ⟨bA, oA, rfl, j0, j1, -⟩ := Tris_at (HP.out.keep hgr) (i := i) (by rw [HN.out]; exact hiN)
                    have x3 := (HM.out.keep hgr).usedAt hiN
                    have x4 := ((HM.out.keep hgr).row i hiN).at (i := k) (by omega)
                    have hcap := HCAP.out i k hiN hkK
                    have hcv : covG G l i k ↔ (l.getD i (0, 0, 0)).1 ≤ T.getD k 0 ∧ T.getD (k + 1) 0 ≤ (l.getD i (0, 0, 0)).2.1 := HCOV.out i k hkK
                    have hln := HLN.out k hkK
                    have htv := HTV.out k
                    have htv1 := HTV.out (k + 1)
                    have HSK : Hid ((0 ≤ bya' k ∨ ¬ (covG G l i k ∧ U i k < T.getD (k + 1) 0 - T.getD k 0)) → SrI U (fun s => T.getD (s + 1) 0 - T.getD s 0) (covG G l) i bya' (k + 1)) := Lib.hid (fun h => hI.out.skip h)
                    rw [hcv] at HSK
                    generalize l.getD i (0, 0, 0) = jb at j0 j1 HSK hcv
                    obtain ⟨a1, a2, a3⟩ := jb
                    dsimp only at j0 j1 HSK hcv
                    have HCV := Lib.hid hcv
                    clear hcv
                    generalize ht1 : T.getD (k + 1) 0 = t1 at x1 hcap hln htv1 HSK HCV
                    generalize ht0 : T.getD k 0 = t0 at x2 hcap hln htv HSK HCV
                    have HT1 := Lib.hid ht1
                    have HT0 := Lib.hid ht0
                    clear ht1 ht0
                    generalize hu : U i k = u at x4 hcap HSK
                    generalize hbk : bya' k = bk at y0 HSK
                    have HU := Lib.hid hu
                    have HBK := Lib.hid hbk
                    clear hu hbk
                    have hki : (k : Int) + 1 < (mT : Int) := by omega
                    have hkk : (k : Int) < (mT : Int) := by omega
                    have hii : (i : Int) < (n : Int) := by omega
                    go_upto_region 19 with fail
                    have f1 : IntKind.i64.wrap ((k : Int) + 1) = (k : Int) + 1 := IntWalk.i64_in _ (by omega)
                    have f2 : (0 : Int) ≤ (k : Int) + 1 := by omega
                    have f3 : ((k : Int) + 1).toNat = k + 1 := by omega
                    have f4 : IntKind.i64.wrap (t1 - t0) = t1 - t0 := IntWalk.i64_in _ (by omega)
                    go_quiet (fail)
                    have hgr3 := hgr.drewN nq
                    have hgd := (Gr.refl wr).drewN nq
                    have z0' := hgd.keep z0
                    have z1' := hgd.keep z1
                    have y0' := hgd.keep y0
                    have j0' := hgd.keep j0
                    have j1' := hgd.keep j1
                    have x1' := hgd.keep x1
                    have x2' := hgd.keep x2
                    have x3' := hgd.keep x3
                    have x4' := hgd.keep x4
                    have HOW := Lib.hid (owns_gr hown.out hgd)
                    have HM3 := Lib.hid (hm.out.keep hgd)
                    generalize wr.drewN nq = w3 at hgr3 z0' z1' y0' j0' j1' x1' x2' x3' x4' HOW HM3 ⊢
                    clear z0 z1 y0 j0 j1 x1 x2 x3 x4 hown hm hgr hgd f4
                    obtain ⟨lg, hlg⟩ : ∃ lg, t1 - t0 = lg := ⟨_, rfl⟩
                    have HLG : Hid (T.getD (k + 1) 0 - T.getD k 0 = lg) := Lib.hid (by rw [HT1.out, HT0.out]; exact hlg)
                    rw [hlg] at hcap hln HSK ⊢
                    clear hlg
                    go_upto_region 20 with fail
                    have hcase : 0 ≤ bk ∨ (bk < 0 ∧ t0 < a1) ∨ (bk < 0 ∧ a1 ≤ t0 ∧ a2 < t1) ∨ (bk < 0 ∧ a1 ≤ t0 ∧ t1 ≤ a2 ∧ lg ≤ u) ∨ (bk < 0 ∧ a1 ≤ t0 ∧ t1 ≤ a2 ∧ u < lg) := by omega
                    rcases hcase with h | ⟨h, h1⟩ | ⟨h, h1, h2⟩ | ⟨h, h1, h2, h3⟩ | ⟨h, h1, h2, h3⟩
                    · have HI2 := Lib.hid (HSK.out (Or.inl h))
                      have d1 : decide (0 ≤ bk) = true := by simpa using h
                      clear HSK HCV
                      go_quiet (fail)
                      go_wp2_with fail
                      go_roundw
                      case rel => exact ⟨k + 1, Q', bya', fra', m, by omega, by go_num, hL', hqm, hI', Lib.hid (owns_gr HOW.out ((Gr.refl _).drewN _)), Lib.hid (HM3.out.keep ((Gr.refl _).drewN _)), hS, hC, HI2, hF, hgr3.drewN _⟩
                      case measure => simp [intOf]; omega
                    · have HI2 := Lib.hid (HSK.out (Or.inr (fun hh => by have := hh.1.1; have := hh.1.2; have := hh.2; omega)))
                      have d1 : decide (0 ≤ bk) = false := by simpa using h
                      have d2 : decide (t0 < a1) = true := by simpa using h1
                      clear HSK HCV
                      go_quiet (fail)
                      go_wp2_with fail
                      go_roundw
                      case rel => exact ⟨k + 1, Q', bya', fra', m, by omega, by go_num, hL', hqm, hI', Lib.hid (owns_gr HOW.out ((Gr.refl _).drewN _)), Lib.hid (HM3.out.keep ((Gr.refl _).drewN _)), hS, hC, HI2, hF, hgr3.drewN _⟩
                      case measure => simp [intOf]; omega
                    · have HI2 := Lib.hid (HSK.out (Or.inr (fun hh => by have := hh.1.1; have := hh.1.2; have := hh.2; omega)))
                      have d1 : decide (0 ≤ bk) = false := by simpa using h
                      have d2 : decide (t0 < a1) = false := by simpa using h1
                      have d3 : decide (a2 < t1) = true := by simpa using h2
                      clear HSK HCV
                      go_quiet (fail)
                      go_wp2_with fail
                      go_roundw
                      case rel => exact ⟨k + 1, Q', bya', fra', m, by omega, by go_num, hL', hqm, hI', Lib.hid (owns_gr HOW.out ((Gr.refl _).drewN _)), Lib.hid (HM3.out.keep ((Gr.refl _).drewN _)), hS, hC, HI2, hF, hgr3.drewN _⟩
                      case measure => simp [intOf]; omega
                    · have HI2 := Lib.hid (HSK.out (Or.inr (fun hh => by have := hh.1.1; have := hh.1.2; have := hh.2; omega)))
                      have d1 : decide (0 ≤ bk) = false := by simpa using h
                      have d2 : decide (t0 < a1) = false := by simpa using h1
                      have d3 : decide (a2 < t1) = false := by simpa using h2
                      have d4 : decide (lg ≤ u) = true := by simpa using h3
                      clear HSK HCV
                      go_quiet (fail)
                      go_wp2_with fail
                      go_roundw
                      case rel => exact ⟨k + 1, Q', bya', fra', m, by omega, by go_num, hL', hqm, hI', Lib.hid (owns_gr HOW.out ((Gr.refl _).drewN _)), Lib.hid (HM3.out.keep ((Gr.refl _).drewN _)), hS, hC, HI2, hF, hgr3.drewN _⟩
                      case measure => simp [intOf]; omega
                    · have HCVT := Lib.hid (HCV.out.2 ⟨h1, h2⟩)
                      have d1 : decide (0 ≤ bk) = false := by simpa using h
                      have d2 : decide (t0 < a1) = false := by simpa using h1
                      have d3 : decide (a2 < t1) = false := by simpa using h2
                      have d4 : decide (lg ≤ u) = false := by simpa using h3
                      have HS5 : Hid (Sq U (fun s => T.getD (s + 1) 0 - T.getD s 0) (covG G l) n K job (updV bya' k i) fra' Q') := Lib.hid (hS.out.reach hkK (by rw [HBK.out]; exact h) (List.mem_of_getElem? hI'.out) HCVT.out (by rw [HU.out, HLG.out]; exact h3))
                      have HC5 : Hid (SrC U (fun s => T.getD (s + 1) 0 - T.getD s 0) (covG G l) K Q' (updV bya' k i) q) := Lib.hid (hC.out.reach i)
                      have HI5 : Hid (SrI U (fun s => T.getD (s + 1) 0 - T.getD s 0) (covG G l) i (updV bya' k i) (k + 1)) := Lib.hid (hI.out.reach i)
                      have HG5 : Hid ((B : Int) * (fun s => T.getD (s + 1) 0 - T.getD s 0) k ≤ colU U n k → SrG U (fun s => T.getD (s + 1) 0 - T.getD s 0) B n K Q' (updV bya' k i) k 0) := Lib.hid (fun hh => hF.out.reach i hh)
                      have HB5 : Hid (0 ≤ updV bya' k i k) := Lib.hid (by rw [updV_at]; omega)
                      clear HSK HCV hS hC hI hF HCVT
                      go_quiet (fail)
                      have hgd := (Gr.refl w3).drewN nq
                      have hgr4 := hgr3.trans hgd
                      have y04 := hgd.keep y0'
                      have HM4 := Lib.hid (HM3.out.keep hgd)
                      have HOW4 := Lib.hid (owns_gr HOW.out hgd)
                      generalize w3.drewN nq = w4 at hgr4 y04 HM4 HOW4 ⊢
                      clear hgd y0' HM3 HOW hgr3 z0' z1' j0' j1' x1' x2' x3' x4' d1 d2 d3 d4 h h1 h2 h3 hcap
                      have fb := HM4.out.b.free k
                      obtain ⟨w5, hw5⟩ : ∃ w5, w4.setCell ⟨gb, k, none⟩ (.int .i64 (i : Int)) = w5 := ⟨_, rfl⟩
                      have HM5 : Hid (MoM w5 Z cz gb gf mT n (updV bya' k i) fra') := Lib.hid (by rw [← hw5]; exact HM4.out.putB k i)
                      have HOW5 : Hid (w5.ownsRow ns 3 1 (.slice (some ⟨gq3, 0, none⟩) m cq3) m (flatE enc1 (nodesI Q'))) := Lib.hid (by rw [← hw5]; exact owns_put HOW4.out gb k (by have := hlt2.out.1; have := HNS.out; omega) _)
                      have hgr5 : Gr w w5 := by rw [← hw5]; exact hgr4.setCell (p := ⟨gb, k, none⟩) HGB2.out _
                      go_upto_region 22 with fail
                      (try rw [hw5])
                      clear hw5 y04 fb HM4 HOW4 hgr4
                      go_wp2_with fail
                      go_loop [19, 20] (fun s z => ∃ j : Nat, j ≤ n ∧ z = .int .i64 (j : Int) ∧ s = .int .i64 (smN (fun t => U t k) j)) (fun _ z => n - (intOf z).toNat)
                      case atStart => exact ⟨0, Nat.zero_le _, rfl, rfl⟩
                      case round =>
                        obtain ⟨j, hj, rfl, rfl⟩ := hrel
                        have hlg2 : lg ≤ 1048576 := hln.2
                        have hsm := smN_small (f := fun t => U t k) (c := 1048576) j (fun t ht => by
                          have h3 := HCAP.out t k (by omega) hkK
                          have h4 := HLG.out
                          constructor <;> omega)
                        by_cases hjn : j < n
                        · have z1 : w5.cell? ⟨Z, 1, none⟩ = some (.slice (some ⟨gU, 0, none⟩) n cU) := (HM5.out.z.cell 1).trans HC1.out
                          have x3 := (HM.out.keep hgr5).usedAt hjn
                          have x4 := ((HM.out.keep hgr5).row j hjn).at (i := k) (by omega)
                          have hcj := HCAP.out j k hjn hkK
                          have h4 := HLG.out
                          have hcj2 : 0 ≤ U j k ∧ U j k ≤ 1048576 := by constructor <;> omega
                          have HSN : Hid (smN (fun t => U t k) (j + 1) = smN (fun t => U t k) j + U j k) := Lib.hid rfl
                          clear hcj h4
                          generalize smN (fun t => U t k) j = s0 at hsm HSN ⊢
                          generalize U j k = uj at x4 hcj2 HSN
                          have hji : (j : Int) < (n : Int) := by omega
                          have hkk2 : (k : Int) < (mT : Int) := by omega
                          have hkk3 : (k : Int) < (K : Int) + 1 := by omega
                          go_wp2_with fail
                          go_round
                          case rel => exact ⟨j + 1, by omega, by go_num, by rw [HSN.out]⟩
                          case measure => simp [intOf]; omega
                        · obtain rfl : n = j := by omega
                          have HCS : Hid (colU U n k = smN (fun t => U t k) n) := Lib.hid rfl
                          have hpr1 : (B : Int) * lg ≤ 8 * lg := Int.mul_le_mul_of_nonneg_right (by omega) (by omega)
                          have hpr0 : 0 ≤ (B : Int) * lg := Int.mul_nonneg (by omega) (by omega)
                          have HPR : Hid ((B : Int) * (fun s => T.getD (s + 1) 0 - T.getD s 0) k = (B : Int) * lg) := Lib.hid (by have := HLG.out; show (B : Int) * (T.getD (k + 1) 0 - T.getD k 0) = _; rw [this])
                          obtain ⟨pr, hpr⟩ : ∃ pr, (B : Int) * lg = pr := ⟨_, rfl⟩
                          rw [hpr] at hpr1 hpr0 HPR
                          have hw1 : IntKind.i64.wrap pr = pr := IntWalk.i64_in _ (by omega)
                          generalize smN (fun t => U t k) n = cs at hsm HCS ⊢
                          by_cases hroom : cs < pr
                          · have z0 : w5.cell? ⟨Z, 0, none⟩ = some (.slice (some ⟨b, off, none⟩) mT cT) := (HM5.out.z.cell 0).trans HC0.out
                            have z1 : w5.cell? ⟨Z, 1, none⟩ = some (.slice (some ⟨gU, 0, none⟩) n cU) := (HM5.out.z.cell 1).trans HC1.out
                            have z2 : w5.cell? ⟨Z, 2, none⟩ = some (.slice (some ⟨gL, 0, none⟩) n cL) := (HM5.out.z.cell 2).trans HC2.out
                            go_wp2_with fail
                            obtain rfl : mT = K + 1 := HMT.out
                            refine (rpush_any b off (K + 1) cT base n K gU cU gL cL gb (K + 1) gf n T rw U left (updV bya' k i) fra' (fun j => Q'.idxOf j) (covG G l) (some ⟨bA, oA, none⟩) n cP job k (pr - cs) w5 HT.out HTV.out (HAT.out.keep hgr5) rfl hK (HM.out.keep hgr5) HM5.out.b HM5.out.f HS5.out.sea HF.out.pos (fun j s hj hs => (HCAP.out j s hj hs).2) (fun j s hj hs h => HF.out.cov j s (by rw [HN.out]; exact hj) (by rw [HGK.out]; exact hs) h) (HGBS.out gb HGB2.out) (HGBS.out gf HGF2.out) hkK HB5.out ⟨by omega, by omega⟩ HLF.out).mono ?_
            
                            rintro e w6 ⟨rfl, V, mm, p1, p2, p3, p4, p5, p6⟩
                            have HX : Hid (∃ (V : Nat → Nat → Int) (m : Int), 1 ≤ m ∧ m ≤ left job ∧ FlU G B l V (updV left job (left job - m)) ∧ PlM w6 base n (K + 1) gU gL rw V (updV left job (left job - m)) ∧ Fx (PlS n gL rw) w w6) := Lib.hid ⟨V, mm, p1, p3, HF.out.pushed HGK.out HN.out HGL.out p3 hkK (by
                              have h5 := HPR.out
                              have h6 : (B : Int) * (T.getD (k + 1) 0 - T.getD k 0) = pr := h5
                              rw [h6, HCS.out]; exact p2) p4, p5, (Fx.of hgr5).trans p6⟩
                            clear p1 p2 p3 p4 p5 p6 z0 z1 z2
                            go_wp2_with fail
                            try rw [Exit.noGoto_ret]
                            go_ret
                            exact Or.inl ⟨rfl, HX.out⟩
                          · have HGG := Lib.hid (HG5.out (by rw [HPR.out, HCS.out]; omega))
                            clear HG5 HPR HCS
                            go_wp2_with fail
                            clear hpr hpr0 hpr1 hw1 hroom hsm hj hjn
                            go_loopw [14, 21] (fun qv z wr => ∃ (j : Nat) (Q2 : List Nat) (fra2 : Nat → Int) (m2 : Nat), j ≤ n ∧ z = .int .i64 (j : Int) ∧ Hid (Q2.length = m2) ∧ q < m2 ∧ Hid (Q2[q]? = some i) ∧ Hid (wr.ownsRow ns 3 1 qv m2 (flatE enc1 (nodesI Q2))) ∧ Hid (MoM wr Z cz gb gf mT n (updV bya' k i) fra2) ∧ Hid (Sq U (fun s => T.getD (s + 1) 0 - T.getD s 0) (covG G l) n K job (updV bya' k i) fra2 Q2) ∧ Hid (SrC U (fun s => T.getD (s + 1) 0 - T.getD s 0) (covG G l) K Q2 (updV bya' k i) q) ∧ Hid (SrG U (fun s => T.getD (s + 1) 0 - T.getD s 0) B n K Q2 (updV bya' k i) k j) ∧ Gr w wr) (fun _ z _ => n - (intOf z).toNat)
                            case atStart => exact ⟨0, Q', fra', m, Nat.zero_le _, rfl, hL', hqm, hI', HOW5, HM5, HS5, HC5, HGG, hgr5⟩
                            case round =>
                              clear HOW5 HM5 HS5 HC5 HGG hgr5 hL' hqm hI' hmn
                              obtain ⟨j, Q2, fra2, m2, hj, rfl, hL2, hqm2, hI2, hown, hm, hS, hC, hG, hgr⟩ := hrel
                              have hm2n : m2 ≤ n := by rw [← hL2.out]; exact hS.out.len
                              obtain ⟨gq4, cq4, rfl, -⟩ := owns_shape hown.out (by omega)
                              by_cases hjn : j < n
                              · have z1 : wr.cell? ⟨Z, 1, none⟩ = some (.slice (some ⟨gU, 0, none⟩) n cU) := (hm.out.z.cell 1).trans HC1.out
                                have x3 := (HM.out.keep hgr).usedAt hjn
                                have x4 := ((HM.out.keep hgr).row j hjn).at (i := k) (by omega)
                                have c0 := hm.out.f.at hjn
                                have hji : (j : Int) < (n : Int) := by omega
                                have hkk2 : (k : Int) < (mT : Int) := by omega
                                have hkk3 : (k : Int) < (K : Int) + 1 := by omega
                                generalize hfj : fra2 j = fj at c0
                                generalize huj : U j k = uj at x4
                                have HFJ := Lib.hid hfj
                                have HUJ := Lib.hid huj
                                clear hfj huj
                                go_upto_region 33 with fail
                                have hcase : j = job ∨ (j ≠ job ∧ 0 ≤ fj) ∨ (j ≠ job ∧ fj < 0 ∧ uj ≤ 0) ∨ (j ≠ job ∧ fj < 0 ∧ 0 < uj) := by omega
                                rcases hcase with e | ⟨e, e1⟩ | ⟨e, e1, e2⟩ | ⟨e, e1, e2⟩
                                · have HG2 := Lib.hid (hG.out.skip (fun _ => by rw [e]; exact (hS.out.mem job).2 (Or.inl rfl)))
                                  have d1 : ((j : Int) == (job : Int)) = true := beq_iff_eq.2 (by omega)
                                  have d2 : ((j : Int) != (job : Int)) = false := by unfold bne; rw [d1]; rfl
                                  clear e
                                  go_wp2_with fail
                                  go_roundw
                                  case rel => exact ⟨j + 1, Q2, fra2, m2, by omega, by go_num, hL2, hqm2, hI2, hown, hm, hS, hC, HG2, hgr⟩
                                  case measure => simp [intOf]; omega
                                · have HG2 := Lib.hid (hG.out.skip (fun _ => (hS.out.mem j).2 (Or.inr ⟨hjn, by rw [HFJ.out]; exact e1⟩)))
                                  have d1 : ((j : Int) == (job : Int)) = false := beq_eq_false_iff_ne.2 (by omega)
                                  have d2 : ((j : Int) != (job : Int)) = true := by unfold bne; rw [d1]; rfl
                                  have d3 : decide (fj < 0) = false := by simpa using e1
                                  clear e
                                  go_wp2_with fail
                                  go_roundw
                                  case rel => exact ⟨j + 1, Q2, fra2, m2, by omega, by go_num, hL2, hqm2, hI2, hown, hm, hS, hC, HG2, hgr⟩
                                  case measure => simp [intOf]; omega
                                · have HG2 := Lib.hid (hG.out.skip (fun c => by rw [HUJ.out] at c; omega))
                                  have d1 : ((j : Int) == (job : Int)) = false := beq_eq_false_iff_ne.2 (by omega)
                                  have d2 : ((j : Int) != (job : Int)) = true := by unfold bne; rw [d1]; rfl
                                  have d3 : decide (fj < 0) = true := by simpa using e1
                                  have d4 : decide (0 < uj) = false := by simpa using e2
                                  clear e
                                  go_wp2_with fail
                                  go_roundw
                                  case rel => exact ⟨j + 1, Q2, fra2, m2, by omega, by go_num, hL2, hqm2, hI2, hown, hm, hS, hC, HG2, hgr⟩
                                  case measure => simp [intOf]; omega
                                · have HS2 : Hid (Sq U (fun s => T.getD (s + 1) 0 - T.getD s 0) (covG G l) n K job (updV bya' k i) (updV fra2 j k) (Q2 ++ [j])) := Lib.hid (hS.out.take hjn e (by rw [HFJ.out]; exact e1) hkK HB5.out (by rw [HUJ.out]; exact e2))
                                  have HG2 := Lib.hid (hG.out.take)
                                  have HC2' := Lib.hid (hC.out.take (by rw [hL2.out]; omega) j)
                                  have HI2 : Hid ((Q2 ++ [j])[q]? = some i) := Lib.hid (by rw [List.getElem?_append_left (by rw [hL2.out]; exact hqm2)]; exact hI2.out)
                                  have d1 : ((j : Int) == (job : Int)) = false := beq_eq_false_iff_ne.2 (by omega)
                                  have d2 : ((j : Int) != (job : Int)) = true := by unfold bne; rw [d1]; rfl
                                  have d3 : decide (fj < 0) = true := by simpa using e1
                                  have d4 : decide (0 < uj) = true := by simpa using e2
                                  clear e
                                  have fb := hm.out.f.free j
                                  obtain ⟨w7, hw7⟩ : ∃ w7, wr.setCell ⟨gf, j, none⟩ (.int .i64 (k : Int)) = w7 := ⟨_, rfl⟩
                                  have HM7 : Hid (MoM w7 Z cz gb gf mT n (updV bya' k i) (updV fra2 j k)) := Lib.hid (by rw [← hw7]; exact hm.out.putF j k)
                                  have HOW7 : Hid (w7.ownsRow ns 3 1 (.slice (some ⟨gq4, 0, none⟩) m2 cq4) m2 (flatE enc1 (nodesI Q2))) := Lib.hid (by rw [← hw7]; exact owns_put hown.out gf j (by have := hlt2.out.2; have := HNS.out; omega) _)
                                  have hgr7 : Gr w w7 := by rw [← hw7]; exact hgr.setCell (p := ⟨gf, j, none⟩) HGF2.out _
                                  have HSZ7 : Hid (ns ≤ w7.heap.size) := Lib.hid (by have := (HOW7.out.lt gq4 rfl); omega)
                                  go_upto_region 35 with fail
                                  (try rw [hw7])
                                  clear hw7 c0 hm hown hgr z1 x3 x4 d1 d2 d3 d4 e1 e2 hS hC hG hI2 fb
                                  obtain ⟨i0, hi, hz0, hz1, hz2⟩ := info_parts Try.infoBnI
                                  go_wp2_with (at_builtin; refine wpList_append_own _ rfl _ _ 25 rfl ns 3 i0 _ 1 8 Try.underlying25 hi hz0 hz1 hz2 rfl (by decide) _ _ _ rfl (HOW7.out.alloc _) ⟨w7.heap.size, 0, none⟩ 1 1 (enc1 (j : Int)) rfl rfl ?a1 ?a2 ?a3 ?a4 ?a5 ?_)
                                  case a1 =>
                                    intro t x ht
                                    rw [Addr.add_lit]
                                    exact alloc_new rfl (by rw [Nat.zero_add]; simpa [enc1] using ht)
                                  case a2 => exact fun x hx => enc1_one _ x hx
                                  case a3 => unfold maxLen; omega
                                  case a4 => omega
                                  case a5 => have := HSZ7.out; simp; omega
                                  intro v' w8 hown8 hgrow _
                                  have hal : Gr w7 (w7.alloc (.cells #[.int .i64 (j : Int)] 3)) := (Gr.refl _).alloc _
                                  have ho7 := HOW7.out.alloc (.cells #[.int .i64 (j : Int)] 3)
                                  have hlo := (ho7.lt gq4 rfl).1
                                  have HM8 : Hid (MoM w8 Z cz gb gf mT n (updV bya' k i) (updV fra2 j k)) := Lib.hid ((HM7.out.keep hal).grown hgrow (by simp [Value.ownBlock]; have := HZL.out; have := HNS.out; omega) (by simp [Value.ownBlock]; have := hlt2.out.1; have := HNS.out; omega) (by simp [Value.ownBlock]; have := hlt2.out.2; have := HNS.out; omega))
                                  have hg8 : Gr w w8 := Below.grown (hgr7.trans hal) hgrow (hgr7.trans hal).size (fun t ht => by have := (ho7.lt t ht).1; have := hgr7.size; have := HNS.out; have := HGB2.out; have := hlt2.out.1; omega)
                                  have HO8 : Hid (w8.ownsRow ns 3 1 v' (m2 + 1) (flatE enc1 (nodesI (Q2 ++ [j])))) := Lib.hid (by rw [nodesI_snoc]; exact hown8)
                                  clear hown8 hgrow hal ho7 hi hz0 hz1 hz2
                                  go_wp2_with fail
                                  go_roundw
                                  case rel => exact ⟨j + 1, Q2 ++ [j], updV fra2 j k, m2 + 1, by omega, by go_num, Lib.hid (by rw [List.length_append, hL2.out]; rfl), by omega, HI2, HO8, HM8, HS2, HC2', HG2, hg8⟩
                                  case measure => simp [intOf]; omega
                              · obtain rfl : n = j := by omega
                                have HFF := Lib.hid hG.out.all
                                go_wp2_with fail
                                go_roundw
                                case rel => exact ⟨k + 1, Q2, updV bya' k i, fra2, m2, by omega, by go_num, hL2, hqm2, hI2, hown, hm, hS, hC, HI5, HFF, hgr⟩
                                case measure => simp [intOf]; omega
                  · obtain rfl : K = k := by omega
                    have hki : ¬ (K : Int) + 1 < (mT : Int) := by omega
                    have HCC := Lib.hid (hC.out.step hI'.out hI.out)
                    have HOW : Hid (wr.ownsRow ns 3 1 (.slice (some ⟨gq3, 0, none⟩) m cq3) Q'.length (flatE enc1 (nodesI Q'))) := Lib.hid (by rw [hL'.out]; exact hown.out)
                    have HQL : Hid (q + 1 ≤ Q'.length) := Lib.hid (by rw [hL'.out]; omega)
                    go_wp2_with fail
                    go_roundw
                    case rel => exact ⟨q + 1, Q', bya', fra', HQL.out, by go_num, HOW, hm, hS, HCC, hF, hgr⟩
                    case measure => simp [intOf]; omega
              · obtain rfl : q = Q.length := by omega
                have HX := Lib.hid (HF.out.cutS HGK.out HN.out HGL.out hS.out hC.out hF.out (by have := HLF.out; omega))
                clear hown hm hS hC hF
                go_wp2_with fail
                try rw [Exit.noGoto_ret]
                go_ret
                exact Or.inr ⟨rfl, hgr, HX.out⟩

end Go.Proofs.Ytfmojiaaoebodaa
