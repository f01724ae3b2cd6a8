/- Layer 5: Cancel and Crash, for any net. -/
import Derived.Test.YtnoeiocbmhkmeaaGreatBu19
import Derived.Test.YtnoeiocbmhkmeaaGreatBu20
import Derived.Shelf.SlIterI.Nil
import Derived.Shelf.SortM.Plain
import Derived.Shelf.SortM.SortNone
import Derived.Test.YtnoeiocbmhkmeaaGreatProg
namespace Go.Proofs.YtnoeiocbmhkmeaaGreat
open Go.RowKit Go.MapKept Go.ChangeMaps
open Go.Maps (Keyed)
set_option linter.unusedSimpArgs false
set_option maxRecDepth 100000
set_option maxHeartbeats 80000000

section
variable {α β : Type} {P : Program} {k : TypeId} {K : α → Value} {V : β → Value} {w : World} {g : Nat} {l : List (α × β)}
theorem Mp.clear (h : Mp P k K V w g l) {t e : TypeId} (ht : P.underlying t = some (.map k e)) (ty : TypeId) :
 ∃ w', (Builtin.clear_ #[t] ty #[.map (some g)]).run P w = .ok (.tuple #[]) w' ∧ Mp P k K V w' g ([] : List (α × β)) ∧ Gb g w w' := by
 obtain ⟨es, clock, hb, hs, hm, hk⟩ := h
 refine ⟨setBlock w g (.map #[] clock), ?_, ⟨_, _, heap_setBlock_same hb _, stamped_empty clock, rfl, fun p hp => (by cases hp)⟩, ⟨rfl, rfl, rfl, by simp [setBlock], fun i _ hi => heap_setBlock_other hb _ (fun e => hi (by rw [e]))⟩⟩
 simp [Builtin.clear_, run_underlying ht, MapKept.run_getObj_map hb, MapKept.run_setObj_map _ hb, Result.andThen, setBlock]
variable {ops : Array Oper} {rest : List Oper} {o : Oper} {a : Act} {Q : Exit → Act → World → Prop}
theorem step_clear (hg : o.guard = none) (m : Operand) (t : TypeId) (hop : o.op = Op.call { callee := Callee.builtin Builtin.clear, args := #[m], argTypes := #[t] }) (h : Mp P k K V w g l) (e : TypeId) (ht : P.underlying t = some (.map k e))
 (hm : a.eval m = .map (some g)) (hC : ∀ w', Mp P k K V w' g ([] : List (α × β)) → Gb g w w' → wpList P ops Q rest (a.put o.dst (.tuple #[])) w') : wpList P ops Q (o :: rest) a w := by
 refine wpList_plain hg fun K' hK' => ?_
 obtain ⟨w', hrun, r1, r2⟩ := h.clear ht o.type
 unfold Oper.wp
 simp [execOp, hop, resolve, invoke, builtin, hm, hrun, Result.andThen]
 exact hK' _ _ (hC w' r1 r2)
end
theorem look_deal1 {w : World} {g : Nat} {l : List (Int × Dl)} {tx : Int} {d : Dl} (h : Mp Tryz.prog 3 intK dlV w g l) (htx : I64 tx) (hm : mget l tx = some d) : (Instr.lookup 82 (.map (some g)) (.int .i64 tx) false).run Tryz.prog w = .ok (.agg #[.slice (some ⟨d.b, 0, none⟩) d.parts.length d.c, .map (some d.g)]) w := by
 obtain ⟨kl, hk⟩ := intp_key htx
 have := h.look intK_inj intp_law Tryz.underlying82 (z := zeroD) (by kernel_rfl) false hk
 rw [hm] at this
 exact this
theorem siteClear {B : Nat} {w w1 : World} {s : Sx} (h : Its B w (siteIt s)) (hb : Gb s.mo w w1) (hm : Mp Tryz.prog 3 intK dlV w1 s.mo []) : Its B w1 (siteIt { s with opn := [] }) := by
 have h2 : Its B w ([(s.p, Ds.cells 84 (siteCs s)), (s.mp, .proms s.prom), (s.mq, .bools s.kept), (s.mr, .bools s.drop)] ++ [(s.mo, Ds.deals s.opn)] ++ ([(s.mg, .deals s.grt)] ++ (s.opn.flatMap dlIt ++ s.grt.flatMap dlIt))) := by
  unfold siteIt at h; simpa using h
 have h3 := h2.turn (D' := .deals []) hb hm
 have h4 : Its B w1 (([(s.p, Ds.cells 84 (siteCs s)), (s.mp, .proms s.prom), (s.mq, .bools s.kept), (s.mr, .bools s.drop), (s.mo, .deals []), (s.mg, .deals s.grt)]) ++ s.opn.flatMap dlIt ++ s.grt.flatMap dlIt) := by simpa using h3
 have h5 := h4.less
 have hcs : siteCs { s with opn := [] } = siteCs s := rfl
 unfold siteIt
 simpa [hcs] using h5

theorem crash_any {B : Nat} {s : Sx} (w : World) (h : Its B w (siteIt s)) :
 Calls Tryz.prog 54 #[.pointer (some ⟨s.p, 0, none⟩)] w fun e w' => e = .returned (.tuple #[]) ∧ Its B w' (siteIt { s with up := false, opn := [] }) ∧ Ch (blks (siteIt s)) w w' := by
 have c2 := h.sCells.2.2.1
 have f2 : w.frozen? ⟨s.p, 2, none⟩ = false := h.sBlk.free 2
 have h1 := siteUp h false
 have HC1 : Hid (Ch (blks (siteIt s)) w (w.setCell ⟨s.p, 2, none⟩ (.bool false))) := Lib.hid (Ch.refl.set (p := ⟨s.p, 2, none⟩) (by simp [siteIt, blks]) _)
 have HH := Lib.hid h1
 clear h h1
 go_enter Tryz.func54, Tryz.ntmps54
 go_upto_region 1 with fail
 generalize World.setCell _ _ _ = w1 at HC1 HH ⊢
 have c6 : w1.cell? ⟨s.p, 6, none⟩ = some (.map (some s.mo)) := HH.out.sCells.2.2.2.2.2.2.1
 have HM : Hid (Mp Tryz.prog 3 intK dlV w1 s.mo s.opn) := Lib.hid HH.out.sOpn
 clear c2 f2
 go_wp2_with (first | (refine step_clear rfl _ _ rfl HM.out _ Tryz.underlying82 rfl ?_; intro w5 hm5 hb5; have HM5 := Lib.hid hm5; have HB5 := Lib.hid hb5; clear hm5 hb5) | fail)
 have HF := Lib.hid (siteClear HH.out HB5.out HM5.out)
 exact end0p (by rfl) (by rfl) ⟨rfl, HF.out, HC1.out.trans (Ch.gb (S := blks (siteIt s)) HB5.out (blk_mo s)) (fun g hg => Or.inl hg)⟩

theorem cancel5_any {B : Nat} {s : Sx} (tx : Int) (w : World) (h : Its B w (siteIt s)) (htx : I64 tx) {d : Dl} (hm : mget s.opn tx = some d) (hl : d.parts.length ≤ 512) :
 Calls Tryz.prog 49 #[.pointer (some ⟨s.p, 0, none⟩), .int .i64 tx] w (StepP B w s { s with opn := mdel s.opn tx } (wrL s 5 tx d.parts)) := by
 obtain ⟨kl, hkl⟩ := intp_key htx
 obtain ⟨l1, l2, hs, hdel⟩ := mget_split h.sOpn.apart hm
 rw [hdel]
 have hdel2 : mdel (l1 ++ (tx, d) :: l2) tx = l1 ++ l2 := by rw [← hs]; exact hdel
 have hlk := look_deal1 h.sOpn htx hm
 have c6 := h.sCells.2.2.2.2.2.2.1
 have HH := Lib.hid h
 have HMG := Lib.hid (And.intro hs hdel2)
 have HMM := Lib.hid h.sOpn
 have HP : Hid (Holds5 w d.b (.moves d.parts)) := Lib.hid (h.at (D := .moves d.parts) (by unfold siteIt; rw [hs]; simp [dlIt]))
 have HNE := Lib.hid (opn_ne h hs)
 have HLT : Hid (s.p < w.heap.size ∧ s.p ≠ s.mo) := Lib.hid ⟨(h.lt (g := s.p) (by simp [siteIt, blks])).1, h.ne (i := 0) (j := 4) (by omega) rfl rfl⟩
 obtain ⟨dn, hdn⟩ : ∃ dn, d.parts.length = dn := ⟨_, rfl⟩
 rw [hdn] at hlk hl
 have HDN := Lib.hid hdn
 clear h hm hs hdel hdel2 hdn htx
 have hfd : ∀ W : World, (Instr.field 90 (.agg #[.slice (some ⟨d.b, 0, none⟩) dn d.c, .map (some d.g)]) 0).run Tryz.prog W = .ok (.slice (some ⟨d.b, 0, none⟩) dn d.c) W := fun _ => by kernel_rfl
 go_enter Tryz.func49, Tryz.ntmps49
 go_wp2_with (first | (refine step_drop rfl _ _ _ rfl HMM.out intK_inj intp_law _ Tryz.underlying82 tx kl hkl rfl rfl ?_; intro w5 hm5 hb5; have HM5 := Lib.hid hm5; have HB5 := Lib.hid hb5; clear hm5 hb5) | fail)
 have HM7 : Hid (Mp Tryz.prog 3 intK dlV w5 s.mo (l1 ++ l2)) := Lib.hid (by have h1 := HM5.out; rw [HMG.out.1, HMG.out.2] at h1; exact h1)
 have HI5 := Lib.hid (siteUnopen HH.out HMG.out.1 HB5.out HM7.out)
 have HC5 : Hid (Ch (blks (siteIt s)) w w5) := Lib.hid (Ch.gb (S := blks (siteIt s)) HB5.out (blk_mo s))
 have HP5 : Hid (Holds5 w5 d.b (.moves d.parts)) := Lib.hid (HP.out.block (World.grownBy.block HB5.out d.b HP.out.lt (fun e => HNE.out.1 (by injection e))))
 have hpt : Pts w5 (some ⟨d.b, 0, none⟩) d.parts := (show d.b < w5.heap.size ∧ Pts w5 (some ⟨d.b, 0, none⟩) d.parts from HP5.out).2
 have HPT := Lib.hid hpt
 clear hpt hlk c6
 refine (write5_any 5 tx (some ⟨d.b, 0, none⟩) dn d.c d.parts w5 HI5.out HDN.out hl HPT.out).mono ?_
 intro e w8 hlet
 have HLT8 := Lib.hid hlet
 obtain ⟨A8, c8, rfl, hr8, hg8, hc8⟩ := hlet
 clear hr8
 go_wp2_with fail
 go_ret
 exact StepP.of HI5.out HC5.out rfl (fun g hg => Or.inl (opn_less HMG.out.1 g hg)) HLT8.out
theorem Cancel_all {B : Nat} {w : World} {N : Nx} (i tx : Int) (h : NetR B w N) (ho : OkN (nzN N)) (htx : I64 tx) :
 Calls Tryz.prog 19 #[.pointer (some ⟨N.p, 0, none⟩), .int .i64 i, .int .i64 tx] w (NumP B w N (canE N i tx) (canI (nzN N) i tx)) := by
 by_cases hr : refD N i = 0
 ·obtain ⟨k, s, rfl, hk, hkn, -⟩ := refD_zero hr
  have HRL := Lib.hid (refDown_any h (k : Int))
  rw [hr] at HRL
  have hE : canE N (k : Int) tx = if (mget s.opn tx).isSome then 0 else 6 := by unfold canE; rw [hr, show ((k : Int)).toNat = k from rfl, hk]; rfl
  have n0 := h.blk.cell 0
  obtain ⟨b, off, c, e1, nb⟩ := h.spot5 hk
  simp only [List.getElem?_toArray, List.getElem?_cons_zero] at n0
  rw [e1] at n0
  have hIs := h.siteIts hk
  have c6 := hIs.sCells.2.2.2.2.2.2.1
  have hki : (k : Int) < (N.sites.length : Int) := by omega
  have hk0 : (0 : Int) ≤ (k : Int) := by omega
  cases hm : mget s.opn tx with
  | none =>
    have hlk := look_deal2 hIs.sOpn htx
    rw [hm] at hlk hE
    dsimp only [lookD, Option.isSome_none] at hlk
    have HI : Hid (canE N (k : Int) tx = 6 ∧ canI (nzN N) (k : Int) tx = nzN N) := Lib.hid ⟨hE, by unfold canI; rw [canE_nz, hE]; rfl⟩
    have HH := Lib.hid h
    rw [HI.out.1, HI.out.2]
    generalize N.sites.length = q at n0 hki hkn
    clear h ho hr hk e1 hE hIs hm
    go_enter Tryz.func19, Tryz.ntmps19
    go_wp2_with fail
    refine HRL.out.mono ?_
    rintro e w1 ⟨rfl, rfl⟩
    go_upto_region 6 with fail
    generalize hW : World.alloc w1 _ = w2
    have hg2 : Gr w1 w2 := by rw [← hW]; exact (Gr.refl w1).alloc _
    clear hW
    go_wp2_with fail
    go_ret
    exact ⟨rfl, N, rfl, NetTo.refl HH.out hg2⟩
  | some d =>
    have hlk := look_deal2 hIs.sOpn htx
    rw [hm] at hlk hE
    dsimp only [lookD, Option.isSome_some] at hlk
    have hd := opn_of (ho.site k _ (nz_site hk)).1 hm
    have HI : Hid (canE N (k : Int) tx = 0 ∧ canI (nzN N) (k : Int) tx = nzN { N with sites := N.sites.set k { s with opn := mdel s.opn tx }, mail := N.mail ++ (wrL s 5 tx d.parts).take (1024 - N.mail.length) }) := Lib.hid ⟨hE, by
     have hx : ({ nz s with opn := mdel (dzs s.opn) tx } : Sx) = nz { s with opn := mdel s.opn tx } := by rw [mdel_dz]; rfl
     unfold canI
     rw [canE_nz, hE, if_pos (show (if (some d).isSome then (0 : Int) else 6) = 0 from rfl), show ((k : Int)).toNat = k from rfl, nz_site hk]
     dsimp only
     show (match mget (dzs s.opn) tx with | some d => _ | none => _) = _
     rw [mget_dz, hm]
     dsimp only [Option.map_some]
     refine Eq.trans ?_ (nz_set N k { s with opn := mdel s.opn tx } _ N.lv N.begun N.p N.sv).symm
     rw [← hx]
     rfl⟩
    have HCC := Lib.hid (fun W (hW : Gr w W) => cancel5_any tx W ((h.keep hW).siteIts hk) htx hm (by have := hd.hi; omega))
    have HH := Lib.hid h
    have HK := Lib.hid hk
    have HRM := Lib.hid ho.room
    have HFW : Hid ((wrL s 5 tx d.parts).length ≤ 1024) := Lib.hid (by unfold wrL; rw [List.length_map]; have := hd.hi; omega)
    rw [HI.out.1, HI.out.2]
    generalize d.parts.length = dn at hlk
    generalize N.sites.length = q at n0 hki hkn
    clear h ho hr hk e1 hE hIs hm hd
    go_enter Tryz.func19, Tryz.ntmps19
    go_wp2_with fail
    refine HRL.out.mono ?_
    rintro e w1 ⟨rfl, rfl⟩
    go_upto_region 6 with fail
    generalize hW : World.alloc w1 _ = w2
    have hg2 : Gr w1 w2 := by rw [← hW]; exact (Gr.refl w1).alloc _
    clear hW hlk
    go_wp2_with fail
    refine (HCC.out _ hg2).mono ?_
    rintro e w3 hst
    obtain ⟨⟨A3, c3, rfl, hr3, hc3⟩, hi3, hch3, hp3, hbk3⟩ := hst
    have HN3 := Lib.hid ((HH.out.keep hg2).step HK.out hi3 hch3 hp3 hbk3)
    have HS := Lib.hid (send5_any A3 _ c3 (wrL s 5 tx d.parts) w3 HN3.out.net rfl HFW.out hc3 HRM.out hr3)
    clear hi3 hch3 hp3 hbk3 hr3 hc3 n0 nb c6
    go_wp2_with fail
    refine HS.out.mono ?_
    rintro e w4 ⟨rfl, lv', hto⟩
    have HF := Lib.hid ((NetTo.pre HN3.out hg2).trans hto)
    clear hto
    go_wp2_with fail
    go_ret
    refine ⟨rfl, _, ?_, HF.out⟩
    rfl
 ·have hE : canE N i tx = refD N i := by unfold canE; rw [if_pos hr]
  have hI : canI (nzN N) i tx = nzN N := by unfold canI; rw [canE_nz, hE, if_neg hr]
  refine (Cancel_bad i tx h hr).mono ?_
  rintro e w' ⟨rfl, rfl⟩
  exact ⟨by rw [hE], N, hI.symm, NetTo.refl h (Gr.refl _)⟩
theorem Crash_all {B : Nat} {w : World} {N : Nx} (i : Int) (h : NetR B w N) :
 Calls Tryz.prog 24 #[.pointer (some ⟨N.p, 0, none⟩), .int .i64 i] w (NumP B w N (refD N i) (craI (nzN N) i)) := by
 by_cases hr : refD N i = 0
 ·obtain ⟨k, s, rfl, hk, hkn, -⟩ := refD_zero hr
  have HRL := Lib.hid (refDown_any h (k : Int))
  rw [hr] at HRL ⊢
  have n0 := h.blk.cell 0
  obtain ⟨b, off, c, e1, nb⟩ := h.spot5 hk
  simp only [List.getElem?_toArray, List.getElem?_cons_zero] at n0
  rw [e1] at n0
  have hki : (k : Int) < (N.sites.length : Int) := by omega
  have hk0 : (0 : Int) ≤ (k : Int) := by omega
  have HI : Hid (craI (nzN N) (k : Int) = nzN { N with sites := N.sites.set k { s with up := false, opn := [] } }) := Lib.hid (by unfold craI; rw [refD_nz, if_pos hr]; exact atI_nz hk (fun s => { s with up := false, opn := [] }) rfl)
  have HCC := Lib.hid (crash_any w (h.siteIts hk))
  have HH := Lib.hid h
  have HK := Lib.hid hk
  rw [HI.out]
  generalize N.sites.length = q at n0 hki hkn
  clear h hr hk e1
  go_enter Tryz.func24, Tryz.ntmps24
  go_wp2_with fail
  refine HRL.out.mono ?_
  rintro e w1 ⟨rfl, rfl⟩
  go_wp2_with fail
  refine HCC.out.mono ?_
  rintro e w2 ⟨rfl, hi2, hch2⟩
  have HF := Lib.hid (HH.out.step HK.out hi2 hch2 rfl (fun g hg => Or.inl (by
   simp only [siteIt, blks, List.map_append, List.mem_append, List.flatMap_nil, List.map_nil, List.not_mem_nil, false_or] at hg ⊢
   rcases hg with hg | hg
   ·exact Or.inl hg
   ·exact Or.inr (Or.inr hg))))
  clear hi2 hch2 n0 nb
  go_wp2_with fail
  go_ret
  exact ⟨rfl, _, rfl, HF.out⟩
 ·have hI : craI (nzN N) i = nzN N := by unfold craI; rw [refD_nz, if_neg hr]
  refine (Crash_bad i h hr).mono ?_
  rintro e w' ⟨rfl, rfl⟩
  exact ⟨rfl, N, hI.symm, NetTo.refl h (Gr.refl _)⟩

end Go.Proofs.YtnoeiocbmhkmeaaGreat

namespace Go.Proofs.YtnoeiocbmhkmeaaGreat
open Go.Shelf
set_option linter.unusedSimpArgs false
set_option maxRecDepth 100000
set_option maxHeartbeats 80000000
def Try.keysD_ren : Go.Shelf.Ren := ⟨fun | 7 => 90 | 10 => 99 | n => n, fun | 23 => 82 | 26 => 3 | 3 => 90 | 28 => 130 | 0 => 0 | 27 => 129 | 33 => 50 | 4 => 4 | n => n, fun | n => n⟩
theorem Try.keysD : SlLaysZI.n7 Tryz.prog Try.keysD_ren := {
 mixed := by kernel_rfl
 f7 := ⟨Tryz.f90.name, by decide, Tryz.func90.trans (congrArg some (by kernel_rfl))⟩
 f10 := ⟨Tryz.f99.name, by decide, Tryz.func99.trans (congrArg some (by kernel_rfl))⟩
 t0 := Tryz.underlying0
 a0 := Tryz.isAgg0
 z0 := Tryz.sizeOf0
 v0 := Tryz.zeroValue0
 t4 := Tryz.underlying4
 a4 := Tryz.isAgg4
 z4 := Tryz.sizeOf4
 v4 := Tryz.zeroValue4
 t23 := Tryz.underlying82
 a23 := Tryz.isAgg82
 z23 := Tryz.sizeOf82
 v23 := Tryz.zeroValue82
 t26 := Tryz.underlying3
 a26 := Tryz.isAgg3
 z26 := Tryz.sizeOf3
 v26 := Tryz.zeroValue3
 t27 := Tryz.underlying129
 a27 := Tryz.isAgg129
 z27 := Tryz.sizeOf129
 v27 := Tryz.zeroValue129
 t28 := Tryz.underlying130
 a28 := Tryz.isAgg130
 z28 := Tryz.sizeOf130
 v28 := Tryz.zeroValue130
 t33 := Tryz.underlying50
 a33 := Tryz.isAgg50
 z33 := Tryz.sizeOf50
 v33 := Tryz.zeroValue50 }
def Try.keysP_ren : Go.Shelf.Ren := ⟨fun | 7 => 91 | 10 => 100 | n => n, fun | 23 => 80 | 26 => 3 | 3 => 112 | 28 => 130 | 0 => 0 | 27 => 129 | 33 => 50 | 4 => 4 | n => n, fun | n => n⟩
theorem Try.keysP : SlLaysZI.n7 Tryz.prog Try.keysP_ren := {
 mixed := by kernel_rfl
 f7 := ⟨Tryz.f91.name, by decide, Tryz.func91.trans (congrArg some (by kernel_rfl))⟩
 f10 := ⟨Tryz.f100.name, by decide, Tryz.func100.trans (congrArg some (by kernel_rfl))⟩
 t0 := Tryz.underlying0
 a0 := Tryz.isAgg0
 z0 := Tryz.sizeOf0
 v0 := Tryz.zeroValue0
 t4 := Tryz.underlying4
 a4 := Tryz.isAgg4
 z4 := Tryz.sizeOf4
 v4 := Tryz.zeroValue4
 t23 := Tryz.underlying80
 a23 := Tryz.isAgg80
 z23 := Tryz.sizeOf80
 v23 := Tryz.zeroValue80
 t26 := Tryz.underlying3
 a26 := Tryz.isAgg3
 z26 := Tryz.sizeOf3
 v26 := Tryz.zeroValue3
 t27 := Tryz.underlying129
 a27 := Tryz.isAgg129
 z27 := Tryz.sizeOf129
 v27 := Tryz.zeroValue129
 t28 := Tryz.underlying130
 a28 := Tryz.isAgg130
 z28 := Tryz.sizeOf130
 v28 := Tryz.zeroValue130
 t33 := Tryz.underlying50
 a33 := Tryz.isAgg50
 z33 := Tryz.sizeOf50
 v33 := Tryz.zeroValue50 }
def Try.sortedT_ren : Go.Shelf.Ren := ⟨fun | 6 => 89 | 8 => 97 | 9 => 98 | 11 => 101 | 13 => 103 | 12 => 102 | 23 => 113 | 24 => 114 | 14 => 104 | 15 => 105 | 16 => 106 | 17 => 107 | 18 => 108 | 19 => 109 | 20 => 110 | 21 => 111 | 22 => 112 | 25 => 115 | 26 => 116 | 27 => 117 | 28 => 118 | 29 => 119 | 30 => 120 | 31 => 121 | n => n, fun | 26 => 3 | 28 => 130 | 24 => 22 | 0 => 0 | 3 => 3 | 37 => 65 | 48 => 151 | 50 => 153 | 4 => 4 | 40 => 143 | 39 => 142 | 45 => 148 | 5 => 5 | 9 => 9 | 51 => 154 | 55 => 158 | 57 => 160 | 58 => 161 | 33 => 50 | n => n, fun | n => n⟩
theorem Try.sortedT : SlLaysZI.n6 Tryz.prog Try.sortedT_ren := {
 mixed := by kernel_rfl
 f6 := ⟨Tryz.f89.name, by decide, Tryz.func89.trans (congrArg some (by kernel_rfl))⟩
 f8 := ⟨Tryz.f97.name, by decide, Tryz.func97.trans (congrArg some (by kernel_rfl))⟩
 f11 := ⟨Tryz.f101.name, by decide, Tryz.func101.trans (congrArg some (by kernel_rfl))⟩
 t0 := Tryz.underlying0
 a0 := Tryz.isAgg0
 z0 := Tryz.sizeOf0
 v0 := Tryz.zeroValue0
 t24 := Tryz.underlying22
 a24 := Tryz.isAgg22
 z24 := Tryz.sizeOf22
 v24 := Tryz.zeroValue22
 t26 := Tryz.underlying3
 a26 := Tryz.isAgg3
 z26 := Tryz.sizeOf3
 v26 := Tryz.zeroValue3
 t28 := Tryz.underlying130
 a28 := Tryz.isAgg130
 z28 := Tryz.sizeOf130
 v28 := Tryz.zeroValue130
 i26 := by kernel_rfl }
def Try.sortT_ren : Go.Shelf.Ren := ⟨fun | 5 => 98 | 8 => 103 | 7 => 102 | 19 => 113 | 20 => 114 | 10 => 104 | 11 => 105 | 12 => 106 | 13 => 107 | 14 => 108 | 15 => 109 | 16 => 110 | 17 => 111 | 18 => 112 | 30 => 115 | 31 => 116 | 32 => 117 | 33 => 118 | 34 => 119 | 35 => 120 | 40 => 121 | n => n, fun | 23 => 22 | 25 => 3 | 3 => 3 | 32 => 65 | 22 => 22 | 0 => 0 | 44 => 151 | 46 => 153 | 4 => 4 | 36 => 143 | 35 => 142 | 41 => 148 | 5 => 5 | 9 => 9 | 53 => 154 | 57 => 158 | 63 => 160 | 64 => 161 | n => n, fun | n => n⟩
theorem Try.sortT : SlLaysM.n5 Tryz.prog Try.sortT_ren := {
 mixed := by kernel_rfl
 f5 := ⟨Tryz.f98.name, by decide, Tryz.func98.trans (congrArg some (by kernel_rfl))⟩
 f7 := ⟨Tryz.f102.name, by decide, Tryz.func102.trans (congrArg some (by kernel_rfl))⟩
 f8 := Tryz.func103.trans (congrArg some (by kernel_rfl))
 f10 := ⟨Tryz.f104.name, by decide, Tryz.func104.trans (congrArg some (by kernel_rfl))⟩
 f11 := ⟨Tryz.f105.name, by decide, Tryz.func105.trans (congrArg some (by kernel_rfl))⟩
 f12 := ⟨Tryz.f106.name, by decide, Tryz.func106.trans (congrArg some (by kernel_rfl))⟩
 f13 := ⟨Tryz.f107.name, by decide, Tryz.func107.trans (congrArg some (by kernel_rfl))⟩
 f14 := ⟨Tryz.f108.name, by decide, Tryz.func108.trans (congrArg some (by kernel_rfl))⟩
 f15 := ⟨Tryz.f109.name, by decide, Tryz.func109.trans (congrArg some (by kernel_rfl))⟩
 f16 := ⟨Tryz.f110.name, by decide, Tryz.func110.trans (congrArg some (by kernel_rfl))⟩
 f17 := ⟨Tryz.f111.name, by decide, Tryz.func111.trans (congrArg some (by kernel_rfl))⟩
 f18 := ⟨Tryz.f112.name, by decide, Tryz.func112.trans (congrArg some (by kernel_rfl))⟩
 f19 := Tryz.func113.trans (congrArg some (by kernel_rfl))
 f20 := Tryz.func114.trans (congrArg some (by kernel_rfl))
 f30 := ⟨Tryz.f115.name, by decide, Tryz.func115.trans (congrArg some (by kernel_rfl))⟩
 f31 := Tryz.func116.trans (congrArg some (by kernel_rfl))
 f32 := Tryz.func117.trans (congrArg some (by kernel_rfl))
 f33 := ⟨Tryz.f118.name, by decide, Tryz.func118.trans (congrArg some (by kernel_rfl))⟩
 f34 := ⟨Tryz.f119.name, by decide, Tryz.func119.trans (congrArg some (by kernel_rfl))⟩
 f35 := ⟨Tryz.f120.name, by decide, Tryz.func120.trans (congrArg some (by kernel_rfl))⟩
 f40 := ⟨Tryz.f121.name, by decide, Tryz.func121.trans (congrArg some (by kernel_rfl))⟩
 t0 := Tryz.underlying0
 a0 := Tryz.isAgg0
 z0 := Tryz.sizeOf0
 v0 := Tryz.zeroValue0
 t3 := Tryz.underlying3
 a3 := Tryz.isAgg3
 z3 := Tryz.sizeOf3
 v3 := Tryz.zeroValue3
 t4 := Tryz.underlying4
 a4 := Tryz.isAgg4
 z4 := Tryz.sizeOf4
 v4 := Tryz.zeroValue4
 t5 := Tryz.underlying5
 a5 := Tryz.isAgg5
 z5 := Tryz.sizeOf5
 v5 := Tryz.zeroValue5
 t9 := Tryz.underlying9
 a9 := Tryz.isAgg9
 z9 := Tryz.sizeOf9
 v9 := Tryz.zeroValue9
 t22 := Tryz.underlying22
 a22 := Tryz.isAgg22
 z22 := Tryz.sizeOf22
 v22 := Tryz.zeroValue22
 t23 := Tryz.underlying22
 a23 := Tryz.isAgg22
 z23 := Tryz.sizeOf22
 v23 := Tryz.zeroValue22
 t25 := Tryz.underlying3
 a25 := Tryz.isAgg3
 z25 := Tryz.sizeOf3
 v25 := Tryz.zeroValue3
 t32 := Tryz.underlying65
 a32 := Tryz.isAgg65
 z32 := Tryz.sizeOf65
 v32 := Tryz.zeroValue65
 t35 := Tryz.underlying142
 a35 := Tryz.isAgg142
 z35 := Tryz.sizeOf142
 v35 := Tryz.zeroValue142
 t36 := Tryz.underlying143
 a36 := Tryz.isAgg143
 z36 := Tryz.sizeOf143
 v36 := Tryz.zeroValue143
 t41 := Tryz.underlying148
 a41 := Tryz.isAgg148
 z41 := Tryz.sizeOf148
 v41 := Tryz.zeroValue148
 t44 := Tryz.underlying151
 a44 := Tryz.isAgg151
 z44 := Tryz.sizeOf151
 v44 := Tryz.zeroValue151
 t46 := Tryz.underlying153
 a46 := Tryz.isAgg153
 z46 := Tryz.sizeOf153
 v46 := Tryz.zeroValue153
 t53 := Tryz.underlying154
 a53 := Tryz.isAgg154
 z53 := Tryz.sizeOf154
 v53 := Tryz.zeroValue154
 t57 := Tryz.underlying158
 a57 := Tryz.isAgg158
 z57 := Tryz.sizeOf158
 v57 := Tryz.zeroValue158
 t63 := Tryz.underlying160
 a63 := Tryz.isAgg160
 z63 := Tryz.sizeOf160
 v63 := Tryz.zeroValue160
 t64 := Tryz.underlying161
 a64 := Tryz.isAgg161
 z64 := Tryz.sizeOf161
 v64 := Tryz.zeroValue161 }
end Go.Proofs.YtnoeiocbmhkmeaaGreat
