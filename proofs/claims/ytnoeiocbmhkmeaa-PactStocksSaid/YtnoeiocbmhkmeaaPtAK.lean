/- Layer 5: Start, Crash, Cancel, Up and Outcome, for any net. -/
import Derived.Test.YtnoeiocbmhkmeaaPtAJ
namespace Go.Proofs.Ytnoeiocbmhkmeaa
open Go.RowKit
open Go.Maps (Keyed)
set_option linter.unusedSimpArgs false

set_option maxRecDepth 100000 in
theorem Repeat_bad {B : Nat} {w : World} {N : Nx} (i : Int) (h : NetR B w N) (hr : refL N i ≠ 0) : Calls Try.prog 25 #[.pointer (some ⟨N.p, 0, none⟩), .int .i64 i] w fun e w' => e = .returned (.int .i64 (refL N i)) ∧ w' = w := by
  have HRL := Lib.hid (refLetter_any h i)
  obtain ⟨r, hr'⟩ : ∃ r, refL N i = r := ⟨_, rfl⟩
  rw [hr'] at HRL hr ⊢
  have hb : (r == 0) = false := by simp [hr]
  clear h hr'
  go_enter Try.func25, Try.ntmps25
  go_wp2_with fail
  refine HRL.out.mono ?_
  rintro e w1 ⟨rfl, rfl⟩
  go_wp2_with fail
  go_ret
  exact ⟨rfl, rfl⟩
set_option maxRecDepth 100000 in
theorem Lose_bad {B : Nat} {w : World} {N : Nx} (i : Int) (h : NetR B w N) (hr : refL N i ≠ 0) : Calls Try.prog 26 #[.pointer (some ⟨N.p, 0, none⟩), .int .i64 i] w fun e w' => e = .returned (.int .i64 (refL N i)) ∧ w' = w := by
  have HRL := Lib.hid (refLetter_any h i)
  obtain ⟨r, hr'⟩ : ∃ r, refL N i = r := ⟨_, rfl⟩
  rw [hr'] at HRL hr ⊢
  have hb : (r == 0) = false := by simp [hr]
  clear h hr'
  go_enter Try.func26, Try.ntmps26
  go_wp2_with fail
  refine HRL.out.mono ?_
  rintro e w1 ⟨rfl, rfl⟩
  go_wp2_with fail
  go_ret
  exact ⟨rfl, rfl⟩
set_option maxRecDepth 100000 in
theorem Tick_nil (i : Int) (w : World) : Calls Try.prog 27 #[.pointer none, .int .i64 i] w fun e w' => e = .returned (.int .i64 1) ∧ w' = w := by
  go_enter Try.func27, Try.ntmps27
  go_wp2_with fail
  refine (refDown_nil _ _).mono ?_
  rintro e w1 ⟨rfl, rfl⟩
  go_wp2_with fail
  go_ret
  exact ⟨rfl, rfl⟩
set_option maxRecDepth 100000 in
theorem Tick_bad {B : Nat} {w : World} {N : Nx} (i : Int) (h : NetR B w N) (hr : refD N i ≠ 0) : Calls Try.prog 27 #[.pointer (some ⟨N.p, 0, none⟩), .int .i64 i] w fun e w' => e = .returned (.int .i64 (refD N i)) ∧ w' = w := by
  have HRL := Lib.hid (refDown_any h i)
  obtain ⟨r, hr'⟩ : ∃ r, refD N i = r := ⟨_, rfl⟩
  rw [hr'] at HRL hr ⊢
  have hb : (r == 0) = false := by simp [hr]
  clear h hr'
  go_enter Try.func27, Try.ntmps27
  go_wp2_with fail
  refine HRL.out.mono ?_
  rintro e w1 ⟨rfl, rfl⟩
  go_wp2_with fail
  go_ret
  exact ⟨rfl, rfl⟩
set_option maxRecDepth 100000 in
theorem Crash_nil (i : Int) (w : World) : Calls Try.prog 28 #[.pointer none, .int .i64 i] w fun e w' => e = .returned (.int .i64 1) ∧ w' = w := by
  go_enter Try.func28, Try.ntmps28
  go_wp2_with fail
  refine (refDown_nil _ _).mono ?_
  rintro e w1 ⟨rfl, rfl⟩
  go_wp2_with fail
  go_ret
  exact ⟨rfl, rfl⟩
set_option maxRecDepth 100000 in
theorem Crash_bad {B : Nat} {w : World} {N : Nx} (i : Int) (h : NetR B w N) (hr : refD N i ≠ 0) : Calls Try.prog 28 #[.pointer (some ⟨N.p, 0, none⟩), .int .i64 i] w fun e w' => e = .returned (.int .i64 (refD N i)) ∧ w' = w := by
  have HRL := Lib.hid (refDown_any h i)
  obtain ⟨r, hr'⟩ : ∃ r, refD N i = r := ⟨_, rfl⟩
  rw [hr'] at HRL hr ⊢
  have hb : (r == 0) = false := by simp [hr]
  clear h hr'
  go_enter Try.func28, Try.ntmps28
  go_wp2_with fail
  refine HRL.out.mono ?_
  rintro e w1 ⟨rfl, rfl⟩
  go_wp2_with fail
  go_ret
  exact ⟨rfl, rfl⟩
set_option maxRecDepth 100000 in
theorem Start_nil (i : Int) (w : World) : Calls Try.prog 29 #[.pointer none, .int .i64 i] w fun e w' => e = .returned (.int .i64 1) ∧ w' = w := by
  go_enter Try.func29, Try.ntmps29
  go_wp2_with fail
  refine (refSite_nil _ _).mono ?_
  rintro e w1 ⟨rfl, rfl⟩
  go_wp2_with fail
  go_ret
  exact ⟨rfl, rfl⟩
set_option maxRecDepth 100000 in
theorem Start_bad {B : Nat} {w : World} {N : Nx} (i : Int) (h : NetR B w N) (hr : refS N i ≠ 0) : Calls Try.prog 29 #[.pointer (some ⟨N.p, 0, none⟩), .int .i64 i] w fun e w' => e = .returned (.int .i64 (refS N i)) ∧ w' = w := by
  have HRL := Lib.hid (refSite_any h i)
  obtain ⟨r, hr'⟩ : ∃ r, refS N i = r := ⟨_, rfl⟩
  rw [hr'] at HRL hr ⊢
  have hb : (r == 0) = false := by simp [hr]
  clear h hr'
  go_enter Try.func29, Try.ntmps29
  go_wp2_with fail
  refine HRL.out.mono ?_
  rintro e w1 ⟨rfl, rfl⟩
  go_wp2_with fail
  go_ret
  exact ⟨rfl, rfl⟩
set_option maxRecDepth 100000 in
theorem Cancel_nil (i tx : Int) (w : World) : Calls Try.prog 23 #[.pointer none, .int .i64 i, .int .i64 tx] w fun e w' => e = .returned (.int .i64 1) ∧ w' = w := by
  go_enter Try.func23, Try.ntmps23
  go_wp2_with fail
  refine (refDown_nil _ _).mono ?_
  rintro e w1 ⟨rfl, rfl⟩
  go_wp2_with fail
  go_ret
  exact ⟨rfl, rfl⟩
set_option maxRecDepth 100000 in
theorem Cancel_bad {B : Nat} {w : World} {N : Nx} (i tx : Int) (h : NetR B w N) (hr : refD N i ≠ 0) : Calls Try.prog 23 #[.pointer (some ⟨N.p, 0, none⟩), .int .i64 i, .int .i64 tx] w fun e w' => e = .returned (.int .i64 (refD N i)) ∧ w' = w := by
  have HRL := Lib.hid (refDown_any h i)
  obtain ⟨r, hr'⟩ : ∃ r, refD N i = r := ⟨_, rfl⟩
  rw [hr'] at HRL hr ⊢
  have hb : (r == 0) = false := by simp [hr]
  clear h hr'
  go_enter Try.func23, Try.ntmps23
  go_wp2_with fail
  refine HRL.out.mono ?_
  rintro e w1 ⟨rfl, rfl⟩
  go_wp2_with fail
  go_ret
  exact ⟨rfl, rfl⟩
set_option maxRecDepth 100000 in
theorem Up_nil (i : Int) (w : World) : Calls Try.prog 18 #[.pointer none, .int .i64 i] w fun e w' => e = .returned (.bool false) ∧ w' = w := by
  go_enter Try.func18, Try.ntmps18
  go_wp2_with fail
  refine (refSite_nil _ _).mono ?_
  rintro e w1 ⟨rfl, rfl⟩
  go_wp2_with fail
  go_ret
  exact ⟨rfl, rfl⟩
set_option maxRecDepth 100000 in
theorem Outcome_nil (i tx : Int) (w : World) : Calls Try.prog 20 #[.pointer none, .int .i64 i, .int .i64 tx] w fun e w' => e = .returned (.int .i64 0) ∧ w' = w := by
  go_enter Try.func20, Try.ntmps20
  go_wp2_with fail
  refine (refSite_nil _ _).mono ?_
  rintro e w1 ⟨rfl, rfl⟩
  go_wp2_with fail
  go_ret
  exact ⟨rfl, rfl⟩
set_option maxRecDepth 100000 in
theorem Settled_nil (w : World) : Calls Try.prog 21 #[.pointer none] w fun e w' => e = .returned (.bool false) ∧ w' = w := by
  go_enter Try.func21, Try.ntmps21
  go_wp2_with fail
  refine (usable_nil _).mono ?_
  rintro e w1 ⟨rfl, rfl⟩
  go_wp2_with fail
  go_ret
  exact ⟨rfl, rfl⟩
set_option maxRecDepth 100000 in
theorem Settled_zero {B : Nat} {w : World} {N : Nx} (h : NetR B w N) (h0 : N.sites.length = 0) : Calls Try.prog 21 #[.pointer (some ⟨N.p, 0, none⟩)] w fun e w' => e = .returned (.bool false) ∧ w' = w := by
  have HU := Lib.hid (usable_any h)
  rw [decide_eq_false (show ¬ 0 < N.sites.length by omega)] at HU
  clear h h0
  go_enter Try.func21, Try.ntmps21
  go_wp2_with fail
  refine HU.out.mono ?_
  rintro e w1 ⟨rfl, rfl⟩
  go_wp2_with fail
  go_ret
  exact ⟨rfl, rfl⟩
set_option maxRecDepth 100000 in
theorem Clone_nil (w : World) : Calls Try.prog 22 #[.pointer none] w fun e w' => e = .returned (.pointer none) ∧ w' = w := by
  go_enter Try.func22, Try.ntmps22
  go_wp2_with fail
  refine (usable_nil _).mono ?_
  rintro e w1 ⟨rfl, rfl⟩
  go_wp2_with fail
  go_ret
  exact ⟨rfl, rfl⟩
set_option maxRecDepth 100000 in
theorem Clone_zero {B : Nat} {w : World} {N : Nx} (h : NetR B w N) (h0 : N.sites.length = 0) : Calls Try.prog 22 #[.pointer (some ⟨N.p, 0, none⟩)] w fun e w' => e = .returned (.pointer none) ∧ w' = w := by
  have HU := Lib.hid (usable_any h)
  rw [decide_eq_false (show ¬ 0 < N.sites.length by omega)] at HU
  clear h h0
  go_enter Try.func22, Try.ntmps22
  go_wp2_with fail
  refine HU.out.mono ?_
  rintro e w1 ⟨rfl, rfl⟩
  go_wp2_with fail
  go_ret
  exact ⟨rfl, rfl⟩
def upN (N : Nx) (i : Int) : Bool := if refS N i ≠ 0 then false else (N.sites[i.toNat]?.map (·.up)).getD false
def outN (N : Nx) (i tx : Int) : Int := if refS N i ≠ 0 then 0 else (N.sites[i.toNat]?.map (fun s => outS s tx)).getD 0
set_option maxRecDepth 100000 in
set_option maxHeartbeats 1000000 in
theorem Up_any {B : Nat} {w : World} {N : Nx} (h : NetR B w N) (i : Int) : Calls Try.prog 18 #[.pointer (some ⟨N.p, 0, none⟩), .int .i64 i] w fun e w' => e = .returned (.bool (upN N i)) ∧ w' = w := by
  have HU := Lib.hid (refSite_any h i)
  obtain ⟨r, hr⟩ : ∃ r, upN N i = r := ⟨_, rfl⟩
  rw [hr]
  unfold upN at hr
  rcases refS_cases N i with h1 | h1 | ⟨h1, k, s, rfl, hk, hkn⟩
  · rw [h1] at HU hr
    obtain rfl : false = r := by rw [← hr]; rfl
    clear hr h h1
    go_enter Try.func18, Try.ntmps18
    go_wp2_with fail
    refine HU.out.mono ?_
    rintro e w1 ⟨rfl, rfl⟩
    go_wp2_with fail
    go_ret
    exact ⟨rfl, rfl⟩
  · rw [h1] at HU hr
    obtain rfl : false = r := by rw [← hr]; rfl
    clear hr h h1
    go_enter Try.func18, Try.ntmps18
    go_wp2_with fail
    refine HU.out.mono ?_
    rintro e w1 ⟨rfl, rfl⟩
    go_wp2_with fail
    go_ret
    exact ⟨rfl, rfl⟩
  · rw [h1] at HU hr
    obtain rfl : s.up = r := by rw [← hr, show ((k : Int)).toNat = k from rfl, hk]; rfl
    have n0 := h.blk.cell 0
    obtain ⟨b, off, c, e1, nb⟩ := h.spot5 hk
    simp only [List.getElem?_toArray, List.getElem?_cons_zero] at n0
    rw [e1] at n0
    have hu : w.cell? ⟨s.p, 2, none⟩ = some (.bool s.up) := (h.site (List.mem_of_getElem? hk)).cell 2
    have hki : (k : Int) < (N.sites.length : Int) := by omega
    have hk0 : (0 : Int) ≤ (k : Int) := by omega
    generalize N.sites.length = q at n0 hki hkn
    generalize s.up = u at hu ⊢
    clear hr h h1 hk e1
    go_enter Try.func18, Try.ntmps18
    go_wp2_with fail
    refine HU.out.mono ?_
    rintro e w1 ⟨rfl, rfl⟩
    go_wp2_with fail
    go_ret
    exact ⟨rfl, rfl⟩
set_option maxRecDepth 100000 in
set_option maxHeartbeats 1000000 in
theorem Outcome_any {B : Nat} {w : World} {N : Nx} (h : NetR B w N) (i tx : Int) (htx : I64 tx) : Calls Try.prog 20 #[.pointer (some ⟨N.p, 0, none⟩), .int .i64 i, .int .i64 tx] w fun e w' => e = .returned (.int .i64 (outN N i tx)) ∧ Gr w w' := by
  have HU := Lib.hid (refSite_any h i)
  obtain ⟨r, hr⟩ : ∃ r, outN N i tx = r := ⟨_, rfl⟩
  rw [hr]
  unfold outN at hr
  rcases refS_cases N i with h1 | h1 | ⟨h1, k, s, rfl, hk, hkn⟩
  · rw [h1] at HU hr
    obtain rfl : 0 = r := by rw [← hr]; rfl
    clear hr h h1
    go_enter Try.func20, Try.ntmps20
    go_wp2_with fail
    refine HU.out.mono ?_
    rintro e w1 ⟨rfl, rfl⟩
    go_wp2_with fail
    go_ret
    exact ⟨rfl, Gr.refl _⟩
  · rw [h1] at HU hr
    obtain rfl : 0 = r := by rw [← hr]; rfl
    clear hr h h1
    go_enter Try.func20, Try.ntmps20
    go_wp2_with fail
    refine HU.out.mono ?_
    rintro e w1 ⟨rfl, rfl⟩
    go_wp2_with fail
    go_ret
    exact ⟨rfl, Gr.refl _⟩
  · rw [h1] at HU hr
    obtain rfl : outS s tx = r := by rw [← hr, show ((k : Int)).toNat = k from rfl, hk]; rfl
    have HO := Lib.hid (outcome_any tx w (h.siteIts hk) htx)
    have n0 := h.blk.cell 0
    obtain ⟨b, off, c, e1, nb⟩ := h.spot5 hk
    simp only [List.getElem?_toArray, List.getElem?_cons_zero] at n0
    rw [e1] at n0
    have hki : (k : Int) < (N.sites.length : Int) := by omega
    have hk0 : (0 : Int) ≤ (k : Int) := by omega
    generalize N.sites.length = q at n0 hki hkn
    generalize outS s tx = x at HO ⊢
    clear hr h h1 hk e1
    go_enter Try.func20, Try.ntmps20
    go_wp2_with fail
    refine HU.out.mono ?_
    rintro e w1 ⟨rfl, rfl⟩
    go_wp2_with fail
    refine HO.out.mono ?_
    rintro e w2 ⟨rfl, hg⟩
    clear n0 nb
    go_wp2_with fail
    go_ret
    exact ⟨rfl, hg⟩
/-- A site of a net turns. -/
def atI (N : Nx) (i : Int) (f : Sx → Sx) : Nx := match N.sites[i.toNat]? with
  | some s => { N with sites := N.sites.set i.toNat (f s) }
  | none => N
def staE (N : Nx) (i : Int) : Int := if refS N i ≠ 0 then refS N i else if upN N i then 7 else 0
def staI (N : Nx) (i : Int) : Nx := if staE N i = 0 then atI N i (fun s => { s with up := true }) else N
theorem upN_nz (N : Nx) (i : Int) : upN (nzN N) i = upN N i := by
  unfold upN
  rw [refS_nz]
  show (if refS N i ≠ 0 then false else ((N.sites.map nz)[i.toNat]?.map (·.up)).getD false) = _
  rw [List.getElem?_map, Option.map_map]
  rfl
theorem staE_nz (N : Nx) (i : Int) : staE (nzN N) i = staE N i := by unfold staE; rw [refS_nz, upN_nz]
theorem siteUp {B : Nat} {w : World} {s : Sx} (h : Its B w (siteIt s)) (x : Bool) : Its B (w.setCell ⟨s.p, 2, none⟩ (.bool x)) (siteIt { s with up := x }) := by
  have h2 : Its B w ([] ++ [(s.p, .cells 81 (siteCs s))] ++ ([(s.mp, .proms s.prom), (s.mq, .bools s.kept), (s.mr, .bools s.drop), (s.mo, .deals s.opn), (s.mg, .deals s.grt)] ++ (s.opn.flatMap dlIt ++ s.grt.flatMap dlIt))) := by
    unfold siteIt at h; simpa using h
  have h3 := h2.turn (D' := .cells 81 (siteCs { s with up := x })) ((Gb.refl s.p w).put 2 (.bool x)) (h.sBlk.put 2 _)
  unfold siteIt; exact h3
theorem atI_nz {N : Nx} {k : Nat} {s : Sx} (hk : N.sites[k]? = some s) (f : Sx → Sx) (hf : f (nz s) = nz (f s)) : atI (nzN N) (k : Int) f = nzN { N with sites := N.sites.set k (f s) } := by
  unfold atI
  rw [show ((k : Int)).toNat = k from rfl, nz_site hk]
  dsimp only
  rw [hf]
  exact (nz_set N k (f s) N.mail N.lv N.begun N.p N.sv).symm
set_option maxRecDepth 100000 in
set_option maxHeartbeats 1000000 in
theorem Start_all {B : Nat} {w : World} {N : Nx} (i : Int) (h : NetR B w N) :
    Calls Try.prog 29 #[.pointer (some ⟨N.p, 0, none⟩), .int .i64 i] w (NumP B w N (staE N i) (staI (nzN N) i)) := by
  by_cases hr : refS N i = 0
  · rcases refS_cases N i with h1 | h1 | ⟨h1, k, s, rfl, hk, hkn⟩
    · rw [h1] at hr; cases hr
    · rw [h1] at hr; cases hr
    have HU := Lib.hid (refSite_any h (k : Int))
    rw [hr] at HU
    have n0 := h.blk.cell 0
    obtain ⟨b, off, c, e1, nb⟩ := h.spot5 hk
    simp only [List.getElem?_toArray, List.getElem?_cons_zero] at n0
    rw [e1] at n0
    have hu : w.cell? ⟨s.p, 2, none⟩ = some (.bool s.up) := (h.site (List.mem_of_getElem? hk)).cell 2
    have hf : w.frozen? ⟨s.p, 2, none⟩ = false := (h.site (List.mem_of_getElem? hk)).free 2
    have hup : upN N (k : Int) = s.up := by unfold upN; rw [hr, show ((k : Int)).toNat = k from rfl, hk]; rfl
    have hE : staE N (k : Int) = if s.up then 7 else 0 := by unfold staE; rw [hr, hup]; rfl
    have hki : (k : Int) < (N.sites.length : Int) := by omega
    have hk0 : (0 : Int) ≤ (k : Int) := by omega
    cases hv : s.up with
    | true =>
      rw [hv] at hu hE
      have HI : Hid (staE N (k : Int) = 7 ∧ staI (nzN N) (k : Int) = nzN N) := Lib.hid ⟨hE, by unfold staI; rw [staE_nz, hE]; rfl⟩
      have HH := Lib.hid h
      rw [HI.out.1, HI.out.2]
      generalize N.sites.length = q at n0 hki hkn
      clear h hr h1 hk e1 hf hup hE hv
      go_enter Try.func29, Try.ntmps29
      go_wp2_with fail
      refine HU.out.mono ?_
      rintro e w1 ⟨rfl, rfl⟩
      go_wp2_with fail
      go_ret
      exact ⟨rfl, N, rfl, NetTo.refl HH.out (Gr.refl _)⟩
    | false =>
      rw [hv] at hu hE
      have HI : Hid (staE N (k : Int) = 0 ∧ staI (nzN N) (k : Int) = nzN { N with sites := N.sites.set k { s with up := true } }) := Lib.hid ⟨hE, by unfold staI; rw [staE_nz, hE]; exact atI_nz hk (fun s => { s with up := true }) rfl⟩
      have hIs := siteUp (h.siteIts hk) true
      have hCh : Ch (blks (siteIt s)) w (w.setCell ⟨s.p, 2, none⟩ (.bool true)) := Ch.refl.set (p := ⟨s.p, 2, none⟩) (by simp [siteIt, blks]) _
      have HF := Lib.hid (h.step hk hIs hCh rfl (fun g hg => Or.inl hg))
      rw [HI.out.1, HI.out.2]
      generalize N.sites.length = q at n0 hki hkn
      clear h hr h1 hk e1 hup hE hv hIs hCh
      go_enter Try.func29, Try.ntmps29
      go_wp2_with fail
      refine HU.out.mono ?_
      rintro e w1 ⟨rfl, rfl⟩
      go_wp2_with fail
      go_ret
      exact ⟨rfl, _, rfl, HF.out⟩
  · have hE : staE N i = refS N i := by unfold staE; rw [if_pos hr]
    have hI : staI (nzN N) i = nzN N := by unfold staI; rw [staE_nz, hE, if_neg hr]
    refine (Start_bad i h hr).mono ?_
    rintro e w' ⟨rfl, rfl⟩
    exact ⟨by rw [hE], N, hI.symm, NetTo.refl h (Gr.refl _)⟩

end Go.Proofs.Ytnoeiocbmhkmeaa
