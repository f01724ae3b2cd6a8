/- Layer 5: Deliver, Repeat and Lose, for any net in order. -/
import Derived.Test.YtnoeiocbmhkmeaaGreatBu17
import Derived.Test.YtnoeiocbmhkmeaaGreatBu2
namespace Go.Proofs.YtnoeiocbmhkmeaaGreat
open Go.RowKit
set_option linter.unusedSimpArgs false
set_option maxRecDepth 100000
set_option maxHeartbeats 80000000

theorem NetTo.refl {B : Nat} {w w' : World} {N : Nx} (h : NetR B w N) (hg : Gr w w') : NetTo B w N N w' := ⟨h.keep hg, Ch.of hg, fun _ hm => Or.inl hm, rfl, rfl⟩
theorem netHandle_down {B : Nat} {w : World} {N : Nx} {k : Nat} {s : Sx} (m : Ml) (h : NetR B w N) (hk : N.sites[k]? = some s) (hto : m.2.1 = (k : Int)) (hup : s.up = false) :
 Calls Tryz.prog 52 #[.pointer (some ⟨N.p, 0, none⟩), .agg #[.int .i64 m.1, .int .i64 m.2.1, .int .i64 m.2.2.1, .int .i64 m.2.2.2.1, .int .i64 m.2.2.2.2]] w
  (fun e w' => e = .returned (.tuple #[]) ∧ Gr w w') := by
 obtain ⟨f, t, kd, tx, n⟩ := m
 dsimp only at hto ⊢
 subst hto
 have hkn : k < N.sites.length := (List.getElem?_eq_some_iff.1 hk).1
 have hki : (k : Int) < (N.sites.length : Int) := by omega
 have hk0 : (0 : Int) ≤ (k : Int) := by omega
 have n0 := h.blk.cell 0
 obtain ⟨b, off, c, e1, nb⟩ := h.spot5 hk
 simp only [List.getElem?_toArray, List.getElem?_cons_zero] at n0
 rw [e1] at n0
 have hu : w.cell? ⟨s.p, 2, none⟩ = some (.bool false) := by rw [← hup]; exact (h.site (List.mem_of_getElem? hk)).cell 2
 generalize N.sites.length = q at n0 hki hkn
 clear h hk e1 hup
 go_enter Tryz.func52, Tryz.ntmps52
 go_upto_region 1 with fail
 generalize hW1 : World.alloc w _ = w1
 have hg1 : Gr w w1 := by rw [← hW1]; exact (Gr.refl w).alloc _
 have hbk : Blk w1 w.heap.size 59 #[.int .i64 f, .int .i64 (k : Int), .int .i64 kd, .int .i64 tx, .int .i64 n] := by rw [← hW1]; exact Blk.new w _ _ rfl
 generalize w.heap.size = U at hbk ⊢
 have u1 : w1.cell? ⟨U, 1, none⟩ = some (.int .i64 (k : Int)) := hbk.cell 1
 replace n0 := hg1.keep n0
 replace nb := hg1.keep nb
 replace hu := hg1.keep hu
 clear hW1 hbk
 refine wp_region_held_drew (S := (fun W' => W'.cell? ⟨N.p, 0, none⟩ = some (.slice (some ⟨b, off, none⟩) q c) ∧ W'.cell? ⟨U, 1, none⟩ = some (.int .i64 (k : Int)) ∧ W'.cell? ⟨b, off + k, none⟩ = some (.pointer (some ⟨s.p, 0, none⟩)))) ?_ ?_ (fun hHeld => ?_)
 ·kernel_rfl
 ·((try dsimp only); (try go_split_ands); (repeat' apply And.intro) <;> repeat first | assumption | exact Gr.refl _ | refine Gr.drew ?_ | refine Gr.alloc ?_ _ | refine alloc_old ?_ | refine Gr.keep (by assumption) ?_ | refine Gr.trans ?_ (by assumption))
 refine ti 0 (some 5) rfl rfl ?_; try simp only [Act.put, lA, lB, lC]
 refine ti 1 (some 6) rfl rfl ?_; try simp only [Act.put, lA, lB, lC]
 refine ti 2 (some 7) rfl rfl ?_; try simp only [Act.put, lA, lB, lC]
 refine ti 3 (some 8) rfl rfl ?_; try simp only [Act.put, lA, lB, lC]
 refine ti 4 (some 9) rfl rfl ?_; try simp only [Act.put, lA, lB, lC]
 refine ti 5 (some 10) rfl rfl ?_; try simp only [Act.put, lA, lB, lC]
 refine ti 6 (some 11) rfl rfl ?_; try simp only [Act.put, lA, lB, lC]
 refine ti 7 (some 12) rfl rfl ?_; try simp only [Act.put, lA, lB, lC]
 refine ti 8 (some 4) rfl rfl ?_; try simp only [Act.put, lA, lB, lC]
 refine wpAnyH_done ?_ ?_ _
 ·kernel_rfl
 rotate_left
 all_goals
  have hd := (Gr.refl w1).drew
  have hgr := hg1.trans hd
  have u2 := hd.keep hu
  clear hHeld n0 nb hu u1 hd hg1
  go_wp2_with fail
  exact end0p (by rfl) (by rfl) ⟨rfl, hgr⟩
theorem netHandle_all {B : Nat} {w : World} {N : Nx} (m : Ml) (h : NetR B w N) (ho : OkN (nzN N)) (hm : OkM N.sites.length N.begun m) :
 Calls Tryz.prog 52 #[.pointer (some ⟨N.p, 0, none⟩), .agg #[.int .i64 m.1, .int .i64 m.2.1, .int .i64 m.2.2.1, .int .i64 m.2.2.2.1, .int .i64 m.2.2.2.2]] w
  (fun e w' => e = .returned (.tuple #[]) ∧ ∃ N', nzN N' = handN (nzN N) m ∧ NetTo B w N N' w') := by
 obtain ⟨k, hk⟩ : ∃ k : Nat, m.2.1 = (k : Int) := ⟨m.2.1.toNat, by have := hm.dst.1; omega⟩
 have hkn : k < N.sites.length := by have := hm.dst.2; omega
 have hs : N.sites[k]? = some (N.sites[k]'hkn) := List.getElem?_eq_getElem _
 generalize N.sites[k]'hkn = s at hs
 have hnz := nz_site hs
 have hh : handN (nzN N) m = if s.up then { nzN N with sites := (nzN N).sites.set k (han (nz s) m).1, mail := N.mail ++ (han (nz s) m).2.take (1024 - N.mail.length) } else nzN N := by
  unfold handN
  rw [show m.2.1.toNat = k by omega, hnz]
  rfl
 rw [hh]
 have h8 : (nzN N).sites.length ≤ 8 := ho.hi
 have hb : (nzN N).begun ≤ 256 := ho.beg.2
 have hq : (nzN N).sites.length = N.sites.length := nz_len N
 have hos := (ho.site k _ hnz).1
 rw [hq] at hos h8
 cases hup : s.up with
 | false =>
   refine (netHandle_down m h hs hk hup).mono ?_
   rintro e w' ⟨rfl, hg⟩
   exact ⟨rfl, N, rfl, NetTo.refl h hg⟩
 | true =>
   have hfew := (han_ok hos hm).2.1
   refine (netHandle_any m (fun s' l => nz s' = (han (nz s) m).1 ∧ l = (han (nz s) m).2) h ho.room hs hk hup (fun s' l hq => by rw [hq.2]; omega) (fun W hW => ?_)).mono ?_
   ·refine (handle_all m W ((h.keep hW).siteIts hs) hos hm h8 hb).mono ?_
    rintro e w' ⟨s', h1, h2⟩
    exact ⟨s', _, ⟨h1, rfl⟩, h2⟩
   ·rintro e w' ⟨rfl, s', l, lv', ⟨h1, rfl⟩, h3⟩
    refine ⟨rfl, _, ?_, h3⟩
    rw [if_pos rfl]
    refine (nz_set N k s' _ lv' N.begun N.p N.sv).trans ?_
    rw [h1]
    rfl
def delI (N : Nx) (i : Int) : Nx := if refL N i = 0 then delN N i.toNat else N
def repI (N : Nx) (i : Int) : Nx := if refL N i = 0 then (match N.mail[i.toNat]? with | some m => handN N m | none => N) else N
def losI (N : Nx) (i : Int) : Nx := if refL N i = 0 then { N with mail := N.mail.eraseIdx i.toNat } else N
def NumP (B : Nat) (w : World) (N : Nx) (x : Int) (M : Nx) (e : Ending) (w' : World) : Prop := e = .returned (.int .i64 x) ∧ ∃ N', nzN N' = M ∧ NetTo B w N N' w'
theorem refL_zero {N : Nx} {i : Int} (h : refL N i = 0) : 1 ≤ N.sites.length ∧ ∃ (k : Nat) (m : Ml), i = (k : Int) ∧ N.mail[k]? = some m ∧ k < N.mail.length := by
 unfold refL at h
 split at h
 ·cases h
 ·split at h
  ·cases h
  ·have hk : i.toNat < N.mail.length := by omega
   exact ⟨by omega, i.toNat, N.mail[i.toNat]'hk, by omega, List.getElem?_eq_getElem _, hk⟩
theorem OkN.okM {N : Nx} (h : OkN (nzN N)) {m : Ml} (hm : m ∈ N.mail) : OkM N.sites.length N.begun m := by
 have := h.mail m hm
 rw [nz_len] at this
 exact this
theorem Deliver_bad {B : Nat} {w : World} {N : Nx} (i : Int) (h : NetR B w N) (hr : refL N i ≠ 0) : Calls Tryz.prog 20 #[.pointer (some ⟨N.p, 0, none⟩), .int .i64 i] w fun e w' => e = .returned (.int .i64 (refL N i)) ∧ w' = w := by
 have HRL := Lib.hid (refLetter_any h i)
 obtain ⟨r, hr'⟩ : ∃ r, refL N i = r := ⟨_, rfl⟩
 rw [hr'] at HRL hr ⊢
 have hb : (r == 0) = false := by simp [hr]
 clear h hr'
 go_enter Tryz.func20, Tryz.ntmps20
 go_wp2_with fail
 refine HRL.out.mono ?_
 rintro e w1 ⟨rfl, rfl⟩
 go_wp2_with fail
 go_ret
 exact ⟨rfl, rfl⟩
theorem Deliver_all {B : Nat} {w : World} {N : Nx} (i : Int) (h : NetR B w N) (ho : OkN (nzN N)) :
 Calls Tryz.prog 20 #[.pointer (some ⟨N.p, 0, none⟩), .int .i64 i] w (NumP B w N (refL N i) (delI (nzN N) i)) := by
 have hd : delI (nzN N) i = if refL N i = 0 then delN (nzN N) i.toNat else nzN N := by unfold delI; rw [refL_nz]
 by_cases hr : refL N i = 0
 ·obtain ⟨h1, k, m, rfl, hk, hkn⟩ := refL_zero hr
  refine (Deliver_any m (fun W w' => ∀ lv', NetR B W { N with mail := N.mail.eraseIdx k, lv := lv' } → ∃ N', nzN N' = delN (nzN N) k ∧ NetTo B W { N with mail := N.mail.eraseIdx k, lv := lv' } N' w') h ho.room hk h1 (fun W lv' hW => ?_)).mono ?_
  ·have hoW : OkN (nzN { N with mail := N.mail.eraseIdx k, lv := lv' }) := ho.less k
   refine (netHandle_all m hW hoW (ho.okM (List.mem_of_getElem? hk))).mono ?_
   rintro e w' ⟨rfl, N', h2, h3⟩
   refine ⟨rfl, fun lv2 h4 => ⟨N', ?_, ?_⟩⟩
   ·rw [h2]; unfold delN; rw [show (nzN N).mail[k]? = some m from hk]; rfl
   ·have e1 : W.cell? ⟨N.p, 1, none⟩ = some lv' := hW.blk.cell 1
    have e2 : W.cell? ⟨N.p, 1, none⟩ = some lv2 := h4.blk.cell 1
    rw [e1] at e2
    injection e2 with e2
    subst e2
    exact h3
  ·rintro e w' ⟨rfl, W, lv', h2, h3⟩
   obtain ⟨N', h4, h5⟩ := h3 lv' h2.net
   refine ⟨by rw [hr], N', ?_, h2.trans h5⟩
   rw [hd, if_pos hr, h4, show ((k : Int)).toNat = k from rfl]
 ·refine (Deliver_bad i h hr).mono ?_
  rintro e w' ⟨rfl, rfl⟩
  exact ⟨rfl, N, by rw [hd, if_neg hr], NetTo.refl h (Gr.refl _)⟩

theorem Lose_all {B : Nat} {w : World} {N : Nx} (i : Int) (h : NetR B w N) (ho : OkN (nzN N)) :
 Calls Tryz.prog 22 #[.pointer (some ⟨N.p, 0, none⟩), .int .i64 i] w (NumP B w N (refL N i) (losI (nzN N) i)) := by
 have hd : losI (nzN N) i = if refL N i = 0 then { nzN N with mail := N.mail.eraseIdx i.toNat } else nzN N := by unfold losI; rw [refL_nz]; rfl
 have HRL := Lib.hid (refLetter_any h i)
 by_cases hr : refL N i = 0
 ·obtain ⟨h1, k, m, rfl, hk, hkn⟩ := refL_zero hr
  rw [if_pos hr] at hd
  have HD := Lib.hid hd
  have HRM := Lib.hid (remove_any k h hkn ho.room)
  rw [hr] at HRL ⊢
  clear h ho hr hd hk h1 hkn
  go_enter Tryz.func22, Tryz.ntmps22
  go_wp2_with fail
  refine HRL.out.mono ?_
  rintro e w1 ⟨rfl, rfl⟩
  go_wp2_with fail
  refine HRM.out.mono ?_
  rintro e w3 ⟨rfl, lv', hto⟩
  have HF := Lib.hid hto
  clear hto
  go_wp2_with fail
  go_ret
  exact ⟨rfl, _, by rw [HD.out]; exact nz_mail N _ lv', HF.out⟩
 ·obtain ⟨r, hr'⟩ : ∃ r, refL N i = r := ⟨_, rfl⟩
  rw [if_neg hr] at hd
  rw [hr'] at HRL hr ⊢
  have HD := Lib.hid hd
  have HH := Lib.hid h
  have hb : (r == 0) = false := by simp [hr]
  clear h hr' hd ho
  go_enter Tryz.func22, Tryz.ntmps22
  go_wp2_with fail
  refine HRL.out.mono ?_
  rintro e w1 ⟨rfl, rfl⟩
  go_wp2_with fail
  go_ret
  exact ⟨rfl, N, HD.out.symm, NetTo.refl HH.out (Gr.refl _)⟩
theorem Repeat_all {B : Nat} {w : World} {N : Nx} (i : Int) (h : NetR B w N) (ho : OkN (nzN N)) :
 Calls Tryz.prog 21 #[.pointer (some ⟨N.p, 0, none⟩), .int .i64 i] w (NumP B w N (refL N i) (repI (nzN N) i)) := by
 have HRL := Lib.hid (refLetter_any h i)
 by_cases hr : refL N i = 0
 ·obtain ⟨h1, k, m, rfl, hk, hkn⟩ := refL_zero hr
  have hd : repI (nzN N) (k : Int) = handN (nzN N) m := by unfold repI; rw [refL_nz, if_pos hr, show (nzN N).mail[((k : Int)).toNat]? = some m from hk]
  have HCL := Lib.hid (fun W (hW : Gr w W) => netHandle_all m (h.keep hW) ho (ho.okM (List.mem_of_getElem? hk)))
  obtain ⟨f, t, kd, tx, n⟩ := m
  dsimp only at HCL
  have HD := Lib.hid hd
  rw [hr] at HRL ⊢
  have n1 := h.blk.cell 1
  obtain ⟨A, c, e1, hrd⟩ := h.box
  simp only [List.getElem?_toArray, List.getElem?_cons_succ, List.getElem?_cons_zero] at n1
  rw [e1] at n1
  obtain ⟨b, off, rfl, hc⟩ := hrd k _ hk
  have l0 : w.cell? ⟨b, off + k * 5, none⟩ = some (.int .i64 f) := hc 0 _ rfl
  have l1 : w.cell? ⟨b, off + k * 5 + 1, none⟩ = some (.int .i64 t) := hc 1 _ rfl
  have l2 : w.cell? ⟨b, off + k * 5 + 2, none⟩ = some (.int .i64 kd) := hc 2 _ rfl
  have l3 : w.cell? ⟨b, off + k * 5 + 3, none⟩ = some (.int .i64 tx) := hc 3 _ rfl
  have l4 : w.cell? ⟨b, off + k * 5 + 4, none⟩ = some (.int .i64 n) := hc 4 _ rfl
  have hki : (k : Int) < (N.mail.length : Int) := by omega
  have hk0 : (0 : Int) ≤ (k : Int) := by omega
  generalize N.mail.length = q at n1 hki hkn
  clear h hk e1 ho hrd hc hr hd h1
  go_enter Tryz.func21, Tryz.ntmps21
  go_wp2_with fail
  refine HRL.out.mono ?_
  rintro e w1 ⟨rfl, rfl⟩
  go_wp2_with fail
  refine (HCL.out _ (by first | exact Gr.refl _ | exact (Gr.refl _).drew)).mono ?_
  rintro e w3 ⟨rfl, N', h2, h3⟩
  have HF := Lib.hid (And.intro h2 h3)
  clear h2 h3 n1 l0 l1 l2 l3 l4
  go_wp2_with fail
  go_ret
  exact ⟨rfl, N', by rw [HD.out]; exact HF.out.1, HF.out.2⟩
 ·have hd : repI (nzN N) i = nzN N := by unfold repI; rw [refL_nz, if_neg hr]
  obtain ⟨r, hr'⟩ : ∃ r, refL N i = r := ⟨_, rfl⟩
  rw [hr'] at HRL hr ⊢
  have HD := Lib.hid hd
  have HH := Lib.hid h
  have hb : (r == 0) = false := by simp [hr]
  clear h hr' hd ho
  go_enter Tryz.func21, Tryz.ntmps21
  go_wp2_with fail
  refine HRL.out.mono ?_
  rintro e w1 ⟨rfl, rfl⟩
  go_wp2_with fail
  go_ret
  exact ⟨rfl, N, HD.out.symm, NetTo.refl HH.out (Gr.refl _)⟩

end Go.Proofs.YtnoeiocbmhkmeaaGreat

namespace Go.Proofs.YtnoeiocbmhkmeaaGreat
open Go.RowKit
open Go.Maps (Keyed)
set_option linter.unusedSimpArgs false
set_option maxRecDepth 100000
set_option maxHeartbeats 80000000

theorem Tick_bad {B : Nat} {w : World} {N : Nx} (i : Int) (h : NetR B w N) (hr : refD N i ≠ 0) : Calls Tryz.prog 23 #[.pointer (some ⟨N.p, 0, none⟩), .int .i64 i] w fun e w' => e = .returned (.int .i64 (refD N i)) ∧ w' = w := by
 have HRL := Lib.hid (refDown_any h i)
 obtain ⟨r, hr'⟩ : ∃ r, refD N i = r := ⟨_, rfl⟩
 rw [hr'] at HRL hr ⊢
 have hb : (r == 0) = false := by simp [hr]
 clear h hr'
 go_enter Tryz.func23, Tryz.ntmps23
 go_wp2_with fail
 refine HRL.out.mono ?_
 rintro e w1 ⟨rfl, rfl⟩
 go_wp2_with fail
 go_ret
 exact ⟨rfl, rfl⟩
theorem Crash_bad {B : Nat} {w : World} {N : Nx} (i : Int) (h : NetR B w N) (hr : refD N i ≠ 0) : Calls Tryz.prog 24 #[.pointer (some ⟨N.p, 0, none⟩), .int .i64 i] w fun e w' => e = .returned (.int .i64 (refD N i)) ∧ w' = w := by
 have HRL := Lib.hid (refDown_any h i)
 obtain ⟨r, hr'⟩ : ∃ r, refD N i = r := ⟨_, rfl⟩
 rw [hr'] at HRL hr ⊢
 have hb : (r == 0) = false := by simp [hr]
 clear h hr'
 go_enter Tryz.func24, Tryz.ntmps24
 go_wp2_with fail
 refine HRL.out.mono ?_
 rintro e w1 ⟨rfl, rfl⟩
 go_wp2_with fail
 go_ret
 exact ⟨rfl, rfl⟩
theorem Start_bad {B : Nat} {w : World} {N : Nx} (i : Int) (h : NetR B w N) (hr : refS N i ≠ 0) : Calls Tryz.prog 25 #[.pointer (some ⟨N.p, 0, none⟩), .int .i64 i] w fun e w' => e = .returned (.int .i64 (refS N i)) ∧ w' = w := by
 have HRL := Lib.hid (refSite_any h i)
 obtain ⟨r, hr'⟩ : ∃ r, refS N i = r := ⟨_, rfl⟩
 rw [hr'] at HRL hr ⊢
 have hb : (r == 0) = false := by simp [hr]
 clear h hr'
 go_enter Tryz.func25, Tryz.ntmps25
 go_wp2_with fail
 refine HRL.out.mono ?_
 rintro e w1 ⟨rfl, rfl⟩
 go_wp2_with fail
 go_ret
 exact ⟨rfl, rfl⟩
theorem Cancel_bad {B : Nat} {w : World} {N : Nx} (i tx : Int) (h : NetR B w N) (hr : refD N i ≠ 0) : Calls Tryz.prog 19 #[.pointer (some ⟨N.p, 0, none⟩), .int .i64 i, .int .i64 tx] w fun e w' => e = .returned (.int .i64 (refD N i)) ∧ w' = w := by
 have HRL := Lib.hid (refDown_any h i)
 obtain ⟨r, hr'⟩ : ∃ r, refD N i = r := ⟨_, rfl⟩
 rw [hr'] at HRL hr ⊢
 have hb : (r == 0) = false := by simp [hr]
 clear h hr'
 go_enter Tryz.func19, Tryz.ntmps19
 go_wp2_with fail
 refine HRL.out.mono ?_
 rintro e w1 ⟨rfl, rfl⟩
 go_wp2_with fail
 go_ret
 exact ⟨rfl, rfl⟩
def upN (N : Nx) (i : Int) : Bool := if refS N i ≠ 0 then false else (N.sites[i.toNat]?.map (·.up)).getD false
def outN (N : Nx) (i tx : Int) : Int := if refS N i ≠ 0 then 0 else (N.sites[i.toNat]?.map (fun s => outS s tx)).getD 0
theorem Up_any {B : Nat} {w : World} {N : Nx} (h : NetR B w N) (i : Int) : Calls Tryz.prog 17 #[.pointer (some ⟨N.p, 0, none⟩), .int .i64 i] w fun e w' => e = .returned (.bool (upN N i)) ∧ w' = w := by
 have HU := Lib.hid (refSite_any h i)
 obtain ⟨r, hr⟩ : ∃ r, upN N i = r := ⟨_, rfl⟩
 rw [hr]
 unfold upN at hr
 rcases refS_cases N i with h1 | h1 | ⟨h1, k, s, rfl, hk, hkn⟩
 ·rw [h1] at HU hr
  obtain rfl : false = r := by rw [← hr]; rfl
  clear hr h h1
  go_enter Tryz.func17, Tryz.ntmps17
  go_wp2_with fail
  refine HU.out.mono ?_
  rintro e w1 ⟨rfl, rfl⟩
  go_wp2_with fail
  go_ret
  exact ⟨rfl, rfl⟩
 ·rw [h1] at HU hr
  obtain rfl : false = r := by rw [← hr]; rfl
  clear hr h h1
  go_enter Tryz.func17, Tryz.ntmps17
  go_wp2_with fail
  refine HU.out.mono ?_
  rintro e w1 ⟨rfl, rfl⟩
  go_wp2_with fail
  go_ret
  exact ⟨rfl, rfl⟩
 ·rw [h1] at HU hr
  obtain rfl : s.up = r := by rw [← hr, show ((k : Int)).toNat = k from rfl, hk]; rfl
  have n0 := h.blk.cell 0
  obtain ⟨b, off, c, e1, nb⟩ := h.spot5 hk
  simp only [List.getElem?_toArray, List.getElem?_cons_zero] at n0
  rw [e1] at n0
  have hu : w.cell? ⟨s.p, 2, none⟩ = some (.bool s.up) := (h.site (List.mem_of_getElem? hk)).cell 2
  have hki : (k : Int) < (N.sites.length : Int) := by omega
  have hk0 : (0 : Int) ≤ (k : Int) := by omega
  generalize N.sites.length = q at n0 hki hkn
  generalize s.up = u at hu ⊢
  clear hr h h1 hk e1
  go_enter Tryz.func17, Tryz.ntmps17
  go_wp2_with fail
  refine HU.out.mono ?_
  rintro e w1 ⟨rfl, rfl⟩
  go_wp2_with fail
  go_ret
  exact ⟨rfl, rfl⟩
theorem Outcome_any {B : Nat} {w : World} {N : Nx} (h : NetR B w N) (i tx : Int) (htx : I64 tx) : Calls Tryz.prog 18 #[.pointer (some ⟨N.p, 0, none⟩), .int .i64 i, .int .i64 tx] w fun e w' => e = .returned (.int .i64 (outN N i tx)) ∧ Gr w w' := by
 have HU := Lib.hid (refSite_any h i)
 obtain ⟨r, hr⟩ : ∃ r, outN N i tx = r := ⟨_, rfl⟩
 rw [hr]
 unfold outN at hr
 rcases refS_cases N i with h1 | h1 | ⟨h1, k, s, rfl, hk, hkn⟩
 ·rw [h1] at HU hr
  obtain rfl : 0 = r := by rw [← hr]; rfl
  clear hr h h1
  go_enter Tryz.func18, Tryz.ntmps18
  go_wp2_with fail
  refine HU.out.mono ?_
  rintro e w1 ⟨rfl, rfl⟩
  go_wp2_with fail
  go_ret
  exact ⟨rfl, Gr.refl _⟩
 ·rw [h1] at HU hr
  obtain rfl : 0 = r := by rw [← hr]; rfl
  clear hr h h1
  go_enter Tryz.func18, Tryz.ntmps18
  go_wp2_with fail
  refine HU.out.mono ?_
  rintro e w1 ⟨rfl, rfl⟩
  go_wp2_with fail
  go_ret
  exact ⟨rfl, Gr.refl _⟩
 ·rw [h1] at HU hr
  obtain rfl : outS s tx = r := by rw [← hr, show ((k : Int)).toNat = k from rfl, hk]; rfl
  have HO := Lib.hid (outcome_any tx w (h.siteIts hk) htx)
  have n0 := h.blk.cell 0
  obtain ⟨b, off, c, e1, nb⟩ := h.spot5 hk
  simp only [List.getElem?_toArray, List.getElem?_cons_zero] at n0
  rw [e1] at n0
  have hki : (k : Int) < (N.sites.length : Int) := by omega
  have hk0 : (0 : Int) ≤ (k : Int) := by omega
  generalize N.sites.length = q at n0 hki hkn
  generalize outS s tx = x at HO ⊢
  clear hr h h1 hk e1
  go_enter Tryz.func18, Tryz.ntmps18
  go_wp2_with fail
  refine HU.out.mono ?_
  rintro e w1 ⟨rfl, rfl⟩
  go_wp2_with fail
  refine HO.out.mono ?_
  rintro e w2 ⟨rfl, hg⟩
  clear n0 nb
  go_wp2_with fail
  go_ret
  exact ⟨rfl, hg⟩
def atI (N : Nx) (i : Int) (f : Sx → Sx) : Nx := match N.sites[i.toNat]? with
 | some s => { N with sites := N.sites.set i.toNat (f s) }
 | none => N
def staE (N : Nx) (i : Int) : Int := if refS N i ≠ 0 then refS N i else if upN N i then 7 else 0
def staI (N : Nx) (i : Int) : Nx := if staE N i = 0 then atI N i (fun s => { s with up := true }) else N
theorem upN_nz (N : Nx) (i : Int) : upN (nzN N) i = upN N i := by
 unfold upN
 rw [refS_nz]
 show (if refS N i ≠ 0 then false else ((N.sites.map nz)[i.toNat]?.map (·.up)).getD false) = _
 rw [List.getElem?_map, Option.map_map]
 rfl
theorem staE_nz (N : Nx) (i : Int) : staE (nzN N) i = staE N i := by unfold staE; rw [refS_nz, upN_nz]
theorem siteUp {B : Nat} {w : World} {s : Sx} (h : Its B w (siteIt s)) (x : Bool) : Its B (w.setCell ⟨s.p, 2, none⟩ (.bool x)) (siteIt { s with up := x }) := by
 have h2 : Its B w ([] ++ [(s.p, .cells 84 (siteCs s))] ++ ([(s.mp, .proms s.prom), (s.mq, .bools s.kept), (s.mr, .bools s.drop), (s.mo, .deals s.opn), (s.mg, .deals s.grt)] ++ (s.opn.flatMap dlIt ++ s.grt.flatMap dlIt))) := by
  unfold siteIt at h; simpa using h
 have h3 := h2.turn (D' := .cells 84 (siteCs { s with up := x })) ((Gb.refl s.p w).put 2 (.bool x)) (h.sBlk.put 2 _)
 unfold siteIt; exact h3
theorem atI_nz {N : Nx} {k : Nat} {s : Sx} (hk : N.sites[k]? = some s) (f : Sx → Sx) (hf : f (nz s) = nz (f s)) : atI (nzN N) (k : Int) f = nzN { N with sites := N.sites.set k (f s) } := by
 unfold atI
 rw [show ((k : Int)).toNat = k from rfl, nz_site hk]
 dsimp only
 rw [hf]
 exact (nz_set N k (f s) N.mail N.lv N.begun N.p N.sv).symm
theorem Start_all {B : Nat} {w : World} {N : Nx} (i : Int) (h : NetR B w N) :
 Calls Tryz.prog 25 #[.pointer (some ⟨N.p, 0, none⟩), .int .i64 i] w (NumP B w N (staE N i) (staI (nzN N) i)) := by
 by_cases hr : refS N i = 0
 ·rcases refS_cases N i with h1 | h1 | ⟨h1, k, s, rfl, hk, hkn⟩
  ·rw [h1] at hr; cases hr
  ·rw [h1] at hr; cases hr
  have HU := Lib.hid (refSite_any h (k : Int))
  rw [hr] at HU
  have n0 := h.blk.cell 0
  obtain ⟨b, off, c, e1, nb⟩ := h.spot5 hk
  simp only [List.getElem?_toArray, List.getElem?_cons_zero] at n0
  rw [e1] at n0
  have hu : w.cell? ⟨s.p, 2, none⟩ = some (.bool s.up) := (h.site (List.mem_of_getElem? hk)).cell 2
  have hf : w.frozen? ⟨s.p, 2, none⟩ = false := (h.site (List.mem_of_getElem? hk)).free 2
  have hup : upN N (k : Int) = s.up := by unfold upN; rw [hr, show ((k : Int)).toNat = k from rfl, hk]; rfl
  have hE : staE N (k : Int) = if s.up then 7 else 0 := by unfold staE; rw [hr, hup]; rfl
  have hki : (k : Int) < (N.sites.length : Int) := by omega
  have hk0 : (0 : Int) ≤ (k : Int) := by omega
  cases hv : s.up with
  | true =>
    rw [hv] at hu hE
    have HI : Hid (staE N (k : Int) = 7 ∧ staI (nzN N) (k : Int) = nzN N) := Lib.hid ⟨hE, by unfold staI; rw [staE_nz, hE]; rfl⟩
    have HH := Lib.hid h
    rw [HI.out.1, HI.out.2]
    generalize N.sites.length = q at n0 hki hkn
    clear h hr h1 hk e1 hf hup hE hv
    go_enter Tryz.func25, Tryz.ntmps25
    go_wp2_with fail
    refine HU.out.mono ?_
    rintro e w1 ⟨rfl, rfl⟩
    go_wp2_with fail
    go_ret
    exact ⟨rfl, N, rfl, NetTo.refl HH.out (Gr.refl _)⟩
  | false =>
    rw [hv] at hu hE
    have HI : Hid (staE N (k : Int) = 0 ∧ staI (nzN N) (k : Int) = nzN { N with sites := N.sites.set k { s with up := true } }) := Lib.hid ⟨hE, by unfold staI; rw [staE_nz, hE]; exact atI_nz hk (fun s => { s with up := true }) rfl⟩
    have hIs := siteUp (h.siteIts hk) true
    have hCh : Ch (blks (siteIt s)) w (w.setCell ⟨s.p, 2, none⟩ (.bool true)) := Ch.refl.set (p := ⟨s.p, 2, none⟩) (by simp [siteIt, blks]) _
    have HF := Lib.hid (h.step hk hIs hCh rfl (fun g hg => Or.inl hg))
    rw [HI.out.1, HI.out.2]
    generalize N.sites.length = q at n0 hki hkn
    clear h hr h1 hk e1 hup hE hv hIs hCh
    go_enter Tryz.func25, Tryz.ntmps25
    go_wp2_with fail
    refine HU.out.mono ?_
    rintro e w1 ⟨rfl, rfl⟩
    go_wp2_with fail
    go_ret
    exact ⟨rfl, _, rfl, HF.out⟩
 ·have hE : staE N i = refS N i := by unfold staE; rw [if_pos hr]
  have hI : staI (nzN N) i = nzN N := by unfold staI; rw [staE_nz, hE, if_neg hr]
  refine (Start_bad i h hr).mono ?_
  rintro e w' ⟨rfl, rfl⟩
  exact ⟨by rw [hE], N, hI.symm, NetTo.refl h (Gr.refl _)⟩

end Go.Proofs.YtnoeiocbmhkmeaaGreat

namespace Go.Proofs.YtnoeiocbmhkmeaaGreat
open Go.RowKit
set_option linter.unusedSimpArgs false
set_option maxRecDepth 100000
set_option maxHeartbeats 80000000

theorem newSite_any (i st : Int) (w : World) {B : Nat} (hB : B ≤ w.heap.size) : Calls Tryz.prog 30 #[.int .i64 i, .int .i64 st] w fun e w' => ∃ s : Sx, e = .returned (.pointer (some ⟨s.p, 0, none⟩)) ∧ Its B w' (siteIt s) ∧
 ((s.num = i ∧ s.stock = st ∧ s.up = true) ∧ s.prom = [] ∧ s.kept = [] ∧ s.drop = [] ∧ s.opn = [] ∧ s.grt = []) ∧ (∀ g ∈ blks (siteIt s), w.heap.size ≤ g) ∧ Gr w w' := by
 have hmm := @run_makeMap Tryz.prog
 go_enter Tryz.func30, Tryz.ntmps30
 go_wp2_with (simp only [hmm])
 go_ret
 obtain ⟨w1, h1⟩ : ∃ w1, w.alloc (.map #[] 0) = w1 := ⟨_, rfl⟩
 rw [h1]
 have m1 : ∀ {β : Type} (V : β → Value), Mp Tryz.prog 3 intK V w1 w.heap.size ([] : List (Int × β)) := fun V => by rw [← h1]; exact Mp_made w
 have z1 : w1.heap.size = w.heap.size + 1 := by rw [← h1]; simp
 have g1 : Gr w w1 := by rw [← h1]; exact (Gr.refl w).alloc _
 obtain ⟨w2, h2⟩ : ∃ w2, w1.alloc (.map #[] 0) = w2 := ⟨_, rfl⟩
 rw [h2]
 have m2 : ∀ {β : Type} (V : β → Value), Mp Tryz.prog 3 intK V w2 w1.heap.size ([] : List (Int × β)) := fun V => by rw [← h2]; exact Mp_made w1
 have z2 : w2.heap.size = w1.heap.size + 1 := by rw [← h2]; simp
 have g2 : Gr w1 w2 := by rw [← h2]; exact (Gr.refl w1).alloc _
 obtain ⟨w3, h3⟩ : ∃ w3, w2.alloc (.map #[] 0) = w3 := ⟨_, rfl⟩
 rw [h3]
 have m3 : ∀ {β : Type} (V : β → Value), Mp Tryz.prog 3 intK V w3 w2.heap.size ([] : List (Int × β)) := fun V => by rw [← h3]; exact Mp_made w2
 have z3 : w3.heap.size = w2.heap.size + 1 := by rw [← h3]; simp
 have g3 : Gr w2 w3 := by rw [← h3]; exact (Gr.refl w2).alloc _
 obtain ⟨w4, h4⟩ : ∃ w4, w3.alloc (.map #[] 0) = w4 := ⟨_, rfl⟩
 rw [h4]
 have m4 : ∀ {β : Type} (V : β → Value), Mp Tryz.prog 3 intK V w4 w3.heap.size ([] : List (Int × β)) := fun V => by rw [← h4]; exact Mp_made w3
 have z4 : w4.heap.size = w3.heap.size + 1 := by rw [← h4]; simp
 have g4 : Gr w3 w4 := by rw [← h4]; exact (Gr.refl w3).alloc _
 obtain ⟨w5, h5⟩ : ∃ w5, w4.alloc (.map #[] 0) = w5 := ⟨_, rfl⟩
 rw [h5]
 have m5 : ∀ {β : Type} (V : β → Value), Mp Tryz.prog 3 intK V w5 w4.heap.size ([] : List (Int × β)) := fun V => by rw [← h5]; exact Mp_made w4
 have z5 : w5.heap.size = w4.heap.size + 1 := by rw [← h5]; simp
 have g5 : Gr w4 w5 := by rw [← h5]; exact (Gr.refl w4).alloc _
 obtain ⟨w6, h6⟩ : ∃ w6, w5.alloc (.cells #[.int .i64 i, .int .i64 st, .bool true, .map (some w.heap.size), .map (some (w.heap.size + 1)), .map (some (w.heap.size + 1 + 1)), .map (some (w.heap.size + 1 + 1 + 1)), .map (some (w.heap.size + 1 + 1 + 1 + 1))] 84) = w6 := ⟨_, rfl⟩
 rw [h6]
 have hb : Blk w6 (w.heap.size + 1 + 1 + 1 + 1 + 1) 84 #[.int .i64 i, .int .i64 st, .bool true, .map (some w.heap.size), .map (some (w.heap.size + 1)), .map (some (w.heap.size + 1 + 1)), .map (some (w.heap.size + 1 + 1 + 1)), .map (some (w.heap.size + 1 + 1 + 1 + 1))] := by rw [← h6]; exact Blk.new w5 _ _ (by omega)
 have g6 : Gr w5 w6 := by rw [← h6]; exact (Gr.refl w5).alloc _
 have k1 := fun {β : Type} (V : β → Value) => (m1 V).keep (((((g2.trans g3).trans g4).trans g5).trans g6))
 have k2 := fun {β : Type} (V : β → Value) => (m2 V).keep ((((g3.trans g4).trans g5).trans g6))
 have k3 := fun {β : Type} (V : β → Value) => (m3 V).keep (((g4.trans g5).trans g6))
 have k4 := fun {β : Type} (V : β → Value) => (m4 V).keep ((g5.trans g6))
 have k5 := fun {β : Type} (V : β → Value) => (m5 V).keep g6
 rw [z1] at k2
 rw [z2, z1] at k3
 rw [z3, z2, z1] at k4
 rw [z4, z3, z2, z1] at k5
 refine ⟨⟨i, st, true, [], [], [], [], [], w.heap.size + 1 + 1 + 1 + 1 + 1, w.heap.size, w.heap.size + 1, w.heap.size + 1 + 1, w.heap.size + 1 + 1 + 1, w.heap.size + 1 + 1 + 1 + 1⟩, rfl, ⟨?_, ?_⟩, ⟨⟨rfl, rfl, rfl⟩, rfl, rfl, rfl, rfl, rfl⟩, ?_, ((((g1.trans g2).trans g3).trans g4).trans g5).trans g6⟩
 ·intro it hm
  simp only [siteIt, List.flatMap_nil, List.append_nil, List.mem_cons, List.not_mem_nil, or_false] at hm
  rcases hm with rfl | rfl | rfl | rfl | rfl | rfl
  ·exact ⟨hb, by dsimp only; omega⟩
  ·exact ⟨k1 promV, by dsimp only; omega⟩
  ·exact ⟨k2 boolV, by dsimp only; omega⟩
  ·exact ⟨k3 boolV, by dsimp only; omega⟩
  ·exact ⟨k4 dlV, by dsimp only; omega⟩
  ·exact ⟨k5 dlV, by dsimp only; omega⟩
 ·simp [siteIt, blks]
  omega
 ·intro g hg
  simp [siteIt, blks] at hg
  omega

theorem Tryz.infoPtS : (Tryz.prog.info? 69).map (fun i => (i.zero, i.size, i.bytes)) = some (some (.pointer none), 1, 8) := by kernel_rfl
structure NewS (i : Nat) (st : Int) (s : Sx) : Prop where
 num : s.num = i
 stock : s.stock = st
 up : s.up = true
 prom : s.prom = []
 kept : s.kept = []
 drop : s.drop = []
 opn : s.opn = []
 grt : s.grt = []
def NewL (l : List Int) (ss : List Sx) : Prop := ss.length = l.length ∧ ∀ i s x, ss[i]? = some s → l[i]? = some x → NewS i x s
def okStocks (l : List Int) : Bool := decide (1 ≤ l.length) && decide (l.length ≤ 8) && l.all fun x => decide (0 ≤ x) && decide (x ≤ 1099511627776)
def NewP (l : List Int) (w : World) (e : Ending) (w' : World) : Prop :=
 (okStocks l = false ∧ e = .returned (.tuple #[.pointer none, .int .i64 2]) ∧ Gr w w') ∨
 (okStocks l = true ∧ ∃ N, e = .returned (.tuple #[.pointer (some ⟨N.p, 0, none⟩), .int .i64 0]) ∧ NetR w.heap.size w' N ∧ NewL l N.sites ∧ N.mail = [] ∧ N.begun = 0 ∧ Gr w w')
theorem NewL.snoc {l : List Int} {ss : List Sx} {k : Nat} {x : Int} {s : Sx} (h : NewL (l.take k) ss) (hk : k < l.length) (hx : l[k]? = some x) (hs : NewS k x s) : NewL (l.take (k + 1)) (ss ++ [s]) := by
 have hl : ss.length = k := by rw [h.1, List.length_take]; omega
 refine ⟨by rw [List.length_append, hl, List.length_take]; simp; omega, fun i t y ht hy => ?_⟩
 rcases Nat.lt_trichotomy i k with c | c | c
 ·rw [List.getElem?_append_left (by omega)] at ht
  refine h.2 i t y ht ?_
  rw [List.getElem?_take, if_pos c]
  rw [List.getElem?_take, if_pos (by omega)] at hy
  exact hy
 ·subst c
  rw [List.getElem?_append_right (by omega), hl] at ht
  rw [List.getElem?_take, if_pos (by omega), hx] at hy
  simp at ht
  injection hy with hy
  rw [← ht, ← hy]; exact hs
 ·rw [List.getElem?_eq_none (by simp; omega)] at ht
  cases ht

end Go.Proofs.YtnoeiocbmhkmeaaGreat
