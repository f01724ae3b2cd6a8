/- Layer 5: Deliver, Repeat and Lose, for any net in order. -/
import Derived.Test.YtnoeiocbmhkmeaaPtAI
namespace Go.Proofs.Ytnoeiocbmhkmeaa
open Go.RowKit
set_option linter.unusedSimpArgs false

theorem NetTo.refl {B : Nat} {w w' : World} {N : Nx} (h : NetR B w N) (hg : Gr w w') : NetTo B w N N w' := ⟨h.keep hg, Ch.of hg, fun _ hm => Or.inl hm, rfl, rfl⟩
set_option maxRecDepth 100000 in
set_option maxHeartbeats 4000000 in
theorem netHandle_down {B : Nat} {w : World} {N : Nx} {k : Nat} {s : Sx} (m : Ml) (h : NetR B w N) (hk : N.sites[k]? = some s) (hto : m.2.1 = (k : Int)) (hup : s.up = false) :
    Calls Try.prog 52 #[.pointer (some ⟨N.p, 0, none⟩), .agg #[.int .i64 m.1, .int .i64 m.2.1, .int .i64 m.2.2.1, .int .i64 m.2.2.2.1, .int .i64 m.2.2.2.2]] w
      (fun e w' => e = .returned (.tuple #[]) ∧ Gr w w') := by
  obtain ⟨f, t, kd, tx, n⟩ := m
  dsimp only at hto ⊢
  subst hto
  have hkn : k < N.sites.length := (List.getElem?_eq_some_iff.1 hk).1
  have hki : (k : Int) < (N.sites.length : Int) := by omega
  have hk0 : (0 : Int) ≤ (k : Int) := by omega
  have n0 := h.blk.cell 0
  obtain ⟨b, off, c, e1, nb⟩ := h.spot5 hk
  simp only [List.getElem?_toArray, List.getElem?_cons_zero] at n0
  rw [e1] at n0
  have hu : w.cell? ⟨s.p, 2, none⟩ = some (.bool false) := by rw [← hup]; exact (h.site (List.mem_of_getElem? hk)).cell 2
  generalize N.sites.length = q at n0 hki hkn
  clear h hk e1 hup
  go_enter Try.func52, Try.ntmps52
  go_upto_region 1 with fail
  generalize hW1 : World.alloc w _ = w1
  have hg1 : Gr w w1 := by rw [← hW1]; exact (Gr.refl w).alloc _
  have hbk : Blk w1 w.heap.size 87 #[.int .i64 f, .int .i64 (k : Int), .int .i64 kd, .int .i64 tx, .int .i64 n] := by rw [← hW1]; exact Blk.new w _ _ rfl
  generalize w.heap.size = U at hbk ⊢
  have u1 : w1.cell? ⟨U, 1, none⟩ = some (.int .i64 (k : Int)) := hbk.cell 1
  replace n0 := hg1.keep n0
  replace nb := hg1.keep nb
  replace hu := hg1.keep hu
  clear hW1 hbk
  refine wp_region_held_drew (S := (fun W' => W'.cell? ⟨N.p, 0, none⟩ = some (.slice (some ⟨b, off, none⟩) q c) ∧ W'.cell? ⟨U, 1, none⟩ = some (.int .i64 (k : Int)) ∧ W'.cell? ⟨b, off + k, none⟩ = some (.pointer (some ⟨s.p, 0, none⟩)))) ?_ ?_ (fun hHeld => ?_)
  · kernel_rfl
  · ((try dsimp only); ((try go_split_ands); (repeat' apply And.intro) <;> (repeat (first | assumption | (exact Gr.refl _) | (refine Gr.drew ?_) | (refine Gr.alloc ?_ _) | (refine alloc_old ?_) | (refine Gr.keep (by assumption) ?_) | (refine Gr.trans ?_ (by assumption))))))
  refine take_in (i := 0) (v := ?_) (d := (some 5)) rfl rfl ?_ ?_ ?_ ?_ ?_ ?_ ?_ ?_
  rotate_left
  · kernel_rfl
  · kernel_rfl
  · kernel_rfl
  · (intro _ _ _ hq; exact hq)
  · rfl
  · (intro _w hSw; (try dsimp only at hSw); go_simp; try with_reducible rfl)
  · assumption
  try simp only [Act.put, List.setIfInBounds_toArray, List.set_cons_zero, List.set_cons_succ]
  refine take_in (i := 1) (v := ?_) (d := (some 6)) rfl rfl ?_ ?_ ?_ ?_ ?_ ?_ ?_ ?_
  rotate_left
  · kernel_rfl
  · kernel_rfl
  · kernel_rfl
  · (intro _ _ _ hq; exact hq)
  · rfl
  · (intro _w hSw; (try dsimp only at hSw); go_simp; try with_reducible rfl)
  · assumption
  try simp only [Act.put, List.setIfInBounds_toArray, List.set_cons_zero, List.set_cons_succ]
  refine take_in (i := 2) (v := ?_) (d := (some 7)) rfl rfl ?_ ?_ ?_ ?_ ?_ ?_ ?_ ?_
  rotate_left
  · kernel_rfl
  · kernel_rfl
  · kernel_rfl
  · (intro _ _ _ hq; exact hq)
  · rfl
  · (intro _w hSw; (try dsimp only at hSw); go_simp; try with_reducible rfl)
  · assumption
  try simp only [Act.put, List.setIfInBounds_toArray, List.set_cons_zero, List.set_cons_succ]
  refine take_in (i := 3) (v := ?_) (d := (some 8)) rfl rfl ?_ ?_ ?_ ?_ ?_ ?_ ?_ ?_
  rotate_left
  · kernel_rfl
  · kernel_rfl
  · kernel_rfl
  · (intro _ _ _ hq; exact hq)
  · rfl
  · (intro _w hSw; (try dsimp only at hSw); go_simp; try with_reducible rfl)
  · assumption
  try simp only [Act.put, List.setIfInBounds_toArray, List.set_cons_zero, List.set_cons_succ]
  refine take_in (i := 4) (v := ?_) (d := (some 9)) rfl rfl ?_ ?_ ?_ ?_ ?_ ?_ ?_ ?_
  rotate_left
  · kernel_rfl
  · kernel_rfl
  · kernel_rfl
  · (intro _ _ _ hq; exact hq)
  · rfl
  · (intro _w hSw; (try dsimp only at hSw); go_simp; try with_reducible rfl)
  · assumption
  try simp only [Act.put, List.setIfInBounds_toArray, List.set_cons_zero, List.set_cons_succ]
  refine take_in (i := 5) (v := ?_) (d := (some 10)) rfl rfl ?_ ?_ ?_ ?_ ?_ ?_ ?_ ?_
  rotate_left
  · kernel_rfl
  · kernel_rfl
  · kernel_rfl
  · (intro _ _ _ hq; exact hq)
  · rfl
  · (intro _w hSw; (try dsimp only at hSw); go_simp; try with_reducible rfl)
  · assumption
  try simp only [Act.put, List.setIfInBounds_toArray, List.set_cons_zero, List.set_cons_succ]
  refine take_in (i := 6) (v := ?_) (d := (some 11)) rfl rfl ?_ ?_ ?_ ?_ ?_ ?_ ?_ ?_
  rotate_left
  · kernel_rfl
  · kernel_rfl
  · kernel_rfl
  · (intro _ _ _ hq; exact hq)
  · rfl
  · (intro _w hSw; (try dsimp only at hSw); go_simp; try with_reducible rfl)
  · assumption
  try simp only [Act.put, List.setIfInBounds_toArray, List.set_cons_zero, List.set_cons_succ]
  refine take_in (i := 7) (v := ?_) (d := (some 12)) rfl rfl ?_ ?_ ?_ ?_ ?_ ?_ ?_ ?_
  rotate_left
  · kernel_rfl
  · kernel_rfl
  · kernel_rfl
  · (intro _ _ _ hq; exact hq)
  · rfl
  · (intro _w hSw; (try dsimp only at hSw); go_simp; try with_reducible rfl)
  · assumption
  try simp only [Act.put, List.setIfInBounds_toArray, List.set_cons_zero, List.set_cons_succ]
  refine take_in (i := 8) (v := ?_) (d := (some 4)) rfl rfl ?_ ?_ ?_ ?_ ?_ ?_ ?_ ?_
  rotate_left
  · kernel_rfl
  · kernel_rfl
  · kernel_rfl
  · (intro _ _ _ hq; exact hq)
  · rfl
  · (intro _w hSw; (try dsimp only at hSw); go_simp; try with_reducible rfl)
  · assumption
  try simp only [Act.put, List.setIfInBounds_toArray, List.set_cons_zero, List.set_cons_succ]
  refine wpAnyH_done ?_ ?_ _
  · kernel_rfl
  rotate_left
  all_goals
    have hd := (Gr.refl w1).drew
    have hgr := hg1.trans hd
    have u2 := hd.keep hu
    clear hHeld n0 nb hu u1 hd hg1
    go_wp2_with fail
    exact end0p (by rfl) (by rfl) ⟨rfl, hgr⟩
/-- A net handles a letter. -/
theorem netHandle_all {B : Nat} {w : World} {N : Nx} (m : Ml) (h : NetR B w N) (ho : OkN (nzN N)) (hm : OkM N.sites.length N.begun m) :
    Calls Try.prog 52 #[.pointer (some ⟨N.p, 0, none⟩), .agg #[.int .i64 m.1, .int .i64 m.2.1, .int .i64 m.2.2.1, .int .i64 m.2.2.2.1, .int .i64 m.2.2.2.2]] w
      (fun e w' => e = .returned (.tuple #[]) ∧ ∃ N', nzN N' = handN (nzN N) m ∧ NetTo B w N N' w') := by
  obtain ⟨k, hk⟩ : ∃ k : Nat, m.2.1 = (k : Int) := ⟨m.2.1.toNat, by have := hm.dst.1; omega⟩
  have hkn : k < N.sites.length := by have := hm.dst.2; omega
  have hs : N.sites[k]? = some (N.sites[k]'hkn) := List.getElem?_eq_getElem _
  generalize N.sites[k]'hkn = s at hs
  have hnz := nz_site hs
  have hh : handN (nzN N) m = if s.up then { nzN N with sites := (nzN N).sites.set k (han (nz s) m).1, mail := N.mail ++ (han (nz s) m).2.take (1024 - N.mail.length) } else nzN N := by
    unfold handN
    rw [show m.2.1.toNat = k by omega, hnz]
    rfl
  rw [hh]
  have h8 : (nzN N).sites.length ≤ 8 := ho.hi
  have hb : (nzN N).begun ≤ 256 := ho.beg.2
  have hq : (nzN N).sites.length = N.sites.length := nz_len N
  have hos := (ho.site k _ hnz).1
  rw [hq] at hos h8
  cases hup : s.up with
  | false =>
    refine (netHandle_down m h hs hk hup).mono ?_
    rintro e w' ⟨rfl, hg⟩
    exact ⟨rfl, N, rfl, NetTo.refl h hg⟩
  | true =>
    have hfew := (han_ok hos hm).2.1
    refine (netHandle_any m (fun s' l => nz s' = (han (nz s) m).1 ∧ l = (han (nz s) m).2) h ho.room hs hk hup (fun s' l hq => by rw [hq.2]; omega) (fun W hW => ?_)).mono ?_
    · refine (handle_all m W ((h.keep hW).siteIts hs) hos hm h8 hb).mono ?_
      rintro e w' ⟨s', h1, h2⟩
      exact ⟨s', _, ⟨h1, rfl⟩, h2⟩
    · rintro e w' ⟨rfl, s', l, lv', ⟨h1, rfl⟩, h3⟩
      refine ⟨rfl, _, ?_, h3⟩
      rw [if_pos rfl]
      refine (nz_set N k s' _ lv' N.begun N.p N.sv).trans ?_
      rw [h1]
      rfl
/-- What Deliver, Repeat and Lose make of a net. -/
def delI (N : Nx) (i : Int) : Nx := if refL N i = 0 then delN N i.toNat else N
def repI (N : Nx) (i : Int) : Nx := if refL N i = 0 then (match N.mail[i.toNat]? with | some m => handN N m | none => N) else N
def losI (N : Nx) (i : Int) : Nx := if refL N i = 0 then { N with mail := N.mail.eraseIdx i.toNat } else N
/-- A call that answers a number: the net is f of what it was. -/
def NumP (B : Nat) (w : World) (N : Nx) (x : Int) (M : Nx) (e : Ending) (w' : World) : Prop := e = .returned (.int .i64 x) ∧ ∃ N', nzN N' = M ∧ NetTo B w N N' w'
theorem refL_zero {N : Nx} {i : Int} (h : refL N i = 0) : 1 ≤ N.sites.length ∧ ∃ (k : Nat) (m : Ml), i = (k : Int) ∧ N.mail[k]? = some m ∧ k < N.mail.length := by
  unfold refL at h
  split at h
  · cases h
  · split at h
    · cases h
    · have hk : i.toNat < N.mail.length := by omega
      exact ⟨by omega, i.toNat, N.mail[i.toNat]'hk, by omega, List.getElem?_eq_getElem _, hk⟩
theorem OkN.okM {N : Nx} (h : OkN (nzN N)) {m : Ml} (hm : m ∈ N.mail) : OkM N.sites.length N.begun m := by
  have := h.mail m hm
  rw [nz_len] at this
  exact this
set_option maxRecDepth 100000 in
theorem Deliver_bad {B : Nat} {w : World} {N : Nx} (i : Int) (h : NetR B w N) (hr : refL N i ≠ 0) : Calls Try.prog 24 #[.pointer (some ⟨N.p, 0, none⟩), .int .i64 i] w fun e w' => e = .returned (.int .i64 (refL N i)) ∧ w' = w := by
  have HRL := Lib.hid (refLetter_any h i)
  obtain ⟨r, hr'⟩ : ∃ r, refL N i = r := ⟨_, rfl⟩
  rw [hr'] at HRL hr ⊢
  have hb : (r == 0) = false := by simp [hr]
  clear h hr'
  go_enter Try.func24, Try.ntmps24
  go_wp2_with fail
  refine HRL.out.mono ?_
  rintro e w1 ⟨rfl, rfl⟩
  go_wp2_with fail
  go_ret
  exact ⟨rfl, rfl⟩
theorem Deliver_all {B : Nat} {w : World} {N : Nx} (i : Int) (h : NetR B w N) (ho : OkN (nzN N)) :
    Calls Try.prog 24 #[.pointer (some ⟨N.p, 0, none⟩), .int .i64 i] w (NumP B w N (refL N i) (delI (nzN N) i)) := by
  have hd : delI (nzN N) i = if refL N i = 0 then delN (nzN N) i.toNat else nzN N := by unfold delI; rw [refL_nz]
  by_cases hr : refL N i = 0
  · obtain ⟨h1, k, m, rfl, hk, hkn⟩ := refL_zero hr
    refine (Deliver_any m (fun W w' => ∀ lv', NetR B W { N with mail := N.mail.eraseIdx k, lv := lv' } → ∃ N', nzN N' = delN (nzN N) k ∧ NetTo B W { N with mail := N.mail.eraseIdx k, lv := lv' } N' w') h ho.room hk h1 (fun W lv' hW => ?_)).mono ?_
    · have hoW : OkN (nzN { N with mail := N.mail.eraseIdx k, lv := lv' }) := ho.less k
      refine (netHandle_all m hW hoW (ho.okM (List.mem_of_getElem? hk))).mono ?_
      rintro e w' ⟨rfl, N', h2, h3⟩
      refine ⟨rfl, fun lv2 h4 => ⟨N', ?_, ?_⟩⟩
      · rw [h2]; unfold delN; rw [show (nzN N).mail[k]? = some m from hk]; rfl
      · have e1 : W.cell? ⟨N.p, 1, none⟩ = some lv' := hW.blk.cell 1
        have e2 : W.cell? ⟨N.p, 1, none⟩ = some lv2 := h4.blk.cell 1
        rw [e1] at e2
        injection e2 with e2
        subst e2
        exact h3
    · rintro e w' ⟨rfl, W, lv', h2, h3⟩
      obtain ⟨N', h4, h5⟩ := h3 lv' h2.net
      refine ⟨by rw [hr], N', ?_, h2.trans h5⟩
      rw [hd, if_pos hr, h4, show ((k : Int)).toNat = k from rfl]
  · refine (Deliver_bad i h hr).mono ?_
    rintro e w' ⟨rfl, rfl⟩
    exact ⟨rfl, N, by rw [hd, if_neg hr], NetTo.refl h (Gr.refl _)⟩

set_option maxRecDepth 100000 in
theorem Deliver_nil (i : Int) (w : World) : Calls Try.prog 24 #[.pointer none, .int .i64 i] w fun e w' => e = .returned (.int .i64 1) ∧ w' = w := by
  go_enter Try.func24, Try.ntmps24
  go_wp2_with fail
  refine (refLetter_nil _ _).mono ?_
  rintro e w1 ⟨rfl, rfl⟩
  go_wp2_with fail
  go_ret
  exact ⟨rfl, rfl⟩
set_option maxRecDepth 100000 in
theorem Repeat_nil (i : Int) (w : World) : Calls Try.prog 25 #[.pointer none, .int .i64 i] w fun e w' => e = .returned (.int .i64 1) ∧ w' = w := by
  go_enter Try.func25, Try.ntmps25
  go_wp2_with fail
  refine (refLetter_nil _ _).mono ?_
  rintro e w1 ⟨rfl, rfl⟩
  go_wp2_with fail
  go_ret
  exact ⟨rfl, rfl⟩
set_option maxRecDepth 100000 in
theorem Lose_nil (i : Int) (w : World) : Calls Try.prog 26 #[.pointer none, .int .i64 i] w fun e w' => e = .returned (.int .i64 1) ∧ w' = w := by
  go_enter Try.func26, Try.ntmps26
  go_wp2_with fail
  refine (refLetter_nil _ _).mono ?_
  rintro e w1 ⟨rfl, rfl⟩
  go_wp2_with fail
  go_ret
  exact ⟨rfl, rfl⟩
set_option maxRecDepth 100000 in
theorem Lose_all {B : Nat} {w : World} {N : Nx} (i : Int) (h : NetR B w N) (ho : OkN (nzN N)) :
    Calls Try.prog 26 #[.pointer (some ⟨N.p, 0, none⟩), .int .i64 i] w (NumP B w N (refL N i) (losI (nzN N) i)) := by
  have hd : losI (nzN N) i = if refL N i = 0 then { nzN N with mail := N.mail.eraseIdx i.toNat } else nzN N := by unfold losI; rw [refL_nz]; rfl
  have HRL := Lib.hid (refLetter_any h i)
  by_cases hr : refL N i = 0
  · obtain ⟨h1, k, m, rfl, hk, hkn⟩ := refL_zero hr
    rw [if_pos hr] at hd
    have HD := Lib.hid hd
    have HRM := Lib.hid (remove_any k h hkn ho.room)
    rw [hr] at HRL ⊢
    clear h ho hr hd hk h1 hkn
    go_enter Try.func26, Try.ntmps26
    go_wp2_with fail
    refine HRL.out.mono ?_
    rintro e w1 ⟨rfl, rfl⟩
    go_wp2_with fail
    refine HRM.out.mono ?_
    rintro e w3 ⟨rfl, lv', hto⟩
    have HF := Lib.hid hto
    clear hto
    go_wp2_with fail
    go_ret
    exact ⟨rfl, _, by rw [HD.out]; exact nz_mail N _ lv', HF.out⟩
  · obtain ⟨r, hr'⟩ : ∃ r, refL N i = r := ⟨_, rfl⟩
    rw [if_neg hr] at hd
    rw [hr'] at HRL hr ⊢
    have HD := Lib.hid hd
    have HH := Lib.hid h
    have hb : (r == 0) = false := by simp [hr]
    clear h hr' hd ho
    go_enter Try.func26, Try.ntmps26
    go_wp2_with fail
    refine HRL.out.mono ?_
    rintro e w1 ⟨rfl, rfl⟩
    go_wp2_with fail
    go_ret
    exact ⟨rfl, N, HD.out.symm, NetTo.refl HH.out (Gr.refl _)⟩
set_option maxRecDepth 100000 in
set_option maxHeartbeats 4000000 in
theorem Repeat_all {B : Nat} {w : World} {N : Nx} (i : Int) (h : NetR B w N) (ho : OkN (nzN N)) :
    Calls Try.prog 25 #[.pointer (some ⟨N.p, 0, none⟩), .int .i64 i] w (NumP B w N (refL N i) (repI (nzN N) i)) := by
  have HRL := Lib.hid (refLetter_any h i)
  by_cases hr : refL N i = 0
  · obtain ⟨h1, k, m, rfl, hk, hkn⟩ := refL_zero hr
    have hd : repI (nzN N) (k : Int) = handN (nzN N) m := by unfold repI; rw [refL_nz, if_pos hr, show (nzN N).mail[((k : Int)).toNat]? = some m from hk]
    have HCL := Lib.hid (fun W (hW : Gr w W) => netHandle_all m (h.keep hW) ho (ho.okM (List.mem_of_getElem? hk)))
    obtain ⟨f, t, kd, tx, n⟩ := m
    dsimp only at HCL
    have HD := Lib.hid hd
    rw [hr] at HRL ⊢
    have n1 := h.blk.cell 1
    obtain ⟨A, c, e1, hrd⟩ := h.box
    simp only [List.getElem?_toArray, List.getElem?_cons_succ, List.getElem?_cons_zero] at n1
    rw [e1] at n1
    obtain ⟨b, off, rfl, hc⟩ := hrd k _ hk
    have l0 : w.cell? ⟨b, off + k * 5, none⟩ = some (.int .i64 f) := hc 0 _ rfl
    have l1 : w.cell? ⟨b, off + k * 5 + 1, none⟩ = some (.int .i64 t) := hc 1 _ rfl
    have l2 : w.cell? ⟨b, off + k * 5 + 2, none⟩ = some (.int .i64 kd) := hc 2 _ rfl
    have l3 : w.cell? ⟨b, off + k * 5 + 3, none⟩ = some (.int .i64 tx) := hc 3 _ rfl
    have l4 : w.cell? ⟨b, off + k * 5 + 4, none⟩ = some (.int .i64 n) := hc 4 _ rfl
    have hki : (k : Int) < (N.mail.length : Int) := by omega
    have hk0 : (0 : Int) ≤ (k : Int) := by omega
    generalize N.mail.length = q at n1 hki hkn
    clear h hk e1 ho hrd hc hr hd h1
    go_enter Try.func25, Try.ntmps25
    go_wp2_with fail
    refine HRL.out.mono ?_
    rintro e w1 ⟨rfl, rfl⟩
    go_wp2_with fail
    refine (HCL.out _ (by first | exact Gr.refl _ | exact (Gr.refl _).drew)).mono ?_
    rintro e w3 ⟨rfl, N', h2, h3⟩
    have HF := Lib.hid (And.intro h2 h3)
    clear h2 h3 n1 l0 l1 l2 l3 l4
    go_wp2_with fail
    go_ret
    exact ⟨rfl, N', by rw [HD.out]; exact HF.out.1, HF.out.2⟩
  · have hd : repI (nzN N) i = nzN N := by unfold repI; rw [refL_nz, if_neg hr]
    obtain ⟨r, hr'⟩ : ∃ r, refL N i = r := ⟨_, rfl⟩
    rw [hr'] at HRL hr ⊢
    have HD := Lib.hid hd
    have HH := Lib.hid h
    have hb : (r == 0) = false := by simp [hr]
    clear h hr' hd ho
    go_enter Try.func25, Try.ntmps25
    go_wp2_with fail
    refine HRL.out.mono ?_
    rintro e w1 ⟨rfl, rfl⟩
    go_wp2_with fail
    go_ret
    exact ⟨rfl, N, HD.out.symm, NetTo.refl HH.out (Gr.refl _)⟩

end Go.Proofs.Ytnoeiocbmhkmeaa
