/- Layer 5: the law's act: one call.
Layer 5: the law's sum of all stocks.
Layer 5: a net beside an array of five lists of a law's own. -/
import Derived.Test.YtnoeiocbmhkmeaaPvM
import Derived.Test.YtnoeiocbmhkmeaaPtLp
import Derived.Maps.AppendAt
namespace Go.Proofs.Ytnoeiocbmhkmeaa
open Go.RowKit
set_option linter.unusedSimpArgs false

theorem begI_begun (N : Nx) (i : Int) (ps : List Mv) : (begE N i ps = 0 → (begI N i ps).begun = N.begun + 1) ∧ (begE N i ps ≠ 0 → (begI N i ps).begun = N.begun) := by
  refine ⟨fun h => ?_, fun h => by unfold begI; rw [if_neg h]⟩
  unfold begI
  rw [if_pos h]
  obtain ⟨⟨k, s, rfl, hk⟩, -⟩ := begE_zero h
  unfold begN
  rw [show ((k : Int)).toNat = k from rfl, hk]
theorem can_begun (N : Nx) (i tx : Int) : (canI N i tx).begun = N.begun := by
  unfold canI
  repeat' split
  all_goals rfl
theorem del_begun (N : Nx) (i : Int) : (delI N i).begun = N.begun := by
  unfold delI delN
  repeat' split
  all_goals first
    | rfl
    | exact (hand_len _ _).2
theorem rep_begun (N : Nx) (i : Int) : (repI N i).begun = N.begun := by
  unfold repI
  repeat' split
  all_goals first
    | rfl
    | exact (hand_len _ _).2
theorem los_begun (N : Nx) (i : Int) : (losI N i).begun = N.begun := by
  unfold losI
  split <;> rfl
theorem tik_begun (N : Nx) (i : Int) : (tikI N i).begun = N.begun := by
  unfold tikI
  repeat' split
  all_goals rfl
theorem cra_begun (N : Nx) (i : Int) : (craI N i).begun = N.begun := by
  unfold craI atI
  repeat' split
  all_goals rfl
theorem sta_begun (N : Nx) (i : Int) : (staI N i).begun = N.begun := by
  unfold staI atI
  repeat' split
  all_goals rfl
/-- What an act answers, and makes. -/
def ActP (B : Nat) (w : World) (N : Nx) (ps : List Mv) (e : Ending) (w' : World) : Prop := ∃ N', e = .returned (.int .i64 N'.begun) ∧ ActR ps (nzN N) (nzN N') ∧ NetTo B w N N' w'
theorem cell_ch {S : List Nat} {w w' : World} {g o : Nat} {v : Value} (hc : Ch S w w') (h : w.cell? ⟨g, o, none⟩ = some v) (hn : g ∉ S) : w'.cell? ⟨g, o, none⟩ = some v := by
  have hlt : g < w.heap.size := Classical.byContradiction fun hge => by
    have h1 : w.heap[g]? = none := Array.getElem?_eq_none (by omega)
    simp [World.cell?, h1] at h
  exact (World.cell?_of_block (hc.block g hlt hn)).trans h
theorem box4 {w W : World} {t : TypeId} {a b c d : Value} (hW : w.alloc (.cells #[a, b, c, d] t) = W) : Gr w W ∧ W.cell? ⟨w.heap.size, 0, none⟩ = some a ∧ W.cell? ⟨w.heap.size, 1, none⟩ = some b ∧ W.cell? ⟨w.heap.size, 2, none⟩ = some c ∧ W.cell? ⟨w.heap.size, 3, none⟩ = some d := by
  subst hW
  exact ⟨(Gr.refl _).alloc _, alloc_new rfl rfl, alloc_new rfl rfl, alloc_new rfl rfl, alloc_new rfl rfl⟩
set_option maxRecDepth 100000 in
set_option maxHeartbeats 40000000 in
theorem act_any {B : Nat} {N : Nx} (a : Ac) (w : World) (h : NetR B w N) (hg : Good (nzN N)) (ha : AcOk w a) :
    Calls Try.prog 31 #[.pointer (some ⟨N.p, 0, none⟩), .agg #[.int .i64 a.kd, .int .i64 a.st, .int .i64 a.nn, .slice a.A a.n a.c], .int .i64 N.begun] w (ActP B w N (a.bs.take 9)) := by
  have HPA := Lib.hid (fun W (hW : Gr w W) => parts_any a.A a.n a.c a.bs W ha.parts.len ha.parts.le ha.parts.max ha.parts.nil (ha.parts.rd.keep hW))
  have HPI : Hid (∀ q ∈ a.bs.take 9, I64 q.1 ∧ I64 q.2) := Lib.hid (fun q hq => ha.parts.small q (List.mem_of_mem_take hq))
  obtain ⟨m, hm⟩ : ∃ m, min a.n 9 = m := ⟨_, rfl⟩
  obtain ⟨ps, hps⟩ : ∃ ps, a.bs.take 9 = ps := ⟨_, rfl⟩
  have HPL : Hid (ps.length = m ∧ m ≤ 9) := Lib.hid ⟨by rw [← hps, List.length_take, ha.parts.len]; omega, by omega⟩
  rw [hm, hps] at HPA
  rw [hps] at HPI ⊢
  have hIn : I64 a.nn := ha.ino
  have HH := Lib.hid h
  have HG := Lib.hid hg
  obtain ⟨kd, st, nn, A, n, c, bs⟩ := a
  dsimp only at HPA hIn ⊢
  have HIN := Lib.hid hIn
  obtain ⟨q, hq⟩ : ∃ q, N.begun = q := ⟨_, rfl⟩
  obtain ⟨p, hp⟩ : ∃ p, N.p = p := ⟨_, rfl⟩
  have HQ := Lib.hid hq
  have HP := Lib.hid hp
  have hqb : 0 ≤ q ∧ q ≤ 256 := by rw [← hq]; exact hg.1.beg
  rw [hq, hp]
  clear h hg ha hm hps hIn hq hp
  go_enter Try.func31, Try.ntmps31
  go_upto_region 1 with fail
  generalize hW1 : World.alloc w _ = w1
  obtain ⟨hg1, k0, k1, k2, k3⟩ := box4 hW1
  have HT : Hid (w.heap.size < w1.heap.size) := Lib.hid (by rw [← hW1]; simp)
  obtain ⟨T, hT⟩ : ∃ T, w.heap.size = T := ⟨_, rfl⟩
  rw [hT] at k0 k1 k2 k3 HT ⊢
  have HTW := Lib.hid hT
  have HN1 := Lib.hid (HH.out.keep hg1)
  have HG1 := Lib.hid hg1
  clear hW1 hg1 hT
  have e15 : (IntKind.u64.wrap 15) = 15 := by rfl
  go_upto_region 3 with fail
  generalize (IntKind.u64.wrap kd).tmod 15 = κ
  by_cases h0 : κ = 0
  · subst h0
    have hgd : Gr w1 w1.drew := (Gr.refl w1).drew
    have HGD := Lib.hid (HG1.out.trans hgd)
    have k1d := hgd.keep k1
    have k3d := hgd.keep k3
    have HBG : Hid (∀ A4 c4 w4, CopyP enc2 2 ps m w1.drew A4 c4 w4 → Calls Try.prog 15 #[.pointer (some ⟨p, 0, none⟩), .int .i64 st, .slice A4 m c4] w4 (BeginP B w4 N st ps)) := Lib.hid (fun A4 c4 w4 hcp => by
      have hN := HN1.out.keep hgd
      have := Begin_all st A4 m c4 ps w4 (hN.keep hcp.gr) HG.out.1 HPL.out.1 (by have := HPL.out.2; omega) (hcp.away (fun y hy => (hN.own y hy).2)) (fun y hy => (HPI.out y hy).1)
      rw [HP.out] at this
      exact this)
    have HTN : Hid (T ∉ ownB N) := Lib.hid (fun hm => by
      have h1 := (HH.out.own T hm).2
      have h2 := HTW.out
      omega)
    clear hgd
    go_upto_region 5 with fail
    refine wp_region_held_drew (S := (fun W' => W'.cell? ⟨T, 1, none⟩ = some (.int .i64 st) ∧ W'.cell? ⟨T, 3, none⟩ = some (.slice A n c))) ?_ ?_ (fun hHeld => ?_)
    · kernel_rfl
    · ((try dsimp only); (first | exact hHeld | exact ⟨k1d, k3d⟩ | exact ⟨y1, y3⟩ | exact HZ.out))
    refine take_in (i := 0) (v := ?_) (d := (some 21)) rfl rfl ?_ ?_ ?_ ?_ ?_ ?_ ?_ ?_
    rotate_left
    · kernel_rfl
    · kernel_rfl
    · kernel_rfl
    · (intro _ _ _ hq; exact hq)
    · rfl
    · (intro _w hSw; (try dsimp only at hSw); go_simp; try with_reducible rfl)
    · assumption
    try simp only [Act.put, List.setIfInBounds_toArray, List.set_cons_zero, List.set_cons_succ]
    refine take_in (i := 1) (v := ?_) (d := (some 22)) rfl rfl ?_ ?_ ?_ ?_ ?_ ?_ ?_ ?_
    rotate_left
    · kernel_rfl
    · kernel_rfl
    · kernel_rfl
    · (intro _ _ _ hq; exact hq)
    · rfl
    · (intro _w hSw; (try dsimp only at hSw); go_simp; try with_reducible rfl)
    · assumption
    try simp only [Act.put, List.setIfInBounds_toArray, List.set_cons_zero, List.set_cons_succ]
    refine take_in (i := 2) (v := ?_) (d := (some 23)) rfl rfl ?_ ?_ ?_ ?_ ?_ ?_ ?_ ?_
    rotate_left
    · kernel_rfl
    · kernel_rfl
    · kernel_rfl
    · (intro _ _ _ hq; exact hq)
    · rfl
    · (intro _w hSw; (try dsimp only at hSw); go_simp; try with_reducible rfl)
    · assumption
    try simp only [Act.put, List.setIfInBounds_toArray, List.set_cons_zero, List.set_cons_succ]
    refine take_in (i := 3) (v := ?_) (d := (some 24)) rfl rfl ?_ ?_ ?_ ?_ ?_ ?_ ?_ ?_
    rotate_left
    · kernel_rfl
    · kernel_rfl
    · kernel_rfl
    · (intro _ _ _ hq; exact hq)
    · rfl
    · (intro _w hSw; (try dsimp only at hSw); go_simp; try with_reducible rfl)
    · assumption
    try simp only [Act.put, List.setIfInBounds_toArray, List.set_cons_zero, List.set_cons_succ]
    refine take_in (i := 4) (v := ?_) (d := (some 25)) rfl rfl ?_ ?_ ?_ ?_ ?_ ?_ ?_ ?_
    rotate_left
    · kernel_rfl
    · kernel_rfl
    · kernel_rfl
    · (intro _ _ _ hq; exact hq)
    · rfl
    · (intro _w hSw; (try dsimp only at hSw); go_simp; try with_reducible rfl)
    · assumption
    try simp only [Act.put, List.setIfInBounds_toArray, List.set_cons_zero, List.set_cons_succ]
    refine wpAnyH_ready (rs := [5]) ?_ ?_ ?_
    · kernel_rfl
    · simp
    refine (AllReadyH.cons rfl (fun K hK => ?_) AllReadyH.nil)
    go_simp
    first | (go_at_call 16; (with_reducible refine (HPA.out _ HGD.out).mono ?_); rintro e w4 ⟨A4, c4, rfl, hcp⟩; have HCP := Lib.hid hcp; have y1 := hcp.gr.keep k1d; have y3 := hcp.gr.keep k3d; clear hcp) | (go_at_call 15; (with_reducible refine (HBG.out _ _ _ HCP.out).mono ?_); rintro e w5 ⟨rfl, N1, hnz1, hto1⟩; have HNZ := Lib.hid hnz1; have HTO := Lib.hid hto1; have HZ := Lib.hid (And.intro (cell_ch hto1.ch y1 HTN.out) (cell_ch hto1.ch y3 HTN.out)); clear hnz1 hto1)
    refine hK.out _ _ ?_ (fun hHeld => ?_)
    · ((try dsimp only); (first | exact hHeld | exact ⟨k1d, k3d⟩ | exact ⟨y1, y3⟩ | exact HZ.out))
    clear hK K
    try simp only [Act.put, List.setIfInBounds_toArray, List.set_cons_zero, List.set_cons_succ]
    refine wpAnyH_ready (rs := [6]) ?_ ?_ ?_
    · kernel_rfl
    · simp
    refine (AllReadyH.cons rfl (fun K hK => ?_) AllReadyH.nil)
    go_simp
    first | (go_at_call 16; (with_reducible refine (HPA.out _ HGD.out).mono ?_); rintro e w4 ⟨A4, c4, rfl, hcp⟩; have HCP := Lib.hid hcp; have y1 := hcp.gr.keep k1d; have y3 := hcp.gr.keep k3d; clear hcp) | (go_at_call 15; (with_reducible refine (HBG.out _ _ _ HCP.out).mono ?_); rintro e w5 ⟨rfl, N1, hnz1, hto1⟩; have HNZ := Lib.hid hnz1; have HTO := Lib.hid hto1; have HZ := Lib.hid (And.intro (cell_ch hto1.ch y1 HTN.out) (cell_ch hto1.ch y3 HTN.out)); clear hnz1 hto1)
    refine hK.out _ _ ?_ (fun hHeld => ?_)
    · ((try dsimp only); (first | exact hHeld | exact ⟨k1d, k3d⟩ | exact ⟨y1, y3⟩ | exact HZ.out))
    clear hK K
    try simp only [Act.put, List.setIfInBounds_toArray, List.set_cons_zero, List.set_cons_succ]
    refine take_in (i := 7) (v := ?_) (d := (some 20)) rfl rfl ?_ ?_ ?_ ?_ ?_ ?_ ?_ ?_
    rotate_left
    · kernel_rfl
    · kernel_rfl
    · kernel_rfl
    · (intro _ _ _ hq; exact hq)
    · rfl
    · (intro _w hSw; (try dsimp only at hSw); go_simp; try with_reducible rfl)
    · assumption
    try simp only [Act.put, List.setIfInBounds_toArray, List.set_cons_zero, List.set_cons_succ]
    refine take_in (i := 8) (v := ?_) (d := (some 28)) rfl rfl ?_ ?_ ?_ ?_ ?_ ?_ ?_ ?_
    rotate_left
    · kernel_rfl
    · kernel_rfl
    · kernel_rfl
    · (intro _ _ _ hq; exact hq)
    · rfl
    · (intro _w hSw; (try dsimp only at hSw); go_simp; try with_reducible rfl)
    · assumption
    try simp only [Act.put, List.setIfInBounds_toArray, List.set_cons_zero, List.set_cons_succ]
    refine take_in (i := 9) (v := ?_) (d := (some 29)) rfl rfl ?_ ?_ ?_ ?_ ?_ ?_ ?_ ?_
    rotate_left
    · kernel_rfl
    · kernel_rfl
    · kernel_rfl
    · (intro _ _ _ hq; exact hq)
    · rfl
    · (intro _w hSw; (try dsimp only at hSw); go_simp; try with_reducible rfl)
    · assumption
    try simp only [Act.put, List.setIfInBounds_toArray, List.set_cons_zero, List.set_cons_succ]
    refine take_in (i := 10) (v := ?_) (d := (some 7)) rfl rfl ?_ ?_ ?_ ?_ ?_ ?_ ?_ ?_
    rotate_left
    · kernel_rfl
    · kernel_rfl
    · kernel_rfl
    · (intro _ _ _ hq; exact hq)
    · rfl
    · (intro _w hSw; (try dsimp only at hSw); go_simp; try with_reducible rfl)
    · assumption
    try simp only [Act.put, List.setIfInBounds_toArray, List.set_cons_zero, List.set_cons_succ]
    refine take_in (i := 11) (v := ?_) (d := (some 8)) rfl rfl ?_ ?_ ?_ ?_ ?_ ?_ ?_ ?_
    rotate_left
    · kernel_rfl
    · kernel_rfl
    · kernel_rfl
    · (intro _ _ _ hq; exact hq)
    · rfl
    · (intro _w hSw; (try dsimp only at hSw); go_simp; try with_reducible rfl)
    · assumption
    try simp only [Act.put, List.setIfInBounds_toArray, List.set_cons_zero, List.set_cons_succ]
    refine wpAnyH_done ?_ ?_ _
    · kernel_rfl
    rotate_left
    all_goals
      have HF : Hid (∀ x, N1.begun = x → ActP B w N ps (.returned (.int .i64 x)) w5) := Lib.hid (fun x hx => ⟨N1, by rw [hx], Or.inl ⟨st, HNZ.out⟩, HTO.out.pre (HGD.out.trans HCP.out.gr)⟩)
      have HBB : Hid ((begE N st ps = 0 → N1.begun = q + 1 ∧ begT N st ps = q + 1) ∧ (begE N st ps ≠ 0 → N1.begun = q)) := Lib.hid (by
        have h1 := begI_begun (nzN N) st ps
        have h2 : N1.begun = (begI (nzN N) st ps).begun := by rw [← HNZ.out]; rfl
        rw [begE_nz] at h1
        have h3 : (nzN N).begun = q := HQ.out
        rw [h3, ← h2] at h1
        exact ⟨fun h => ⟨h1.1 h, by unfold begT; rw [if_pos h, HQ.out]⟩, h1.2⟩)
      clear hHeld y1 y3 k1d k3d k0 k1 k2 k3
      by_cases hE : begE N st ps = 0
      · obtain ⟨hb1, hb2⟩ := HBB.out.1 hE
        have HF2 := Lib.hid (HF.out _ hb1)
        rw [hE, hb2]
        have hm1 : q < q + 1 := by omega
        have hm2 : ¬ (q + 1 < q) := by omega
        have hm3 : max q (q + 1) = q + 1 := by omega
        have hm4 : (if q < q + 1 then q + 1 else q) = q + 1 := if_pos hm1
        have hm5 : (if q + 1 < q then q else q + 1) = q + 1 := if_neg hm2
        clear hE hb1 hb2
        go_wp2_with fail
        go_ret
        exact HF2.out
      · have HF2 := Lib.hid (HF.out _ (HBB.out.2 hE))
        generalize begE N st ps = x at hE ⊢
        generalize begT N st ps = y
        have hE1 : (x == 0) = false := by simpa using hE
        go_wp2_with fail
        go_ret
        exact HF2.out
  by_cases h1 : κ = 1
  · subst h1
    clear h0
    have hgd : Gr w1 w1.drew := (Gr.refl w1).drew
    have HGD := Lib.hid (HG1.out.trans hgd)
    have k1d := hgd.keep k1
    have k3d := hgd.keep k3
    have HBG : Hid (∀ A4 c4 w4, CopyP enc2 2 ps m w1.drew A4 c4 w4 → Calls Try.prog 15 #[.pointer (some ⟨p, 0, none⟩), .int .i64 st, .slice A4 m c4] w4 (BeginP B w4 N st ps)) := Lib.hid (fun A4 c4 w4 hcp => by
      have hN := HN1.out.keep hgd
      have := Begin_all st A4 m c4 ps w4 (hN.keep hcp.gr) HG.out.1 HPL.out.1 (by have := HPL.out.2; omega) (hcp.away (fun y hy => (hN.own y hy).2)) (fun y hy => (HPI.out y hy).1)
      rw [HP.out] at this
      exact this)
    have HTN : Hid (T ∉ ownB N) := Lib.hid (fun hm => by
      have h1 := (HH.out.own T hm).2
      have h2 := HTW.out
      omega)
    clear hgd
    go_upto_region 5 with fail
    refine wp_region_held_drew (S := (fun W' => W'.cell? ⟨T, 1, none⟩ = some (.int .i64 st) ∧ W'.cell? ⟨T, 3, none⟩ = some (.slice A n c))) ?_ ?_ (fun hHeld => ?_)
    · kernel_rfl
    · ((try dsimp only); (first | exact hHeld | exact ⟨k1d, k3d⟩ | exact ⟨y1, y3⟩ | exact HZ.out))
    refine take_in (i := 0) (v := ?_) (d := (some 21)) rfl rfl ?_ ?_ ?_ ?_ ?_ ?_ ?_ ?_
    rotate_left
    · kernel_rfl
    · kernel_rfl
    · kernel_rfl
    · (intro _ _ _ hq; exact hq)
    · rfl
    · (intro _w hSw; (try dsimp only at hSw); go_simp; try with_reducible rfl)
    · assumption
    try simp only [Act.put, List.setIfInBounds_toArray, List.set_cons_zero, List.set_cons_succ]
    refine take_in (i := 1) (v := ?_) (d := (some 22)) rfl rfl ?_ ?_ ?_ ?_ ?_ ?_ ?_ ?_
    rotate_left
    · kernel_rfl
    · kernel_rfl
    · kernel_rfl
    · (intro _ _ _ hq; exact hq)
    · rfl
    · (intro _w hSw; (try dsimp only at hSw); go_simp; try with_reducible rfl)
    · assumption
    try simp only [Act.put, List.setIfInBounds_toArray, List.set_cons_zero, List.set_cons_succ]
    refine take_in (i := 2) (v := ?_) (d := (some 23)) rfl rfl ?_ ?_ ?_ ?_ ?_ ?_ ?_ ?_
    rotate_left
    · kernel_rfl
    · kernel_rfl
    · kernel_rfl
    · (intro _ _ _ hq; exact hq)
    · rfl
    · (intro _w hSw; (try dsimp only at hSw); go_simp; try with_reducible rfl)
    · assumption
    try simp only [Act.put, List.setIfInBounds_toArray, List.set_cons_zero, List.set_cons_succ]
    refine take_in (i := 3) (v := ?_) (d := (some 24)) rfl rfl ?_ ?_ ?_ ?_ ?_ ?_ ?_ ?_
    rotate_left
    · kernel_rfl
    · kernel_rfl
    · kernel_rfl
    · (intro _ _ _ hq; exact hq)
    · rfl
    · (intro _w hSw; (try dsimp only at hSw); go_simp; try with_reducible rfl)
    · assumption
    try simp only [Act.put, List.setIfInBounds_toArray, List.set_cons_zero, List.set_cons_succ]
    refine take_in (i := 4) (v := ?_) (d := (some 25)) rfl rfl ?_ ?_ ?_ ?_ ?_ ?_ ?_ ?_
    rotate_left
    · kernel_rfl
    · kernel_rfl
    · kernel_rfl
    · (intro _ _ _ hq; exact hq)
    · rfl
    · (intro _w hSw; (try dsimp only at hSw); go_simp; try with_reducible rfl)
    · assumption
    try simp only [Act.put, List.setIfInBounds_toArray, List.set_cons_zero, List.set_cons_succ]
    refine wpAnyH_ready (rs := [5]) ?_ ?_ ?_
    · kernel_rfl
    · simp
    refine (AllReadyH.cons rfl (fun K hK => ?_) AllReadyH.nil)
    go_simp
    first | (go_at_call 16; (with_reducible refine (HPA.out _ HGD.out).mono ?_); rintro e w4 ⟨A4, c4, rfl, hcp⟩; have HCP := Lib.hid hcp; have y1 := hcp.gr.keep k1d; have y3 := hcp.gr.keep k3d; clear hcp) | (go_at_call 15; (with_reducible refine (HBG.out _ _ _ HCP.out).mono ?_); rintro e w5 ⟨rfl, N1, hnz1, hto1⟩; have HNZ := Lib.hid hnz1; have HTO := Lib.hid hto1; have HZ := Lib.hid (And.intro (cell_ch hto1.ch y1 HTN.out) (cell_ch hto1.ch y3 HTN.out)); clear hnz1 hto1)
    refine hK.out _ _ ?_ (fun hHeld => ?_)
    · ((try dsimp only); (first | exact hHeld | exact ⟨k1d, k3d⟩ | exact ⟨y1, y3⟩ | exact HZ.out))
    clear hK K
    try simp only [Act.put, List.setIfInBounds_toArray, List.set_cons_zero, List.set_cons_succ]
    refine wpAnyH_ready (rs := [6]) ?_ ?_ ?_
    · kernel_rfl
    · simp
    refine (AllReadyH.cons rfl (fun K hK => ?_) AllReadyH.nil)
    go_simp
    first | (go_at_call 16; (with_reducible refine (HPA.out _ HGD.out).mono ?_); rintro e w4 ⟨A4, c4, rfl, hcp⟩; have HCP := Lib.hid hcp; have y1 := hcp.gr.keep k1d; have y3 := hcp.gr.keep k3d; clear hcp) | (go_at_call 15; (with_reducible refine (HBG.out _ _ _ HCP.out).mono ?_); rintro e w5 ⟨rfl, N1, hnz1, hto1⟩; have HNZ := Lib.hid hnz1; have HTO := Lib.hid hto1; have HZ := Lib.hid (And.intro (cell_ch hto1.ch y1 HTN.out) (cell_ch hto1.ch y3 HTN.out)); clear hnz1 hto1)
    refine hK.out _ _ ?_ (fun hHeld => ?_)
    · ((try dsimp only); (first | exact hHeld | exact ⟨k1d, k3d⟩ | exact ⟨y1, y3⟩ | exact HZ.out))
    clear hK K
    try simp only [Act.put, List.setIfInBounds_toArray, List.set_cons_zero, List.set_cons_succ]
    refine take_in (i := 7) (v := ?_) (d := (some 20)) rfl rfl ?_ ?_ ?_ ?_ ?_ ?_ ?_ ?_
    rotate_left
    · kernel_rfl
    · kernel_rfl
    · kernel_rfl
    · (intro _ _ _ hq; exact hq)
    · rfl
    · (intro _w hSw; (try dsimp only at hSw); go_simp; try with_reducible rfl)
    · assumption
    try simp only [Act.put, List.setIfInBounds_toArray, List.set_cons_zero, List.set_cons_succ]
    refine take_in (i := 8) (v := ?_) (d := (some 28)) rfl rfl ?_ ?_ ?_ ?_ ?_ ?_ ?_ ?_
    rotate_left
    · kernel_rfl
    · kernel_rfl
    · kernel_rfl
    · (intro _ _ _ hq; exact hq)
    · rfl
    · (intro _w hSw; (try dsimp only at hSw); go_simp; try with_reducible rfl)
    · assumption
    try simp only [Act.put, List.setIfInBounds_toArray, List.set_cons_zero, List.set_cons_succ]
    refine take_in (i := 9) (v := ?_) (d := (some 29)) rfl rfl ?_ ?_ ?_ ?_ ?_ ?_ ?_ ?_
    rotate_left
    · kernel_rfl
    · kernel_rfl
    · kernel_rfl
    · (intro _ _ _ hq; exact hq)
    · rfl
    · (intro _w hSw; (try dsimp only at hSw); go_simp; try with_reducible rfl)
    · assumption
    try simp only [Act.put, List.setIfInBounds_toArray, List.set_cons_zero, List.set_cons_succ]
    refine take_in (i := 10) (v := ?_) (d := (some 7)) rfl rfl ?_ ?_ ?_ ?_ ?_ ?_ ?_ ?_
    rotate_left
    · kernel_rfl
    · kernel_rfl
    · kernel_rfl
    · (intro _ _ _ hq; exact hq)
    · rfl
    · (intro _w hSw; (try dsimp only at hSw); go_simp; try with_reducible rfl)
    · assumption
    try simp only [Act.put, List.setIfInBounds_toArray, List.set_cons_zero, List.set_cons_succ]
    refine take_in (i := 11) (v := ?_) (d := (some 8)) rfl rfl ?_ ?_ ?_ ?_ ?_ ?_ ?_ ?_
    rotate_left
    · kernel_rfl
    · kernel_rfl
    · kernel_rfl
    · (intro _ _ _ hq; exact hq)
    · rfl
    · (intro _w hSw; (try dsimp only at hSw); go_simp; try with_reducible rfl)
    · assumption
    try simp only [Act.put, List.setIfInBounds_toArray, List.set_cons_zero, List.set_cons_succ]
    refine wpAnyH_done ?_ ?_ _
    · kernel_rfl
    rotate_left
    all_goals
      have HF : Hid (∀ x, N1.begun = x → ActP B w N ps (.returned (.int .i64 x)) w5) := Lib.hid (fun x hx => ⟨N1, by rw [hx], Or.inl ⟨st, HNZ.out⟩, HTO.out.pre (HGD.out.trans HCP.out.gr)⟩)
      have HBB : Hid ((begE N st ps = 0 → N1.begun = q + 1 ∧ begT N st ps = q + 1) ∧ (begE N st ps ≠ 0 → N1.begun = q)) := Lib.hid (by
        have h1 := begI_begun (nzN N) st ps
        have h2 : N1.begun = (begI (nzN N) st ps).begun := by rw [← HNZ.out]; rfl
        rw [begE_nz] at h1
        have h3 : (nzN N).begun = q := HQ.out
        rw [h3, ← h2] at h1
        exact ⟨fun h => ⟨h1.1 h, by unfold begT; rw [if_pos h, HQ.out]⟩, h1.2⟩)
      clear hHeld y1 y3 k1d k3d k0 k1 k2 k3
      by_cases hE : begE N st ps = 0
      · obtain ⟨hb1, hb2⟩ := HBB.out.1 hE
        have HF2 := Lib.hid (HF.out _ hb1)
        rw [hE, hb2]
        have hm1 : q < q + 1 := by omega
        have hm2 : ¬ (q + 1 < q) := by omega
        have hm3 : max q (q + 1) = q + 1 := by omega
        have hm4 : (if q < q + 1 then q + 1 else q) = q + 1 := if_pos hm1
        have hm5 : (if q + 1 < q then q else q + 1) = q + 1 := if_neg hm2
        clear hE hb1 hb2
        go_wp2_with fail
        go_ret
        exact HF2.out
      · have HF2 := Lib.hid (HF.out _ (HBB.out.2 hE))
        generalize begE N st ps = x at hE ⊢
        generalize begT N st ps = y
        have hE1 : (x == 0) = false := by simpa using hE
        go_wp2_with fail
        go_ret
        exact HF2.out
  by_cases h2 : κ = 2
  · subst h2
    clear h0 h1
    have HC := Lib.hid (Cancel_all st nn HN1.out HG.out.1 HIN.out)
    rw [HP.out] at HC
    go_wp2_with fail
    refine HC.out.mono ?_
    rintro e w2 ⟨rfl, N', hnz, hto⟩
    have HF : Hid (ActP B w N ps (.returned (.int .i64 q)) w2) := Lib.hid ⟨N', by
      have h1 : N'.begun = q := by
        rw [← HQ.out, show N'.begun = (nzN N').begun from rfl, hnz, can_begun]
        rfl
      rw [h1], Or.inr (Or.inl ⟨st, nn, hnz⟩), hto.pre HG1.out⟩
    clear hnz hto
    go_wp2_with fail
    go_ret
    exact HF.out
  by_cases h3 : κ = 3
  · subst h3
    clear h0 h1 h2
    have HC := Lib.hid (Deliver_all nn HN1.out HG.out.1)
    rw [HP.out] at HC
    go_wp2_with fail
    refine HC.out.mono ?_
    rintro e w2 ⟨rfl, N', hnz, hto⟩
    have HF : Hid (ActP B w N ps (.returned (.int .i64 q)) w2) := Lib.hid ⟨N', by
      have h1 : N'.begun = q := by
        rw [← HQ.out, show N'.begun = (nzN N').begun from rfl, hnz, del_begun]
        rfl
      rw [h1], Or.inr (Or.inr (Or.inl ⟨nn, hnz⟩)), hto.pre HG1.out⟩
    clear hnz hto
    go_wp2_with fail
    go_ret
    exact HF.out
  by_cases h4 : κ = 4
  · subst h4
    clear h0 h1 h2 h3
    have HC := Lib.hid (Deliver_all nn HN1.out HG.out.1)
    rw [HP.out] at HC
    go_wp2_with fail
    refine HC.out.mono ?_
    rintro e w2 ⟨rfl, N', hnz, hto⟩
    have HF : Hid (ActP B w N ps (.returned (.int .i64 q)) w2) := Lib.hid ⟨N', by
      have h1 : N'.begun = q := by
        rw [← HQ.out, show N'.begun = (nzN N').begun from rfl, hnz, del_begun]
        rfl
      rw [h1], Or.inr (Or.inr (Or.inl ⟨nn, hnz⟩)), hto.pre HG1.out⟩
    clear hnz hto
    go_wp2_with fail
    go_ret
    exact HF.out
  by_cases h5 : κ = 5
  · subst h5
    clear h0 h1 h2 h3 h4
    have HC := Lib.hid (Deliver_all nn HN1.out HG.out.1)
    rw [HP.out] at HC
    go_wp2_with fail
    refine HC.out.mono ?_
    rintro e w2 ⟨rfl, N', hnz, hto⟩
    have HF : Hid (ActP B w N ps (.returned (.int .i64 q)) w2) := Lib.hid ⟨N', by
      have h1 : N'.begun = q := by
        rw [← HQ.out, show N'.begun = (nzN N').begun from rfl, hnz, del_begun]
        rfl
      rw [h1], Or.inr (Or.inr (Or.inl ⟨nn, hnz⟩)), hto.pre HG1.out⟩
    clear hnz hto
    go_wp2_with fail
    go_ret
    exact HF.out
  by_cases h6 : κ = 6
  · subst h6
    clear h0 h1 h2 h3 h4 h5
    have HC := Lib.hid (Deliver_all nn HN1.out HG.out.1)
    rw [HP.out] at HC
    go_wp2_with fail
    refine HC.out.mono ?_
    rintro e w2 ⟨rfl, N', hnz, hto⟩
    have HF : Hid (ActP B w N ps (.returned (.int .i64 q)) w2) := Lib.hid ⟨N', by
      have h1 : N'.begun = q := by
        rw [← HQ.out, show N'.begun = (nzN N').begun from rfl, hnz, del_begun]
        rfl
      rw [h1], Or.inr (Or.inr (Or.inl ⟨nn, hnz⟩)), hto.pre HG1.out⟩
    clear hnz hto
    go_wp2_with fail
    go_ret
    exact HF.out
  by_cases h7 : κ = 7
  · subst h7
    clear h0 h1 h2 h3 h4 h5 h6
    have HC := Lib.hid (Deliver_all nn HN1.out HG.out.1)
    rw [HP.out] at HC
    go_wp2_with fail
    refine HC.out.mono ?_
    rintro e w2 ⟨rfl, N', hnz, hto⟩
    have HF : Hid (ActP B w N ps (.returned (.int .i64 q)) w2) := Lib.hid ⟨N', by
      have h1 : N'.begun = q := by
        rw [← HQ.out, show N'.begun = (nzN N').begun from rfl, hnz, del_begun]
        rfl
      rw [h1], Or.inr (Or.inr (Or.inl ⟨nn, hnz⟩)), hto.pre HG1.out⟩
    clear hnz hto
    go_wp2_with fail
    go_ret
    exact HF.out
  by_cases h8 : κ = 8
  · subst h8
    clear h0 h1 h2 h3 h4 h5 h6 h7
    have HC := Lib.hid (Repeat_all nn HN1.out HG.out.1)
    rw [HP.out] at HC
    go_wp2_with fail
    refine HC.out.mono ?_
    rintro e w2 ⟨rfl, N', hnz, hto⟩
    have HF : Hid (ActP B w N ps (.returned (.int .i64 q)) w2) := Lib.hid ⟨N', by
      have h1 : N'.begun = q := by
        rw [← HQ.out, show N'.begun = (nzN N').begun from rfl, hnz, rep_begun]
        rfl
      rw [h1], Or.inr (Or.inr (Or.inr (Or.inl ⟨nn, hnz⟩))), hto.pre HG1.out⟩
    clear hnz hto
    go_wp2_with fail
    go_ret
    exact HF.out
  by_cases h9 : κ = 9
  · subst h9
    clear h0 h1 h2 h3 h4 h5 h6 h7 h8
    have HC := Lib.hid (Lose_all nn HN1.out HG.out.1)
    rw [HP.out] at HC
    go_wp2_with fail
    refine HC.out.mono ?_
    rintro e w2 ⟨rfl, N', hnz, hto⟩
    have HF : Hid (ActP B w N ps (.returned (.int .i64 q)) w2) := Lib.hid ⟨N', by
      have h1 : N'.begun = q := by
        rw [← HQ.out, show N'.begun = (nzN N').begun from rfl, hnz, los_begun]
        rfl
      rw [h1], Or.inr (Or.inr (Or.inr (Or.inr (Or.inl ⟨nn, hnz⟩)))), hto.pre HG1.out⟩
    clear hnz hto
    go_wp2_with fail
    go_ret
    exact HF.out
  by_cases h10 : κ = 10
  · subst h10
    clear h0 h1 h2 h3 h4 h5 h6 h7 h8 h9
    have HC := Lib.hid (Tick_all st HN1.out HG.out.1)
    rw [HP.out] at HC
    go_wp2_with fail
    refine HC.out.mono ?_
    rintro e w2 ⟨rfl, N', hnz, hto⟩
    have HF : Hid (ActP B w N ps (.returned (.int .i64 q)) w2) := Lib.hid ⟨N', by
      have h1 : N'.begun = q := by
        rw [← HQ.out, show N'.begun = (nzN N').begun from rfl, hnz, tik_begun]
        rfl
      rw [h1], Or.inr (Or.inr (Or.inr (Or.inr (Or.inr (Or.inl ⟨st, hnz⟩))))), hto.pre HG1.out⟩
    clear hnz hto
    go_wp2_with fail
    go_ret
    exact HF.out
  by_cases h11 : κ = 11
  · subst h11
    clear h0 h1 h2 h3 h4 h5 h6 h7 h8 h9 h10
    have HC := Lib.hid (Tick_all st HN1.out HG.out.1)
    rw [HP.out] at HC
    go_wp2_with fail
    refine HC.out.mono ?_
    rintro e w2 ⟨rfl, N', hnz, hto⟩
    have HF : Hid (ActP B w N ps (.returned (.int .i64 q)) w2) := Lib.hid ⟨N', by
      have h1 : N'.begun = q := by
        rw [← HQ.out, show N'.begun = (nzN N').begun from rfl, hnz, tik_begun]
        rfl
      rw [h1], Or.inr (Or.inr (Or.inr (Or.inr (Or.inr (Or.inl ⟨st, hnz⟩))))), hto.pre HG1.out⟩
    clear hnz hto
    go_wp2_with fail
    go_ret
    exact HF.out
  by_cases h12 : κ = 12
  · subst h12
    clear h0 h1 h2 h3 h4 h5 h6 h7 h8 h9 h10 h11
    have HC := Lib.hid (Crash_all st HN1.out)
    rw [HP.out] at HC
    go_wp2_with fail
    refine HC.out.mono ?_
    rintro e w2 ⟨rfl, N', hnz, hto⟩
    have HF : Hid (ActP B w N ps (.returned (.int .i64 q)) w2) := Lib.hid ⟨N', by
      have h1 : N'.begun = q := by
        rw [← HQ.out, show N'.begun = (nzN N').begun from rfl, hnz, cra_begun]
        rfl
      rw [h1], Or.inr (Or.inr (Or.inr (Or.inr (Or.inr (Or.inr (Or.inl ⟨st, hnz⟩)))))), hto.pre HG1.out⟩
    clear hnz hto
    go_wp2_with fail
    go_ret
    exact HF.out
  · skip
    have d0 : (κ == 0) = false := by simpa using h0
    have d1 : (κ == 1) = false := by simpa using h1
    have d2 : (κ == 2) = false := by simpa using h2
    have d3 : (κ == 3) = false := by simpa using h3
    have d4 : (κ == 4) = false := by simpa using h4
    have d5 : (κ == 5) = false := by simpa using h5
    have d6 : (κ == 6) = false := by simpa using h6
    have d7 : (κ == 7) = false := by simpa using h7
    have d8 : (κ == 8) = false := by simpa using h8
    have d9 : (κ == 9) = false := by simpa using h9
    have d10 : (κ == 10) = false := by simpa using h10
    have d11 : (κ == 11) = false := by simpa using h11
    have d12 : (κ == 12) = false := by simpa using h12
    clear h0 h1 h2 h3 h4 h5 h6 h7 h8 h9 h10 h11 h12
    have HC := Lib.hid (Start_all st HN1.out)
    rw [HP.out] at HC
    go_wp2_with fail
    refine HC.out.mono ?_
    rintro e w2 ⟨rfl, N', hnz, hto⟩
    have HF : Hid (ActP B w N ps (.returned (.int .i64 q)) w2) := Lib.hid ⟨N', by
      have h1 : N'.begun = q := by
        rw [← HQ.out, show N'.begun = (nzN N').begun from rfl, hnz, sta_begun]
        rfl
      rw [h1], Or.inr (Or.inr (Or.inr (Or.inr (Or.inr (Or.inr (Or.inr ⟨st, hnz⟩)))))), hto.pre HG1.out⟩
    clear hnz hto
    go_wp2_with fail
    go_ret
    exact HF.out

end Go.Proofs.Ytnoeiocbmhkmeaa

namespace Go.Proofs.Ytnoeiocbmhkmeaa
open Go.RowKit
set_option linter.unusedSimpArgs false

def sumS (N : Nx) (i : Nat) : Int := ((N.sites.take i).map (·.stock)).sum
theorem sumS_step {N : Nx} {i : Nat} {s : Sx} (h : N.sites[i]? = some s) : sumS N (i + 1) = sumS N i + s.stock := by
  unfold sumS
  rw [List.take_add_one, h, Option.toList_some, List.map_append, List.sum_append]
  simp
theorem stock_rng {N : Nx} (ho : OkN (nzN N)) {k : Nat} {s : Sx} (h : N.sites[k]? = some s) : 0 ≤ s.stock ∧ s.stock ≤ 1099511627776 := (ho.site k _ (nz_site h)).1.stock
theorem sumS_rng {N : Nx} (ho : OkN (nzN N)) : ∀ i, i ≤ N.sites.length → 0 ≤ sumS N i ∧ sumS N i ≤ i * 1099511627776
  | 0, _ => by simp [sumS]
  | i + 1, hi => by
    have ih := sumS_rng ho i (by omega)
    have hs : N.sites[i]? = some (N.sites[i]'(by omega)) := List.getElem?_eq_getElem _
    have h1 := sumS_step hs
    have h2 := stock_rng ho hs
    rw [h1]
    omega
theorem stockN_of {N : Nx} {k : Nat} {s : Sx} (h : N.sites[k]? = some s) : stockN N (k : Int) = s.stock ∧ refS N (k : Int) = 0 := by
  have hk := (List.getElem?_eq_some_iff.1 h).1
  have : refS N (k : Int) = 0 := by unfold refS; rw [if_neg (by omega), if_neg (by omega)]
  refine ⟨?_, this⟩
  unfold stockN
  rw [this, show ((k : Int)).toNat = k from rfl, h]
  rfl
set_option maxRecDepth 100000 in
set_option maxHeartbeats 4000000 in
theorem sum_any {B : Nat} {N : Nx} (w : World) (h : NetR B w N) (ho : OkN (nzN N)) :
    Calls Try.prog 32 #[.pointer (some ⟨N.p, 0, none⟩)] w fun e w' => e = .returned (.int .i64 (sumS N N.sites.length)) ∧ w' = w := by
  have HSI := Lib.hid (Sites_any h)
  have HST := Lib.hid (fun i => Stock_any h i)
  have HO := Lib.hid ho
  have h8 : N.sites.length ≤ 8 := by have := ho.hi; rw [nz_len] at this; exact this
  obtain ⟨n, hn⟩ : ∃ n, N.sites.length = n := ⟨_, rfl⟩
  rw [hn] at h8 HSI ⊢
  have HN := Lib.hid hn
  clear h ho hn
  go_enter Try.func32, Try.ntmps32
  go_wp2_with fail
  go_loopw [3, 4] (fun y z wr => ∃ (i : Nat), i ≤ n ∧ z = .int .i64 (i : Int) ∧ y = .int .i64 (sumS N i) ∧ wr = w) (fun _ z _ => n - (intOf z).toNat)
  case atStart => exact ⟨0, Nat.zero_le _, rfl, rfl, rfl⟩
  case round =>
    obtain ⟨i, hi, rfl, rfl, rfl⟩ := hrel
    by_cases hlt : i < n
    · have hii : (i : Int) < (n : Int) := by omega
      have hs : N.sites[i]? = some (N.sites[i]'(by rw [HN.out]; exact hlt)) := List.getElem?_eq_getElem _
      generalize N.sites[i]'_ = s at hs
      have hsr := stock_rng HO.out hs
      obtain ⟨e1, e2⟩ := stockN_of hs
      have HC := Lib.hid (HST.out (i : Int))
      rw [e1, e2] at HC
      have HS := Lib.hid (sumS_step hs)
      have hb := sumS_rng HO.out i (by rw [HN.out]; omega)
      generalize s.stock = x at hsr HC HS
      generalize sumS N i = y at HS hb ⊢
      have hx0 : ¬ (x < 0) := by omega
      have hx1 : ¬ (1099511627776 < x) := by omega
      have hw : IntKind.i64.wrap (y + x) = y + x := IntWalk.i64_in _ (by omega)
      clear hs e1 e2
      go_wp2_with fail
      refine HSI.out.mono ?_
      rintro e w2 ⟨rfl, rfl⟩
      go_wp2_with fail
      refine HC.out.mono ?_
      rintro e w3 ⟨rfl, rfl⟩
      go_wp2_with fail
      go_roundw
      case rel => exact ⟨i + 1, by omega, by go_num, by rw [HS.out], trivial⟩
      case measure => simp [intOf]; omega
    · obtain rfl : i = n := by omega
      go_wp2_with fail
      refine HSI.out.mono ?_
      rintro e w2 ⟨rfl, rfl⟩
      go_wp2_with fail
      go_ret
      exact ⟨rfl, rfl⟩

end Go.Proofs.Ytnoeiocbmhkmeaa

namespace Go.Proofs.Ytnoeiocbmhkmeaa
open Go.RowKit
set_option linter.unusedSimpArgs false

structure WasSt (w0 : World) (B Y p : Nat) (vs : List Value) (ls : List (List Int)) (N : Nx) (W : World) : Prop where
  net : NetR B W N
  p5 : N.p = p
  blk : Blk W Y 57 vs.toArray
  n5 : vs.length = 5 ∧ ls.length = 5
  row : ∀ (s : Nat) (v : Value) (l : List Int), vs[s]? = some v → ls[s]? = some l → W.ownsRow w0.heap.size 3 1 v l.length (flatE enc1 l)
  apart : ∀ (s r : Nat) (v u : Value), s ≠ r → vs[s]? = some v → vs[r]? = some u → v.ownBlock = none ∨ v.ownBlock ≠ u.ownBlock
  away : ∀ g ∈ ownB N, g ≠ Y ∧ ∀ v ∈ vs, v.ownBlock ≠ some g
  gr : Gr w0 W
  yB : w0.heap.size ≤ Y
section
variable {w0 W W' : World} {B Y p : Nat} {vs : List Value} {ls : List (List Int)} {N N' : Nx}
theorem owns_block {w : World} {b : Nat} {e : TypeId} {size n g : Nat} {v : Value} {xs : List Value} (h : w.ownsRow b e size v n xs) (hv : v.ownBlock = some g) : g < w.heap.size ∧ b ≤ g := by
  rcases h.2 with ⟨rfl, -⟩ | ⟨g', cap, cur, rfl, h1, h2, -⟩
  · simp [Value.ownBlock] at hv
  · have e : g' = g := by simpa [Value.ownBlock] using hv
    subst e
    exact ⟨(Array.getElem?_eq_some_iff.1 h2).1, h1⟩
theorem WasSt.two (h : WasSt w0 B Y p vs ls N W) {s : Nat} (hs : s < 5) : ∃ v l, vs[s]? = some v ∧ ls[s]? = some l :=
  ⟨_, _, List.getElem?_eq_getElem (by rw [h.n5.1]; exact hs), List.getElem?_eq_getElem (by rw [h.n5.2]; exact hs)⟩
theorem WasSt.keep (h : WasSt w0 B Y p vs ls N W) (hg : Gr W W') : WasSt w0 B Y p vs ls N W' := ⟨h.net.keep hg, h.p5, h.blk.keep hg, h.n5, fun s v l h1 h2 => owns_gr (h.row s v l h1 h2) hg, h.apart, h.away, h.gr.trans hg, h.yB⟩
theorem WasSt.to (h : WasSt w0 B Y p vs ls N W) (hw : w0.heap.size ≤ B) (ht : NetTo B W N N' W') : WasSt w0 B Y p vs ls N' W' := by
  have hY : Y ∉ ownB N := fun hm => (h.away Y hm).1 rfl
  have hYl : Y < W.heap.size := h.blk.lt
  refine ⟨ht.net, ht.p.trans h.p5, (ht.ch.block Y hYl hY).trans h.blk, h.n5, fun s v l h1 h2 => owns_ch (h.row s v l h1 h2) ht.ch (fun x hx hm => (h.away x hm).2 v (List.mem_of_getElem? h1) hx), h.apart, fun g hg => ?_, ht.ch.up h.gr (fun x hx => Nat.le_trans hw (h.net.own x hx).1), h.yB⟩
  rcases ht.own g hg with h1 | h1
  · exact h.away g h1
  · refine ⟨fun e => by omega, fun v hv e => ?_⟩
    obtain ⟨s, hs⟩ := List.mem_iff_getElem?.1 hv
    have hs5 : s < 5 := by rw [← h.n5.1]; exact (List.getElem?_eq_some_iff.1 hs).1
    obtain ⟨-, l, -, h3⟩ := h.two hs5
    have := (owns_block (h.row s v l hs h3) e).1
    omega
/-- An append to one of the lists, and the store of the new slice. -/
theorem WasSt.grow (h : WasSt w0 B Y p vs ls N W) {s : Nat} {v v' : Value} {l l' : List Int} (hv : vs[s]? = some v) (hl : ls[s]? = some l) (hr : W'.ownsRow w0.heap.size 3 1 v' l'.length (flatE enc1 l')) (hg : W.grownBy W' v.ownBlock) (hn : v'.ownBlock = v.ownBlock ∨ ∃ x, W.heap.size ≤ x ∧ v'.ownBlock = some x) :
    WasSt w0 B Y p (vs.set s v') (ls.set s l') N (W'.setCell ⟨Y, s, none⟩ v') := by
  have hs : s < 5 := by rw [← h.n5.1]; exact (List.getElem?_eq_some_iff.1 hv).1
  have hrow := h.row s v l hv hl
  have hYv : some Y ≠ v.ownBlock := h.blk.apart hrow (by decide)
  have hb' : Blk W' Y 57 vs.toArray := h.blk.grown hg hYv
  have hYl : Y < W.heap.size := h.blk.lt
  have hg0 : Gr w0 W' := Below.grown h.gr hg h.gr.size (fun t ht => (owns_block hrow ht).2)
  have hch : Ch (Y :: v.ownBlock.toList) W (W'.setCell ⟨Y, s, none⟩ v') := by
    refine Ch.set (p := ⟨Y, s, none⟩) ⟨hg.os, hg.tape, hg.output, hg.size, fun g hgl hm => hg.block g hgl (fun e => hm ?_)⟩ (by simp) v'
    rw [← e]; simp
  have hst : ∀ {v : Value} {n : Nat} {xs : List Value}, W'.ownsRow w0.heap.size 3 1 v n xs → (W'.setCell ⟨Y, s, none⟩ v').ownsRow w0.heap.size 3 1 v n xs := fun {v n xs} h1 => by
    refine h1.kept (row := Option.some Y) ⟨rfl, rfl, rfl, by simp [World.setCell], fun k hk hne => Below.heap_setCell _ _ _ _ (fun e => hne (congrArg Option.some e))⟩ (Or.inr (fun e => ?_))
    exact hb'.apart h1 (by decide) e.symm
  refine ⟨h.net.turn2 hch (fun g hgm hm => ?_), h.p5, ?_, ⟨by rw [List.length_set]; exact h.n5.1, by rw [List.length_set]; exact h.n5.2⟩, fun r u m h1 h2 => ?_, fun r r' u u' hne h1 h2 => ?_, fun g hgm => ?_, hg0.setCell (p := ⟨Y, s, none⟩) h.yB v', h.yB⟩
  · have h1 := h.away g hgm
    rcases List.mem_cons.1 hm with h2 | h2
    · exact h1.1 h2
    · exact h1.2 v (List.mem_of_getElem? hv) (by simpa using h2)
  · have := hb'.put s v'
    rw [List.setIfInBounds_toArray] at this
    exact this
  · rw [List.getElem?_set] at h1 h2
    by_cases e : s = r
    · subst e
      rw [if_pos rfl, if_pos (by rw [h.n5.1]; exact hs)] at h1
      rw [if_pos rfl, if_pos (by rw [h.n5.2]; exact hs)] at h2
      injection h1 with h1
      injection h2 with h2
      subst h1 h2
      exact hst hr
    · rw [if_neg e] at h1 h2
      refine hst ((h.row r u m h1 h2).kept hg ?_)
      exact h.apart r s u v (fun e2 => e e2.symm) h1 hv
  · have key : ∀ {r : Nat} {u : Value}, s ≠ r → vs[r]? = Option.some u → v'.ownBlock = none ∨ v'.ownBlock ≠ u.ownBlock := fun {r u} hne hu => by
      rcases hn with h3 | ⟨x, h3, h4⟩
      · rw [h3]; exact h.apart s r v u hne hv hu
      · refine Or.inr (fun e => ?_)
        have hr5 : r < 5 := by rw [← h.n5.1]; exact (List.getElem?_eq_some_iff.1 hu).1
        obtain ⟨-, m, -, h6⟩ := h.two hr5
        have := (owns_block (h.row r u m hu h6) (by rw [← e]; exact h4)).1
        omega
    rw [List.getElem?_set] at h1 h2
    by_cases e : s = r
    · subst e
      rw [if_neg hne] at h2
      rw [if_pos rfl, if_pos (by rw [h.n5.1]; exact hs)] at h1
      injection h1 with h1
      subst h1
      exact key hne h2
    · rw [if_neg e] at h1
      by_cases e' : s = r'
      · subst e'
        rw [if_pos rfl, if_pos (by rw [h.n5.1]; exact hs)] at h2
        injection h2 with h2
        subst h2
        rcases key e h1 with h3 | h3
        · cases hu : u.ownBlock with
          | none => exact Or.inl rfl
          | some g => exact Or.inr (by rw [h3]; simp)
        · exact Or.inr (fun e2 => h3 e2.symm)
      · rw [if_neg e'] at h2
        exact h.apart r r' u u' hne h1 h2
  · have h1 := h.away g hgm
    refine ⟨h1.1, fun u hu e => ?_⟩
    rcases List.mem_or_eq_of_mem_set hu with h2 | h2
    · exact h1.2 u h2 e
    · subst h2
      rcases hn with h3 | ⟨x, h3, h4⟩
      · exact h1.2 v (List.mem_of_getElem? hv) (by rw [← h3]; exact e)
      · have := (h.net.own g hgm).2
        rw [h4] at e
        injection e with e
        omega
/-- A store into one of the lists. -/
theorem WasSt.put (h : WasSt w0 B Y p vs ls N W) {s g c : Nat} {n : Nat} {l : List Int} (hv : vs[s]? = some (.slice (some ⟨g, 0, none⟩) n c)) (hl : ls[s]? = some l) (j : Nat) (x : Int) :
    WasSt w0 B Y p vs (ls.set s (l.set j x)) N (W.setCell ⟨g, j, none⟩ (.int .i64 x)) := by
  have hs : s < 5 := by rw [← h.n5.1]; exact (List.getElem?_eq_some_iff.1 hv).1
  have hrow := h.row s _ l hv hl
  have hgY : Y ≠ g := fun e => h.blk.apart hrow (by decide) (by rw [e]; rfl)
  have hb := (owns_block hrow (g := g) rfl)
  have hln : n = l.length := by
    rcases hrow.2 with ⟨h2, -⟩ | ⟨g', cap', cur, h2, -⟩
    · cases h2
    · injection h2
  refine ⟨h.net.turn2 (Ch.refl.set (S := [g]) (p := ⟨g, j, none⟩) (by simp) _) (fun y hy hm => (h.away y hy).2 _ (List.mem_of_getElem? hv) (by rw [List.mem_singleton.1 hm]; rfl)), h.p5, h.blk.other (p := ⟨g, j, none⟩) hgY _, ⟨h.n5.1, by rw [List.length_set]; exact h.n5.2⟩, fun r u m h1 h2 => ?_, h.apart, h.away, h.gr.setCell (p := ⟨g, j, none⟩) hb.2 _, h.yB⟩
  rw [List.getElem?_set] at h2
  by_cases e : s = r
  · subst e
    rw [if_pos rfl, if_pos (by rw [h.n5.2]; exact hs)] at h2
    injection h2 with h2
    subst h2
    rw [hv] at h1
    injection h1 with h1
    subst h1
    have h3 := owns_set (n := n) (cap := c) (l := l) (by rw [← hln] at hrow; exact hrow) j x
    rw [List.length_set, ← hln]
    exact h3
  · rw [if_neg e] at h2
    refine (h.row r u m h1 h2).kept (row := Option.some g) ⟨rfl, rfl, rfl, by simp [World.setCell], fun k hk hne => Below.heap_setCell _ _ _ _ (fun e => hne (congrArg Option.some e))⟩ ?_
    have := h.apart r s u _ (fun e2 => e e2.symm) h1 hv
    exact this
end

end Go.Proofs.Ytnoeiocbmhkmeaa
