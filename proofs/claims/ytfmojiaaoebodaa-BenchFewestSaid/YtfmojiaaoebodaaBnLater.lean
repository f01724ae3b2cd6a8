/- Layer 4: jobs that are ready later.
Layer 4: Latest. -/
import Derived.Test.YtfmojiaaoebodaaBnFew
namespace Go.Proofs.Ytfmojiaaoebodaa
open Go.RowKit
set_option linter.unusedSimpArgs false

theorem Try.infoBnB : (Try.prog.info? 48).map (fun i => (i.zero, i.size, i.bytes)) = some (some (.agg #[.int .i64 0, .int .i64 0, .int .i64 0]), 3, 24) := by kernel_rfl

/-- A block that holds jobs. -/
def JobsIn (w : World) (g : Nat) (cur : Array Value) (n : Nat) (f : Nat → Jb) : Prop :=
  Blk w g 48 cur ∧ ∀ i, i < n → cur[i * 3]? = some (.int .i64 (f i).1) ∧ cur[i * 3 + 1]? = some (.int .i64 (f i).2.1) ∧ cur[i * 3 + 2]? = some (.int .i64 (f i).2.2)
theorem JobsIn.put {w : World} {g : Nat} {cur : Array Value} {n : Nat} {f : Nat → Jb} (h : JobsIn w g cur n f) {k : Nat} (hk : k < n) (x : Int) : JobsIn (w.setCell ⟨g, k * 3, none⟩ (.int .i64 x)) g (cur.setIfInBounds (k * 3) (.int .i64 x)) n (fun i => if i = k then (x, (f i).2) else f i) := by
  refine ⟨h.1.put _ _, fun i hi => ?_⟩
  obtain ⟨a, b, c⟩ := h.2 i hi
  have hlt : k * 3 < cur.size := (Array.getElem?_eq_some_iff.1 (h.2 k hk).1).1
  dsimp only
  by_cases e : i = k
  · subst e
    rw [if_pos rfl]
    exact ⟨Array.getElem?_setIfInBounds_self_of_lt hlt, (Array.getElem?_setIfInBounds_ne (by omega)).trans b, (Array.getElem?_setIfInBounds_ne (by omega)).trans c⟩
  · rw [if_neg e]
    exact ⟨(Array.getElem?_setIfInBounds_ne (by omega)).trans a, (Array.getElem?_setIfInBounds_ne (by omega)).trans b, (Array.getElem?_setIfInBounds_ne (by omega)).trans c⟩
theorem JobsIn.tris {w : World} {g : Nat} {cur : Array Value} {n : Nat} {f : Nat → Jb} (h : JobsIn w g cur n f) {l : List Jb} (hl : ∀ i x, l[i]? = some x → i < n ∧ f i = x) : Tris w (some ⟨g, 0, none⟩) l := fun i x hx => by
  obtain ⟨hi, e⟩ := hl i x hx
  obtain ⟨a, b, c⟩ := h.2 i hi
  rw [e] at a b c
  refine ⟨g, 0, rfl, fun j v hv => ?_⟩
  rw [show 0 + i * 3 + j = i * 3 + j by omega, h.1.cell]
  match j with
  | 0 => simp [enc3] at hv; subst hv; exact a
  | 1 => simp [enc3] at hv; subst hv; exact b
  | 2 => simp [enc3] at hv; subst hv; exact c
  | _ + 3 => simp [enc3] at hv

def CloneBPost (n : Nat) (l : List Jb) (w : World) (e : Ending) (w' : World) : Prop :=
  ∃ g c cur, e = .returned (.slice (some ⟨g, 0, none⟩) n c) ∧ n ≤ c ∧ w.heap.size ≤ g ∧ JobsIn w' g cur n (jbA l) ∧ Gr w w'

set_option maxHeartbeats 1000000 in
theorem cloneB_any (b off n c : Nat) (ns : List Jb) (w : World) (hn : ns.length = n) (hl : n ≤ 4096) (hp : Tris w (some ⟨b, off, none⟩) ns) :
    Calls Try.prog 47 #[.slice (some ⟨b, off, none⟩) n c] w (CloneBPost n ns w) := by
  obtain ⟨i0, hi, hz0, hz1, hz2⟩ := info_parts Try.infoBnB
  have q : ∀ (w : World) (a : Option Addr) (n c n' c' : Nat), (binOp .eql 22 (.slice a n c) (.slice none n' c')).run Try.prog w = .ok (.bool a.isNone) w := fun w a n c n' c' => Lib.run_eql_slice_nil w _ _ a n c n' c' Try.underlying22
  have HN := Lib.hid hn
  have HP := Lib.hid hp
  clear hn hp
  go_enter Try.func47, Try.ntmps47
  go_wp2_with (at_builtin; refine wpList_append_own _ rfl _ _ 22 rfl w.heap.size 48 i0 _ 3 24 Try.underlying22 hi hz0 hz1 hz2 rfl (by decide) _ _ _ rfl (World.ownsRow_made w #[] 0 (Nat.le_refl _) (Nat.zero_le _) (by simp)) ⟨b, off, none⟩ n c (flatE enc3 ns) rfl ?qc1 ?qc2 ?qc3 ?qc4 ?qc5 ?qc6 ?_)
  case qc1 => rw [flatE_len enc3_len, HN.out]
  case qc2 =>
    intro j u hj
    rw [Addr.add_lit]
    exact alloc_old (flatE_cells enc3_len (by decide) HP.out j u hj)
  case qc3 => exact oneCell_flat enc3_one ns
  case qc4 => unfold maxLen; omega
  case qc5 => omega
  case qc6 => simp
  intro v' w1 hown hgrow hnil
  have hown' : w1.ownsRow w.heap.size 48 3 v' n (flatE enc3 ns) := by simpa using hown
  have HO := Lib.hid hown'
  have HG := Lib.hid hgrow
  have HNIL := Lib.hid hnil
  clear hown hgrow hnil hi hz0 hz1 hz2 q hown'
  go_wp2
  go_ret
  have hrd := fun g c (e : v' = .slice (some ⟨g, 0, none⟩) n c) => Rd_of_owns (g := g) (c := c) enc3_len HN.out (e ▸ HO.out)
  rcases HO.out.2 with ⟨ev, _⟩ | ⟨g, cap, cur, rfl, hg, hgb, hnc, _⟩
  · exact (HNIL.out ev).elim
  · refine ⟨g, cap, cur, rfl, hnc, hg, ⟨hgb, fun i hi => ?_⟩, ?_⟩
    · obtain ⟨b', off', e, hc⟩ := hrd g cap rfl i (jbA ns i) (getD_of (0, 0, 0) (by rw [HN.out]; exact hi))
      cases e
      have hB : Blk w1 g 48 cur := hgb
      have c0 := hc 0 _ rfl
      have c1 := hc 1 _ rfl
      have c2 := hc 2 _ rfl
      rw [hB.cell] at c0 c1 c2
      rw [show 0 + i * 3 + 0 = i * 3 by omega] at c0
      rw [show 0 + i * 3 + 1 = i * 3 + 1 by omega] at c1
      rw [show 0 + i * 3 + 2 = i * 3 + 2 by omega] at c2
      exact ⟨c0, c1, c2⟩
    · exact ((Below.refl _ w).alloc (Nat.le_refl _) _).grown HG.out (by simp) (by intro k hk; simp [Value.ownBlock] at hk; omega)

/-- A job that is ready later. -/
def lateJ (d : Int) (x : Jb) : Jb := (x.1 + d, x.2)

set_option maxRecDepth 100000 in
set_option maxHeartbeats 4000000 in
theorem delayed_any (b off n c : Nat) (l : List Jb) (d : Int) (w : World) (hn : l.length = n) (hl : n ≤ 32) (hJ : JobsP l) (hd : 0 ≤ d ∧ d ≤ 1048577) (hp : Tris w (some ⟨b, off, none⟩) l) :
    Calls Try.prog 29 #[.slice (some ⟨b, off, none⟩) n c, .int .i64 d] w fun e w' => ∃ A' c', e = .returned (.slice A' n c') ∧ Tris w' A' (l.map (lateJ d)) ∧ Gr w w' := by
  have HC := Lib.hid (cloneB_any b off n c l w hn (by omega) hp)
  have HN := Lib.hid hn
  have HJ := Lib.hid hJ
  clear hn hp hJ
  go_enter Try.func29, Try.ntmps29
  go_wp2_with fail
  refine HC.out.mono ?_
  rintro e w1 ⟨g, c1, cur, rfl, hc, hg, hJI, hg1⟩
  have HJI := Lib.hid hJI
  have HGB := Lib.hid hg
  clear hJI HC hg
  go_wp2_with fail
  go_loopw [11] (fun z wr => ∃ (k : Nat) (cur : Array Value), k ≤ n ∧ z = .int .i64 (k : Int) ∧ Hid (JobsIn wr g cur n (fun i => if i < k then lateJ d (jbA l i) else jbA l i)) ∧ Gr w wr) (fun z _ => n - (intOf z).toNat)
  case atStart => exact ⟨0, cur, Nat.zero_le _, rfl, Lib.hid (by simpa using HJI.out), hg1⟩
  case round =>
    clear hg1 HJI
    obtain ⟨k, cur, hk, rfl, hI, hgr⟩ := hrel
    by_cases hlt : k < n
    · have hki : (k : Int) < (n : Int) := by omega
      have hb := HJ.out (jbA l k) (by unfold jbA; rw [List.getD_eq_getElem?_getD, List.getElem?_eq_getElem (by rw [HN.out]; exact hlt)]; exact List.getElem_mem _)
      obtain ⟨q0, -, -⟩ := hI.out.2 k hlt
      dsimp only at q0
      rw [if_neg (by omega)] at q0
      have c0 : wr.cell? ⟨g, 0 + k * 3, none⟩ = some (.int .i64 (jbA l k).1) := by rw [Nat.zero_add]; exact (hI.out.1.cell _).trans q0
      have f0 : wr.frozen? ⟨g, 0 + k * 3, none⟩ = false := hI.out.1.free _
      have c0' := c0
      have f0' := f0
      rw [Nat.zero_add] at c0' f0'
      obtain ⟨x, hx⟩ : ∃ x, (jbA l k).1 = x := ⟨_, rfl⟩
      rw [hx] at c0 c0' hb
      have hw : IntKind.i64.wrap (x + d) = x + d := IntWalk.i64_in _ (by omega)
      have HI2 : Hid (JobsIn (wr.setCell ⟨g, k * 3, none⟩ (.int .i64 (x + d))) g (cur.setIfInBounds (k * 3) (.int .i64 (x + d))) n (fun i => if i < k + 1 then lateJ d (jbA l i) else jbA l i)) := Lib.hid (by
        have := hI.out.put hlt (x + d)
        refine ⟨this.1, fun i hi => ?_⟩
        have h2 := this.2 i hi
        dsimp only at h2 ⊢
        by_cases e : i = k
        · subst e
          rw [if_pos rfl] at h2
          rw [if_pos (by omega)]
          rw [if_neg (by omega)] at h2
          unfold lateJ
          rw [hx]
          exact h2
        · rw [if_neg e] at h2
          by_cases e2 : i < k
          · rw [if_pos e2] at h2
            rw [if_pos (by omega)]; exact h2
          · rw [if_neg e2] at h2
            rw [if_neg (by omega)]; exact h2)
      have HG2 : Hid (Gr w (wr.setCell ⟨g, k * 3, none⟩ (.int .i64 (x + d)))) := Lib.hid (hgr.setCell HGB.out _)
      clear hI q0 hx hb
      go_wp2_with fail
      go_roundw
      case rel => exact ⟨k + 1, _, by omega, by go_num, HI2, HG2.out⟩
      case measure => simp [intOf]; omega
    · obtain rfl : k = n := by omega
      have HT : Hid (Tris wr (some ⟨g, 0, none⟩) (l.map (lateJ d))) := Lib.hid (hI.out.tris (fun i x hx => by
        rw [List.getElem?_map] at hx
        obtain ⟨y, hy, rfl⟩ := Option.map_eq_some_iff.1 hx
        have hi : i < k := by have := (List.getElem?_eq_some_iff.1 hy).1; rw [HN.out] at this; exact this
        refine ⟨hi, ?_⟩
        rw [if_pos hi]
        unfold jbA
        rw [List.getD_eq_getElem?_getD, hy]; rfl))
      clear hI hlt
      go_wp2_with fail
      go_ret
      exact ⟨_, _, rfl, HT.out, hgr⟩

end Go.Proofs.Ytfmojiaaoebodaa

namespace Go.Proofs.Ytfmojiaaoebodaa
open Go.RowKit
set_option linter.unusedSimpArgs false

theorem cloneB0_any (c : Nat) (w : World) : Calls Try.prog 47 #[.slice none 0 c] w fun e w' => e = .returned (.slice none 0 0) ∧ w' = w := by
  have q : ∀ (w : World) (a : Option Addr) (n c n' c' : Nat), (binOp .eql 22 (.slice a n c) (.slice none n' c')).run Try.prog w = .ok (.bool a.isNone) w := fun w a n c n' c' => Lib.run_eql_slice_nil w _ _ a n c n' c' Try.underlying22
  go_enter Try.func47, Try.ntmps47
  go_wp2_with fail
  go_ret
  exact ⟨rfl, rfl⟩

theorem delayed0_any (c : Nat) (d : Int) (w : World) : Calls Try.prog 29 #[.slice none 0 c, .int .i64 d] w fun e w' => e = .returned (.slice none 0 0) ∧ w' = w := by
  have HC := Lib.hid (cloneB0_any c w)
  go_enter Try.func29, Try.ntmps29
  go_wp2_with fail
  refine HC.out.mono ?_
  rintro e w1 ⟨rfl, rfl⟩
  go_wp2_with fail
  go_loop [11] (fun z => z = .int .i64 0) (fun _ => 0)
  case atStart => rfl
  case round =>
    subst hrel
    go_wp2_with fail
    try rw [Exit.noGoto_ret]
    go_ret
    exact ⟨rfl, rfl⟩

/-- A slice of jobs: some row, or nil. -/
def RowA (A : Option Addr) (n : Nat) : Prop := (∃ b off, A = some ⟨b, off, none⟩) ∨ (A = none ∧ n = 0)
theorem delayedA_any (A : Option Addr) (n c : Nat) (l : List Jb) (d : Int) (w : World) (hA : RowA A n) (hn : l.length = n) (hl : n ≤ 32) (hJ : JobsP l) (hd : 0 ≤ d ∧ d ≤ 1048577) (hp : Tris w A l) :
    Calls Try.prog 29 #[.slice A n c, .int .i64 d] w fun e w' => ∃ A' c', e = .returned (.slice A' n c') ∧ Tris w' A' (l.map (lateJ d)) ∧ Gr w w' := by
  rcases hA with ⟨b, off, rfl⟩ | ⟨rfl, rfl⟩
  · exact delayed_any b off n c l d w hn hl hJ hd hp
  · obtain rfl : l = [] := List.eq_nil_of_length_eq_zero hn
    exact (delayed0_any c d w).mono fun e w' ⟨h1, h2⟩ => ⟨none, 0, h1, Rd_nil _ _, by rw [h2]; exact Gr.refl _⟩

theorem late_p {l : List Jb} (h : JobsV l) {d : Int} (hd : 0 ≤ d ∧ d ≤ 1048577) : JobsP (l.map (lateJ d)) ∧ ∀ j ∈ l.map (lateJ d), j.2.1 ≤ 1048576 := by
  refine ⟨fun j hj => ?_, fun j hj => ?_⟩
  all_goals
    obtain ⟨x, hx, rfl⟩ := List.mem_map.1 hj
    have := h x hx
    unfold lateJ
    dsimp only
    omega

/-- There is a schedule when all jobs are ready d later. -/
def CanL (B : Nat) (l : List Jb) (d : Int) : Prop := ∃ s, SchedP B (l.map (lateJ d)) s

set_option maxRecDepth 100000 in
set_option maxHeartbeats 8000000 in
theorem latest1_any (B : Nat) (A : Option Addr) (n c : Nat) (l : List Jb) (d : Int) (X Y : Nat) (w : World) (hA : RowA A n) (hB : 1 ≤ B ∧ B ≤ 8) (hn : l.length = n) (hl : n ≤ 32) (hV : JobsV l) (hd : 0 ≤ d ∧ d ≤ 1048577) (hp : Tris w A l)
    (hX : w.cell? ⟨X, 0, none⟩ = some (.int .i64 (B : Int))) (hY : w.cell? ⟨Y, 0, none⟩ = some (.slice A n c)) :
    Calls Try.prog 28 #[.int .i64 d, .pointer (some ⟨X, 0, none⟩), .pointer (some ⟨Y, 0, none⟩)] w fun e w' => ∃ b : Bool, e = .returned (.bool b) ∧ (b = false ↔ CanL B l d) ∧ Gr w w' := by
  obtain ⟨hJ2, hdu⟩ := late_p hV hd
  have hn2 : (l.map (lateJ d)).length = n := by rw [List.length_map, hn]
  have HDL := Lib.hid (fun W (hW : Gr w W) => delayedA_any A n c l d W hA hn hl hV.p hd (hp.keep hW))
  have HNP := Lib.hid (fun (A' : Option Addr) (c' : Nat) W (hT : Tris W A' (l.map (lateJ d))) => (newPlan_any B A' n c' (l.map (lateJ d)) W hB hn2 hl hJ2 hT).mono (fun e w' h => h.at_ hJ2))
  have HPO := Lib.hid (fun (A' : Option Addr) (c' p : Nat) (F : Nat → Option Nat) (r' : Nat → Nat → Int) W (h : PlanAt B n A' c' (l.map (lateJ d)) p F r' W) => possible_any W h hn2 hl hB.2 hJ2 hdu)
  have hdr : Gr w w.drew := (Gr.refl w).drew
  clear hp hV hJ2 hdu hn2 hn
  go_enter Try.func28, Try.ntmps28
  go_upto_region 1 with fail
  refine wp_region_held_drew (S := (fun W' => Gr w W' ∧ W'.cell? ⟨X, 0, none⟩ = some (.int .i64 (B : Int)) ∧ W'.cell? ⟨Y, 0, none⟩ = some (.slice A n c))) ?_ ?_ (fun hHeld => ?_)
  · kernel_rfl
  · ((try dsimp only); (first | exact hHeld | exact ⟨hdr, hdr.keep hX, hdr.keep hY⟩ | exact ⟨hHeld.1.trans HG9.out, HG9.out.keep hHeld.2.1, HG9.out.keep hHeld.2.2⟩))
  refine take_in (i := 0) (v := ?_) (d := (some 5)) rfl rfl ?_ ?_ ?_ ?_ ?_ ?_ ?_ ?_
  rotate_left
  · kernel_rfl
  · kernel_rfl
  · kernel_rfl
  · (intro _ _ _ hq; exact hq)
  · rfl
  · (intro _w hSw; (try dsimp only at hSw); go_simp; try with_reducible rfl)
  · assumption
  try simp only [Act.put, List.setIfInBounds_toArray, List.set_cons_zero, List.set_cons_succ]
  refine take_in (i := 1) (v := ?_) (d := (some 6)) rfl rfl ?_ ?_ ?_ ?_ ?_ ?_ ?_ ?_
  rotate_left
  · kernel_rfl
  · kernel_rfl
  · kernel_rfl
  · (intro _ _ _ hq; exact hq)
  · rfl
  · (intro _w hSw; (try dsimp only at hSw); go_simp; try with_reducible rfl)
  · assumption
  try simp only [Act.put, List.setIfInBounds_toArray, List.set_cons_zero, List.set_cons_succ]
  refine take_in (i := 2) (v := ?_) (d := (some 7)) rfl rfl ?_ ?_ ?_ ?_ ?_ ?_ ?_ ?_
  rotate_left
  · kernel_rfl
  · kernel_rfl
  · kernel_rfl
  · (intro _ _ _ hq; exact hq)
  · rfl
  · (intro _w hSw; (try dsimp only at hSw); go_simp; try with_reducible rfl)
  · assumption
  try simp only [Act.put, List.setIfInBounds_toArray, List.set_cons_zero, List.set_cons_succ]
  refine wpAnyH_ready (rs := [3]) ?_ ?_ ?_
  · kernel_rfl
  · simp
  refine (AllReadyH.cons rfl (fun K hK => ?_) AllReadyH.nil)
  go_simp
  first | (go_at_call 29; (with_reducible refine (HDL.out _ hHeld.1).mono ?_); rintro e w2 ⟨A2, c2, rfl, hT2, hg2⟩; have HG9 := Lib.hid hg2; have HT2 := Lib.hid hT2; clear hg2 hT2) | (go_at_call 18; (with_reducible refine (HNP.out A2 c2 _ HT2.out).mono ?_); rintro e w3 ⟨p, F, r', rfl, hat, hg3⟩; have HG9 := Lib.hid hg3; have HAT := Lib.hid hat; clear hg3 hat) | (go_at_call 26; (with_reducible refine (HPO.out A2 c2 p F r' _ HAT.out).mono ?_); rintro e w4 ⟨b, rfl, hb, rfl⟩; have HB := Lib.hid hb; clear hb)
  refine hK.out _ _ ?_ (fun hHeld => ?_)
  · ((try dsimp only); (first | exact hHeld | exact ⟨hdr, hdr.keep hX, hdr.keep hY⟩ | exact ⟨hHeld.1.trans HG9.out, HG9.out.keep hHeld.2.1, HG9.out.keep hHeld.2.2⟩))
  clear hK K
  try simp only [Act.put, List.setIfInBounds_toArray, List.set_cons_zero, List.set_cons_succ]
  refine wpAnyH_ready (rs := [4]) ?_ ?_ ?_
  · kernel_rfl
  · simp
  refine (AllReadyH.cons rfl (fun K hK => ?_) AllReadyH.nil)
  go_simp
  first | (go_at_call 29; (with_reducible refine (HDL.out _ hHeld.1).mono ?_); rintro e w2 ⟨A2, c2, rfl, hT2, hg2⟩; have HG9 := Lib.hid hg2; have HT2 := Lib.hid hT2; clear hg2 hT2) | (go_at_call 18; (with_reducible refine (HNP.out A2 c2 _ HT2.out).mono ?_); rintro e w3 ⟨p, F, r', rfl, hat, hg3⟩; have HG9 := Lib.hid hg3; have HAT := Lib.hid hat; clear hg3 hat) | (go_at_call 26; (with_reducible refine (HPO.out A2 c2 p F r' _ HAT.out).mono ?_); rintro e w4 ⟨b, rfl, hb, rfl⟩; have HB := Lib.hid hb; clear hb)
  refine hK.out _ _ ?_ (fun hHeld => ?_)
  · ((try dsimp only); (first | exact hHeld | exact ⟨hdr, hdr.keep hX, hdr.keep hY⟩ | exact ⟨hHeld.1.trans HG9.out, HG9.out.keep hHeld.2.1, HG9.out.keep hHeld.2.2⟩))
  clear hK K
  try simp only [Act.put, List.setIfInBounds_toArray, List.set_cons_zero, List.set_cons_succ]
  refine wpAnyH_ready (rs := [5]) ?_ ?_ ?_
  · kernel_rfl
  · simp
  refine (AllReadyH.cons rfl (fun K hK => ?_) AllReadyH.nil)
  go_simp
  first | (go_at_call 29; (with_reducible refine (HDL.out _ hHeld.1).mono ?_); rintro e w2 ⟨A2, c2, rfl, hT2, hg2⟩; have HG9 := Lib.hid hg2; have HT2 := Lib.hid hT2; clear hg2 hT2) | (go_at_call 18; (with_reducible refine (HNP.out A2 c2 _ HT2.out).mono ?_); rintro e w3 ⟨p, F, r', rfl, hat, hg3⟩; have HG9 := Lib.hid hg3; have HAT := Lib.hid hat; clear hg3 hat) | (go_at_call 26; (with_reducible refine (HPO.out A2 c2 p F r' _ HAT.out).mono ?_); rintro e w4 ⟨b, rfl, hb, rfl⟩; have HB := Lib.hid hb; clear hb)
  refine hK.out _ _ ?_ (fun hHeld => ?_)
  · ((try dsimp only); (first | exact hHeld | exact ⟨hdr, hdr.keep hX, hdr.keep hY⟩ | exact ⟨hHeld.1.trans HG9.out, HG9.out.keep hHeld.2.1, HG9.out.keep hHeld.2.2⟩))
  clear hK K
  try simp only [Act.put, List.setIfInBounds_toArray, List.set_cons_zero, List.set_cons_succ]
  refine take_in (i := 6) (v := ?_) (d := (some 11)) rfl rfl ?_ ?_ ?_ ?_ ?_ ?_ ?_ ?_
  rotate_left
  · kernel_rfl
  · kernel_rfl
  · kernel_rfl
  · (intro _ _ _ hq; exact hq)
  · rfl
  · (intro _w hSw; (try dsimp only at hSw); go_simp; try with_reducible rfl)
  · assumption
  try simp only [Act.put, List.setIfInBounds_toArray, List.set_cons_zero, List.set_cons_succ]
  refine take_in (i := 7) (v := ?_) (d := (some 4)) rfl rfl ?_ ?_ ?_ ?_ ?_ ?_ ?_ ?_
  rotate_left
  · kernel_rfl
  · kernel_rfl
  · kernel_rfl
  · (intro _ _ _ hq; exact hq)
  · rfl
  · (intro _w hSw; (try dsimp only at hSw); go_simp; try with_reducible rfl)
  · assumption
  try simp only [Act.put, List.setIfInBounds_toArray, List.set_cons_zero, List.set_cons_succ]
  refine wpAnyH_done ?_ ?_ _
  · kernel_rfl
  rotate_left
  all_goals
    have HQ : Hid ((!b) = false ↔ CanL B l d) := Lib.hid (by rw [← show (b = true) ↔ CanL B l d from HB.out]; cases b <;> simp)
    have HG := Lib.hid hHeld.1
    clear hHeld HB
    go_wp2_with fail
    go_ret
    exact ⟨_, rfl, HQ.out, HG.out⟩

set_option maxRecDepth 100000 in
set_option maxHeartbeats 8000000 in
theorem search_late (B : Nat) (A : Option Addr) (n c : Nat) (l : List Jb) (X Y : Nat) (w : World) (hA : RowA A n) (hB : 1 ≤ B ∧ B ≤ 8) (hn : l.length = n) (hl : n ≤ 32) (hV : JobsV l) (hp : Tris w A l)
    (hX : w.cell? ⟨X, 0, none⟩ = some (.int .i64 (B : Int))) (hY : w.cell? ⟨Y, 0, none⟩ = some (.slice A n c)) :
    Calls Try.prog 27 #[.int .i64 1048577, .func (.func 28) #[] #[.pointer (some ⟨X, 0, none⟩), .pointer (some ⟨Y, 0, none⟩)]] w fun e w' => ∃ i : Nat, e = .returned (.int .i64 (i : Int)) ∧ i ≤ 1048577 ∧ (i = 0 ∨ CanL B l ((i : Int) - 1)) ∧ (i = 1048577 ∨ ¬ CanL B l (i : Int)) ∧ Gr w w' := by
  have HCL := Lib.hid (fun (d : Int) W (hd : 0 ≤ d ∧ d ≤ 1048577) (hW : Gr w W) => latest1_any B A n c l d X Y W hA hB hn hl hV hd (hp.keep hW) (hW.keep hX) (hW.keep hY))
  clear hp hV hX hY hn
  go_enter Try.func27, Try.ntmps27
  go_wp2_with fail
  go_loopw [5, 6] (fun zi zj wr => ∃ i j : Nat, i ≤ j ∧ j ≤ 1048577 ∧ zi = .int .i64 (i : Int) ∧ zj = .int .i64 (j : Int) ∧ Hid (i = 0 ∨ CanL B l ((i : Int) - 1)) ∧ Hid (j = 1048577 ∨ ¬ CanL B l (j : Int)) ∧ Gr w wr) (fun zi zj _ => (intOf zj).toNat - (intOf zi).toNat)
  case atStart => exact ⟨0, 1048577, by omega, Nat.le_refl _, rfl, rfl, Lib.hid (Or.inl rfl), Lib.hid (Or.inl rfl), Gr.refl _⟩
  case round =>
    obtain ⟨i, j, hij, hj, rfl, rfl, hi1, hj1, hg⟩ := hrel
    by_cases hlt : i < j
    · have hki : (i : Int) < (j : Int) := by omega
      go_upto_region 4 with fail
      obtain ⟨h, hh⟩ : ∃ h : Nat, ((i : Int) + (j : Int)) / 2 = (h : Int) := ⟨(i + j) / 2, by omega⟩
      have hih : i ≤ h := by omega
      have hhj : h < j := by omega
      rw [hh]
      have HCH := Lib.hid (HCL.out (h : Int) wr ⟨by omega, by omega⟩ hg)
      clear hh
      go_wp2_with fail
      refine HCH.out.mono ?_
      rintro e w' ⟨b, rfl, hb, hg2⟩
      have hg3 := hg.trans hg2
      have HB := Lib.hid hb
      clear hb hg2 HCH
      cases b with
      | false =>
        have HC : Hid (h + 1 = 0 ∨ CanL B l (((h + 1 : Nat) : Int) - 1)) := Lib.hid (Or.inr (by rw [show ((h + 1 : Nat) : Int) - 1 = (h : Int) by omega]; exact HB.out.1 rfl))
        clear HB
        go_wp2_with fail
        go_roundw
        case rel => exact ⟨h + 1, j, by omega, hj, by go_num, rfl, HC, hj1, hg3⟩
        case measure => simp [intOf]; omega
      | true =>
        have HC : Hid (h = 1048577 ∨ ¬ CanL B l (h : Int)) := Lib.hid (Or.inr (fun hc => by have := HB.out.2 hc; cases this))
        clear HB
        go_wp2_with fail
        go_roundw
        case rel => exact ⟨i, h, hih, by omega, rfl, rfl, hi1, HC, hg3⟩
        case measure => simp [intOf]; omega
    · obtain rfl : i = j := by omega
      go_wp2_with fail
      try rw [Exit.noGoto_ret]
      go_ret
      exact ⟨i, rfl, hj, hi1.out, hj1.out, hg⟩

/-- What Latest answers. -/
def LatP (B : Int) (l : List Jb) (w : World) (e : Ending) (w' : World) : Prop :=
  (okT B l = false ∧ e = .returned (.tuple #[.int .i64 0, .int .i64 2]) ∧ Gr w w') ∨
  (okT B l = true ∧ ∃ i : Nat, e = .returned (.tuple #[.int .i64 ((i : Int) - 1), .int .i64 0]) ∧ i ≤ 1048577 ∧ (i = 0 ∨ CanL B.toNat l ((i : Int) - 1)) ∧ (i = 1048577 ∨ ¬ CanL B.toNat l (i : Int)) ∧ Gr w w')

set_option maxRecDepth 100000 in
set_option maxHeartbeats 8000000 in
theorem latest_any (B : Int) (A : Option Addr) (n c : Nat) (l : List Jb) (w : World) (hA : RowA A n) (hn : l.length = n) (hb : n ≤ 281474976710656) (hp : Tris w A l) :
    Calls Try.prog 15 #[.int .i64 B, .slice A n c] w (LatP B l w) := by
  have HIT := Lib.hid (fun W (hW : Gr w W) r hr => isTask_any B A n c l W hn hb (hp.keep hW) r hr)
  cases hr : okT B l with
  | false =>
    have HE := Lib.hid hr
    clear hr hp hn
    go_enter Try.func15, Try.ntmps15
    go_wp2_with fail
    generalize hW1 : World.alloc (World.alloc w _) _ = w1
    have hg1 : Gr w w1 := by rw [← hW1]; exact ((Gr.refl w).alloc _).alloc _
    clear hW1
    refine (HIT.out _ hg1 _ HE.out).mono ?_
    rintro e w2 ⟨rfl, hg2⟩
    go_wp2_with fail
    refine bodyPost_ret (v := .tuple #[.int .i64 0, .int .i64 2]) ?_ ?_ ?_
    · simp [results, Try.results15, go_sem]
    · rfl
    · exact Or.inl ⟨HE.out, rfl, hg1.trans hg2⟩
  | true =>
    obtain ⟨⟨hB1, hB8⟩, hn32, hV⟩ := okT_v hr
    rw [hn] at hn32
    obtain ⟨N, rfl⟩ : ∃ N : Nat, B = N := ⟨B.toNat, by omega⟩
    have HE := Lib.hid hr
    have HSE := Lib.hid (fun (X Y : Nat) W (hW : Gr w W) hX hY => search_late N A n c l X Y W hA (by omega) hn hn32 hV (hp.keep hW) hX hY)
    clear hr hV hp hn
    go_enter Try.func15, Try.ntmps15
    go_wp2_with fail
    generalize hW1 : World.alloc (World.alloc w _) _ = w1
    have hg1 : Gr w w1 := by rw [← hW1]; exact ((Gr.refl w).alloc _).alloc _
    have hX : w1.cell? ⟨w.heap.size, 0, none⟩ = some (.int .i64 (N : Int)) := by rw [← hW1]; exact alloc_old (alloc_new rfl rfl)
    have hY : w1.cell? ⟨w.heap.size + 1, 0, none⟩ = some (.slice A n c) := by rw [← hW1]; exact alloc_new (by simp) rfl
    clear hW1
    generalize w.heap.size = X at hX hY ⊢
    obtain ⟨Y, hYe⟩ : ∃ Y, X + 1 = Y := ⟨_, rfl⟩
    rw [hYe] at hY ⊢
    clear hYe
    refine (HIT.out _ hg1 _ HE.out).mono ?_
    rintro e w2 ⟨rfl, hg2⟩
    have hg3 := hg1.trans hg2
    have hX2 := hg2.keep hX
    have hY2 := hg2.keep hY
    have HSR := Lib.hid (HSE.out X Y w2 hg3 hX2 hY2)
    clear hX hY hg1 hg2 hX2 hY2
    go_wp2_with fail
    refine HSR.out.mono ?_
    rintro e w3 ⟨i, rfl, hi, hc1, hc2, hg4⟩
    have HC := Lib.hid (And.intro hc1 hc2)
    clear hc1 hc2 HSR
    go_wp2_with fail
    refine bodyPost_ret (v := .tuple #[.int .i64 ((i : Int) - 1), .int .i64 0]) ?_ ?_ ?_
    · simp [results, Try.results15, go_sem]
    · rfl
    · exact Or.inr ⟨HE.out, i, rfl, hi, HC.out.1, HC.out.2, hg3.trans hg4⟩

end Go.Proofs.Ytfmojiaaoebodaa
