/- Layer 5: what a site knows of a transaction; its replies. -/
import Derived.Test.YtnoeiocbmhkmeaaPtA
import Derived.Deep.CutRange
import Derived.StillTailTactics
namespace Go.Proofs.Ytnoeiocbmhkmeaa
open Go.RowKit
open Go.Maps (Keyed)
set_option linter.unusedSimpArgs false

/-- A number of 64 bits. -/
def I64 (x : Int) : Prop := -9223372036854775808 ≤ x ∧ x ≤ 9223372036854775807
theorem intp_law : Keyed Try.prog 3 := Go.Maps.int_keyed Try.underlying3
theorem intp_key {a : Int} (h : I64 a) : ∃ kl, keyOf Try.prog 3 (intK a) = some kl := by
  have hwf : (Lit.int .i64 a).wf = true := by
    have e1 : IntKind.i64.min = -9223372036854775808 := by decide
    have e2 : IntKind.i64.max = 9223372036854775807 := by decide
    simp [Lit.wf, e1, e2]
    unfold I64 at h; omega
  exact ⟨.int .i64 a, by simp [keyOf, mapKey, intK, Try.underlying3, hwf]⟩
section
variable {B : Nat} {w : World} {s : Sx}
theorem Its.sBlk (h : Its B w (siteIt s)) : Blk w s.p 81 (siteCs s) := h.at (D := .cells _ _) (by simp [siteIt])
theorem Its.sProm (h : Its B w (siteIt s)) : Mp Try.prog 3 intK promV w s.mp s.prom := h.at (D := .proms _) (by simp [siteIt])
theorem Its.sKept (h : Its B w (siteIt s)) : Mp Try.prog 3 intK boolV w s.mq s.kept := h.at (D := .bools _) (by simp [siteIt])
theorem Its.sDrop (h : Its B w (siteIt s)) : Mp Try.prog 3 intK boolV w s.mr s.drop := h.at (D := .bools _) (by simp [siteIt])
theorem Its.sOpn (h : Its B w (siteIt s)) : Mp Try.prog 3 intK dlV w s.mo s.opn := h.at (D := .deals _) (by simp [siteIt])
theorem Its.sGrt (h : Its B w (siteIt s)) : Mp Try.prog 3 intK dlV w s.mg s.grt := h.at (D := .deals _) (by simp [siteIt])
theorem Its.sCells (h : Its B w (siteIt s)) : w.cell? ⟨s.p, 0, none⟩ = some (.int .i64 s.num) ∧ w.cell? ⟨s.p, 1, none⟩ = some (.int .i64 s.stock) ∧ w.cell? ⟨s.p, 2, none⟩ = some (.bool s.up) ∧ w.cell? ⟨s.p, 3, none⟩ = some (.map (some s.mp)) ∧ w.cell? ⟨s.p, 4, none⟩ = some (.map (some s.mq)) ∧
    w.cell? ⟨s.p, 5, none⟩ = some (.map (some s.mr)) ∧ w.cell? ⟨s.p, 6, none⟩ = some (.map (some s.mo)) ∧ w.cell? ⟨s.p, 7, none⟩ = some (.map (some s.mg)) :=
  ⟨h.sBlk.cell 0, h.sBlk.cell 1, h.sBlk.cell 2, h.sBlk.cell 3, h.sBlk.cell 4, h.sBlk.cell 5, h.sBlk.cell 6, h.sBlk.cell 7⟩
end
/-- What a site knows of a transaction. -/
def outS (s : Sx) (tx : Int) : Int := if (mget s.prom tx).isSome then 1 else if (mget s.kept tx).getD false then 2 else if (mget s.drop tx).getD false then 3 else 0

theorem look_bool {w : World} {g : Nat} {l : List (Int × Bool)} {tx : Int} (h : Mp Try.prog 3 intK boolV w g l) (htx : I64 tx) : (Instr.lookup 78 (.map (some g)) (.int .i64 tx) false).run Try.prog w = .ok (.bool ((mget l tx).getD false)) w := by
  obtain ⟨kl, hk⟩ := intp_key htx
  have := h.look intK_inj intp_law Try.underlying78 (z := .bool false) (by kernel_rfl) false hk
  rw [show (.int .i64 tx : Value) = intK tx from rfl, this]
  cases mget l tx <;> rfl
theorem look_prom {w : World} {g : Nat} {l : List (Int × (Int × Int))} {tx : Int} (h : Mp Try.prog 3 intK promV w g l) (htx : I64 tx) : (Instr.lookup 77 (.map (some g)) (.int .i64 tx) true).run Try.prog w = .ok (.tuple #[promV ((mget l tx).getD (0, 0)), .bool (mget l tx).isSome]) w := by
  obtain ⟨kl, hk⟩ := intp_key htx
  have := h.look intK_inj intp_law Try.underlying77 (z := promV (0, 0)) (by kernel_rfl) true hk
  rw [show (.int .i64 tx : Value) = intK tx from rfl, this]
  cases mget l tx <;> rfl
set_option maxRecDepth 100000 in
set_option maxHeartbeats 4000000 in
theorem outcome_any {B : Nat} {s : Sx} (tx : Int) (w : World) (h : Its B w (siteIt s)) (htx : I64 tx) : Calls Try.prog 45 #[.pointer (some ⟨s.p, 0, none⟩), .int .i64 tx] w fun e w' => e = .returned (.int .i64 (outS s tx)) ∧ Gr w w' := by
  obtain ⟨-, -, -, c3, c4, c5, -, -⟩ := h.sCells
  have l1 := look_prom h.sProm htx
  have l2 := fun o => look_bool (h.sKept.keep ((Gr.refl w).alloc o)) htx
  have l3 := fun o => look_bool (h.sDrop.keep ((Gr.refl w).alloc o)) htx
  have HO : Hid (outS s tx = if (mget s.prom tx).isSome then 1 else if (mget s.kept tx).getD false then 2 else if (mget s.drop tx).getD false then 3 else 0) := Lib.hid rfl
  obtain ⟨r, hr⟩ : ∃ r, outS s tx = r := ⟨_, rfl⟩
  rw [hr] at HO ⊢
  clear h hr
  generalize (mget s.prom tx).isSome = b1 at l1 HO
  generalize (mget s.prom tx).getD (0, 0) = pr at l1
  generalize (mget s.kept tx).getD false = b2 at l2 HO
  generalize (mget s.drop tx).getD false = b3 at l3 HO
  obtain ⟨p1, p2⟩ := pr
  unfold promV at l1
  go_enter Try.func45, Try.ntmps45
  cases b1 with
  | true =>
    go_wp2_with fail
    go_ret
    exact ⟨ret_int (by rw [HO.out]; simp), (Gr.refl w).alloc _⟩
  | false =>
    have c4 := fun o => ((Gr.refl w).alloc o).keep c4
    have c5 := fun o => ((Gr.refl w).alloc o).keep c5
    cases b2 with
    | true =>
      go_wp2_with fail
      go_ret
      exact ⟨ret_int (by rw [HO.out]; simp), (Gr.refl w).alloc _⟩
    | false =>
      cases b3 with
      | true =>
        go_wp2_with fail
        go_ret
        exact ⟨ret_int (by rw [HO.out]; simp), (Gr.refl w).alloc _⟩
      | false =>
        go_wp2_with fail
        go_ret
        exact ⟨ret_int (by rw [HO.out]; simp), (Gr.refl w).alloc _⟩

/-- The letter that answers another one. -/
def repL (s : Sx) (m : Ml) (k : Int) : Ml := (s.num, m.1, k, m.2.2.2.1, 0)
/-- Letters in new memory. -/
def LetP (l : List Ml) (w : World) (e : Ending) (w' : World) : Prop := ∃ A c, e = .returned (.slice A l.length c) ∧ Rd 5 enc5m w' A l ∧ Gr w w' ∧ l.length ≤ c
set_option maxRecDepth 100000 in
set_option maxHeartbeats 4000000 in
theorem reply_any {B : Nat} {s : Sx} (m : Ml) (k : Int) (w : World) (h : Its B w (siteIt s)) : Calls Try.prog 79 #[.pointer (some ⟨s.p, 0, none⟩), .agg #[.int .i64 m.1, .int .i64 m.2.1, .int .i64 m.2.2.1, .int .i64 m.2.2.2.1, .int .i64 m.2.2.2.2], .int .i64 k] w (LetP [repL s m k] w) := by
  have c0 := h.sCells.1
  obtain ⟨f, t, kd, tx, n⟩ := m
  unfold repL
  dsimp only
  go_enter Try.func79, Try.ntmps79
  go_upto_region 1 with fail
  generalize hW1 : World.alloc w _ = w1
  have hg1 : Gr w w1 := by rw [← hW1]; exact (Gr.refl w).alloc _
  have hb : Blk w1 w.heap.size 87 #[.int .i64 f, .int .i64 t, .int .i64 kd, .int .i64 tx, .int .i64 n] := by rw [← hW1]; exact Blk.new w _ _ rfl
  generalize w.heap.size = U at hb ⊢
  have m0 := hb.cell 0
  have m3 := hb.cell 3
  replace c0 := hg1.keep c0
  clear hW1 hb
  refine wp_region_held_drew (S := (fun W' => W'.cell? ⟨s.p, 0, none⟩ = some (.int .i64 s.num) ∧ W'.cell? ⟨U, 0, none⟩ = some (.int .i64 f) ∧ W'.cell? ⟨U, 3, none⟩ = some (.int .i64 tx))) ?_ ?_ (fun hHeld => ?_)
  · kernel_rfl
  · ((try dsimp only); ((try go_split_ands); (repeat' apply And.intro) <;> (repeat (first | assumption | (exact Gr.refl _) | (refine Gr.drew ?_) | (refine Gr.alloc ?_ _) | (refine alloc_old ?_) | (refine Gr.keep (by assumption) ?_) | (refine Gr.trans ?_ (by assumption))))))
  refine take_in (i := 0) (v := ?_) (d := (some 7)) rfl rfl ?_ ?_ ?_ ?_ ?_ ?_ ?_ ?_
  rotate_left
  · kernel_rfl
  · kernel_rfl
  · kernel_rfl
  · (intro _ _ _ hq; exact hq)
  · rfl
  · (intro _w hSw; (try dsimp only at hSw); go_simp; try with_reducible rfl)
  · assumption
  try simp only [Act.put, List.setIfInBounds_toArray, List.set_cons_zero, List.set_cons_succ]
  refine take_in (i := 1) (v := ?_) (d := (some 8)) rfl rfl ?_ ?_ ?_ ?_ ?_ ?_ ?_ ?_
  rotate_left
  · kernel_rfl
  · kernel_rfl
  · kernel_rfl
  · (intro _ _ _ hq; exact hq)
  · rfl
  · (intro _w hSw; (try dsimp only at hSw); go_simp; try with_reducible rfl)
  · assumption
  try simp only [Act.put, List.setIfInBounds_toArray, List.set_cons_zero, List.set_cons_succ]
  refine take_in (i := 2) (v := ?_) (d := (some 9)) rfl rfl ?_ ?_ ?_ ?_ ?_ ?_ ?_ ?_
  rotate_left
  · kernel_rfl
  · kernel_rfl
  · kernel_rfl
  · (intro _ _ _ hq; exact hq)
  · rfl
  · (intro _w hSw; (try dsimp only at hSw); go_simp; try with_reducible rfl)
  · assumption
  try simp only [Act.put, List.setIfInBounds_toArray, List.set_cons_zero, List.set_cons_succ]
  refine take_in (i := 3) (v := ?_) (d := (some 10)) rfl rfl ?_ ?_ ?_ ?_ ?_ ?_ ?_ ?_
  rotate_left
  · kernel_rfl
  · kernel_rfl
  · kernel_rfl
  · (intro _ _ _ hq; exact hq)
  · rfl
  · (intro _w hSw; (try dsimp only at hSw); go_simp; try with_reducible rfl)
  · assumption
  try simp only [Act.put, List.setIfInBounds_toArray, List.set_cons_zero, List.set_cons_succ]
  refine take_in (i := 4) (v := ?_) (d := (some 11)) rfl rfl ?_ ?_ ?_ ?_ ?_ ?_ ?_ ?_
  rotate_left
  · kernel_rfl
  · kernel_rfl
  · kernel_rfl
  · (intro _ _ _ hq; exact hq)
  · rfl
  · (intro _w hSw; (try dsimp only at hSw); go_simp; try with_reducible rfl)
  · assumption
  try simp only [Act.put, List.setIfInBounds_toArray, List.set_cons_zero, List.set_cons_succ]
  refine take_in (i := 5) (v := ?_) (d := (some 12)) rfl rfl ?_ ?_ ?_ ?_ ?_ ?_ ?_ ?_
  rotate_left
  · kernel_rfl
  · kernel_rfl
  · kernel_rfl
  · (intro _ _ _ hq; exact hq)
  · rfl
  · (intro _w hSw; (try dsimp only at hSw); go_simp; try with_reducible rfl)
  · assumption
  try simp only [Act.put, List.setIfInBounds_toArray, List.set_cons_zero, List.set_cons_succ]
  refine take_in (i := 6) (v := ?_) (d := (some 13)) rfl rfl ?_ ?_ ?_ ?_ ?_ ?_ ?_ ?_
  rotate_left
  · kernel_rfl
  · kernel_rfl
  · kernel_rfl
  · (intro _ _ _ hq; exact hq)
  · rfl
  · (intro _w hSw; (try dsimp only at hSw); go_simp; try with_reducible rfl)
  · assumption
  try simp only [Act.put, List.setIfInBounds_toArray, List.set_cons_zero, List.set_cons_succ]
  refine take_in (i := 7) (v := ?_) (d := (some 14)) rfl rfl ?_ ?_ ?_ ?_ ?_ ?_ ?_ ?_
  rotate_left
  · kernel_rfl
  · kernel_rfl
  · kernel_rfl
  · (intro _ _ _ hq; exact hq)
  · rfl
  · (intro _w hSw; (try dsimp only at hSw); go_simp; try with_reducible rfl)
  · assumption
  try simp only [Act.put, List.setIfInBounds_toArray, List.set_cons_zero, List.set_cons_succ]
  refine take_in (i := 8) (v := ?_) (d := (some 15)) rfl rfl ?_ ?_ ?_ ?_ ?_ ?_ ?_ ?_
  rotate_left
  · kernel_rfl
  · kernel_rfl
  · kernel_rfl
  · (intro _ _ _ hq; exact hq)
  · rfl
  · (intro _w hSw; (try dsimp only at hSw); go_simp; try with_reducible rfl)
  · assumption
  try simp only [Act.put, List.setIfInBounds_toArray, List.set_cons_zero, List.set_cons_succ]
  refine take_in (i := 9) (v := ?_) (d := (some 16)) rfl rfl ?_ ?_ ?_ ?_ ?_ ?_ ?_ ?_
  rotate_left
  · kernel_rfl
  · kernel_rfl
  · kernel_rfl
  · (intro _ _ _ hq; exact hq)
  · rfl
  · (intro _w hSw; (try dsimp only at hSw); go_simp; try with_reducible rfl)
  · assumption
  try simp only [Act.put, List.setIfInBounds_toArray, List.set_cons_zero, List.set_cons_succ]
  refine wpAnyH_ready (rs := [10]) ?_ ?_ ?_
  · kernel_rfl
  · simp
  refine (AllReadyH.cons rfl (fun K hK => ?_) AllReadyH.nil)
  go_simp
  refine hK.out _ _ ?_ (fun hHeld => ?_)
  · ((try dsimp only); ((try go_split_ands); (repeat' apply And.intro) <;> (repeat (first | assumption | (exact Gr.refl _) | (refine Gr.drew ?_) | (refine Gr.alloc ?_ _) | (refine alloc_old ?_) | (refine Gr.keep (by assumption) ?_) | (refine Gr.trans ?_ (by assumption))))))
  clear hK K
  try simp only [Act.put, List.setIfInBounds_toArray, List.set_cons_zero, List.set_cons_succ]
  refine take_in (i := 11) (v := ?_) (d := (some 6)) rfl rfl ?_ ?_ ?_ ?_ ?_ ?_ ?_ ?_
  rotate_left
  · kernel_rfl
  · kernel_rfl
  · kernel_rfl
  · (intro _ _ _ hq; exact hq)
  · rfl
  · (intro _w hSw; (try dsimp only at hSw); go_simp; try with_reducible rfl)
  · assumption
  try simp only [Act.put, List.setIfInBounds_toArray, List.set_cons_zero, List.set_cons_succ]
  refine wpAnyH_done ?_ ?_ _
  · kernel_rfl
  rotate_left
  all_goals
    have hgf := (hg1.alloc (.cells #[.int .i64 s.num, .int .i64 f, .int .i64 k, .int .i64 tx, .int .i64 0] 87)).drew
    have hrd : Rd 5 enc5m (w1.alloc (.cells #[.int .i64 s.num, .int .i64 f, .int .i64 k, .int .i64 tx, .int .i64 0] 87)).drew (some ⟨w1.heap.size, 0, none⟩) [(s.num, f, k, tx, 0)] := (Rd_lit enc5m_len (heap_alloc_new w1 _) rfl).keep (Gr.refl _).drew
    clear hHeld m0 m3 c0
    go_wp2_with fail
    go_ret
    exact ⟨_, _, rfl, hrd, hgf, Nat.le_refl _⟩

end Go.Proofs.Ytnoeiocbmhkmeaa
