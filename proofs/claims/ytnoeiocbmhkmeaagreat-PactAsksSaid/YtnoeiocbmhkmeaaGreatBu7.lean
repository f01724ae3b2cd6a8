/- Layer 5: a site is told to keep what it promised. -/
import Derived.Test.YtnoeiocbmhkmeaaGreatBu6
namespace Go.Proofs.YtnoeiocbmhkmeaaGreat
open Go.RowKit
open Go.Maps (Keyed)
set_option linter.unusedSimpArgs false
set_option maxRecDepth 100000
set_option maxHeartbeats 80000000

section
variable {α β : Type} {P : Program} {k : TypeId} {K : α → Value} {V : β → Value} {w : World} {g : Nat} {l : List (α × β)}
variable {ops : Array Oper} {o : Oper} {a : Act} {Q : Exit → Act → World → Prop} {Kq : Act → World → Prop} {E : Prop}
theorem held_drop [DecidableEq α] (hg : o.guard = none) (m x : Operand) (t : TypeId) (hop : o.op = Op.call { callee := Callee.builtin Builtin.delete, args := #[m, x], argTypes := #[t, k] }) (h : Mp P k K V w g l) (hK : ∀ a b, K a = K b → a = b) (Kd : Keyed P k) (e : TypeId) (ht : P.underlying t = some (.map k e))
 (b : α) (kl : Lit) (hb : keyOf P k (K b) = some kl) (hm : a.eval m = .map (some g)) (hx : a.eval x = K b) (hd : o.dst = none)
 (hC : ∀ w', Mp P k K V w' g (mdel l b) → Gb g w w' → Kq a w') : if Region.wanted o (yielded ops a.tmps) = true then Oper.wp P o a w Kq Q else E := by
 have hw : Region.wanted o (yielded ops a.tmps) = true := by simp [Region.wanted, hg]
 rw [if_pos hw]
 obtain ⟨w', hrun, r1, r2⟩ := h.drop hK Kd ht o.type hb
 unfold Oper.wp
 simp [execOp, hop, resolve, invoke, builtin, hm, hx, hrun, Result.andThen]
 show Kq (a.put o.dst (.tuple #[])) w'
 rw [hd]
 exact hC w' r1 r2
end
theorem siteStock {B : Nat} {w : World} {s : Sx} (h : Its B w (siteIt s)) (x : Int) : Its B (w.setCell ⟨s.p, 1, none⟩ (.int .i64 x)) (siteIt { s with stock := x }) := by
 have h2 : Its B w ([] ++ [(s.p, .cells 84 (siteCs s))] ++ ([(s.mp, .proms s.prom), (s.mq, .bools s.kept), (s.mr, .bools s.drop), (s.mo, .deals s.opn), (s.mg, .deals s.grt)] ++ (s.opn.flatMap dlIt ++ s.grt.flatMap dlIt))) := by
  unfold siteIt at h; simpa using h
 have h3 := h2.turn (D' := .cells 84 (siteCs { s with stock := x })) ((Gb.refl s.p w).put 1 (.int .i64 x)) (h.sBlk.put 1 _)
 unfold siteIt; exact h3
def keepS (s : Sx) (tx : Int) : Sx := if (mget s.prom tx).isSome then { s with stock := s.stock + ((mget s.prom tx).getD (0, 0)).2, prom := mdel s.prom tx, kept := mput s.kept tx true } else s
def keepL (s : Sx) (m : Ml) : List Ml := if (mget (keepS s m.2.2.2.1).kept m.2.2.2.1).getD false then [repL s m 6] else []

theorem commit_any {B : Nat} {s : Sx} (m : Ml) (w : World) (h : Its B w (siteIt s)) (htx : I64 m.2.2.2.1) (hs : 0 ≤ s.stock ∧ s.stock ≤ 1099511627776) (hb : PrB s.prom) :
 Calls Tryz.prog 85 #[.pointer (some ⟨s.p, 0, none⟩), .agg #[.int .i64 m.1, .int .i64 m.2.1, .int .i64 m.2.2.1, .int .i64 m.2.2.2.1, .int .i64 m.2.2.2.2]] w (StepP B w s (keepS s m.2.2.2.1) (keepL s m)) := by
 obtain ⟨f, t, kd, tx, n⟩ := m
 dsimp only at htx ⊢
 obtain ⟨kl, hkl⟩ := intp_key htx
 have HTX := Lib.hid htx
 have HAS : Hid (keepS s tx = if (mget s.prom tx).isSome then { s with stock := s.stock + ((mget s.prom tx).getD (0, 0)).2, prom := mdel s.prom tx, kept := mput s.kept tx true } else s) := Lib.hid rfl
 have HAL : Hid (keepL s (f, t, kd, tx, n) = if (mget (keepS s tx).kept tx).getD false then [repL s (f, t, kd, tx, n) 6] else []) := Lib.hid rfl
 generalize keepS s tx = s1 at HAS HAL ⊢
 generalize keepL s (f, t, kd, tx, n) = l1 at HAL ⊢
 have HR := Lib.hid (fun (s' : Sx) (k : Int) W (hI : Its B W (siteIt s')) => reply_any (s := s') (f, t, kd, tx, n) k W hI)
 have HLP := Lib.hid (fun W (hI : Its B W (siteIt s)) => look_prom hI.sProm htx)
 have HLK := Lib.hid (fun (s' : Sx) W (hI : Its B W (siteIt s')) => look_bool hI.sKept htx)
 have hbd : (mget s.prom tx).isSome = true → -1099511627776 ≤ ((mget s.prom tx).getD (0, 0)).2 ∧ ((mget s.prom tx).getD (0, 0)).2 ≤ 1099511627776 := fun hsome => by
  obtain ⟨y, hy⟩ := Option.isSome_iff_exists.1 hsome
  have := hb.2 _ (mget_some hy)
  rw [hy]; exact this
 generalize (mget s.prom tx).isSome = b at HAS HLP hbd
 generalize (mget s.prom tx).getD (0, 0) = pr at HAS HLP hbd
 obtain ⟨p1, p2⟩ := pr
 unfold promV at HLP
 dsimp only at HAS HLP hbd
 have HH := Lib.hid h
 have c3 := h.sCells.2.2.2.1
 have hlt : s.p < w.heap.size := (h.lt (g := s.p) (by simp [siteIt, blks])).1
 have hne1 : s.p ≠ s.mp := h.ne (i := 0) (j := 1) (by omega) rfl rfl
 have hne2 : s.p ≠ s.mq := h.ne (i := 0) (j := 2) (by omega) rfl rfl
 have hmp : s.mp < w.heap.size := h.sProm.lt
 have hmq : s.mq < w.heap.size := h.sKept.lt
 have HLT := Lib.hid (And.intro hlt (And.intro hne1 (And.intro hne2 (And.intro hmp hmq))))
 clear htx h hlt hne1 hne2 hmp hmq hb
 go_enter Tryz.func85, Tryz.ntmps85
 go_upto_region 1 with fail
 generalize hW1 : World.alloc w _ = w1
 have hg1 : Gr w w1 := by rw [← hW1]; exact (Gr.refl w).alloc _
 have hbk : Blk w1 w.heap.size 59 #[.int .i64 f, .int .i64 t, .int .i64 kd, .int .i64 tx, .int .i64 n] := by rw [← hW1]; exact Blk.new w _ _ rfl
 obtain ⟨U, hU⟩ : ∃ U, w.heap.size = U := ⟨_, rfl⟩
 rw [hU] at hbk ⊢
 have HU := Lib.hid hU
 have HB := Lib.hid hbk
 clear hW1 hbk hU
 have b3 : w1.cell? ⟨U, 3, none⟩ = some (.int .i64 tx) := HB.out.cell 3
 replace c3 := hg1.keep c3
 refine wp_region_held_drew (S := (fun W' => Gr w1 W' ∧ W'.cell? ⟨s.p, 3, none⟩ = some (.map (some s.mp)) ∧ W'.cell? ⟨U, 3, none⟩ = some (.int .i64 tx))) ?_ ?_ (fun hHeld => ?_)
 ·kernel_rfl
 ·((try dsimp only); (try go_split_ands); (repeat' apply And.intro) <;> repeat first | assumption | exact Gr.refl _ | refine Gr.drew ?_ | refine Gr.alloc ?_ _ | refine alloc_old ?_ | refine Gr.keep (by assumption) ?_ | refine Gr.trans ?_ (by assumption))
 refine ti 0 (some 8) rfl rfl ?_; try simp only [Act.put, lA, lB, lC]
 refine ti 1 (some 9) rfl rfl ?_; try simp only [Act.put, lA, lB, lC]
 refine ti 2 (some 10) rfl rfl ?_; try simp only [Act.put, lA, lB, lC]
 refine ti 3 (some 11) rfl rfl ?_; try simp only [Act.put, lA, lB, lC]
 refine ti 4 (some 12) rfl rfl ?_; try simp only [Act.put, lA, lB, lC]
 refine ti 5 (some 13) rfl rfl ?_; try simp only [Act.put, lA, lB, lC]
 refine tr [6, 10] (.cons rfl (fun K hK => ?_) (.cons rfl (fun K hK => ?_) .nil))
 first | (refine held_look (by rfl) (.tmp 11) (.tmp 13) _ _ (by rfl) (.map (some s.mp)) (.int .i64 tx) (.tuple #[.agg #[.int .i64 p1, .int .i64 p2], .bool b]) (by rfl) (by rfl) (HLP.out _ (HH.out.keep (hg1.trans hHeld.1))) ?_)
 refine hK.out _ _ ?_ (fun hHeld => ?_)
 ·((try dsimp only); (try go_split_ands); (repeat' apply And.intro) <;> repeat first | assumption | exact Gr.refl _ | refine Gr.drew ?_ | refine Gr.alloc ?_ _ | refine alloc_old ?_ | refine Gr.keep (by assumption) ?_ | refine Gr.trans ?_ (by assumption))
 clear hK K; try simp only [Act.put, lA, lB, lC]
 refine ti 7 (some 7) rfl rfl ?_; try simp only [Act.put, lA, lB, lC]
 refine ti 8 (some 15) rfl rfl ?_; try simp only [Act.put, lA, lB, lC]
 refine ti 9 (some 16) rfl rfl ?_; try simp only [Act.put, lA, lB, lC]
 refine tr [10] (.cons rfl (fun K hK => ?_) .nil)
 go_simp
 refine hK.out _ _ ?_ (fun hHeld => ?_)
 ·((try dsimp only); (try go_split_ands); (repeat' apply And.intro) <;> repeat first | assumption | exact Gr.refl _ | refine Gr.drew ?_ | refine Gr.alloc ?_ _ | refine alloc_old ?_ | refine Gr.keep (by assumption) ?_ | refine Gr.trans ?_ (by assumption))
 clear hK K; try simp only [Act.put, lA, lB, lC]
 refine tr [11] (.cons rfl (fun K hK => ?_) .nil)
 go_simp
 refine hK.out _ _ ?_ (fun hHeld => ?_)
 ·((try dsimp only); (try go_split_ands); (repeat' apply And.intro) <;> repeat first | assumption | exact Gr.refl _ | refine Gr.drew ?_ | refine Gr.alloc ?_ _ | refine alloc_old ?_ | refine Gr.keep (by assumption) ?_ | refine Gr.trans ?_ (by assumption))
 clear hK K; try simp only [Act.put, lA, lB, lC]
 refine ti 12 (some 6) rfl rfl ?_; try simp only [Act.put, lA, lB, lC]
 refine wpAnyH_done ?_ ?_ _
 ·kernel_rfl
 rotate_left
 go_simp
 refine hK.out _ _ ?_ (fun hHeld => ?_)
 ·((try dsimp only); (try go_split_ands); (repeat' apply And.intro) <;> repeat first | assumption | exact Gr.refl _ | refine Gr.drew ?_ | refine Gr.alloc ?_ _ | refine alloc_old ?_ | refine Gr.keep (by assumption) ?_ | refine Gr.trans ?_ (by assumption))
 clear hK K; try simp only [Act.put, lA, lB, lC]
 refine tr [6] (.cons rfl (fun K hK => ?_) .nil)
 first | (refine held_look (by rfl) (.tmp 11) (.tmp 13) _ _ (by rfl) (.map (some s.mp)) (.int .i64 tx) (.tuple #[.agg #[.int .i64 p1, .int .i64 p2], .bool b]) (by rfl) (by rfl) (HLP.out _ (HH.out.keep (hg1.trans hHeld.1))) ?_)
 refine hK.out _ _ ?_ (fun hHeld => ?_)
 ·((try dsimp only); (try go_split_ands); (repeat' apply And.intro) <;> repeat first | assumption | exact Gr.refl _ | refine Gr.drew ?_ | refine Gr.alloc ?_ _ | refine alloc_old ?_ | refine Gr.keep (by assumption) ?_ | refine Gr.trans ?_ (by assumption))
 clear hK K; try simp only [Act.put, lA, lB, lC]
 refine ti 7 (some 7) rfl rfl ?_; try simp only [Act.put, lA, lB, lC]
 refine ti 8 (some 15) rfl rfl ?_; try simp only [Act.put, lA, lB, lC]
 refine ti 9 (some 16) rfl rfl ?_; try simp only [Act.put, lA, lB, lC]
 refine tr [11] (.cons rfl (fun K hK => ?_) .nil)
 go_simp
 refine hK.out _ _ ?_ (fun hHeld => ?_)
 ·((try dsimp only); (try go_split_ands); (repeat' apply And.intro) <;> repeat first | assumption | exact Gr.refl _ | refine Gr.drew ?_ | refine Gr.alloc ?_ _ | refine alloc_old ?_ | refine Gr.keep (by assumption) ?_ | refine Gr.trans ?_ (by assumption))
 clear hK K; try simp only [Act.put, lA, lB, lC]
 refine ti 12 (some 6) rfl rfl ?_; try simp only [Act.put, lA, lB, lC]
 refine wpAnyH_done ?_ ?_ _
 ·kernel_rfl
 rotate_left
 all_goals
  have hg2 : Gr w1 (w1.alloc (.cells #[.int .i64 p1, .int .i64 p2] 112)).drew := ((Gr.refl w1).alloc _).drew
  have hP : Blk (w1.alloc (.cells #[.int .i64 p1, .int .i64 p2] 112)).drew w1.heap.size 112 #[.int .i64 p1, .int .i64 p2] := Blk.keep (w := w1.alloc _) (heap_alloc_new w1 _) (Gr.refl _).drew
  generalize World.drew _ = w2 at hg2 hP ⊢
  generalize w1.heap.size = Z at hP ⊢
  have hgr2 := hg1.trans hg2
  have HI2 := Lib.hid (HH.out.keep hgr2)
  have HB2 := Lib.hid (HB.out.keep hg2)
  have HZ := Lib.hid hP
  have HC2 : Hid (Ch (blks (siteIt s)) w w2) := Lib.hid (Ch.of hgr2)
  clear hHeld b3 c3 hP hg1 hg2 HB
  cases b with
  | false =>
    have HS1 : Hid (s1 = s) := Lib.hid (by rw [HAS.out]; rfl)
    go_upto_region 6 with fail
    have d4 : w2.cell? ⟨s.p, 4, none⟩ = some (.map (some s.mq)) := HI2.out.sCells.2.2.2.2.1
    have e3 : w2.cell? ⟨U, 3, none⟩ = some (.int .i64 tx) := HB2.out.cell 3
    obtain ⟨v, hv⟩ : ∃ v, (mget s1.kept tx).getD false = v := ⟨_, rfl⟩
    have HLV : Hid (∀ W, Gr w2 W → (Instr.lookup 81 (.map (some s.mq)) (.int .i64 tx) false).run Tryz.prog W = .ok (.bool v) W) := Lib.hid (fun W hW => by rw [← hv, HS1.out]; exact HLK.out _ W (HI2.out.keep hW))
    rw [hv] at HAL
    clear hv
    refine wp_region_held_drew (S := (fun W' => Gr w2 W' ∧ W'.cell? ⟨s.p, 4, none⟩ = some (.map (some s.mq)) ∧ W'.cell? ⟨U, 3, none⟩ = some (.int .i64 tx))) ?_ ?_ (fun hHeld => ?_)
    ·kernel_rfl
    ·((try dsimp only); (try go_split_ands); (repeat' apply And.intro) <;> repeat first | assumption | exact Gr.refl _ | refine Gr.drew ?_ | refine Gr.alloc ?_ _ | refine alloc_old ?_ | refine Gr.keep (by assumption) ?_ | refine Gr.trans ?_ (by assumption))
    refine ti 0 (some 39) rfl rfl ?_; try simp only [Act.put, lA, lB, lC]
    refine ti 1 (some 40) rfl rfl ?_; try simp only [Act.put, lA, lB, lC]
    refine ti 2 (some 41) rfl rfl ?_; try simp only [Act.put, lA, lB, lC]
    refine ti 3 (some 42) rfl rfl ?_; try simp only [Act.put, lA, lB, lC]
    refine ti 4 (some 43) rfl rfl ?_; try simp only [Act.put, lA, lB, lC]
    refine ti 5 (some 44) rfl rfl ?_; try simp only [Act.put, lA, lB, lC]
    refine tr [6] (.cons rfl (fun K hK => ?_) .nil)
    first | (refine held_look (by rfl) (.tmp 42) (.tmp 44) _ _ (by rfl) (.map (some s.mq)) (.int .i64 tx) (.bool v) (by rfl) (by rfl) (HLV.out _ hHeld.1) ?_)
    refine hK.out _ _ ?_ (fun hHeld => ?_)
    ·((try dsimp only); (try go_split_ands); (repeat' apply And.intro) <;> repeat first | assumption | exact Gr.refl _ | refine Gr.drew ?_ | refine Gr.alloc ?_ _ | refine alloc_old ?_ | refine Gr.keep (by assumption) ?_ | refine Gr.trans ?_ (by assumption))
    clear hK K; try simp only [Act.put, lA, lB, lC]
    refine ti 7 (some 46) rfl rfl ?_; try simp only [Act.put, lA, lB, lC]
    refine wpAnyH_done ?_ ?_ _
    ·kernel_rfl
    rotate_left
    all_goals
     have hgd := (Gr.refl w2).drew
     have HI9 := Lib.hid (HI2.out.keep hgd)
     have HC9 := Lib.hid (HC2.out.gr hgd)
     have HB9 := Lib.hid (HB2.out.keep hgd)
     generalize World.drew w2 = w9 at HI9 HC9 HB9 ⊢
     clear hHeld d4 e3 hgd hkl
     cases v with
     | false =>
       have HL1 : Hid (l1 = []) := Lib.hid (by rw [HAL.out]; rfl)
       go_wp2_with fail
       go_ret
       rw [HS1.out, HL1.out]
       exact StepP.of HI9.out HC9.out rfl (fun g hg => Or.inl hg) (LetP_nil _)
     | true =>
       have HL1 : Hid (l1 = [repL s (f, t, kd, tx, n) 6]) := Lib.hid (by rw [HAL.out]; rfl)
       have b0 : w9.cell? ⟨U, 0, none⟩ = some (.int .i64 f) := HB9.out.cell 0
       have b1 : w9.cell? ⟨U, 1, none⟩ = some (.int .i64 t) := HB9.out.cell 1
       have b2 : w9.cell? ⟨U, 2, none⟩ = some (.int .i64 kd) := HB9.out.cell 2
       have b3 : w9.cell? ⟨U, 3, none⟩ = some (.int .i64 tx) := HB9.out.cell 3
       have b4 : w9.cell? ⟨U, 4, none⟩ = some (.int .i64 n) := HB9.out.cell 4
       go_wp2_with fail
       refine (HR.out _ 6 w9 HI9.out).mono ?_
       intro e w10 hlet
       have HF : Hid (StepP B w s s1 l1 e w10) := Lib.hid (by rw [HS1.out, HL1.out]; exact StepP.of HI9.out HC9.out rfl (fun g hg => Or.inl hg) hlet)
       obtain ⟨A, c, rfl, -⟩ := HF.out.let5
       clear hlet b0 b1 b2 b3 b4
       go_wp2_with fail
       go_ret
       exact HF.out
  | true =>
    have HS1 : Hid (s1 = { s with stock := s.stock + p2, prom := mdel s.prom tx, kept := mput s.kept tx true }) := Lib.hid (by rw [HAS.out]; rfl)
    have hw1 : IntKind.i64.wrap (s.stock + p2) = s.stock + p2 := IntWalk.i64_in _ (by have := hbd rfl; omega)
    have c1 : w2.cell? ⟨s.p, 1, none⟩ = some (.int .i64 s.stock) := HI2.out.sCells.2.1
    have f1 : w2.frozen? ⟨s.p, 1, none⟩ = false := HI2.out.sBlk.free 1
    have z1 : w2.cell? ⟨Z, 1, none⟩ = some (.int .i64 p2) := HZ.out.cell 1
    have hd2 := (Gr.refl w2).drew
    have c1d := hd2.keep c1
    have z1d := hd2.keep z1
    go_upto_region 3 with fail
    refine wp_region_held_drew (S := (fun _ => True)) ?_ ?_ (fun hHeld => ?_)
    ·kernel_rfl
    ·((try dsimp only); (try trivial))
    refine ti 0 (some 18) rfl rfl ?_; try simp only [Act.put, lA, lB, lC]
    refine ti 1 (some 19) rfl rfl ?_; try simp only [Act.put, lA, lB, lC]
    refine ti 2 (some 20) rfl rfl ?_; try simp only [Act.put, lA, lB, lC]
    refine ti 4 (some 22) rfl rfl ?_; try simp only [Act.put, lA, lB, lC]
    refine tr [3, 5] (.cons rfl (fun K hK => ?_) (.cons rfl (fun K hK => ?_) .nil))
    go_simp
    refine hK.out _ _ ?_ (fun hHeld => ?_)
    ·((try dsimp only); (try trivial))
    clear hK K; try simp only [Act.put, lA, lB, lC]
    refine tr [5] (.cons rfl (fun K hK => ?_) .nil)
    go_simp
    refine hK.out _ _ ?_ (fun hHeld => ?_)
    ·((try dsimp only); (try trivial))
    clear hK K; try simp only [Act.put, lA, lB, lC]
    refine ti 6 (some 24) rfl rfl ?_; try simp only [Act.put, lA, lB, lC]
    refine ti 7 (some 25) rfl rfl ?_; try simp only [Act.put, lA, lB, lC]
    refine ti 8 (some 26) rfl rfl ?_; try simp only [Act.put, lA, lB, lC]
    refine tr [9] (.cons rfl (fun K hK => ?_) .nil)
    go_simp
    refine hK.out _ _ ?_ (fun hHeld => ?_)
    ·((try dsimp only); (try trivial))
    clear hK K; try simp only [Act.put, lA, lB, lC]
    refine wpAnyH_done ?_ ?_ _
    ·kernel_rfl
    rotate_left
    go_simp
    refine hK.out _ _ ?_ (fun hHeld => ?_)
    ·((try dsimp only); (try trivial))
    clear hK K; try simp only [Act.put, lA, lB, lC]
    refine tr [3] (.cons rfl (fun K hK => ?_) .nil)
    go_simp
    refine hK.out _ _ ?_ (fun hHeld => ?_)
    ·((try dsimp only); (try trivial))
    clear hK K; try simp only [Act.put, lA, lB, lC]
    refine ti 6 (some 24) rfl rfl ?_; try simp only [Act.put, lA, lB, lC]
    refine ti 7 (some 25) rfl rfl ?_; try simp only [Act.put, lA, lB, lC]
    refine ti 8 (some 26) rfl rfl ?_; try simp only [Act.put, lA, lB, lC]
    refine tr [9] (.cons rfl (fun K hK => ?_) .nil)
    go_simp
    refine hK.out _ _ ?_ (fun hHeld => ?_)
    ·((try dsimp only); (try trivial))
    clear hK K; try simp only [Act.put, lA, lB, lC]
    refine wpAnyH_done ?_ ?_ _
    ·kernel_rfl
    rotate_left
    all_goals
     have hI3 := (siteStock HI2.out (s.stock + p2)).keep (Gr.refl _).drew
     have hc3 : Ch (blks (siteIt s)) w (w2.setCell ⟨s.p, 1, none⟩ (.int .i64 (s.stock + p2))).drew := (HC2.out.set (p := ⟨s.p, 1, none⟩) (by simp [siteIt, blks]) _).gr (Gr.refl _).drew
     have hb3 : Blk (w2.setCell ⟨s.p, 1, none⟩ (.int .i64 (s.stock + p2))).drew U 59 #[.int .i64 f, .int .i64 t, .int .i64 kd, .int .i64 tx, .int .i64 n] := (HB2.out.grown ((Gb.refl s.p w2).put 1 _) (fun e => by injection e with e; have h1 := HLT.out; have h2 := HU.out; omega)).keep (Gr.refl _).drew
     generalize World.drew _ = w3 at hI3 hc3 hb3 ⊢
     have HI3 := Lib.hid hI3
     have HC3 := Lib.hid hc3
     have HB3 := Lib.hid hb3
     clear hHeld c1 f1 z1 hd2 c1d z1d hI3 hc3 hb3
     have c3 : w3.cell? ⟨s.p, 3, none⟩ = some (.map (some s.mp)) := HI3.out.sCells.2.2.2.1
     have e3 : w3.cell? ⟨U, 3, none⟩ = some (.int .i64 tx) := HB3.out.cell 3
     have HMM := Lib.hid ((HI3.out.keep (Gr.refl w3).drew).sProm)
     have HLS : Hid ((s.p < w3.drew.heap.size ∧ s.p ≠ s.mp) ∧ (U < w3.drew.heap.size ∧ U ≠ s.mp)) := Lib.hid (by have h1 := HLT.out; have h2 := HU.out; have h3 := HC3.out.size; have h4 := HB3.out.lt; exact ⟨⟨by show s.p < w3.heap.size; omega, h1.2.1⟩, h4, by omega⟩)
     go_upto_region 4 with fail
     refine wp_region_held_drew (S := (fun W' => W'.cell? ⟨s.p, 3, none⟩ = some (.map (some s.mp)) ∧ W'.cell? ⟨U, 3, none⟩ = some (.int .i64 tx))) ?_ ?_ (fun hHeld => ?_)
     ·kernel_rfl
     ·((try dsimp only); (try go_split_ands); (repeat' apply And.intro) <;> repeat first | assumption | exact Gr.refl _ | refine Gr.drew ?_ | refine Gr.alloc ?_ _ | refine alloc_old ?_ | refine Gr.keep (by assumption) ?_ | refine Gr.trans ?_ (by assumption))
     refine ti 0 (some 27) rfl rfl ?_; try simp only [Act.put, lA, lB, lC]
     refine ti 1 (some 28) rfl rfl ?_; try simp only [Act.put, lA, lB, lC]
     refine ti 2 (some 29) rfl rfl ?_; try simp only [Act.put, lA, lB, lC]
     refine ti 3 (some 30) rfl rfl ?_; try simp only [Act.put, lA, lB, lC]
     refine ti 4 (some 31) rfl rfl ?_; try simp only [Act.put, lA, lB, lC]
     refine ti 5 (some 32) rfl rfl ?_; try simp only [Act.put, lA, lB, lC]
     refine tr [6] (.cons rfl (fun K hK => ?_) .nil)
     first | (refine held_drop (by rfl) (.tmp 30) (.tmp 32) _ (by rfl) HMM.out intK_inj intp_law _ Tryz.underlying80 tx kl hkl (by rfl) (by rfl) (by rfl) ?_; intro w5 hm5 hb5; have y0 := gb_cell5 hb5 hHeld.1 HLS.out.1.1 HLS.out.1.2; have y1 := gb_cell5 hb5 hHeld.2 HLS.out.2.1 HLS.out.2.2; have HM5 := Lib.hid hm5; have HB5 := Lib.hid hb5; clear hm5 hb5)
     refine hK.out _ _ ?_ (fun hHeld => ?_)
     ·((try dsimp only); (try go_split_ands); (repeat' apply And.intro) <;> repeat first | assumption | exact Gr.refl _ | refine Gr.drew ?_ | refine Gr.alloc ?_ _ | refine alloc_old ?_ | refine Gr.keep (by assumption) ?_ | refine Gr.trans ?_ (by assumption))
     clear hK K; try simp only [Act.put, lA, lB, lC]
     refine wpAnyH_done ?_ ?_ _
     ·kernel_rfl
     rotate_left
     all_goals
      have HI5 := Lib.hid (siteProm (HI3.out.keep (Gr.refl w3).drew) HB5.out HM5.out)
      have HC5 : Hid (Ch (blks (siteIt s)) w w5) := Lib.hid ((HC3.out.gr (Gr.refl w3).drew).trans (Ch.gb (S := blks (siteIt s)) HB5.out (by simp [siteIt, blks])) (fun g hg => Or.inl hg))
      have HK5 : Hid (Blk w5 U 59 #[.int .i64 f, .int .i64 t, .int .i64 kd, .int .i64 tx, .int .i64 n]) := Lib.hid ((HB3.out.keep (Gr.refl w3).drew).grown HB5.out (fun e => HLS.out.2.2 (by injection e)))
      clear hHeld y0 y1 c3 e3 HMM HM5 HB5 HI3 HC3 HB3 HLS
      have c4 : w5.cell? ⟨s.p, 4, none⟩ = some (.map (some s.mq)) := HI5.out.sCells.2.2.2.2.1
      have e3 : w5.cell? ⟨U, 3, none⟩ = some (.int .i64 tx) := HK5.out.cell 3
      have HMM := Lib.hid ((HI5.out.keep (Gr.refl w5).drew).sKept)
      have HLS : Hid ((s.p < w5.drew.heap.size ∧ s.p ≠ s.mq) ∧ (U < w5.drew.heap.size ∧ U ≠ s.mq)) := Lib.hid (by have h1 := HLT.out; have h2 := HU.out; have h3 := HC5.out.size; have h4 := HK5.out.lt; exact ⟨⟨by show s.p < w5.heap.size; omega, h1.2.2.1⟩, h4, by omega⟩)
      go_upto_region 5 with fail
      refine wp_region_held_drew (S := (fun W' => W'.cell? ⟨s.p, 4, none⟩ = some (.map (some s.mq)) ∧ W'.cell? ⟨U, 3, none⟩ = some (.int .i64 tx))) ?_ ?_ (fun hHeld => ?_)
      ·kernel_rfl
      ·((try dsimp only); (try go_split_ands); (repeat' apply And.intro) <;> repeat first | assumption | exact Gr.refl _ | refine Gr.drew ?_ | refine Gr.alloc ?_ _ | refine alloc_old ?_ | refine Gr.keep (by assumption) ?_ | refine Gr.trans ?_ (by assumption))
      refine ti 0 (some 33) rfl rfl ?_; try simp only [Act.put, lA, lB, lC]
      refine ti 1 (some 34) rfl rfl ?_; try simp only [Act.put, lA, lB, lC]
      refine ti 2 (some 35) rfl rfl ?_; try simp only [Act.put, lA, lB, lC]
      refine ti 3 (some 36) rfl rfl ?_; try simp only [Act.put, lA, lB, lC]
      refine ti 4 (some 37) rfl rfl ?_; try simp only [Act.put, lA, lB, lC]
      refine ti 5 (some 38) rfl rfl ?_; try simp only [Act.put, lA, lB, lC]
      refine tr [6] (.cons rfl (fun K hK => ?_) .nil)
      first | (refine held_update (by rfl) (.tmp 36) (.tmp 38) (.const (.bool true)) _ (by rfl) HMM.out intK_inj intp_law _ Tryz.underlying81 tx true kl hkl (by rfl) (by rfl) (by rfl) (by rfl) ?_; intro w6 hm6 hb6; have y0 := gb_cell5 hb6 hHeld.1 HLS.out.1.1 HLS.out.1.2; have y1 := gb_cell5 hb6 hHeld.2 HLS.out.2.1 HLS.out.2.2; have HM6 := Lib.hid hm6; have HB6 := Lib.hid hb6; clear hm6 hb6)
      refine hK.out _ _ ?_ (fun hHeld => ?_)
      ·((try dsimp only); (try go_split_ands); (repeat' apply And.intro) <;> repeat first | assumption | exact Gr.refl _ | refine Gr.drew ?_ | refine Gr.alloc ?_ _ | refine alloc_old ?_ | refine Gr.keep (by assumption) ?_ | refine Gr.trans ?_ (by assumption))
      clear hK K; try simp only [Act.put, lA, lB, lC]
      refine wpAnyH_done ?_ ?_ _
      ·kernel_rfl
      rotate_left
      all_goals
       have HI6 := Lib.hid (siteKept (HI5.out.keep (Gr.refl w5).drew) HB6.out HM6.out)
       have HC6 : Hid (Ch (blks (siteIt s)) w w6) := Lib.hid ((HC5.out.gr (Gr.refl w5).drew).trans (Ch.gb (S := blks (siteIt s)) HB6.out (by simp [siteIt, blks])) (fun g hg => Or.inl hg))
       have HK6 : Hid (Blk w6 U 59 #[.int .i64 f, .int .i64 t, .int .i64 kd, .int .i64 tx, .int .i64 n]) := Lib.hid ((HK5.out.keep (Gr.refl w5).drew).grown HB6.out (fun e => HLS.out.2.2 (by injection e)))
       clear hHeld y0 y1 c4 e3 HMM HM6 HB6 HI5 HC5 HK5 HLS
       go_upto_region 6 with fail
       have d4 : w6.cell? ⟨s.p, 4, none⟩ = some (.map (some s.mq)) := HI6.out.sCells.2.2.2.2.1
       have e3 : w6.cell? ⟨U, 3, none⟩ = some (.int .i64 tx) := HK6.out.cell 3
       obtain ⟨v, hv⟩ : ∃ v, (mget s1.kept tx).getD false = v := ⟨_, rfl⟩
       have HLV : Hid (∀ W, Gr w6 W → (Instr.lookup 81 (.map (some s.mq)) (.int .i64 tx) false).run Tryz.prog W = .ok (.bool v) W) := Lib.hid (fun W hW => by rw [← hv, HS1.out]; exact HLK.out _ W (HI6.out.keep hW))
       rw [hv] at HAL
       clear hv
       refine wp_region_held_drew (S := (fun W' => Gr w6 W' ∧ W'.cell? ⟨s.p, 4, none⟩ = some (.map (some s.mq)) ∧ W'.cell? ⟨U, 3, none⟩ = some (.int .i64 tx))) ?_ ?_ (fun hHeld => ?_)
       ·kernel_rfl
       ·((try dsimp only); (try go_split_ands); (repeat' apply And.intro) <;> repeat first | assumption | exact Gr.refl _ | refine Gr.drew ?_ | refine Gr.alloc ?_ _ | refine alloc_old ?_ | refine Gr.keep (by assumption) ?_ | refine Gr.trans ?_ (by assumption))
       refine ti 0 (some 39) rfl rfl ?_; try simp only [Act.put, lA, lB, lC]
       refine ti 1 (some 40) rfl rfl ?_; try simp only [Act.put, lA, lB, lC]
       refine ti 2 (some 41) rfl rfl ?_; try simp only [Act.put, lA, lB, lC]
       refine ti 3 (some 42) rfl rfl ?_; try simp only [Act.put, lA, lB, lC]
       refine ti 4 (some 43) rfl rfl ?_; try simp only [Act.put, lA, lB, lC]
       refine ti 5 (some 44) rfl rfl ?_; try simp only [Act.put, lA, lB, lC]
       refine tr [6] (.cons rfl (fun K hK => ?_) .nil)
       first | (refine held_look (by rfl) (.tmp 42) (.tmp 44) _ _ (by rfl) (.map (some s.mq)) (.int .i64 tx) (.bool v) (by rfl) (by rfl) (HLV.out _ hHeld.1) ?_)
       refine hK.out _ _ ?_ (fun hHeld => ?_)
       ·((try dsimp only); (try go_split_ands); (repeat' apply And.intro) <;> repeat first | assumption | exact Gr.refl _ | refine Gr.drew ?_ | refine Gr.alloc ?_ _ | refine alloc_old ?_ | refine Gr.keep (by assumption) ?_ | refine Gr.trans ?_ (by assumption))
       clear hK K; try simp only [Act.put, lA, lB, lC]
       refine ti 7 (some 46) rfl rfl ?_; try simp only [Act.put, lA, lB, lC]
       refine wpAnyH_done ?_ ?_ _
       ·kernel_rfl
       rotate_left
       all_goals
        have hgd := (Gr.refl w6).drew
        have HI9 := Lib.hid (HI6.out.keep hgd)
        have HC9 := Lib.hid (HC6.out.gr hgd)
        have HB9 := Lib.hid (HK6.out.keep hgd)
        generalize World.drew w6 = w9 at HI9 HC9 HB9 ⊢
        clear hHeld d4 e3 hgd hkl
        cases v with
        | false =>
          have HL1 : Hid (l1 = []) := Lib.hid (by rw [HAL.out]; rfl)
          go_wp2_with fail
          go_ret
          rw [HS1.out, HL1.out]
          exact StepP.of HI9.out HC9.out rfl (fun g hg => Or.inl hg) (LetP_nil _)
        | true =>
          have HL1 : Hid (l1 = [repL s (f, t, kd, tx, n) 6]) := Lib.hid (by rw [HAL.out]; rfl)
          have b0 : w9.cell? ⟨U, 0, none⟩ = some (.int .i64 f) := HB9.out.cell 0
          have b1 : w9.cell? ⟨U, 1, none⟩ = some (.int .i64 t) := HB9.out.cell 1
          have b2 : w9.cell? ⟨U, 2, none⟩ = some (.int .i64 kd) := HB9.out.cell 2
          have b3 : w9.cell? ⟨U, 3, none⟩ = some (.int .i64 tx) := HB9.out.cell 3
          have b4 : w9.cell? ⟨U, 4, none⟩ = some (.int .i64 n) := HB9.out.cell 4
          go_wp2_with fail
          refine (HR.out _ 6 w9 HI9.out).mono ?_
          intro e w10 hlet
          have HF : Hid (StepP B w s s1 l1 e w10) := Lib.hid (by rw [HS1.out, HL1.out]; exact StepP.of HI9.out HC9.out rfl (fun g hg => Or.inl hg) hlet)
          obtain ⟨A, c, rfl, -⟩ := HF.out.let5
          clear hlet b0 b1 b2 b3 b4
          go_wp2_with fail
          go_ret
          exact HF.out

set_option maxRecDepth 100000
set_option maxHeartbeats 80000000

theorem Mp.swap {α β : Type} {P : Program} {k : TypeId} {K : α → Value} {V : β → Value} {w : World} {g : Nat} {l l' : List (α × β)} (h : Mp P k K V w g l) (hm : l'.map (fun p => (K p.1, V p.2)) = l.map (fun p => (K p.1, V p.2))) : Mp P k K V w g l' := by
 obtain ⟨es, clock, h1, h2, h3, h4⟩ := h
 refine ⟨es, clock, h1, h2, h3.trans hm.symm, fun p hp => ?_⟩
 have h5 : (K p.1, V p.2) ∈ l.map (fun p => (K p.1, V p.2)) := by rw [← hm]; exact List.mem_map_of_mem hp
 obtain ⟨q, hq, e⟩ := List.mem_map.1 h5
 obtain ⟨kl, hk⟩ := h4 q hq
 injection e with e1 e2
 exact ⟨kl, by rw [← e1]; exact hk⟩
theorem mget_split {β : Type} {l : List (Int × β)} {a : Int} {x : β} (hp : l.Pairwise (fun p q => p.1 ≠ q.1)) (h : mget l a = some x) : ∃ l1 l2, l = l1 ++ (a, x) :: l2 ∧ mdel l a = l1 ++ l2 := by
 obtain ⟨l1, l2, rfl⟩ := List.append_of_mem (mget_some h)
 refine ⟨l1, l2, rfl, ?_⟩
 obtain ⟨-, h2, h3⟩ := List.pairwise_append.1 hp
 obtain ⟨h4, -⟩ := List.pairwise_cons.1 h2
 unfold mdel
 rw [List.filter_append, List.filter_cons_of_neg (by simp)]
 have e1 : l1.filter (fun p => !decide (p.1 = a)) = l1 := List.filter_eq_self.2 (fun p hp => by simpa using h3 p hp (a, x) List.mem_cons_self)
 have e2 : l2.filter (fun p => !decide (p.1 = a)) = l2 := List.filter_eq_self.2 (fun p hp => by simpa using (h4 p hp).symm)
 rw [e1, e2]
section
variable {B : Nat} {w w1 : World} {s : Sx} {tx : Int} {d : Dl} {l1 l2 : List (Int × Dl)} {x : List (Int × Bool)}
theorem siteMissG (h : Its B w (siteIt s)) (hs : s.grt = l1 ++ (tx, d) :: l2) (hb : Gb d.g w w1) (hm : Mp Tryz.prog 3 intK boolV w1 d.g x) : Its B w1 (siteIt { s with grt := l1 ++ (tx, { d with miss := x }) :: l2 }) := by
 have h2 : Its B w (([(s.p, .cells 84 (siteCs s)), (s.mp, .proms s.prom), (s.mq, .bools s.kept), (s.mr, .bools s.drop), (s.mo, .deals s.opn), (s.mg, .deals s.grt)] ++ (s.opn.flatMap dlIt ++ l1.flatMap dlIt) ++ [(d.b, .moves d.parts)]) ++ [(d.g, .bools d.miss)] ++ l2.flatMap dlIt) := by
  unfold siteIt at h
  rw [hs, List.flatMap_append, List.flatMap_cons] at h
  rw [hs]
  simpa [dlIt] using h
 have h3 := h2.turn (D' := .bools x) hb hm
 have h4 : Its B w1 ([(s.p, .cells 84 (siteCs s)), (s.mp, .proms s.prom), (s.mq, .bools s.kept), (s.mr, .bools s.drop), (s.mo, .deals s.opn)] ++ [(s.mg, .deals s.grt)] ++ ((s.opn.flatMap dlIt ++ l1.flatMap dlIt) ++ [(d.b, .moves d.parts)] ++ [(d.g, .bools x)] ++ l2.flatMap dlIt)) := by
  simpa using h3
 have h5 : Mp Tryz.prog 3 intK dlV w1 s.mg s.grt := h4.at (D := .deals _) (by simp)
 have h6 := h4.turn (D' := .deals (l1 ++ (tx, { d with miss := x }) :: l2)) (Gb.refl _ _) (h5.swap (by rw [hs]; simp [dlV]))
 unfold siteIt
 simpa [dlIt, siteCs] using h6
theorem siteMissO (h : Its B w (siteIt s)) (hs : s.opn = l1 ++ (tx, d) :: l2) (hb : Gb d.g w w1) (hm : Mp Tryz.prog 3 intK boolV w1 d.g x) : Its B w1 (siteIt { s with opn := l1 ++ (tx, { d with miss := x }) :: l2 }) := by
 have h2 : Its B w (([(s.p, .cells 84 (siteCs s)), (s.mp, .proms s.prom), (s.mq, .bools s.kept), (s.mr, .bools s.drop), (s.mo, .deals s.opn), (s.mg, .deals s.grt)] ++ l1.flatMap dlIt ++ [(d.b, .moves d.parts)]) ++ [(d.g, .bools d.miss)] ++ (l2.flatMap dlIt ++ s.grt.flatMap dlIt)) := by
  unfold siteIt at h
  rw [hs, List.flatMap_append, List.flatMap_cons] at h
  rw [hs]
  simpa [dlIt] using h
 have h3 := h2.turn (D' := .bools x) hb hm
 have h4 : Its B w1 ([(s.p, .cells 84 (siteCs s)), (s.mp, .proms s.prom), (s.mq, .bools s.kept), (s.mr, .bools s.drop)] ++ [(s.mo, .deals s.opn)] ++ ([(s.mg, .deals s.grt)] ++ l1.flatMap dlIt ++ [(d.b, .moves d.parts)] ++ [(d.g, .bools x)] ++ (l2.flatMap dlIt ++ s.grt.flatMap dlIt))) := by
  simpa using h3
 have h5 : Mp Tryz.prog 3 intK dlV w1 s.mo s.opn := h4.at (D := .deals _) (by simp)
 have h6 := h4.turn (D' := .deals (l1 ++ (tx, { d with miss := x }) :: l2)) (Gb.refl _ _) (h5.swap (by rw [hs]; simp [dlV]))
 unfold siteIt
 simpa [dlIt, siteCs] using h6
theorem siteUngrant (h : Its B w (siteIt s)) (hs : s.grt = l1 ++ (tx, d) :: l2) (hb : Gb s.mg w w1) (hm : Mp Tryz.prog 3 intK dlV w1 s.mg (l1 ++ l2)) : Its B w1 (siteIt { s with grt := l1 ++ l2 }) := by
 have h2 : Its B w ([(s.p, .cells 84 (siteCs s)), (s.mp, .proms s.prom), (s.mq, .bools s.kept), (s.mr, .bools s.drop), (s.mo, .deals s.opn)] ++ [(s.mg, .deals s.grt)] ++ ((s.opn.flatMap dlIt ++ l1.flatMap dlIt) ++ dlIt (tx, d) ++ l2.flatMap dlIt)) := by
  unfold siteIt at h
  rw [hs, List.flatMap_append, List.flatMap_cons] at h
  rw [hs]
  simpa using h
 have h3 := h2.turn (D' := .deals (l1 ++ l2)) hb hm
 have h4 : Its B w1 (([(s.p, .cells 84 (siteCs s)), (s.mp, .proms s.prom), (s.mq, .bools s.kept), (s.mr, .bools s.drop), (s.mo, .deals s.opn), (s.mg, .deals (l1 ++ l2))] ++ (s.opn.flatMap dlIt ++ l1.flatMap dlIt)) ++ dlIt (tx, d) ++ l2.flatMap dlIt) := by
  simpa using h3
 have h5 := h4.less
 unfold siteIt
 simpa [siteCs] using h5
theorem siteUnopen (h : Its B w (siteIt s)) (hs : s.opn = l1 ++ (tx, d) :: l2) (hb : Gb s.mo w w1) (hm : Mp Tryz.prog 3 intK dlV w1 s.mo (l1 ++ l2)) : Its B w1 (siteIt { s with opn := l1 ++ l2 }) := by
 have h2 : Its B w ([(s.p, .cells 84 (siteCs s)), (s.mp, .proms s.prom), (s.mq, .bools s.kept), (s.mr, .bools s.drop)] ++ [(s.mo, .deals s.opn)] ++ ([(s.mg, .deals s.grt)] ++ l1.flatMap dlIt ++ dlIt (tx, d) ++ (l2.flatMap dlIt ++ s.grt.flatMap dlIt))) := by
  unfold siteIt at h
  rw [hs, List.flatMap_append, List.flatMap_cons] at h
  rw [hs]
  simpa using h
 have h3 := h2.turn (D' := .deals (l1 ++ l2)) hb hm
 have h4 : Its B w1 (([(s.p, .cells 84 (siteCs s)), (s.mp, .proms s.prom), (s.mq, .bools s.kept), (s.mr, .bools s.drop), (s.mo, .deals (l1 ++ l2)), (s.mg, .deals s.grt)] ++ l1.flatMap dlIt) ++ dlIt (tx, d) ++ (l2.flatMap dlIt ++ s.grt.flatMap dlIt)) := by
  simpa using h3
 have h5 := h4.less
 unfold siteIt
 simpa [siteCs] using h5
end
def zeroD : Value := .agg #[.slice none 0 0, .map none]
theorem look_deal {w : World} {g : Nat} {l : List (Int × Dl)} {tx : Int} (h : Mp Tryz.prog 3 intK dlV w g l) (htx : I64 tx) : (Instr.lookup 82 (.map (some g)) (.int .i64 tx) true).run Tryz.prog w = .ok (.tuple #[((mget l tx).map dlV).getD zeroD, .bool (mget l tx).isSome]) w := by
 obtain ⟨kl, hk⟩ := intp_key htx
 have := h.look intK_inj intp_law Tryz.underlying82 (z := zeroD) (by kernel_rfl) true hk
 rw [show (.int .i64 tx : Value) = intK tx from rfl, this]
 cases mget l tx <;> rfl

end Go.Proofs.YtnoeiocbmhkmeaaGreat
