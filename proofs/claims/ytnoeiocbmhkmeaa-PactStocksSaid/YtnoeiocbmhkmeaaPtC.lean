/- Layer 5: letters copied. -/
import Derived.Test.YtnoeiocbmhkmeaaPtE
namespace Go.Proofs.Ytnoeiocbmhkmeaa
open Go.RowKit
set_option linter.unusedSimpArgs false

section
variable {P : Program} {w : World} {ops : Array Oper} {rest : List Oper} {o : Oper} {a : Act} {Q : Exit → Act → World → Prop}
theorem wpList_nothing (hg : o.guard = none) (s x : Operand) (t : TypeId) (hop : o.op = Op.call { callee := Callee.builtin Builtin.append, args := #[s, x], argTypes := #[t, t] }) (e : TypeId) (i : TypeInfo) (ht : P.underlying t = some (.slice e)) (hi : P.info? e = some i)
    (base : Option Addr) (sLen sCap : Nat) (hle : sLen ≤ sCap) (xv : Value) (hs : a.eval s = .slice base sLen sCap) (hx : a.eval x = xv) (hsrc : Src P i.size t xv 0 [] w) (h : wpList P ops Q rest (a.put o.dst (.slice base sLen sCap)) w) :
    wpList P ops Q (o :: rest) a w := by
  refine wpList_plain hg fun K' hK' => ?_
  have hrun := run_append_nothing w t t o.type e i ht hi base sLen sCap hle xv hsrc
  unfold Oper.wp
  simp [execOp, hop, resolve, invoke, builtin, hs, hx, hrun, Result.andThen]
  exact hK' _ _ h
end
set_option maxRecDepth 100000 in
set_option maxHeartbeats 1000000 in
theorem cloneL_any (A : Option Addr) (n c : Nat) (ls : List Ml) (w : World) (hn : ls.length = n) (hl : n ≤ 1024) (hp : Rd 5 enc5m w A ls) :
    Calls Try.prog 44 #[.slice A n c] w (LetP ls w) := by
  obtain ⟨i0, hi, hz0, hz1, hz2⟩ := info_parts Try.infoPtL
  have q : ∀ (w : World) (a : Option Addr) (n c n' c' : Nat), (binOp .eql 30 (.slice a n c) (.slice none n' c')).run Try.prog w = .ok (.bool a.isNone) w := fun w a n c n' c' => Lib.run_eql_slice_nil w _ _ a n c n' c' Try.underlying30
  have HN := Lib.hid hn
  have HP := Lib.hid hp
  cases A with
  | none =>
    obtain rfl : ls = [] := by
      cases ls with
      | nil => rfl
      | cons x r =>
        obtain ⟨b, off, e, -⟩ := hp 0 x rfl
        cases e
    clear hn hp
    go_enter Try.func44, Try.ntmps44
    go_wp2_with fail
    go_ret
    exact ⟨none, 0, rfl, Rd_nil _ _, Gr.refl _, Nat.le_refl _⟩
  | some ad =>
    by_cases h0 : n = 0
    · subst h0
      obtain rfl := List.eq_nil_of_length_eq_zero hn
      clear hn hp
      go_enter Try.func44, Try.ntmps44
      go_wp2_with (at_builtin; refine wpList_nothing rfl _ _ 30 rfl 87 i0 Try.underlying30 hi _ 0 0 (Nat.le_refl _) (.slice (some ad) 0 c) rfl rfl (Src.ofSlice _ Try.underlying30 ad 0 c [] (by simp) (by simp) (by simp)) ?_)
      go_ret
      exact ⟨_, 0, rfl, Rd_nil _ _, (Gr.refl w).alloc _, Nat.le_refl _⟩
    · have h1 : 0 < n := by omega
      clear hn hp
      go_enter Try.func44, Try.ntmps44
      go_wp2_with (at_builtin; refine wpList_append_own _ rfl _ _ 30 rfl w.heap.size 87 i0 _ 5 40 Try.underlying30 hi hz0 hz1 hz2 rfl (by decide) _ _ _ rfl (World.ownsRow_made w #[] 0 (Nat.le_refl _) (Nat.zero_le _) (by simp)) ad n c (flatE enc5m ls) rfl ?qc1 ?qc2 ?qc3 ?qc4 ?qc5 ?qc6 ?_)
      case qc1 => rw [flatE_len enc5m_len, HN.out]
      case qc2 => exact Rd_news enc5m_len (by decide) (HP.out.keep ((Gr.refl w).alloc _))
      case qc3 => exact oneCell_flat enc5m_one ls
      case qc4 => unfold maxLen; omega
      case qc5 => omega
      case qc6 => simp
      intro v' w1 hown hgrow hnil
      have hown' : w1.ownsRow w.heap.size 87 5 v' n (flatE enc5m ls) := by simpa using hown
      have HO := Lib.hid hown'
      have HG := Lib.hid hgrow
      clear hown hgrow hnil hi hz0 hz1 hz2 q hown'
      go_wp2
      go_ret
      obtain ⟨A2, c2, rfl, h2, h3, -⟩ := own_row enc5m_len HN.out HO.out
      refine ⟨A2, c2, by rw [HN.out]; rfl, h3, ?_, by rw [HN.out]; exact h2⟩
      exact ((Below.refl _ w).alloc (Nat.le_refl _) _).grown HG.out (by simp) (by intro k hk; simp [Value.ownBlock] at hk; omega)
set_option maxRecDepth 100000 in
theorem Letters_nil (w : World) : Calls Try.prog 19 #[.pointer none] w fun e w' => e = .returned (.slice none 0 0) ∧ w' = w := by
  go_enter Try.func19, Try.ntmps19
  go_wp2_with fail
  go_ret
  exact ⟨rfl, rfl⟩
set_option maxRecDepth 100000 in
theorem Letters_any {B : Nat} {w : World} {N : Nx} (h : NetR B w N) (hml : N.mail.length ≤ 1024) : Calls Try.prog 19 #[.pointer (some ⟨N.p, 0, none⟩)] w (LetP N.mail w) := by
  have n1 := h.blk.cell 1
  obtain ⟨A, c, e, hr⟩ := h.box
  simp only [List.getElem?_toArray, List.getElem?_cons_succ, List.getElem?_cons_zero] at n1
  rw [e] at n1
  have HC := Lib.hid (cloneL_any A N.mail.length c N.mail w rfl hml hr)
  obtain ⟨n, hn⟩ : ∃ n, N.mail.length = n := ⟨_, rfl⟩
  rw [hn] at n1 HC
  have HN := Lib.hid hn
  clear e h hr hml hn
  go_enter Try.func19, Try.ntmps19
  go_wp2_with fail
  refine HC.out.mono ?_
  rintro e w1 ⟨A1, c1, rfl, hr1, hg1, hc1⟩
  rw [HN.out]
  have HR := Lib.hid (And.intro hr1 (And.intro hg1 hc1))
  clear hr1 hg1 hc1
  go_wp2_with fail
  go_ret
  exact ⟨A1, c1, by rw [HN.out]; rfl, HR.out.1, HR.out.2.1, HR.out.2.2⟩

end Go.Proofs.Ytnoeiocbmhkmeaa
