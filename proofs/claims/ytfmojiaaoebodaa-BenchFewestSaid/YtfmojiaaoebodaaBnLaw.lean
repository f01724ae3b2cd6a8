/- Layer 4: the reference's Right.
Layer 4: append(nil, list...): a copy of a list.
Layer 4: the law's helpers jobs, answer, mod. -/
import Derived.Test.YtfmojiaaoebodaaBnRefS
import Derived.Test.YtfmojiaaoebodaaBnRefR
import Derived.Deep.AppendLies
namespace Go.Proofs.Ytfmojiaaoebodaa
open Go.RowKit
set_option linter.unusedSimpArgs false

set_option maxRecDepth 100000 in
set_option maxHeartbeats 8000000 in
theorem rRight_any (B : Int) (hB : 1 ≤ B ∧ B ≤ 8) (A : Option Addr) (n c : Nat) (l : List Jb) (p : Bool) (C : Option Addr) (m cc : Nat) (s : List Sl) (JA : Option Addr) (m1 c1 : Nat) (J : List Int) (SA : Option Addr) (m2 c2 : Nat) (S : List (Int × Int)) (w : World) (hn : l.length = n) (hn32 : n ≤ 32) (hV : JobsV l) (hp : Tris w A l) (hR : AnsR w C m cc s JA m1 J SA m2 S) :
    Calls Try.prog 11 #[.int .i64 B, .slice A n c, .agg #[.bool p, .slice C m cc, .slice JA m1 c1, .slice SA m2 c2]] w (BoolP (RightP B l p s J S) w) := by
  have HSC := Lib.hid (fun W (hW : Gr w W) => rSchedule_any B A n c l C m cc s W hn hn32 hV (hp.keep hW) hR.hm hR.hmb (hR.hs.keep hW))
  have HRF := Lib.hid (fun W (hW : Gr w W) => rRefusal_any B hB A n c l JA m1 c1 J SA m2 c2 S W hn hn32 hV (hp.keep hW) hR.hm1 hR.hb1 (hR.hJ.keep hW) hR.hm2 hR.hb2 (hR.hS.keep hW))
  have HR := Lib.hid hR
  clear hn hV hp hR
  have hga := (Gr.refl w).alloc (.cells #[.bool p, .slice C m cc, .slice JA m1 c1, .slice SA m2 c2] 28)
  have HSC1 := Lib.hid (HSC.out _ hga)
  have HRF1 := Lib.hid (HRF.out _ hga)
  clear HSC HRF
  cases p with
  | true =>
    by_cases h1 : m1 = 0
    · by_cases h2 : m2 = 0
      · have HQ : Hid (RightP B l true s J S ↔ SchedP B l s) := Lib.hid (by
          rw [RightP.yes]
          exact ⟨fun h => h.2.2, fun h => ⟨List.eq_nil_of_length_eq_zero (HR.out.hm1.trans h1), List.eq_nil_of_length_eq_zero (HR.out.hm2.trans h2), h⟩⟩)
        subst h1
        subst h2
        go_enter Try.func11, Try.ntmps11
        go_wp2_with fail
        refine HSC1.out.mono ?_
        rintro e w2 ⟨r, rfl, hr, hg2⟩
        have HRR := Lib.hid hr
        clear hr HSC1 HRF1
        go_wp2_with fail
        go_ret
        exact ⟨r, rfl, by rw [HQ.out]; exact HRR.out, hga.trans hg2⟩
      · have HQ : Hid (¬ RightP B l true s J S) := Lib.hid (by rw [RightP.yes]; exact fun h => ne_nil_of HR.out.hm2 h2 h.2.1)
        subst h1
        have hd : ((m2 : Int) == 0) = false := by simpa using h2
        clear HSC1 HRF1
        go_enter Try.func11, Try.ntmps11
        go_wp2_with fail
        go_ret
        exact ⟨false, rfl, no_of HQ.out, hga⟩
    · have HQ : Hid (¬ RightP B l true s J S) := Lib.hid (by rw [RightP.yes]; exact fun h => ne_nil_of HR.out.hm1 h1 h.1)
      have hd : ((m1 : Int) == 0) = false := by simpa using h1
      clear HSC1 HRF1
      go_enter Try.func11, Try.ntmps11
      go_wp2_with fail
      go_ret
      exact ⟨false, rfl, no_of HQ.out, hga⟩
  | false =>
    by_cases h1 : m = 0
    · have HQ : Hid (RightP B l false s J S ↔ RefuseP B l J S) := Lib.hid (by
        rw [RightP.no]
        exact ⟨fun h => h.2, fun h => ⟨List.eq_nil_of_length_eq_zero (HR.out.hm.trans h1), h⟩⟩)
      subst h1
      go_enter Try.func11, Try.ntmps11
      go_wp2_with fail
      refine HRF1.out.mono ?_
      rintro e w2 ⟨r, rfl, hr, hg2⟩
      have HRR := Lib.hid hr
      clear hr HSC1 HRF1
      go_wp2_with fail
      go_ret
      exact ⟨r, rfl, by rw [HQ.out]; exact HRR.out, hga.trans hg2⟩
    · have HQ : Hid (¬ RightP B l false s J S) := Lib.hid (by rw [RightP.no]; exact fun h => ne_nil_of HR.out.hm h1 h.1)
      have hd : ((m : Int) == 0) = false := by simpa using h1
      clear HSC1 HRF1
      go_enter Try.func11, Try.ntmps11
      go_wp2_with fail
      go_ret
      exact ⟨false, rfl, no_of HQ.out, hga⟩

end Go.Proofs.Ytfmojiaaoebodaa

namespace Go.Proofs.Ytfmojiaaoebodaa
open Go.RowKit
set_option linter.unusedSimpArgs false

/-- What such a copy is. -/
structure CopyP {α : Type} (enc : α → List Value) (size : Nat) (xs : List α) (k : Nat) (w : World) (A' : Option Addr) (c' : Nat) (w' : World) : Prop where
  rd : Rd size enc w' A' xs
  nil : A' = none → k = 0 ∧ c' = 0
  spot : ∀ a, A' = some a → a.spot = none
  le : k ≤ c'
  gr : Gr w w'
section
variable {α : Type} {enc : α → List Value} {size : Nat}
theorem run_copy {P : Program} (w : World) (t ty : TypeId) (e : TypeId) (i : TypeInfo) (z : Value) (bytes : Nat) (ht : P.underlying t = some (.slice e)) (hi : P.info? e = some i) (hz : i.zero = some z)
    (hsize : i.size = size) (hby : i.bytes = bytes) (hzs : z.cells.size = size) (hsz : 0 < size) (hk : ∀ x : α, (enc x).length = size) (h1 : ∀ x : α, ∀ u ∈ enc x, u.oneCell' = true)
    (A : Option Addr) (k c : Nat) (xs : List α) (hA : A = none → k = 0 ∧ c = 0) (hn : xs.length = k) (hp : Rd size enc w A xs) (h63 : k ≤ maxLen) (hbytes : k * bytes ≤ 140737488355328) :
    ∃ A' c' w', (Builtin.append_ #[t, t] ty #[.slice none 0 0, .slice A k c]).run P w = .ok (.slice A' k c') w' ∧ CopyP enc size xs k w A' c' w' := by
  rcases A with _ | ad
  · obtain ⟨rfl, rfl⟩ := hA rfl
    have hx : xs = [] := List.eq_nil_of_length_eq_zero hn
    subst hx
    exact ⟨none, 0, w, run_append_owned_none (P := P) (w := w) w.heap.size t ty e i size ht hi _ 0 [] (World.ownsRow_nil w _ _ _), Rd_nil _ _, fun _ => ⟨rfl, rfl⟩, fun a h => by (cases h), Nat.le_refl _, Gr.refl _⟩
  · obtain ⟨v', w', hr, h2, h3, _, h5⟩ := run_append_own_at (P := P) w w.heap.size t ty e i z size bytes ht hi hz hsize hby hzs hsz (.slice none 0 0) 0 [] (World.ownsRow_nil w _ _ _) ad k c (flatE enc xs) (by rw [flatE_len hk, hn]) (Rd_news hk hsz hp) (oneCell_flat h1 xs) (by omega) (by simpa using hbytes) (Nat.le_refl _)
    have hg : Gr w w' := (Below.refl _ w).grown h3 (Nat.le_refl _) (fun t ht => by simp [Value.ownBlock] at ht)
    have h2' : w'.ownsRow w.heap.size e size v' k (flatE enc xs) := by simpa using h2
    rcases h2'.2 with ⟨rfl, hz0⟩ | ⟨g, cap, cur, rfl, _, _, hnc, _⟩
    · have hx : xs = [] := List.eq_nil_of_length_eq_zero (by rw [hn]; exact hz0)
      subst hx
      obtain rfl : k = 0 := hz0
      exact ⟨none, 0, w', hr, Rd_nil _ _, fun _ => ⟨rfl, rfl⟩, fun a h => by (cases h), Nat.le_refl _, hg⟩
    · exact ⟨some ⟨g, 0, none⟩, cap, w', hr, Rd_of_owns hk hn h2', fun h => by (cases h), fun a h => by (cases h; rfl), hnc, hg⟩
variable {P : Program} {w : World} {ops : Array Oper} {o : Oper} {a : Act} {K : Act → World → Prop} {Q : Exit → Act → World → Prop}
theorem wp_copy (s x : Operand) (t : TypeId) (ho : o.op = .call { callee := .builtin .append, args := #[s, x], argTypes := #[t, t] })
    (e : TypeId) (i : TypeInfo) (z : Value) (bytes : Nat) (ht : P.underlying t = some (.slice e)) (hi : P.info? e = some i) (hz : i.zero = some z)
    (hsize : i.size = size) (hby : i.bytes = bytes) (hzs : z.cells.size = size) (hsz : 0 < size) (hk : ∀ x : α, (enc x).length = size) (h1 : ∀ x : α, ∀ u ∈ enc x, u.oneCell' = true)
    (A : Option Addr) (k c : Nat) (xs : List α) (hs : a.eval s = .slice none 0 0) (hx : a.eval x = .slice A k c) (hA : A = none → k = 0 ∧ c = 0) (hn : xs.length = k) (hp : Rd size enc w A xs) (h63 : k ≤ maxLen) (hbytes : k * bytes ≤ 140737488355328)
    (h : ∀ A' c' w', CopyP enc size xs k w A' c' w' → K (a.put o.dst (.slice A' k c')) w') : o.wp P a w K Q := by
  obtain ⟨A', c', w', hr, h2⟩ := run_copy (P := P) w t o.type e i z bytes ht hi hz hsize hby hzs hsz hk h1 A k c xs hA hn hp h63 hbytes
  unfold Oper.wp execOp
  simp only [ho, resolve, invoke, builtin, Sem.run_bind, Sem.run_pure, Result.andThen_ok, List.map_toArray, List.map_cons, List.map_nil, hs, hx, hr]
  exact h A' c' w' h2
theorem wpList_copy {rest : List Oper} (hgd : o.guard = none) (s x : Operand) (t : TypeId) (ho : o.op = .call { callee := .builtin .append, args := #[s, x], argTypes := #[t, t] })
    (e : TypeId) (i : TypeInfo) (z : Value) (bytes : Nat) (ht : P.underlying t = some (.slice e)) (hi : P.info? e = some i) (hz : i.zero = some z)
    (hsize : i.size = size) (hby : i.bytes = bytes) (hzs : z.cells.size = size) (hsz : 0 < size) (hk : ∀ x : α, (enc x).length = size) (h1 : ∀ x : α, ∀ u ∈ enc x, u.oneCell' = true)
    (A : Option Addr) (k c : Nat) (xs : List α) (hs : a.eval s = .slice none 0 0) (hx : a.eval x = .slice A k c) (hA : A = none → k = 0 ∧ c = 0) (hn : xs.length = k) (hp : Rd size enc w A xs) (h63 : k ≤ maxLen) (hbytes : k * bytes ≤ 140737488355328)
    (h : ∀ A' c' w', CopyP enc size xs k w A' c' w' → wpList P ops Q rest (a.put o.dst (.slice A' k c')) w') : wpList P ops Q (o :: rest) a w :=
  wpList_plain hgd fun _ hK => wp_copy s x t ho e i z bytes ht hi hz hsize hby hzs hsz hk h1 A k c xs hs hx hA hn hp h63 hbytes fun A' c' w' h2 => hK _ _ (h A' c' w' h2)
theorem step_copy {E : Prop} (hgd : o.guard = none) (s x : Operand) (t : TypeId) (ho : o.op = .call { callee := .builtin .append, args := #[s, x], argTypes := #[t, t] })
    (e : TypeId) (i : TypeInfo) (z : Value) (bytes : Nat) (ht : P.underlying t = some (.slice e)) (hi : P.info? e = some i) (hz : i.zero = some z)
    (hsize : i.size = size) (hby : i.bytes = bytes) (hzs : z.cells.size = size) (hsz : 0 < size) (hk : ∀ x : α, (enc x).length = size) (h1 : ∀ x : α, ∀ u ∈ enc x, u.oneCell' = true)
    (A : Option Addr) (k c : Nat) (xs : List α) (hs : a.eval s = .slice none 0 0) (hx : a.eval x = .slice A k c) (hA : A = none → k = 0 ∧ c = 0) (hn : xs.length = k) (hp : Rd size enc w A xs) (h63 : k ≤ maxLen) (hbytes : k * bytes ≤ 140737488355328)
    (h : ∀ A' c' w', CopyP enc size xs k w A' c' w' → K (a.put o.dst (.slice A' k c')) w') : if Region.wanted o (yielded ops a.tmps) = true then Oper.wp P o a w K Q else E := by
  have hw : Region.wanted o (yielded ops a.tmps) = true := by simp [Region.wanted, hgd]
  rw [if_pos hw]
  exact wp_copy s x t ho e i z bytes ht hi hz hsize hby hzs hsz hk h1 A k c xs hs hx hA hn hp h63 hbytes h
end

end Go.Proofs.Ytfmojiaaoebodaa

namespace Go.Proofs.Ytfmojiaaoebodaa
open Go.RowKit
set_option linter.unusedSimpArgs false

/-- The first jobs: one more than the limit of a longer list. -/
def cutJ (most : Nat) (l : List Jb) : List Jb := if 32 < l.length then l.take 33 else l.take most
theorem Try.infoBnJ : (Try.prog.info? 48).map (fun i => (i.zero, i.size, i.bytes)) = some (some (.agg #[.int .i64 0, .int .i64 0, .int .i64 0]), 3, 24) := by kernel_rfl

set_option maxRecDepth 100000 in
set_option maxHeartbeats 2000000 in
theorem jobs_any (most : Nat) (hmost : most ≤ 32) (A : Option Addr) (n c : Nat) (l : List Jb) (w : World) (k : Nat) (hk : (cutJ most l).length = k) (hn : l.length = n) (hl : n ≤ 9223372036854775807) (hc : n ≤ c) (h0 : A = none → c = 0) (hp : Tris w A l) :
    Calls Try.prog 6 #[.slice A n c, .int .i64 (most : Int)] w fun e w' => ∃ A' c', e = .returned (.slice A' k c') ∧ CopyP enc3 3 (cutJ most l) k w A' c' w' := by
  obtain ⟨i0, hi, hz0, hz1, hz2⟩ := info_parts Try.infoBnJ
  have HI := Lib.hid (And.intro hi (And.intro hz0 (And.intro hz1 hz2)))
  have hk33 : k ≤ 33 := by rw [← hk]; unfold cutJ; split <;> rw [List.length_take] <;> omega
  have hkn : k ≤ n := by rw [← hk, ← hn]; unfold cutJ; split <;> rw [List.length_take] <;> omega
  have HK := Lib.hid hk
  have HP : Hid (Tris w A (cutJ most l)) := Lib.hid (by unfold cutJ; split <;> exact Rd_take hp _)
  have HA : Hid (A = none → k = 0 ∧ c = 0) := Lib.hid (fun e => by have := h0 e; omega)
  have hm0 : (0 : Int) ≤ (most : Int) := by omega
  by_cases hbig : 32 < n
  · have hbi : (32 : Int) < (n : Int) := by omega
    have hke : k = 33 := by rw [← hk]; unfold cutJ; rw [if_pos (by omega), List.length_take]; omega
    subst hke
    have hcc : 33 ≤ c := by omega
    have hcc' : (33 : Int) ≤ (c : Int) := by omega
    clear hk hp h0 hi hz0 hz1 hz2
    obtain ⟨hi, hz0, hz1, hz2⟩ := HI.out
    go_enter Try.func6, Try.ntmps6
    go_wp2_with (at_builtin; refine wpList_copy (by rfl) (.tmp 14) (.tmp 17) 22 (by rfl) 48 i0 _ 24 Try.underlying22 hi hz0 hz1 hz2 rfl (by decide) enc3_len enc3_one A 33 c (cutJ most l) (by rfl) (by rfl) HA.out HK.out HP.out (by unfold maxLen; omega) (by omega) ?_)
    intro A' c' w' hcp
    have HC := Lib.hid hcp
    clear hcp
    go_wp2_with fail
    go_ret
    exact ⟨A', c', rfl, HC.out⟩
  · have hbi : ¬ (32 : Int) < (n : Int) := by omega
    have hke : k = min n most := by rw [← hk]; unfold cutJ; rw [if_neg (by omega), List.length_take]; omega
    have hkc : (k : Int) ≤ (c : Int) := by omega
    have hkc' : k ≤ c := by omega
    have e1 : (if (most : Int) < (n : Int) then (most : Int) else (n : Int)) = (k : Int) := by split <;> omega
    have e2 : (if (n : Int) < (most : Int) then (n : Int) else (most : Int)) = (k : Int) := by split <;> omega
    have e3 : min (n : Int) (most : Int) = (k : Int) := by omega
    have hk0 : (0 : Int) ≤ (k : Int) := by omega
    clear hk hp h0 hke hi hz0 hz1 hz2
    obtain ⟨hi, hz0, hz1, hz2⟩ := HI.out
    go_enter Try.func6, Try.ntmps6
    go_wp2_with (at_builtin; refine wpList_copy (by rfl) (.tmp 14) (.tmp 17) 22 (by rfl) 48 i0 _ 24 Try.underlying22 hi hz0 hz1 hz2 rfl (by decide) enc3_len enc3_one A k c (cutJ most l) (by rfl) (by rfl) HA.out HK.out HP.out (by unfold maxLen; omega) (by omega) ?_)
    intro A' c' w' hcp
    have HC := Lib.hid hcp
    clear hcp
    go_wp2_with fail
    go_ret
    exact ⟨A', c', rfl, HC.out⟩

theorem noint4 (p : Bool) (A : Option Addr) (a b : Nat) (C : Option Addr) (c d : Nat) (D : Option Addr) (e f : Nat) (i : Nat) (n : Int) : (#[Value.bool p, .slice A a b, .slice C c d, .slice D e f] : Array Value)[i]? ≠ some (.int .i64 n) := by
  match i with
  | 0 => simp
  | 1 => simp
  | 2 => simp
  | 3 => simp
  | _ + 4 => simp

end Go.Proofs.Ytfmojiaaoebodaa
