/- Layer 4: the reference's Right.
Layer 4: append(nil, list...): a copy of a list.
Layer 4: the law's helpers jobs, answer, mod. -/
import Derived.Test.YtngcgienhdifaaaBnRefS
import Derived.Test.YtngcgienhdifaaaBnRefR
import Derived.Deep.AppendLies
namespace Go.Proofs.Ytngcgienhdifaaa
open Go.RowKit
set_option linter.unusedSimpArgs false

set_option maxRecDepth 100000 in
set_option maxHeartbeats 8000000 in
theorem rRight_any (B : Int) (hB : 1 ≤ B ∧ B ≤ 8) (A : Option Addr) (n c : Nat) (l : List Jb) (p : Bool) (C : Option Addr) (m cc : Nat) (s : List Sl) (JA : Option Addr) (m1 c1 : Nat) (J : List Int) (SA : Option Addr) (m2 c2 : Nat) (S : List (Int × Int)) (w : World) (hn : l.length = n) (hn32 : n ≤ 32) (hV : JobsV l) (hp : Tris w A l) (hR : AnsR w C m cc s JA m1 J SA m2 S) :
    Calls Try.prog 18 #[.int .i64 B, .slice A n c, .agg #[.bool p, .slice C m cc, .slice JA m1 c1, .slice SA m2 c2]] w (BoolP (RightP B l p s J S) w) := by
  have HSC := Lib.hid (fun W (hW : Gr w W) => rSchedule_any B A n c l C m cc s W hn hn32 hV (hp.keep hW) hR.hm hR.hmb (hR.hs.keep hW))
  have HRF := Lib.hid (fun W (hW : Gr w W) => rRefusal_any B hB A n c l JA m1 c1 J SA m2 c2 S W hn hn32 hV (hp.keep hW) hR.hm1 hR.hb1 (hR.hJ.keep hW) hR.hm2 hR.hb2 (hR.hS.keep hW))
  have HR := Lib.hid hR
  clear hn hV hp hR
  have hga := (Gr.refl w).alloc (.cells #[.bool p, .slice C m cc, .slice JA m1 c1, .slice SA m2 c2] 28)
  have HSC1 := Lib.hid (HSC.out _ hga)
  have HRF1 := Lib.hid (HRF.out _ hga)
  clear HSC HRF
  cases p with
  | true =>
    by_cases h1 : m1 = 0
    · by_cases h2 : m2 = 0
      · have HQ : Hid (RightP B l true s J S ↔ SchedP B l s) := Lib.hid (by
          rw [RightP.yes]
          exact ⟨fun h => h.2.2, fun h => ⟨List.eq_nil_of_length_eq_zero (HR.out.hm1.trans h1), List.eq_nil_of_length_eq_zero (HR.out.hm2.trans h2), h⟩⟩)
        subst h1
        subst h2
        go_enter Try.func18, Try.ntmps18
        go_wp2_with fail
        refine HSC1.out.mono ?_
        rintro e w2 ⟨r, rfl, hr, hg2⟩
        have HRR := Lib.hid hr
        clear hr HSC1 HRF1
        go_wp2_with fail
        go_ret
        exact ⟨r, rfl, by rw [HQ.out]; exact HRR.out, hga.trans hg2⟩
      · have HQ : Hid (¬ RightP B l true s J S) := Lib.hid (by rw [RightP.yes]; exact fun h => ne_nil_of HR.out.hm2 h2 h.2.1)
        subst h1
        have hd : ((m2 : Int) == 0) = false := by simpa using h2
        clear HSC1 HRF1
        go_enter Try.func18, Try.ntmps18
        go_wp2_with fail
        go_ret
        exact ⟨false, rfl, no_of HQ.out, hga⟩
    · have HQ : Hid (¬ RightP B l true s J S) := Lib.hid (by rw [RightP.yes]; exact fun h => ne_nil_of HR.out.hm1 h1 h.1)
      have hd : ((m1 : Int) == 0) = false := by simpa using h1
      clear HSC1 HRF1
      go_enter Try.func18, Try.ntmps18
      go_wp2_with fail
      go_ret
      exact ⟨false, rfl, no_of HQ.out, hga⟩
  | false =>
    by_cases h1 : m = 0
    · have HQ : Hid (RightP B l false s J S ↔ RefuseP B l J S) := Lib.hid (by
        rw [RightP.no]
        exact ⟨fun h => h.2, fun h => ⟨List.eq_nil_of_length_eq_zero (HR.out.hm.trans h1), h⟩⟩)
      subst h1
      go_enter Try.func18, Try.ntmps18
      go_wp2_with fail
      refine HRF1.out.mono ?_
      rintro e w2 ⟨r, rfl, hr, hg2⟩
      have HRR := Lib.hid hr
      clear hr HSC1 HRF1
      go_wp2_with fail
      go_ret
      exact ⟨r, rfl, by rw [HQ.out]; exact HRR.out, hga.trans hg2⟩
    · have HQ : Hid (¬ RightP B l false s J S) := Lib.hid (by rw [RightP.no]; exact fun h => ne_nil_of HR.out.hm h1 h.1)
      have hd : ((m : Int) == 0) = false := by simpa using h1
      clear HSC1 HRF1
      go_enter Try.func18, Try.ntmps18
      go_wp2_with fail
      go_ret
      exact ⟨false, rfl, no_of HQ.out, hga⟩

end Go.Proofs.Ytngcgienhdifaaa

namespace Go.Proofs.Ytngcgienhdifaaa
open Go.RowKit
set_option linter.unusedSimpArgs false

/-- What such a copy is. -/
structure CopyP {α : Type} (enc : α → List Value) (size : Nat) (xs : List α) (k : Nat) (w : World) (A' : Option Addr) (c' : Nat) (w' : World) : Prop where
  rd : Rd size enc w' A' xs
  nil : A' = none → k = 0 ∧ c' = 0
  spot : ∀ a, A' = some a → a.spot = none
  le : k ≤ c'
  gr : Gr w w'
section
variable {α : Type} {enc : α → List Value} {size : Nat}
theorem run_copy {P : Program} (w : World) (t ty : TypeId) (e : TypeId) (i : TypeInfo) (z : Value) (bytes : Nat) (ht : P.underlying t = some (.slice e)) (hi : P.info? e = some i) (hz : i.zero = some z)
    (hsize : i.size = size) (hby : i.bytes = bytes) (hzs : z.cells.size = size) (hsz : 0 < size) (hk : ∀ x : α, (enc x).length = size) (h1 : ∀ x : α, ∀ u ∈ enc x, u.oneCell' = true)
    (A : Option Addr) (k c : Nat) (xs : List α) (hA : A = none → k = 0 ∧ c = 0) (hn : xs.length = k) (hp : Rd size enc w A xs) (h63 : k ≤ maxLen) (hbytes : k * bytes ≤ 140737488355328) :
    ∃ A' c' w', (Builtin.append_ #[t, t] ty #[.slice none 0 0, .slice A k c]).run P w = .ok (.slice A' k c') w' ∧ CopyP enc size xs k w A' c' w' := by
  rcases A with _ | ad
  · obtain ⟨rfl, rfl⟩ := hA rfl
    have hx : xs = [] := List.eq_nil_of_length_eq_zero hn
    subst hx
    exact ⟨none, 0, w, run_append_owned_none (P := P) (w := w) w.heap.size t ty e i size ht hi _ 0 [] (World.ownsRow_nil w _ _ _), Rd_nil _ _, fun _ => ⟨rfl, rfl⟩, fun a h => by (cases h), Nat.le_refl _, Gr.refl _⟩
  · obtain ⟨v', w', hr, h2, h3, _, h5⟩ := run_append_own_at (P := P) w w.heap.size t ty e i z size bytes ht hi hz hsize hby hzs hsz (.slice none 0 0) 0 [] (World.ownsRow_nil w _ _ _) ad k c (flatE enc xs) (by rw [flatE_len hk, hn]) (Rd_news hk hsz hp) (oneCell_flat h1 xs) (by omega) (by simpa using hbytes) (Nat.le_refl _)
    have hg : Gr w w' := (Below.refl _ w).grown h3 (Nat.le_refl _) (fun t ht => by simp [Value.ownBlock] at ht)
    have h2' : w'.ownsRow w.heap.size e size v' k (flatE enc xs) := by simpa using h2
    rcases h2'.2 with ⟨rfl, hz0⟩ | ⟨g, cap, cur, rfl, _, _, hnc, _⟩
    · have hx : xs = [] := List.eq_nil_of_length_eq_zero (by rw [hn]; exact hz0)
      subst hx
      obtain rfl : k = 0 := hz0
      exact ⟨none, 0, w', hr, Rd_nil _ _, fun _ => ⟨rfl, rfl⟩, fun a h => by (cases h), Nat.le_refl _, hg⟩
    · exact ⟨some ⟨g, 0, none⟩, cap, w', hr, Rd_of_owns hk hn h2', fun h => by (cases h), fun a h => by (cases h; rfl), hnc, hg⟩
variable {P : Program} {w : World} {ops : Array Oper} {o : Oper} {a : Act} {K : Act → World → Prop} {Q : Exit → Act → World → Prop}
theorem wp_copy (s x : Operand) (t : TypeId) (ho : o.op = .call { callee := .builtin .append, args := #[s, x], argTypes := #[t, t] })
    (e : TypeId) (i : TypeInfo) (z : Value) (bytes : Nat) (ht : P.underlying t = some (.slice e)) (hi : P.info? e = some i) (hz : i.zero = some z)
    (hsize : i.size = size) (hby : i.bytes = bytes) (hzs : z.cells.size = size) (hsz : 0 < size) (hk : ∀ x : α, (enc x).length = size) (h1 : ∀ x : α, ∀ u ∈ enc x, u.oneCell' = true)
    (A : Option Addr) (k c : Nat) (xs : List α) (hs : a.eval s = .slice none 0 0) (hx : a.eval x = .slice A k c) (hA : A = none → k = 0 ∧ c = 0) (hn : xs.length = k) (hp : Rd size enc w A xs) (h63 : k ≤ maxLen) (hbytes : k * bytes ≤ 140737488355328)
    (h : ∀ A' c' w', CopyP enc size xs k w A' c' w' → K (a.put o.dst (.slice A' k c')) w') : o.wp P a w K Q := by
  obtain ⟨A', c', w', hr, h2⟩ := run_copy (P := P) w t o.type e i z bytes ht hi hz hsize hby hzs hsz hk h1 A k c xs hA hn hp h63 hbytes
  unfold Oper.wp execOp
  simp only [ho, resolve, invoke, builtin, Sem.run_bind, Sem.run_pure, Result.andThen_ok, List.map_toArray, List.map_cons, List.map_nil, hs, hx, hr]
  exact h A' c' w' h2
theorem wpList_copy {rest : List Oper} (hgd : o.guard = none) (s x : Operand) (t : TypeId) (ho : o.op = .call { callee := .builtin .append, args := #[s, x], argTypes := #[t, t] })
    (e : TypeId) (i : TypeInfo) (z : Value) (bytes : Nat) (ht : P.underlying t = some (.slice e)) (hi : P.info? e = some i) (hz : i.zero = some z)
    (hsize : i.size = size) (hby : i.bytes = bytes) (hzs : z.cells.size = size) (hsz : 0 < size) (hk : ∀ x : α, (enc x).length = size) (h1 : ∀ x : α, ∀ u ∈ enc x, u.oneCell' = true)
    (A : Option Addr) (k c : Nat) (xs : List α) (hs : a.eval s = .slice none 0 0) (hx : a.eval x = .slice A k c) (hA : A = none → k = 0 ∧ c = 0) (hn : xs.length = k) (hp : Rd size enc w A xs) (h63 : k ≤ maxLen) (hbytes : k * bytes ≤ 140737488355328)
    (h : ∀ A' c' w', CopyP enc size xs k w A' c' w' → wpList P ops Q rest (a.put o.dst (.slice A' k c')) w') : wpList P ops Q (o :: rest) a w :=
  wpList_plain hgd fun _ hK => wp_copy s x t ho e i z bytes ht hi hz hsize hby hzs hsz hk h1 A k c xs hs hx hA hn hp h63 hbytes fun A' c' w' h2 => hK _ _ (h A' c' w' h2)
theorem step_copy {E : Prop} (hgd : o.guard = none) (s x : Operand) (t : TypeId) (ho : o.op = .call { callee := .builtin .append, args := #[s, x], argTypes := #[t, t] })
    (e : TypeId) (i : TypeInfo) (z : Value) (bytes : Nat) (ht : P.underlying t = some (.slice e)) (hi : P.info? e = some i) (hz : i.zero = some z)
    (hsize : i.size = size) (hby : i.bytes = bytes) (hzs : z.cells.size = size) (hsz : 0 < size) (hk : ∀ x : α, (enc x).length = size) (h1 : ∀ x : α, ∀ u ∈ enc x, u.oneCell' = true)
    (A : Option Addr) (k c : Nat) (xs : List α) (hs : a.eval s = .slice none 0 0) (hx : a.eval x = .slice A k c) (hA : A = none → k = 0 ∧ c = 0) (hn : xs.length = k) (hp : Rd size enc w A xs) (h63 : k ≤ maxLen) (hbytes : k * bytes ≤ 140737488355328)
    (h : ∀ A' c' w', CopyP enc size xs k w A' c' w' → K (a.put o.dst (.slice A' k c')) w') : if Region.wanted o (yielded ops a.tmps) = true then Oper.wp P o a w K Q else E := by
  have hw : Region.wanted o (yielded ops a.tmps) = true := by simp [Region.wanted, hgd]
  rw [if_pos hw]
  exact wp_copy s x t ho e i z bytes ht hi hz hsize hby hzs hsz hk h1 A k c xs hs hx hA hn hp h63 hbytes h
end

end Go.Proofs.Ytngcgienhdifaaa

namespace Go.Proofs.Ytngcgienhdifaaa
open Go.RowKit
set_option linter.unusedSimpArgs false

/-- The first jobs: one more than the limit of a longer list. -/
def cutJ (most : Nat) (l : List Jb) : List Jb := if 32 < l.length then l.take 33 else l.take most
theorem Try.infoBnJ : (Try.prog.info? 50).map (fun i => (i.zero, i.size, i.bytes)) = some (some (.agg #[.int .i64 0, .int .i64 0, .int .i64 0]), 3, 24) := by kernel_rfl

set_option maxRecDepth 100000 in
set_option maxHeartbeats 2000000 in
theorem jobs_any (most : Nat) (hmost : most ≤ 32) (A : Option Addr) (n c : Nat) (l : List Jb) (w : World) (k : Nat) (hk : (cutJ most l).length = k) (hn : l.length = n) (hl : n ≤ 9223372036854775807) (hc : n ≤ c) (h0 : A = none → c = 0) (hp : Tris w A l) :
    Calls Try.prog 13 #[.slice A n c, .int .i64 (most : Int)] w fun e w' => ∃ A' c', e = .returned (.slice A' k c') ∧ CopyP enc3 3 (cutJ most l) k w A' c' w' := by
  obtain ⟨i0, hi, hz0, hz1, hz2⟩ := info_parts Try.infoBnJ
  have HI := Lib.hid (And.intro hi (And.intro hz0 (And.intro hz1 hz2)))
  have hk33 : k ≤ 33 := by rw [← hk]; unfold cutJ; split <;> rw [List.length_take] <;> omega
  have hkn : k ≤ n := by rw [← hk, ← hn]; unfold cutJ; split <;> rw [List.length_take] <;> omega
  have HK := Lib.hid hk
  have HP : Hid (Tris w A (cutJ most l)) := Lib.hid (by unfold cutJ; split <;> exact Rd_take hp _)
  have HA : Hid (A = none → k = 0 ∧ c = 0) := Lib.hid (fun e => by have := h0 e; omega)
  have hm0 : (0 : Int) ≤ (most : Int) := by omega
  by_cases hbig : 32 < n
  · have hbi : (32 : Int) < (n : Int) := by omega
    have hke : k = 33 := by rw [← hk]; unfold cutJ; rw [if_pos (by omega), List.length_take]; omega
    subst hke
    have hcc : 33 ≤ c := by omega
    have hcc' : (33 : Int) ≤ (c : Int) := by omega
    clear hk hp h0 hi hz0 hz1 hz2
    obtain ⟨hi, hz0, hz1, hz2⟩ := HI.out
    go_enter Try.func13, Try.ntmps13
    go_wp2_with (at_builtin; refine wpList_copy (by rfl) (.tmp 14) (.tmp 17) 22 (by rfl) 50 i0 _ 24 Try.underlying22 hi hz0 hz1 hz2 rfl (by decide) enc3_len enc3_one A 33 c (cutJ most l) (by rfl) (by rfl) HA.out HK.out HP.out (by unfold maxLen; omega) (by omega) ?_)
    intro A' c' w' hcp
    have HC := Lib.hid hcp
    clear hcp
    go_wp2_with fail
    go_ret
    exact ⟨A', c', rfl, HC.out⟩
  · have hbi : ¬ (32 : Int) < (n : Int) := by omega
    have hke : k = min n most := by rw [← hk]; unfold cutJ; rw [if_neg (by omega), List.length_take]; omega
    have hkc : (k : Int) ≤ (c : Int) := by omega
    have hkc' : k ≤ c := by omega
    have e1 : (if (most : Int) < (n : Int) then (most : Int) else (n : Int)) = (k : Int) := by split <;> omega
    have e2 : (if (n : Int) < (most : Int) then (n : Int) else (most : Int)) = (k : Int) := by split <;> omega
    have e3 : min (n : Int) (most : Int) = (k : Int) := by omega
    have hk0 : (0 : Int) ≤ (k : Int) := by omega
    clear hk hp h0 hke hi hz0 hz1 hz2
    obtain ⟨hi, hz0, hz1, hz2⟩ := HI.out
    go_enter Try.func13, Try.ntmps13
    go_wp2_with (at_builtin; refine wpList_copy (by rfl) (.tmp 14) (.tmp 17) 22 (by rfl) 50 i0 _ 24 Try.underlying22 hi hz0 hz1 hz2 rfl (by decide) enc3_len enc3_one A k c (cutJ most l) (by rfl) (by rfl) HA.out HK.out HP.out (by unfold maxLen; omega) (by omega) ?_)
    intro A' c' w' hcp
    have HC := Lib.hid hcp
    clear hcp
    go_wp2_with fail
    go_ret
    exact ⟨A', c', rfl, HC.out⟩

theorem noint4 (p : Bool) (A : Option Addr) (a b : Nat) (C : Option Addr) (c d : Nat) (D : Option Addr) (e f : Nat) (i : Nat) (n : Int) : (#[Value.bool p, .slice A a b, .slice C c d, .slice D e f] : Array Value)[i]? ≠ some (.int .i64 n) := by
  match i with
  | 0 => simp
  | 1 => simp
  | 2 => simp
  | 3 => simp
  | _ + 4 => simp

set_option maxRecDepth 100000 in
set_option maxHeartbeats 16000000 in
/-- The law's copy of an answer. -/
theorem answer4_any (p : Bool) (C : Option Addr) (m cc : Nat) (s : List Sl) (JA : Option Addr) (m1 c1 : Nat) (J : List Int) (SA : Option Addr) (m2 c2 : Nat) (S : List (Int × Int)) (w : World)
    (hm : s.length = m) (hml : m ≤ 9223372036854775807) (hmc : m ≤ cc) (hC : C = none → cc = 0) (hs : Rd 4 enc4 w C s)
    (hm1 : J.length = m1) (hl1 : m1 ≤ 9223372036854775807) (hc1 : m1 ≤ c1) (hC1 : JA = none → c1 = 0) (hJ : Ints w JA J)
    (hm2 : S.length = m2) (hl2 : m2 ≤ 9223372036854775807) (hc2 : m2 ≤ c2) (hC2 : SA = none → c2 = 0) (hS : Pts w SA S)
    (k : Nat) (hk : (s.take 4097).length = k) (k1 : Nat) (hk1 : (J.take 33).length = k1) (k2 : Nat) (hk2 : (S.take 4097).length = k2) :
    Calls Try.prog 20 #[.agg #[.bool p, .slice C m cc, .slice JA m1 c1, .slice SA m2 c2]] w fun e w' => ∃ C' cc' JA' c1' SA' c2', e = .returned (.agg #[.bool p, .slice C' k cc', .slice JA' k1 c1', .slice SA' k2 c2']) ∧ AnsR w' C' k cc' (s.take 4097) JA' k1 (J.take 33) SA' k2 (S.take 4097) ∧ (k1 ≤ c1' ∧ k2 ≤ c2' ∧ (JA' = none → c1' = 0) ∧ (SA' = none → c2' = 0)) ∧ Gr w w' := by
  obtain ⟨i0, hi, hz0, hz1, hz2⟩ := info_parts Try.infoBnT
  have HI := Lib.hid (And.intro hi (And.intro hz0 (And.intro hz1 hz2)))
  clear hi hz0 hz1 hz2
  obtain ⟨i1, hi, hz0, hz1, hz2⟩ := info_parts Try.infoBnI
  have HI1 := Lib.hid (And.intro hi (And.intro hz0 (And.intro hz1 hz2)))
  clear hi hz0 hz1 hz2
  obtain ⟨i2, hi, hz0, hz1, hz2⟩ := info_parts Try.infoBnS
  have HI2 := Lib.hid (And.intro hi (And.intro hz0 (And.intro hz1 hz2)))
  clear hi hz0 hz1 hz2
  rw [List.length_take] at hk hk1 hk2
  have HK : Hid ((s.take 4097).length = k) := Lib.hid (by rw [List.length_take]; exact hk)
  have HK1 : Hid ((J.take 33).length = k1) := Lib.hid (by rw [List.length_take]; exact hk1)
  have HK2 : Hid ((S.take 4097).length = k2) := Lib.hid (by rw [List.length_take]; exact hk2)
  have HP := Lib.hid (fun W (hW : Gr w W) => Rd_take (hs.keep hW) 4097)
  have HP1 := Lib.hid (fun W (hW : Gr w W) => Rd_take (hJ.keep hW) 33)
  have HP2 := Lib.hid (fun W (hW : Gr w W) => Rd_take (hS.keep hW) 4097)
  have HA : Hid (C = none → k = 0 ∧ cc = 0) := Lib.hid (fun e => by have := hC e; omega)
  have HA1 : Hid (JA = none → k1 = 0 ∧ c1 = 0) := Lib.hid (fun e => by have := hC1 e; omega)
  have HA2 : Hid (SA = none → k2 = 0 ∧ c2 = 0) := Lib.hid (fun e => by have := hC2 e; omega)
  rw [hm] at hk
  rw [hm1] at hk1
  rw [hm2] at hk2
  have e1 : (if (4097 : Int) < (m : Int) then (4097 : Int) else (m : Int)) = (k : Int) := by split <;> omega
  have e2 : (if (m : Int) < (4097 : Int) then (m : Int) else (4097 : Int)) = (k : Int) := by split <;> omega
  have e3 : min (m : Int) (4097 : Int) = (k : Int) := by omega
  have f1 : (if (33 : Int) < (m1 : Int) then (33 : Int) else (m1 : Int)) = (k1 : Int) := by split <;> omega
  have f2 : (if (m1 : Int) < (33 : Int) then (m1 : Int) else (33 : Int)) = (k1 : Int) := by split <;> omega
  have f3 : min (m1 : Int) (33 : Int) = (k1 : Int) := by omega
  have g1 : (if (4097 : Int) < (m2 : Int) then (4097 : Int) else (m2 : Int)) = (k2 : Int) := by split <;> omega
  have g2 : (if (m2 : Int) < (4097 : Int) then (m2 : Int) else (4097 : Int)) = (k2 : Int) := by split <;> omega
  have g3 : min (m2 : Int) (4097 : Int) = (k2 : Int) := by omega
  have l0 : (k : Int) ≤ (cc : Int) := by omega
  have l1 : (k1 : Int) ≤ (c1 : Int) := by omega
  have l2 : (k2 : Int) ≤ (c2 : Int) := by omega
  have n0 : (0 : Int) ≤ (k : Int) := by omega
  have n1 : (0 : Int) ≤ (k1 : Int) := by omega
  have n2 : (0 : Int) ≤ (k2 : Int) := by omega
  have l0' : k ≤ cc := by omega
  have l1' : k1 ≤ c1 := by omega
  have l2' : k2 ≤ c2 := by omega
  have b0 : k ≤ 4097 := by omega
  have b1 : k1 ≤ 33 := by omega
  have b2 : k2 ≤ 4097 := by omega
  clear hm hC hs hm1 hC1 hJ hm2 hC2 hS hk hk1 hk2 hml hmc hl1 hc1 hl2 hc2
  go_enter Try.func20, Try.ntmps20
  go_upto_region 2 with fail
  generalize hW1 : World.alloc (World.alloc (World.alloc w _) _) _ = w1
  have hgw1 : Gr w w1 := by rw [← hW1]; exact (((Gr.refl w).alloc _).alloc _).alloc _
  have hB1 : Blk w1 w.heap.size 28 #[.bool p, .slice C m cc, .slice JA m1 c1, .slice SA m2 c2] := by rw [← hW1]; exact ((Blk.new w _ _ rfl).alloc _).alloc _
  have hR1 : Blk w1 (w.heap.size + 1) 28 #[.bool false, .slice none 0 0, .slice none 0 0, .slice none 0 0] := by rw [← hW1]; exact (Blk.new _ _ _ (by simp)).alloc _
  have hN1 : Blk w1 (w.heap.size + 1 + 1) 28 #[.bool p, .slice none 0 0, .slice none 0 0, .slice none 0 0] := by rw [← hW1]; exact Blk.new _ _ _ (by simp)
  obtain ⟨R, hR⟩ : ∃ R, w.heap.size = R := ⟨_, rfl⟩
  rw [hR] at hB1 hR1 hN1 ⊢
  have HRL : Hid (w.heap.size ≤ R + 1) := Lib.hid (by omega)
  obtain ⟨N, hN⟩ : ∃ N, R + 1 + 1 = N := ⟨_, rfl⟩
  rw [hN] at hN1 ⊢
  have HRN : Hid (R ≠ N) := Lib.hid (by omega)
  have HRN1 : Hid (R + 1 ≠ N) := Lib.hid (by omega)
  have HRN2 : Hid (w.heap.size ≤ N) := Lib.hid (by omega)
  have HBw1 := Lib.hid hB1
  have HRw1 := Lib.hid hR1
  have HNw1 := Lib.hid hN1
  clear hW1 hR hN hB1 hR1 hN1
  obtain ⟨hi, hz0, hz1, hz2⟩ := HI.out
  have x1 := HBw1.out.cell 1
  have y1 := HNw1.out.cell 1
  have HPD := Lib.hid (HP.out _ (hgw1.drew))
  go_still_tail 9, (by kernel_rfl)
  go_wp2_with (at_builtin; refine wpList_copy (by rfl) (.tmp 8) (.tmp 15) 24 (by rfl) 53 i0 _ 32 Try.underlying24 hi hz0 hz1 hz2 rfl (by decide) enc4_len enc4_one C k cc (s.take 4097) (by rfl) (by rfl) HA.out HK.out HPD.out (by unfold maxLen; omega) (by omega) ?_)
  clear x1 y1 hi hz0 hz1 hz2 HPD
  intro A2 c2' w12 hcp
  have HGw12 : Hid (Gr w1 w12) := Lib.hid ((Gr.refl w1).drew.trans hcp.gr)
  have HNw12 := Lib.hid (HNw1.out.keep HGw12.out)
  have z1 := HNw12.out.cell 1
  have zf1 := HNw12.out.free 1
  have HC2 := Lib.hid hcp
  clear hcp
  go_upto_region 3 with fail
  have hgb2 := (Gb.of (Gr.refl w12) N).put 1 (.slice A2 k c2')
  have HBw22 := Lib.hid ((HBw1.out.keep HGw12.out).other (p := ⟨N, 1, none⟩) HRN.out (.slice A2 k c2'))
  have HRw22 := Lib.hid ((HRw1.out.keep HGw12.out).other (p := ⟨N, 1, none⟩) HRN1.out (.slice A2 k c2'))
  have hn2 : Blk (World.setCell w12 ⟨N, 1, none⟩ (.slice A2 k c2')) N 28 #[.bool p, .slice A2 k c2', .slice none 0 0, .slice none 0 0] := HNw12.out.put 1 (.slice A2 k c2')
  have HNw22 := Lib.hid hn2
  have HL2 := Lib.hid (HC2.out.rd.ans enc4_int HNw12.out (noint4 _ _ _ _ _ _ _ _ _ _) hgb2)
  have hgw22 : Gr w (World.setCell w12 ⟨N, 1, none⟩ (.slice A2 k c2')) := hgb2.gr (hgw1.trans HGw12.out) HRN2.out
  generalize World.setCell w12 _ _ = w22 at HBw22 HRw22 HNw22 HL2 hgw22  ⊢
  clear z1 zf1 hgb2 hn2 HNw12 HGw12 HBw1 HRw1 HNw1 hgw1
  obtain ⟨hi, hz0, hz1, hz2⟩ := HI1.out
  have x2 := HBw22.out.cell 2
  have y2 := HNw22.out.cell 2
  have HPD := Lib.hid (HP1.out _ (hgw22.drew))
  go_still_tail 9, (by kernel_rfl)
  go_wp2_with (at_builtin; refine wpList_copy (by rfl) (.tmp 19) (.tmp 26) 25 (by rfl) 3 i1 _ 8 Try.underlying25 hi hz0 hz1 hz2 rfl (by decide) enc1_len enc1_one JA k1 c1 (J.take 33) (by rfl) (by rfl) HA1.out HK1.out HPD.out (by unfold maxLen; omega) (by omega) ?_)
  clear x2 y2 hi hz0 hz1 hz2 HPD
  intro A3 c3' w13 hcp
  have HGw13 : Hid (Gr w22 w13) := Lib.hid ((Gr.refl w22).drew.trans hcp.gr)
  have HNw13 := Lib.hid (HNw22.out.keep HGw13.out)
  have z2 := HNw13.out.cell 2
  have zf2 := HNw13.out.free 2
  have HC3 := Lib.hid hcp
  clear hcp
  go_upto_region 4 with fail
  have hgb3 := (Gb.of (Gr.refl w13) N).put 2 (.slice A3 k1 c3')
  have HBw23 := Lib.hid ((HBw22.out.keep HGw13.out).other (p := ⟨N, 2, none⟩) HRN.out (.slice A3 k1 c3'))
  have HRw23 := Lib.hid ((HRw22.out.keep HGw13.out).other (p := ⟨N, 2, none⟩) HRN1.out (.slice A3 k1 c3'))
  have hn3 : Blk (World.setCell w13 ⟨N, 2, none⟩ (.slice A3 k1 c3')) N 28 #[.bool p, .slice A2 k c2', .slice A3 k1 c3', .slice none 0 0] := HNw13.out.put 2 (.slice A3 k1 c3')
  have HNw23 := Lib.hid hn3
  have HL3 := Lib.hid (HC3.out.rd.ans enc1_int HNw13.out (noint4 _ _ _ _ _ _ _ _ _ _) hgb3)
  have HL2 := Lib.hid ((HL2.out.keep HGw13.out).ans enc4_int HNw13.out (noint4 _ _ _ _ _ _ _ _ _ _) hgb3)
  have hgw23 : Gr w (World.setCell w13 ⟨N, 2, none⟩ (.slice A3 k1 c3')) := hgb3.gr (hgw22.trans HGw13.out) HRN2.out
  generalize World.setCell w13 _ _ = w23 at HBw23 HRw23 HNw23 HL3 hgw23 HL2 ⊢
  clear z2 zf2 hgb3 hn3 HNw13 HGw13 HBw22 HRw22 HNw22 hgw22
  obtain ⟨hi, hz0, hz1, hz2⟩ := HI2.out
  have x3 := HBw23.out.cell 3
  have y3 := HNw23.out.cell 3
  have HPD := Lib.hid (HP2.out _ (hgw23.drew))
  go_still_tail 9, (by kernel_rfl)
  go_wp2_with (at_builtin; refine wpList_copy (by rfl) (.tmp 30) (.tmp 37) 26 (by rfl) 46 i2 _ 16 Try.underlying26 hi hz0 hz1 hz2 rfl (by decide) enc2_len enc2_one SA k2 c2 (S.take 4097) (by rfl) (by rfl) HA2.out HK2.out HPD.out (by unfold maxLen; omega) (by omega) ?_)
  clear x3 y3 hi hz0 hz1 hz2 HPD
  intro A4 c4' w14 hcp
  have HGw14 : Hid (Gr w23 w14) := Lib.hid ((Gr.refl w23).drew.trans hcp.gr)
  have HNw14 := Lib.hid (HNw23.out.keep HGw14.out)
  have z3 := HNw14.out.cell 3
  have zf3 := HNw14.out.free 3
  have HC4 := Lib.hid hcp
  clear hcp
  go_upto_region 5 with fail
  have hgb4 := (Gb.of (Gr.refl w14) N).put 3 (.slice A4 k2 c4')
  have HBw24 := Lib.hid ((HBw23.out.keep HGw14.out).other (p := ⟨N, 3, none⟩) HRN.out (.slice A4 k2 c4'))
  have HRw24 := Lib.hid ((HRw23.out.keep HGw14.out).other (p := ⟨N, 3, none⟩) HRN1.out (.slice A4 k2 c4'))
  have hn4 : Blk (World.setCell w14 ⟨N, 3, none⟩ (.slice A4 k2 c4')) N 28 #[.bool p, .slice A2 k c2', .slice A3 k1 c3', .slice A4 k2 c4'] := HNw14.out.put 3 (.slice A4 k2 c4')
  have HNw24 := Lib.hid hn4
  have HL4 := Lib.hid (HC4.out.rd.ans enc2_int HNw14.out (noint4 _ _ _ _ _ _ _ _ _ _) hgb4)
  have HL2 := Lib.hid ((HL2.out.keep HGw14.out).ans enc4_int HNw14.out (noint4 _ _ _ _ _ _ _ _ _ _) hgb4)
  have HL3 := Lib.hid ((HL3.out.keep HGw14.out).ans enc1_int HNw14.out (noint4 _ _ _ _ _ _ _ _ _ _) hgb4)
  have hgw24 : Gr w (World.setCell w14 ⟨N, 3, none⟩ (.slice A4 k2 c4')) := hgb4.gr (hgw23.trans HGw14.out) HRN2.out
  generalize World.setCell w14 _ _ = w24 at HBw24 HRw24 HNw24 HL4 hgw24 HL2 HL3 ⊢
  clear z3 zf3 hgb4 hn4 HNw14 HGw14 HBw23 HRw23 HNw23 hgw23
  have v0 := HNw24.out.cell 0
  have v1 := HNw24.out.cell 1
  have v2 := HNw24.out.cell 2
  have v3 := HNw24.out.cell 3
  have y0 := HRw24.out.cell 0
  have y1 := HRw24.out.cell 1
  have y2 := HRw24.out.cell 2
  have y3 := HRw24.out.cell 3
  have z0 := HRw24.out.free 0
  have z1 := HRw24.out.free 1
  have z2 := HRw24.out.free 2
  have z3 := HRw24.out.free 3
  go_wp2_with fail
  obtain ⟨hrd, hgf, u0, u1, u2, u3⟩ := ans_put HRw24.out hgw24 HRL.out (.bool p) (.slice A2 k c2') (.slice A3 k1 c3') (.slice A4 k2 c4') _ rfl
  refine bodyPost_ret (v := .agg #[.bool p, .slice A2 k c2', .slice A3 k1 c3', .slice A4 k2 c4']) ?_ ?_ ?_
  · simp [results, Try.results20, go_sem, u0, u1, u2, u3]
  · rfl
  · exact ⟨A2, c2', A3, c3', A4, c4', rfl, ⟨HK.out, by omega, HC2.out.nil, HC2.out.spot, hrd enc4_int HL2.out, HK1.out, by omega, hrd enc1_int HL3.out, HK2.out, by omega, hrd enc2_int HL4.out⟩, ⟨HC3.out.le, HC4.out.le, fun e => (HC3.out.nil e).2, fun e => (HC4.out.nil e).2⟩, hgf⟩

end Go.Proofs.Ytngcgienhdifaaa
