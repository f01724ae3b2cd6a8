/- append(nil, list...): a copy of a list. -/
import Derived.Test.YtnoeiocbmhkmeaaBase
import Derived.Deep.AppendLies
namespace Go.Proofs.Ytnoeiocbmhkmeaa
open Go.RowKit
set_option linter.unusedSimpArgs false

/-- What such a copy is. -/
structure CopyP {α : Type} (enc : α → List Value) (size : Nat) (xs : List α) (k : Nat) (w : World) (A' : Option Addr) (c' : Nat) (w' : World) : Prop where
  rd : Rd size enc w' A' xs
  nil : A' = none → k = 0 ∧ c' = 0
  spot : ∀ a, A' = some a → a.spot = none
  le : k ≤ c'
  gr : Gr w w'
  new : ∀ a, A' = some a → w.heap.size ≤ a.block
  own : ∃ e, w'.ownsRow w.heap.size e size (.slice A' k c') k (flatE enc xs)
section
variable {α : Type} {enc : α → List Value} {size : Nat}
theorem run_copy {P : Program} (w : World) (t ty : TypeId) (e : TypeId) (i : TypeInfo) (z : Value) (bytes : Nat) (ht : P.underlying t = some (.slice e)) (hi : P.info? e = some i) (hz : i.zero = some z)
    (hsize : i.size = size) (hby : i.bytes = bytes) (hzs : z.cells.size = size) (hsz : 0 < size) (hk : ∀ x : α, (enc x).length = size) (h1 : ∀ x : α, ∀ u ∈ enc x, u.oneCell' = true)
    (A : Option Addr) (k c : Nat) (xs : List α) (hA : A = none → k = 0 ∧ c = 0) (hn : xs.length = k) (hp : Rd size enc w A xs) (h63 : k ≤ maxLen) (hbytes : k * bytes ≤ 140737488355328) :
    ∃ A' c' w', (Builtin.append_ #[t, t] ty #[.slice none 0 0, .slice A k c]).run P w = .ok (.slice A' k c') w' ∧ CopyP enc size xs k w A' c' w' := by
  rcases A with _ | ad
  · obtain ⟨rfl, rfl⟩ := hA rfl
    have hx : xs = [] := List.eq_nil_of_length_eq_zero hn
    subst hx
    exact ⟨none, 0, w, run_append_owned_none (P := P) (w := w) w.heap.size t ty e i size ht hi _ 0 [] (World.ownsRow_nil w _ _ _), Rd_nil _ _, fun _ => ⟨rfl, rfl⟩, fun a h => by (cases h), Nat.le_refl _, Gr.refl _, fun a h => by (cases h), e, World.ownsRow_nil w _ _ _⟩
  · obtain ⟨v', w', hr, h2, h3, _, h5⟩ := run_append_own_at (P := P) w w.heap.size t ty e i z size bytes ht hi hz hsize hby hzs hsz (.slice none 0 0) 0 [] (World.ownsRow_nil w _ _ _) ad k c (flatE enc xs) (by rw [flatE_len hk, hn]) (Rd_news hk hsz hp) (oneCell_flat h1 xs) (by omega) (by simpa using hbytes) (Nat.le_refl _)
    have hg : Gr w w' := (Below.refl _ w).grown h3 (Nat.le_refl _) (fun t ht => by simp [Value.ownBlock] at ht)
    have h2' : w'.ownsRow w.heap.size e size v' k (flatE enc xs) := by simpa using h2
    rcases h2'.2 with ⟨rfl, hz0⟩ | ⟨g, cap, cur, rfl, _, _, hnc, _⟩
    · have hx : xs = [] := List.eq_nil_of_length_eq_zero (by rw [hn]; exact hz0)
      subst hx
      obtain rfl : k = 0 := hz0
      exact ⟨none, 0, w', hr, Rd_nil _ _, fun _ => ⟨rfl, rfl⟩, fun a h => by (cases h), Nat.le_refl _, hg, fun a h => by (cases h), e, h2'⟩
    · exact ⟨some ⟨g, 0, none⟩, cap, w', hr, Rd_of_owns hk hn h2', fun h => by (cases h), fun a h => by (cases h; rfl), hnc, hg, fun a h => by (cases h; exact (h2'.lt g rfl).1), e, h2'⟩
variable {P : Program} {w : World} {ops : Array Oper} {o : Oper} {a : Act} {K : Act → World → Prop} {Q : Exit → Act → World → Prop}
theorem wp_copy (s x : Operand) (t : TypeId) (ho : o.op = .call { callee := .builtin .append, args := #[s, x], argTypes := #[t, t] })
    (e : TypeId) (i : TypeInfo) (z : Value) (bytes : Nat) (ht : P.underlying t = some (.slice e)) (hi : P.info? e = some i) (hz : i.zero = some z)
    (hsize : i.size = size) (hby : i.bytes = bytes) (hzs : z.cells.size = size) (hsz : 0 < size) (hk : ∀ x : α, (enc x).length = size) (h1 : ∀ x : α, ∀ u ∈ enc x, u.oneCell' = true)
    (A : Option Addr) (k c : Nat) (xs : List α) (hs : a.eval s = .slice none 0 0) (hx : a.eval x = .slice A k c) (hA : A = none → k = 0 ∧ c = 0) (hn : xs.length = k) (hp : Rd size enc w A xs) (h63 : k ≤ maxLen) (hbytes : k * bytes ≤ 140737488355328)
    (h : ∀ A' c' w', CopyP enc size xs k w A' c' w' → K (a.put o.dst (.slice A' k c')) w') : o.wp P a w K Q := by
  obtain ⟨A', c', w', hr, h2⟩ := run_copy (P := P) w t o.type e i z bytes ht hi hz hsize hby hzs hsz hk h1 A k c xs hA hn hp h63 hbytes
  unfold Oper.wp execOp
  simp only [ho, resolve, invoke, builtin, Sem.run_bind, Sem.run_pure, Result.andThen_ok, List.map_toArray, List.map_cons, List.map_nil, hs, hx, hr]
  exact h A' c' w' h2
theorem wpList_copy {rest : List Oper} (hgd : o.guard = none) (s x : Operand) (t : TypeId) (ho : o.op = .call { callee := .builtin .append, args := #[s, x], argTypes := #[t, t] })
    (e : TypeId) (i : TypeInfo) (z : Value) (bytes : Nat) (ht : P.underlying t = some (.slice e)) (hi : P.info? e = some i) (hz : i.zero = some z)
    (hsize : i.size = size) (hby : i.bytes = bytes) (hzs : z.cells.size = size) (hsz : 0 < size) (hk : ∀ x : α, (enc x).length = size) (h1 : ∀ x : α, ∀ u ∈ enc x, u.oneCell' = true)
    (A : Option Addr) (k c : Nat) (xs : List α) (hs : a.eval s = .slice none 0 0) (hx : a.eval x = .slice A k c) (hA : A = none → k = 0 ∧ c = 0) (hn : xs.length = k) (hp : Rd size enc w A xs) (h63 : k ≤ maxLen) (hbytes : k * bytes ≤ 140737488355328)
    (h : ∀ A' c' w', CopyP enc size xs k w A' c' w' → wpList P ops Q rest (a.put o.dst (.slice A' k c')) w') : wpList P ops Q (o :: rest) a w :=
  wpList_plain hgd fun _ hK => wp_copy s x t ho e i z bytes ht hi hz hsize hby hzs hsz hk h1 A k c xs hs hx hA hn hp h63 hbytes fun A' c' w' h2 => hK _ _ (h A' c' w' h2)
theorem step_copy {E : Prop} (hgd : o.guard = none) (s x : Operand) (t : TypeId) (ho : o.op = .call { callee := .builtin .append, args := #[s, x], argTypes := #[t, t] })
    (e : TypeId) (i : TypeInfo) (z : Value) (bytes : Nat) (ht : P.underlying t = some (.slice e)) (hi : P.info? e = some i) (hz : i.zero = some z)
    (hsize : i.size = size) (hby : i.bytes = bytes) (hzs : z.cells.size = size) (hsz : 0 < size) (hk : ∀ x : α, (enc x).length = size) (h1 : ∀ x : α, ∀ u ∈ enc x, u.oneCell' = true)
    (A : Option Addr) (k c : Nat) (xs : List α) (hs : a.eval s = .slice none 0 0) (hx : a.eval x = .slice A k c) (hA : A = none → k = 0 ∧ c = 0) (hn : xs.length = k) (hp : Rd size enc w A xs) (h63 : k ≤ maxLen) (hbytes : k * bytes ≤ 140737488355328)
    (h : ∀ A' c' w', CopyP enc size xs k w A' c' w' → K (a.put o.dst (.slice A' k c')) w') : if Region.wanted o (yielded ops a.tmps) = true then Oper.wp P o a w K Q else E := by
  have hw : Region.wanted o (yielded ops a.tmps) = true := by simp [Region.wanted, hgd]
  rw [if_pos hw]
  exact wp_copy s x t ho e i z bytes ht hi hz hsize hby hzs hsz hk h1 A k c xs hs hx hA hn hp h63 hbytes h
end

end Go.Proofs.Ytnoeiocbmhkmeaa
