/- The library's Clone of a slice of points. -/
import Derived.Test.YtfihmjobnffjfaaOwn
namespace Go.Proofs.Ytfihmjobnffjfaa
open Go.RowKit
set_option linter.unusedSimpArgs false

def flat2 (ps : List (Int × Int)) : List Value := ps.flatMap enc2
theorem flat2_len (ps : List (Int × Int)) : (flat2 ps).length = ps.length * 2 := by
  induction ps with
  | nil => rfl
  | cons p r ih => simp only [flat2, List.flatMap_cons, List.length_append, List.length_cons] at ih ⊢; simp only [enc2, List.length_cons, List.length_nil]; omega
theorem flat2_get : ∀ (ps : List (Int × Int)) (i : Nat), i < ps.length → (flat2 ps)[i * 2]? = some (.int .i64 (ps.getD i (0, 0)).1) ∧ (flat2 ps)[i * 2 + 1]? = some (.int .i64 (ps.getD i (0, 0)).2)
  | [], i, h => by simp at h
  | p :: r, 0, _ => ⟨rfl, rfl⟩
  | p :: r, i + 1, h => by
    have ih := flat2_get r i (by simpa using h)
    have e : flat2 (p :: r) = .int .i64 p.1 :: .int .i64 p.2 :: flat2 r := rfl
    rw [e, show (i + 1) * 2 = i * 2 + 1 + 1 by omega]
    simpa using ih
theorem flat2_inv {ps : List (Int × Int)} {j : Nat} {u : Value} (h : (flat2 ps)[j]? = some u) : j / 2 < ps.length ∧ u = .int .i64 (if j % 2 = 0 then (ps.getD (j / 2) (0, 0)).1 else (ps.getD (j / 2) (0, 0)).2) := by
  have hj : j < ps.length * 2 := by rw [← flat2_len]; exact (List.getElem?_eq_some_iff.1 h).1
  have hi : j / 2 < ps.length := by omega
  obtain ⟨h0, h1⟩ := flat2_get ps (j / 2) hi
  refine ⟨hi, ?_⟩
  rcases Nat.mod_two_eq_zero_or_one j with e | e
  · rw [show j = j / 2 * 2 by omega, h0] at h
    rw [if_pos e]; injection h with h; exact h.symm
  · rw [show j = j / 2 * 2 + 1 by omega, h1] at h
    rw [if_neg (by omega)]; injection h with h; exact h.symm
theorem flat2_cells {w : World} {b off : Nat} {ps : List (Int × Int)} (h : Pts w (some ⟨b, off, none⟩) ps) : ∀ j u, (flat2 ps)[j]? = some u → w.cell? ⟨b, off + j, none⟩ = some u := fun j u hu => by
  obtain ⟨hi, rfl⟩ := flat2_inv hu
  obtain ⟨b', off', e, h0, h1⟩ := Pts_at h hi
  obtain ⟨rfl, rfl⟩ : b = b' ∧ off = off' := by simpa using e
  rcases Nat.mod_two_eq_zero_or_one j with e | e
  · rw [if_pos e, ← h0, show off + j / 2 * 2 = off + j by omega]
  · rw [if_neg (by omega), ← h1, show off + j / 2 * 2 + 1 = off + j by omega]
theorem flat2_one (ps : List (Int × Int)) : ∀ u ∈ flat2 ps, u.oneCell' = true := fun u hu => by
  obtain ⟨j, hj⟩ := List.mem_iff_getElem?.1 hu
  rw [(flat2_inv hj).2]; rfl
theorem Own_of {w : World} {base : Nat} {t : TypeId} {g n c : Nat} {ps : List (Int × Int)} (hn : ps.length = n) (h : w.ownsRow base t 2 (.slice (some ⟨g, 0, none⟩) n c) n (flat2 ps)) : Own w g 0 ps := fun i hi => by
  obtain ⟨h0, h1⟩ := flat2_get ps i hi
  rw [Nat.zero_add]
  exact ⟨⟨(h.cellAt (i * 2) (by omega)).trans h0, (h.cellAt (i * 2 + 1) (by omega)).trans h1⟩, h.frozenAt _, h.frozenAt _⟩

def ClonePost (ps : List (Int × Int)) (w : World) (e : Ending) (w' : World) : Prop :=
  ∃ g c, e = .returned (.slice (some ⟨g, 0, none⟩) ps.length c) ∧ ps.length ≤ c ∧ w.heap.size ≤ g ∧ Own w' g 0 ps ∧ Gr w w'
theorem Try.info23 : (Try.prog.info? 23).map (fun i => (i.zero, i.size, i.bytes)) = some (some (.agg #[.int .i64 0, .int .i64 0]), 2, 16) := by kernel_rfl

set_option maxHeartbeats 1000000 in
theorem clone_any (b off n c : Nat) (ps : List (Int × Int)) (w : World) (hn : ps.length = n) (hl : n ≤ 512) (h0 : 1 ≤ n) (hp : Pts w (some ⟨b, off, none⟩) ps) :
    Calls Try.prog 82 #[.slice (some ⟨b, off, none⟩) n c] w (ClonePost ps w) := by
  obtain ⟨i0, hi, hz0, hz1, hz2⟩ := info_parts Try.info23
  have q : ∀ (w : World) (a : Option Addr) (n c n' c' : Nat), (binOp .eql 28 (.slice a n c) (.slice none n' c')).run Try.prog w = .ok (.bool a.isNone) w := fun w a n c n' c' => Lib.run_eql_slice_nil w _ _ a n c n' c' Try.underlying28
  have HN := Lib.hid hn
  have HP := Lib.hid hp
  clear hn hp
  go_enter Try.func82, Try.ntmps82
  go_wp2_with (at_builtin; refine wpList_append_own _ rfl _ _ 28 rfl w.heap.size 23 i0 _ 2 16 Try.underlying28 hi hz0 hz1 hz2 rfl (by decide) _ _ _ rfl (World.ownsRow_made w #[] 0 (Nat.le_refl _) (Nat.zero_le _) (by simp)) ⟨b, off, none⟩ n c (flat2 ps) rfl ?qc1 ?qc2 ?qc3 ?qc4 ?qc5 ?qc6 ?_)
  case qc1 => rw [flat2_len, HN.out]
  case qc2 =>
    intro j u hj
    rw [Addr.add_lit]
    exact alloc_old (flat2_cells HP.out j u hj)
  case qc3 => exact flat2_one ps
  case qc4 => unfold maxLen; omega
  case qc5 => omega
  case qc6 => simp
  intro v' w1 hown hgrow hnil
  have hown' : w1.ownsRow w.heap.size 23 2 v' n (flat2 ps) := by simpa using hown
  have HO := Lib.hid hown'
  have HG := Lib.hid hgrow
  clear hown hgrow hnil hi hz0 hz1 hz2 q hown'
  go_wp2
  go_ret
  rcases HO.out.2 with ⟨_, hz⟩ | ⟨g, cap, cur, rfl, hg, _, hnc, _⟩
  · omega
  · refine ⟨g, cap, by rw [HN.out]; rfl, by rw [HN.out]; exact hnc, hg, Own_of HN.out HO.out, ?_⟩
    exact ((Below.refl _ w).alloc (Nat.le_refl _) _).grown HG.out (by simp) (by intro k hk; simp [Value.ownBlock] at hk; omega)

end Go.Proofs.Ytfihmjobnffjfaa
