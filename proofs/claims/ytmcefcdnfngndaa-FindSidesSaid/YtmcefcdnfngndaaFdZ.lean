/- Layer 7: Order, Overlaps, Shortest. -/
import Derived.Test.YtmcefcdnfngndaaFdU
namespace Go.Proofs.Ytmcefcdnfngndaa
open Go.RowKit Go.Shelf
set_option linter.unusedSimpArgs false

theorem enc1_map (l : List Int) : l.map (Value.int .i64) = flatE enc1 l := by
  unfold flatE enc1
  induction l with
  | nil => rfl
  | cons a l ih => simp only [List.map_cons, List.flatMap_cons, ih]; rfl
theorem owns_le {w : World} {base base' : Nat} {e : TypeId} {size n : Nat} {v : Value} {xs : List Value} (h : w.ownsRow base e size v n xs) (hb : base' ≤ base) : w.ownsRow base' e size v n xs :=
  ⟨h.1, h.2.imp_right (fun ⟨g, cap, cur, e, hg, r⟩ => ⟨g, cap, cur, e, Nat.le_trans hb hg, r⟩)⟩
/-- A copy of a list of ints. -/
theorem clone_any (A : Option Addr) (n c : Nat) (l : List Nat) (w : World) (hl : l.length = n) (hnb : n ≤ 4097) (hs : ∀ a, A = some a → a.spot = none) (hA : A = none → n = 0) (hp : Ints w A (nI l)) :
    Calls Try.prog 30 #[.slice A n c] w fun e w' => ∃ A' c', e = .returned (.slice A' n c') ∧ w'.ownsRow w.heap.size 3 1 (.slice A' n c') n (flatE enc1 (nI l)) ∧ Gr w w' := by
  cases A with
  | none =>
    obtain rfl := hA rfl
    have hl0 : l = [] := List.eq_nil_of_length_eq_zero hl
    subst hl0
    refine (Any.slices_Clone_int_nil Try.fClone 0 c w).mono ?_
    rintro e w' ⟨rfl, rfl⟩
    exact ⟨none, 0, rfl, World.ownsRow_nil _ _ _ _, Gr.refl _⟩
  | some a =>
    obtain ⟨b, off, sp⟩ := a
    obtain rfl : sp = none := hs _ rfl
    refine (Any.slices_Clone_int Try.fClone b off n c (nI l) w (by rw [nI_len]; omega) (by omega) (fun j hj => ?_)).mono ?_
    · rw [nI_len] at hj
      obtain ⟨b', off', e, hc⟩ := Nats_at hp hj
      obtain ⟨rfl, rfl⟩ : b = b' ∧ off = off' := by simpa using e
      rw [hc, nI_at]
    · rintro e w' ⟨v', rfl, ho, -, hg⟩
      rw [List.take_of_length_le (by rw [nI_len, hl]; exact Nat.le_refl _), enc1_map] at ho
      have ho2 : w'.ownsRow w.heap.size 3 1 v' n (flatE enc1 (nI l)) := ho
      obtain ⟨A', c', rfl, -⟩ := own_row enc1_len (by rw [nI_len]; exact hl) ho2
      exact ⟨A', c', rfl, ho2, hg⟩

set_option maxRecDepth 1000000 in
set_option maxHeartbeats 4000000 in
theorem order_any (s : ByteArray) (n c d : Nat) (o : List Nat) (A B : Option Addr) (w : World) (hX : Idx s n o A c B d w) :
    Calls Try.prog 12 #[.agg #[.string s, .slice A n c, .slice B n d]] w fun e w' => ∃ A' c', e = .returned (.slice A' n c') ∧ w'.ownsRow w.heap.size 3 1 (.slice A' n c') n (flatE enc1 (nI o)) ∧ Gr w w' := by
  have HCL := Lib.hid (fun W (hW : Gr w W) => clone_any A n c o W hX.olen (by have := hX.le; omega) hX.spA (fun h => (hX.noA h).1) (hX.ro.keep hW))
  clear hX
  go_enter Try.func12, Try.ntmps12
  go_upto_region 1 with fail
  generalize hW1 : World.alloc w _ = w1
  obtain ⟨X, hXX⟩ : ∃ X, w.heap.size = X := ⟨_, rfl⟩
  have HX := Lib.hid hXX
  have hg1 : Gr w w1 := by rw [← hW1]; exact (Gr.refl w).alloc _
  have HBX : Blk w1 X 25 #[.string s, .slice A n c, .slice B n d] := by rw [← hW1]; exact Blk.new w _ _ hXX
  have z1 := HBX.cell 1
  rw [hXX]
  have HC1 := Lib.hid (HCL.out w1 hg1)
  clear hW1 hXX HBX
  go_wp2_with fail
  refine HC1.out.mono ?_
  rintro e w2 ⟨A', c', rfl, ho, hg2⟩
  have HOO := Lib.hid (owns_le ho hg1.size)
  rw [HX.out] at HOO
  have hG := hg1.trans hg2
  clear z1 HC1 ho
  go_wp2_with fail
  go_ret
  exact ⟨A', c', rfl, by first | exact HOO.out | exact HX.out ▸ HOO.out, by first | exact hG | exact hG.drewN _⟩

set_option maxRecDepth 1000000 in
set_option maxHeartbeats 4000000 in
theorem overlaps_any (s : ByteArray) (n c d : Nat) (o : List Nat) (A B : Option Addr) (w : World) (hX : Idx s n o A c B d w) :
    Calls Try.prog 16 #[.agg #[.string s, .slice A n c, .slice B n d]] w fun e w' => ∃ A' c', e = .returned (.slice A' n c') ∧ w'.ownsRow w.heap.size 3 1 (.slice A' n c') n (flatE enc1 (nI (ovsL (bts s) o))) ∧ Gr w w' := by
  have HCL := Lib.hid (fun W (hW : Gr w W) => clone_any B n d (ovsL (bts s) o) W (by rw [ovsL_len]; exact hX.olen) (by have := hX.le; omega) hX.spB (fun h => (hX.noB h).1) (hX.rv.keep hW))
  clear hX
  go_enter Try.func16, Try.ntmps16
  go_upto_region 1 with fail
  generalize hW1 : World.alloc w _ = w1
  obtain ⟨X, hXX⟩ : ∃ X, w.heap.size = X := ⟨_, rfl⟩
  have HX := Lib.hid hXX
  have hg1 : Gr w w1 := by rw [← hW1]; exact (Gr.refl w).alloc _
  have HBX : Blk w1 X 25 #[.string s, .slice A n c, .slice B n d] := by rw [← hW1]; exact Blk.new w _ _ hXX
  have z1 := HBX.cell 2
  rw [hXX]
  have HC1 := Lib.hid (HCL.out w1 hg1)
  clear hW1 hXX HBX
  go_wp2_with fail
  refine HC1.out.mono ?_
  rintro e w2 ⟨A', c', rfl, ho, hg2⟩
  have HOO := Lib.hid (owns_le ho hg1.size)
  rw [HX.out] at HOO
  have hG := hg1.trans hg2
  clear z1 HC1 ho
  go_wp2_with fail
  go_ret
  exact ⟨A', c', rfl, by first | exact HOO.out | exact HX.out ▸ HOO.out, by first | exact hG | exact hG.drewN _⟩

end Go.Proofs.Ytmcefcdnfngndaa
