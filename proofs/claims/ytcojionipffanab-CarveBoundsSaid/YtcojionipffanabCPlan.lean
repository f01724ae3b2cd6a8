/- Layer 2: a plan out of the table. -/
import Derived.Test.YtcojionipffanabCBound
namespace Go.Proofs.Ytcojionipffanab
open Go.RowKit
set_option linter.unusedSimpArgs false

theorem Try.infoSt : (Try.prog.info? 56).map (fun i => (i.zero, i.size, i.bytes)) = some (some (.agg #[.int .i64 0, .int .i64 0]), 2, 16) := by kernel_rfl

/-- The slices that a variadic call hands over. -/
def RdParts (w : World) (A : Option Addr) (ps : List (List St)) : Prop :=
  ∀ i part, ps[i]? = some part → ∃ b off b' off' c', A = some ⟨b, off, none⟩ ∧ w.cell? ⟨b, off + i, none⟩ = some (.slice (some ⟨b', off', none⟩) part.length c') ∧ Pts w (some ⟨b', off', none⟩) part
theorem RdParts.keep {w w' : World} {A : Option Addr} {ps : List (List St)} (h : RdParts w A ps) (hg : Gr w w') : RdParts w' A ps := fun i part hp => by
  obtain ⟨b, off, b', off', c', e, hc, hP⟩ := h i part hp
  exact ⟨b, off, b', off', c', e, hg.keep hc, hP.keep hg⟩
def PlanPost (P : List St) (w : World) (e : Ending) (w' : World) : Prop :=
  ∃ g c, e = .returned (.slice (some ⟨g, 0, none⟩) P.length c) ∧ P.length ≤ c ∧ w.heap.size ≤ g ∧ w'.ownsRow w.heap.size 56 2 (.slice (some ⟨g, 0, none⟩) P.length c) P.length (flatE enc2 P) ∧ Gr w w'
theorem owns_one (w : World) (x y : Value) {base : Nat} (hb : base ≤ w.heap.size) : (w.alloc (.cells #[x, y] 56)).ownsRow base 56 2 (.slice (some ⟨w.heap.size, 0, none⟩) 1 1) 1 [x, y] :=
  ⟨rfl, .inr ⟨w.heap.size, 1, _, rfl, hb, heap_alloc_new w _, Nat.le_refl _, by unfold maxLen; omega, rfl, rfl⟩⟩

set_option maxRecDepth 100000 in
set_option maxHeartbeats 1000000 in
theorem planOf_any (s : St) (A : Option Addr) (n c : Nat) (ps : List (List St)) (w : World) (hn : ps.length = n) (hl : n ≤ 1024) (hps : ∀ p ∈ ps, 1 ≤ p.length) (hlen : ∀ k, (ps.take k).flatten.length ≤ 65536) (hp : RdParts w A ps) :
    Calls Try.prog 61 #[.agg #[.int .i64 s.1, .int .i64 s.2], .slice A n c] w (PlanPost (s :: ps.flatten) w) := by
  obtain ⟨i0, hi, hz0, hz1, hz2⟩ := info_parts Try.infoSt
  have HI := Lib.hid (And.intro hi (And.intro hz0 (And.intro hz1 hz2)))
  have HN := Lib.hid hn
  have HP := Lib.hid hp
  have HPS := Lib.hid hps
  have HLEN := Lib.hid hlen
  clear hn hp hps hlen hi hz0 hz1 hz2
  obtain ⟨kd, arg⟩ := s
  dsimp only
  go_enter Try.func61, Try.ntmps61
  go_wp2_with fail
  generalize hW : World.alloc (World.alloc w _) _ = W
  have hgW : Gr w W := by rw [← hW]; exact ((Gr.refl w).alloc _).alloc _
  have how : W.ownsRow w.heap.size 56 2 (.slice (some ⟨w.heap.size + 1, 0, none⟩) 1 1) 1 [.int .i64 kd, .int .i64 arg] := by
    rw [← hW]
    have := owns_one (w.alloc (.cells #[.int .i64 kd, .int .i64 arg] 56)) (.int .i64 kd) (.int .i64 arg) (base := w.heap.size) (by simp)
    rwa [show (w.alloc (.cells #[.int .i64 kd, .int .i64 arg] 56)).heap.size = w.heap.size + 1 by simp] at this
  have HOW := Lib.hid how
  have HGW := Lib.hid hgW
  clear hW how hgW
  go_loopw [5, 12] (fun v i wr => ∃ k L : Nat, k ≤ n ∧ i = .int .i64 k ∧ 1 ≤ L ∧ Hid (((kd, arg) :: (ps.take k).flatten).length = L) ∧ Hid (wr.ownsRow w.heap.size 56 2 v L (flatE enc2 ((kd, arg) :: (ps.take k).flatten))) ∧ Hid (Gr w wr)) (fun _ i _ => n - (intOf i).toNat)
  case atStart => exact ⟨0, 1, Nat.zero_le _, rfl, Nat.le_refl _, Lib.hid (by simp), Lib.hid (by simpa [flatE, enc2] using HOW.out), HGW⟩
  case round =>
    obtain ⟨k, L, hk, rfl, hL1, hL, hown, hg⟩ := hrel
    obtain ⟨gv, cv, rfl, -⟩ := owns_shape hown.out (by omega)
    by_cases hlt : k < n
    · have hkl : k < ps.length := by have := HN.out; omega
      obtain ⟨b, off, b', off', c', rfl, hc, hP⟩ := (HP.out.keep hg.out) k _ (getD_of [] hkl)
      have hm1 := HPS.out _ (List.mem_of_getElem? (getD_of [] hkl))
      have HTK : Hid ((ps.take (k + 1)).flatten = (ps.take k).flatten ++ ps.getD k []) := Lib.hid (by rw [List.take_add_one, getD_of [] hkl]; simp)
      have hlk := HLEN.out (k + 1)
      rw [HTK.out, List.length_append] at hlk
      have hLL : L = (ps.take k).flatten.length + 1 := by have := hL.out; simpa using this.symm
      generalize ps.getD k [] = part at hc hP hm1 HTK hlk
      obtain ⟨m, hm⟩ : ∃ m, part.length = m := ⟨_, rfl⟩
      rw [hm] at hc hm1 hlk
      have HM := Lib.hid hm
      have HC := Lib.hid (Rd_news enc2_len (by decide) hP)
      have hLm : L + m ≤ 65537 := by omega
      clear hP hm hLL hlk
      obtain ⟨hi, hz0, hz1, hz2⟩ := HI.out
      go_wp2_with (at_builtin; refine wpList_append_own _ rfl _ _ 25 rfl w.heap.size 56 i0 _ 2 16 Try.underlying25 hi hz0 hz1 hz2 rfl (by decide) _ _ _ rfl hown.out ⟨b', off', none⟩ m c' (flatE enc2 part) rfl ?a1 ?a2 ?a3 ?a4 ?a5 ?a6 ?_)
      case a1 => rw [flatE_len enc2_len, HM.out]
      case a2 => exact HC.out
      case a3 => exact oneCell_flat enc2_one part
      case a4 => unfold maxLen; omega
      case a5 => omega
      case a6 => exact hg.out.size
      intro v' w2 hown' hgrow _
      have hgb : Gr w w2 := Below.grown hg.out hgrow hg.out.size (fun t ht => (hown.out.lt t ht).1)
      have HGB := Lib.hid hgb
      have HO2 := Lib.hid hown'
      clear hown' hgrow hi hz0 hz1 hz2 hgb
      go_wp2_with fail
      go_roundw
      case rel => exact ⟨k + 1, L + m, by omega, by go_num, by omega, Lib.hid (by rw [HTK.out, ← List.cons_append, List.length_append, hL.out, HM.out]), Lib.hid (by rw [HTK.out, ← List.cons_append, flatE_app]; exact HO2.out), HGB⟩
      case measure => simp [intOf]; omega
    · obtain rfl : k = n := by omega
      have HFL : Hid ((ps.take k).flatten = ps.flatten) := Lib.hid (by rw [List.take_of_length_le (by have := HN.out; omega)])
      clear hlt
      go_wp2_with fail
      go_ret
      have hx := hown.out
      rw [HFL.out] at hx
      have hl := hL.out
      rw [HFL.out] at hl
      have hlt := (hx.lt gv rfl).1
      refine ⟨gv, cv, by rw [hl]; rfl, ?_, hlt, by rw [hl]; exact hx, hg.out⟩
      rcases hx.2 with ⟨h, _⟩ | ⟨g2, c2, cur, h, _, _, hnc, _⟩
      · cases h
      · injection h with _ _ h3
        rw [hl, h3]; exact hnc

end Go.Proofs.Ytcojionipffanab
