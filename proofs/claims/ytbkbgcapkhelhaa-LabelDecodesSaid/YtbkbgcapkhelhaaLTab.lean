/- Layer 3: the tables of powers and logarithms. -/
import Derived.Test.YtbkbgcapkhelhaaLMul
namespace Go.Proofs.Ytbkbgcapkhelhaa
open Go.RowKit
set_option linter.unusedSimpArgs false

theorem Blk.new (w : World) (cs : Array Value) (t : TypeId) {g : Nat} (h : w.heap.size = g) : Blk (w.alloc (.cells cs t)) g t cs := by
  subst h; exact heap_alloc_new w _
theorem Blk.alloc {w : World} {g : Nat} {t : TypeId} {cs : Array Value} (h : Blk w g t cs) (o : Obj) : Blk (w.alloc o) g t cs := h.keep ((Gr.refl _).alloc _)
theorem Blk.other {w : World} {g : Nat} {t : TypeId} {cs : Array Value} (h : Blk w g t cs) {p : Addr} (hne : g ≠ p.block) (u : Value) : Blk (w.setCell p u) g t cs :=
  (Below.heap_setCell w p u g hne).trans h

set_option maxRecDepth 1000000 in
theorem zero_tables : Try.zeroCells82 = Array.replicate 255 (.int .u8 0) ++ Array.replicate 256 (.int .i64 0) := by kernel_rfl
/-- Tables filled up to k. -/
def TabB (cs : Array Value) (k : Nat) : Prop := cs.size = 511 ∧ (∀ i, i < k → cs[i]? = some (.int .u8 (pw i : Int))) ∧ ∀ i, i < k → cs[255 + pw i]? = some (.int .i64 (i : Int))
theorem TabB.next {cs : Array Value} {k : Nat} (h : TabB cs k) (hk : k < 255) : TabB ((cs.setIfInBounds k (.int .u8 (pw k : Int))).setIfInBounds (255 + pw k) (.int .i64 (k : Int))) (k + 1) := by
  obtain ⟨h1, h2, h3⟩ := h
  have hp := pw_lt k
  refine ⟨by simp [h1], fun i hi => ?_, fun i hi => ?_⟩
  · rw [Array.getElem?_setIfInBounds_ne (by omega)]
    by_cases e : i = k
    · subst e; rw [Array.getElem?_setIfInBounds_self_of_lt (by omega)]
    · rw [Array.getElem?_setIfInBounds_ne (by omega)]; exact h2 i (by omega)
  · by_cases e : i = k
    · subst e; rw [Array.getElem?_setIfInBounds_self_of_lt (by simp [h1]; omega)]
    · have hne : pw i ≠ pw k := fun h => e (pw_inj (by omega) hk h)
      rw [Array.getElem?_setIfInBounds_ne (by omega), Array.getElem?_setIfInBounds_ne (by omega)]; exact h3 i (by omega)
/-- The tables at T. -/
def Tabs (T : Nat) (w : World) : Prop := (∀ i, i < 255 → w.cell? ⟨T, i, none⟩ = some (.int .u8 ((gp i).v : Int))) ∧ ∀ a : G, a ≠ g0 → w.cell? ⟨T, 255 + a.v, none⟩ = some (.int .i64 (glog a : Int))
theorem Tabs.keep {T : Nat} {w w' : World} (h : Tabs T w) (hg : Gr w w') : Tabs T w' := ⟨fun i hi => hg.keep (h.1 i hi), fun a ha => hg.keep (h.2 a ha)⟩
theorem Tabs.of {T : Nat} {t : TypeId} {w : World} {cs : Array Value} (hb : Blk w T t cs) (h : TabB cs 255) : Tabs T w := by
  obtain ⟨h1, h2, h3⟩ := h
  refine ⟨fun i hi => by rw [hb.cell]; exact h2 i hi, fun a ha => ?_⟩
  obtain ⟨h4, h5⟩ := glog_spec ha
  have := h3 _ h4
  rw [show pw (glog a) = a.v from congrArg G.v h5] at this
  rw [hb.cell]; exact this

set_option maxRecDepth 100000 in
set_option maxHeartbeats 1000000 in
theorem newTables_any (w : World) : Calls Try.prog 34 #[] w fun e w' => ∃ T, e = .returned (.pointer (some ⟨T, 0, none⟩)) ∧ w.heap.size ≤ T ∧ Tabs T w' ∧ Gr w w' := by
  obtain ⟨S, hS⟩ : ∃ S, w.heap.size = S := ⟨_, rfl⟩
  have hblk : Blk (w.alloc (.cells Try.zeroCells82 82)) S 82 Try.zeroCells82 := Blk.new _ _ _ hS
  have htab : TabB Try.zeroCells82 0 := ⟨by rw [zero_tables]; simp, fun i hi => absurd hi (by omega), fun i hi => absurd hi (by omega)⟩
  have hg0 : Gr w (w.alloc (.cells Try.zeroCells82 82)) := (Gr.refl w).alloc _
  have HB := Lib.hid hblk
  have HT := Lib.hid htab
  clear hblk htab
  subst hS
  go_enter Try.func34, Try.ntmps34
  go_wp2_with fail
  generalize hW0 : World.alloc w _ = W0 at HB hg0
  have HG0 := Lib.hid hg0
  clear hg0 hW0
  go_loopw [2, 6] (fun el z wr => ∃ (k : Nat) (cs : Array Value), k ≤ 255 ∧ z = .int .i64 k ∧ el = .int .u8 (pw k : Int) ∧ Hid (Blk wr w.heap.size 82 cs) ∧ Hid (TabB cs k) ∧ Hid (Gb w.heap.size W0 wr)) (fun _ z _ => 255 - (intOf z).toNat)
  case atStart => exact ⟨0, _, Nat.zero_le _, rfl, rfl, HB, HT, Lib.hid (Gb.refl _ _)⟩
  case round =>
    obtain ⟨k, cs, hk, rfl, rfl, hB, hT, hG⟩ := hrel
    by_cases hlt : k < 255
    · have hp := pw_lt k
      have HM : Hid (mulN (pw k) 2 = pw (k + 1)) := Lib.hid (pw_add k 1)
      have HN := Lib.hid (hT.out.next hlt)
      have hsz := hT.out.1
      obtain ⟨v1, e1⟩ : ∃ v, cs[k]? = some v := ⟨_, Array.getElem?_eq_getElem (by omega)⟩
      obtain ⟨v2, e2⟩ : ∃ v, cs[255 + pw k]? = some v := ⟨_, Array.getElem?_eq_getElem (by omega)⟩
      have c1 := (hB.out.cell k).trans e1
      have c2 := (hB.out.cell (255 + pw k)).trans e2
      have f1 := hB.out.free k
      have f2 := hB.out.free (255 + pw k)
      have HB2 := Lib.hid ((hB.out.put k (.int .u8 (pw k : Int))).put (255 + pw k) (.int .i64 (k : Int)))
      have HG2 := Lib.hid ((hG.out.put k (.int .u8 (pw k : Int))).put (255 + pw k) (.int .i64 (k : Int)))
      clear hsz e1 e2
      generalize pw k = p at hp HM HN c2 f2 HB2 HG2 ⊢
      go_wp2_with fail
      refine (Mul_any p 2 hp (by omega) _).mono ?_
      rintro e w1 ⟨rfl, rfl⟩
      rw [HM.out]
      go_wp2_with fail
      go_roundw
      case rel => exact ⟨k + 1, _, by omega, by go_num, rfl, HB2, HN, HG2⟩
      case measure => simp [intOf] <;> omega
    · obtain rfl : k = 255 := by omega
      go_wp2_with fail
      go_ret
      exact ⟨_, rfl, Nat.le_refl _, Tabs.of hB.out hT.out, hG.out.gr HG0.out (Nat.le_refl _)⟩

end Go.Proofs.Ytbkbgcapkhelhaa
