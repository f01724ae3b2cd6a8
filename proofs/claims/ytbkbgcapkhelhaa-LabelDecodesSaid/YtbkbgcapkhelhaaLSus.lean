/- Layer 3: the suspects. -/
import Derived.Test.YtbkbgcapkhelhaaLPos
namespace Go.Proofs.Ytbkbgcapkhelhaa
open Go.RowKit
set_option linter.unusedSimpArgs false

set_option maxHeartbeats 2000000 in
theorem suspect1_any {D T : Nat} {Aw As : Option Addr} {n wc p sc : Nat} {ws ss : List G} {L : Nat → Bool} {k : Nat} (S i : Nat) (w : World) (h : Dmg w D T Aw As n wc p sc ws ss L k) (hs : w.cell? ⟨S, 0, none⟩ = some (.pointer (some ⟨D, 0, none⟩))) (hi : i < n) :
    Calls Try.prog 70 #[.int .i64 (i : Int), .pointer (some ⟨S, 0, none⟩)] w fun e w' => e = .returned (.bool (L i)) ∧ Gr w w' := by
  have hn2 := h.n2
  have c3 := h.c3 i (by omega)
  have h0 : (0 : Int) ≤ (i : Int) := by omega
  have h1 : (i : Int) < 255 := by omega
  have h2 : i < 255 := by omega
  generalize L i = z at c3 ⊢
  clear h
  go_enter Try.func70, Try.ntmps70
  go_wp2_with fail
  go_ret
  exact ⟨rfl, Gr.refl _⟩
set_option maxRecDepth 100000 in
set_option maxHeartbeats 2000000 in
theorem suspect2_any {D T : Nat} {Aw As : Option Addr} {n wc p sc : Nat} {ws ss : List G} {L : Nat → Bool} {k : Nat} (S U i : Nat) (A : Option Addr) (m mc : Nat) (q : List G) (w : World) (h : Dmg w D T Aw As n wc p sc ws ss L k) (hs : w.cell? ⟨S, 0, none⟩ = some (.pointer (some ⟨D, 0, none⟩))) (hu : w.cell? ⟨U, 0, none⟩ = some (.slice A m mc)) (hi : i < n) (hm : q.length = m) (hl : m ≤ 1048576) (hq : Byts w A q) :
    Calls Try.prog 72 #[.int .i64 (i : Int), .pointer (some ⟨S, 0, none⟩), .pointer (some ⟨U, 0, none⟩)] w fun e w' => e = .returned (.bool (L i || decide (val q (plc n i) = g0))) ∧ Gr w w' := by
  have hn2 := h.n2
  have c0 := h.c0
  have c3 := h.c3 i (by omega)
  have h0 : (0 : Int) ≤ (i : Int) := by omega
  have h1 : (i : Int) < 255 := by omega
  have h2 : i < 255 := by omega
  have HP := Lib.hid (fun W' (g : Gr w W') => place_any i W' (h.keep g) hi)
  have HV := Lib.hid (fun W' (g : Gr w W') => value_any T A m mc q (plc n i) W' (h.tabs.keep g) hm hl (hq.keep g))
  have ta := g_zero_test (val q (plc n i))
  generalize L i = z at c3 ⊢
  generalize plc n i = x at HP HV ta ⊢
  generalize val q x = y at HV ta ⊢
  generalize decide (y = g0) = t at ta ⊢
  have KS : Hid (∀ W', Gr w W' → (Gr w W' ∧ W'.cell? ⟨S, 0, none⟩ = some (.pointer (some ⟨D, 0, none⟩)) ∧ W'.cell? ⟨U, 0, none⟩ = some (.slice A m mc) ∧ W'.cell? ⟨D, 0, none⟩ = some (.pointer (some ⟨T, 0, none⟩)) ∧ W'.cell? ⟨D, 3 + i, none⟩ = some (.bool z))) := Lib.hid (fun W' g => ⟨g, g.keep hs, g.keep hu, g.keep c0, g.keep c3⟩)
  clear h hq
  cases z with
  | true =>
    go_enter Try.func72, Try.ntmps72
    go_wp2_with fail
    go_quiet (fail)
    go_wp2_with fail
    go_ret
    exact ⟨by simp, (Gr.refl _).drewN _⟩
  | false =>
    go_enter Try.func72, Try.ntmps72
    go_wp2_with fail
    go_region_law (first | (go_simp; go_at_call 63; refine (HP.out _ (by first | exact (Gr.refl _).drew | exact Gr.refl _)).mono ?_; rintro e w1 ⟨rfl, hg1⟩; have s1 := hg1.keep hs; have u1 := hg1.keep hu; have d1 := hg1.keep c0; have d3 := hg1.keep c3) | (go_simp; go_at_call 56; refine (HV.out _ ((Gr.refl _).drew.trans hg1)).mono ?_; rintro e w2 ⟨rfl, hg2⟩))
    all_goals
      go_wp2_with fail
      go_ret
      exact ⟨by rw [Bool.false_or]; rfl, ((Gr.refl _).drew.trans hg1).trans hg2⟩
end Go.Proofs.Ytbkbgcapkhelhaa
