/- Layer 3: withRoots. -/
import Derived.Test.YtbkbgcapkhelhaaLMany
import Derived.Laws.EntriesVeiled
import Derived.Deep.CutRange
namespace Go.Proofs.Ytbkbgcapkhelhaa
open Go.RowKit
set_option linter.unusedSimpArgs false

theorem rootsL_snoc (rs : List G) (r : G) : ∀ q : List G, rootsL q (rs ++ [r]) = timesR (rootsL q rs) r := by
  induction rs with
  | nil => intro q; rfl
  | cons s t ih => intro q; exact ih _

set_option maxRecDepth 100000 in
set_option maxHeartbeats 2000000 in
theorem withRoots_any (T : Nat) (A : Option Addr) (m mc : Nat) (rs : List G) (w : World) (hT : Tabs T w) (hm : rs.length = m) (hl : m ≤ 300) (hr : Byts w A rs) :
    Calls Try.prog 52 #[.pointer (some ⟨T, 0, none⟩), .slice A m mc] w fun e w' => ∃ g, e = .returned (.slice (some ⟨g, 0, none⟩) (m + 1) (m + 1)) ∧ w.heap.size ≤ g ∧ Row w' g 0 (rootP rs) ∧ Gr w w' := by
  have HT := Lib.hid hT
  have HR := Lib.hid hr
  have HM := Lib.hid hm
  have HTl := Lib.hid hT.lt
  clear hT hr hm
  go_enter Try.func52, Try.ntmps52
  go_upto_region 3 with fail
  have hb1 : Blk (((w.alloc (.cells #[.pointer (some ⟨T, 0, none⟩)] 62)).alloc (.cells #[.int .u8 1] 5)).alloc (.cells #[.slice (some ⟨w.heap.size + 1, 0, none⟩) 1 1] 40)) (w.heap.size + 1 + 1) 40 #[.slice (some ⟨w.heap.size + 1, 0, none⟩) 1 1] := Blk.new _ _ _ (by simp)
  have hb2 : Blk (((w.alloc (.cells #[.pointer (some ⟨T, 0, none⟩)] 62)).alloc (.cells #[.int .u8 1] 5)).alloc (.cells #[.slice (some ⟨w.heap.size + 1, 0, none⟩) 1 1] 40)) w.heap.size 62 #[.pointer (some ⟨T, 0, none⟩)] := ((Blk.new w _ _ rfl).alloc _).alloc _
  have hb3 : BG (((w.alloc (.cells #[.pointer (some ⟨T, 0, none⟩)] 62)).alloc (.cells #[.int .u8 1] 5)).alloc (.cells #[.slice (some ⟨w.heap.size + 1, 0, none⟩) 1 1] 40)) (w.heap.size + 1) [g1] := (Blk.new _ _ _ (by simp)).alloc _
  have hg0 : Gr w (((w.alloc (.cells #[.pointer (some ⟨T, 0, none⟩)] 62)).alloc (.cells #[.int .u8 1] 5)).alloc (.cells #[.slice (some ⟨w.heap.size + 1, 0, none⟩) 1 1] 40)) := (((Gr.refl w).alloc _).alloc _).alloc _
  have HW := Lib.hid (Wst.mk hb1 hb2 hb3.row (HT.out.keep hg0) rfl)
  have HG := Lib.hid hg0
  clear hb1 hb2 hb3 hg0
  generalize (((w.alloc _).alloc _).alloc _) = W0 at HW HG ⊢
  have HSZ := Lib.hid (Nat.le_refl w.heap.size)
  generalize hS : w.heap.size = S at HW HTl HSZ ⊢
  have HS := Lib.hid hS
  clear hS
  go_wp2_with fail
  go_loopw [13] (fun z wr => ∃ k g : Nat, k ≤ m ∧ z = .int .i64 k ∧ S ≤ g ∧ Hid (Wst (S + 1 + 1) S T g (k + 1) (rootP (rs.take k)) wr) ∧ Hid (Gr w wr)) (fun z _ => m - (intOf z).toNat)
  case atStart => exact ⟨0, S + 1, Nat.zero_le _, rfl, by omega, HW, HG⟩
  case round =>
    obtain ⟨k, g, hk, rfl, hgS, hW, hG⟩ := hrel
    by_cases hlt : k < m
    · have hkl : k < rs.length := by have := HM.out; omega
      obtain ⟨b, off, rfl, c0⟩ := Byts_at (HR.out.keep hG.out) hkl
      have HST : Hid (rootP (rs.take (k + 1)) = timesR (rootP (rs.take k)) (rs.getD k g0)) := Lib.hid (by
        unfold rootP
        rw [List.take_add_one, getD_of g0 hkl]
        exact rootsL_snoc _ _ _)
      generalize rs.getD k g0 = r at c0 HST
      have HF := Lib.hid (BG.new wr [g1, r] rfl).pts
      have hga : Gr wr (wr.alloc (.cells (gcs [g1, r]) 5)) := (Gr.refl wr).alloc _
      have HWA := Lib.hid (hW.out.keep hga)
      have HGA := Lib.hid (hG.out.trans hga)
      clear hga
      have HMU := Lib.hid (mult_any (S + 1 + 1) S T g (k + 1) wr.heap.size 2 (rootP (rs.take k)) r _ (by omega) (by omega) (by have := HTl.out; omega) HWA.out HF.out)
      go_wp2_with fail
      refine HMU.out.mono ?_
      rintro e w2 ⟨rfl, g', hg', hW', hGb⟩
      have HW2 := Lib.hid hW'
      have HG2 : Hid (Gr w w2) := Lib.hid (hGb.gr HGA.out (by rw [HS.out]; omega))
      have hsz : S ≤ g' := by have := HGA.out.size; have := HS.out; omega
      clear hW' hGb
      go_wp2_with fail
      go_roundw
      case rel => exact ⟨k + 1, g', by omega, by go_num, hsz, by rw [HST.out]; exact HW2, HG2⟩
      case measure => simp [intOf] <;> omega
    · obtain rfl : k = m := by omega
      have t1 : wr.cell? ⟨S + 1 + 1, 0, none⟩ = some (.slice (some ⟨g, 0, none⟩) (k + 1) (k + 1)) := hW.out.res.cell 0
      have HF : Hid (rs.take k = rs) := Lib.hid (List.take_of_length_le (by have := HM.out; omega))
      rw [HF.out] at hW
      go_wp2_with fail
      go_ret
      exact ⟨g, rfl, by rw [HS.out]; exact hgS, hW.out.row, hG.out⟩

end Go.Proofs.Ytbkbgcapkhelhaa
