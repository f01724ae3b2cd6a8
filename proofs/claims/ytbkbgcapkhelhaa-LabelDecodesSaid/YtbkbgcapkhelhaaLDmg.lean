/- Layer 3: a damaged word: its places. -/
import Derived.Test.YtbkbgcapkhelhaaLEnc
import Derived.Test.YtbkbgcapkhelhaaLRec
namespace Go.Proofs.Ytbkbgcapkhelhaa
open Go.RowKit
set_option linter.unusedSimpArgs false

/-- A damaged word of n bytes, p syndromes, lost positions L (k of them). -/
structure Dmg (w : World) (D T : Nat) (Aw As : Option Addr) (n wc p sc : Nat) (ws ss : List G) (L : Nat → Bool) (k : Nat) : Prop where
  tabs : Tabs T w
  c0 : w.cell? ⟨D, 0, none⟩ = some (.pointer (some ⟨T, 0, none⟩))
  c1 : w.cell? ⟨D, 1, none⟩ = some (.slice Aw n wc)
  c2 : w.cell? ⟨D, 2, none⟩ = some (.slice As p sc)
  c3 : ∀ i, i < 255 → w.cell? ⟨D, 3 + i, none⟩ = some (.bool (L i))
  c4 : w.cell? ⟨D, 258, none⟩ = some (.int .i64 (k : Int))
  word : Byts w Aw ws
  syns : Byts w As ss
  wl : ws.length = n
  sl : ss.length = p
  n1 : 1 ≤ n
  n2 : n ≤ 255
  p2 : p ≤ 64
  k2 : k ≤ 255
theorem Dmg.keep {w w' : World} {D T : Nat} {Aw As : Option Addr} {n wc p sc : Nat} {ws ss : List G} {L : Nat → Bool} {k : Nat} (h : Dmg w D T Aw As n wc p sc ws ss L k) (hg : Gr w w') : Dmg w' D T Aw As n wc p sc ws ss L k :=
  ⟨h.tabs.keep hg, hg.keep h.c0, hg.keep h.c1, hg.keep h.c2, fun i hi => hg.keep (h.c3 i hi), hg.keep h.c4, h.word.keep hg, h.syns.keep hg, h.wl, h.sl, h.n1, h.n2, h.p2, h.k2⟩
def plc (n i : Nat) : G := gp (n - 1 - i)

set_option maxHeartbeats 2000000 in
theorem place_any {D T : Nat} {Aw As : Option Addr} {n wc p sc : Nat} {ws ss : List G} {L : Nat → Bool} {k : Nat} (i : Nat) (w : World) (h : Dmg w D T Aw As n wc p sc ws ss L k) (hi : i < n) :
    Calls Try.prog 63 #[.pointer (some ⟨D, 0, none⟩), .int .i64 (i : Int)] w fun e w' => e = .returned (.int .u8 ((plc n i).v : Int)) ∧ Gr w w' := by
  obtain ⟨m, hm⟩ : ∃ m, n - 1 - i = m := ⟨_, rfl⟩
  have c0 := h.c0
  have c1 := h.c1
  have hn2 := h.n2
  have t0 := h.tabs.1 m (by omega)
  have hp : plc n i = gp m := by unfold plc; rw [hm]
  have hmi : (n : Int) - 1 - (i : Int) = (m : Int) := by omega
  have hw1 : IntKind.i64.wrap ((n : Int) - 1) = (n : Int) - 1 := IntWalk.i64_in _ (by omega)
  have hw2 : IntKind.i64.wrap ((n : Int) - 1 - (i : Int)) = (m : Int) := by rw [hmi]; exact IntWalk.i64_in _ (by omega)
  have hm1 : (m : Int) < 255 := by omega
  have hm0 : (0 : Int) ≤ (m : Int) := by omega
  have hm2 : m < 255 := by omega
  rw [hp]
  generalize gp m = x at t0 ⊢
  clear h hm hp
  go_enter Try.func63, Try.ntmps63
  go_wp2_with fail
  go_quiet (fail)
  go_wp2_with fail
  go_ret
  exact ⟨rfl, (Gr.refl _).drewN _⟩

def nats (is : List Nat) : List Int := List.map (fun i : Nat => (i : Int)) is
theorem nats_len (is : List Nat) : (nats is).length = is.length := by simp [nats]
theorem nats_at {is : List Nat} {i : Nat} (h : i < is.length) : (nats is).getD i 0 = ((is.getD i 0 : Nat) : Int) := by
  unfold nats
  rw [List.getD_eq_getElem?_getD, List.getElem?_map, getD_of 0 h]
  rfl
set_option maxRecDepth 100000 in
set_option maxHeartbeats 4000000 in
theorem places_any {D T : Nat} {Aw As : Option Addr} {n wc p sc : Nat} {ws ss : List G} {L : Nat → Bool} {k : Nat} (A : Option Addr) (m mc : Nat) (is : List Nat) (w : World) (h : Dmg w D T Aw As n wc p sc ws ss L k) (hm : is.length = m) (hl : m ≤ 255) (hi : ∀ i ∈ is, i < n) (hp : Ints w A (nats is)) :
    Calls Try.prog 61 #[.pointer (some ⟨D, 0, none⟩), .slice A m mc] w fun e w' => ∃ B c, e = .returned (.slice B m c) ∧ Byts w' B (is.map (plc n)) ∧ Gr w w' := by
  obtain ⟨i0, hi0, hz0, hz1, hz2⟩ := info_parts Try.infoByte
  have HD := Lib.hid h
  have HM := Lib.hid hm
  have HI := Lib.hid hi
  have HP := Lib.hid hp
  clear h hm hi hp
  go_enter Try.func61, Try.ntmps61
  go_wp2_with fail
  have hstart : (w.alloc (.cells #[] 5)).ownsRow w.heap.size 5 1 (.slice (some ⟨w.heap.size, 0, none⟩) 0 0) 0 [] := World.ownsRow_made w #[] 0 (Nat.le_refl _) (Nat.zero_le _) (by simp)
  have hg0 : Gr w (w.alloc (.cells #[] 5)) := (Gr.refl _).alloc _
  go_loopw [5, 11] (fun v z wr => ∃ j : Nat, j ≤ m ∧ z = .int .i64 j ∧ Hid (wr.ownsRow w.heap.size 5 1 v j (flatE encG ((is.take j).map (plc n)))) ∧ Hid (Gr w wr)) (fun _ z _ => m - (intOf z).toNat)
  case atStart => exact ⟨0, Nat.zero_le _, rfl, Lib.hid hstart, Lib.hid hg0⟩
  case round =>
    obtain ⟨j, hj, rfl, hown, hg⟩ := hrel
    by_cases hlt : j < m
    · have hji : j < is.length := by have := HM.out; omega
      have hin := HI.out (is.getD j 0) (by rw [List.getD_eq_getElem?_getD, List.getElem?_eq_getElem hji]; exact List.getElem_mem hji)
      obtain ⟨b, off, rfl, c0⟩ := Ints_at (HP.out.keep hg.out) (i := j) (by rw [nats_len]; exact hji)
      rw [nats_at hji] at c0
      have HTK : Hid ((is.take (j + 1)).map (plc n) = (is.take j).map (plc n) ++ [plc n (is.getD j 0)]) := Lib.hid (by
        rw [List.take_add_one, getD_of 0 hji]; simp)
      generalize is.getD j 0 = i at c0 hin HTK
      go_wp2_with fail
      refine (place_any i wr (HD.out.keep hg.out) hin).mono ?_
      rintro e w1 ⟨rfl, hb⟩
      have hgw := hg.out.trans hb
      have hown2 := Lib.hid (owns_gr hown.out hb)
      have hsz := hgw.size
      generalize plc n i = x at HTK ⊢
      go_wp2_with (at_builtin; refine wpList_append_own _ rfl _ _ 40 rfl w.heap.size 5 i0 _ 1 1 Try.underlying40 hi0 hz0 hz1 hz2 rfl (by decide) _ _ _ rfl (hown2.out.alloc _) ⟨w1.heap.size, 0, none⟩ 1 1 (encG x) rfl rfl ?a1 ?a2 ?a3 ?a4 ?a5 ?_)
      case a1 =>
        intro t u ht
        rw [Addr.add_lit]
        exact alloc_new rfl (by rw [Nat.zero_add]; simpa [encG] using ht)
      case a2 => exact encG_one x
      case a3 => unfold maxLen; omega
      case a4 => omega
      case a5 => simp; omega
      intro v' w2 hown' hgrow _
      have hga : Gr w (w1.alloc _) := hgw.alloc (.cells #[.int .u8 (x.v : Int)] 5)
      have hgb : Gr w w2 := Below.grown hga hgrow hga.size (fun t ht => (hown2.out.lt t ht).1)
      have HO2 := Lib.hid hown'
      clear hown' hgrow hga
      go_wp2_with fail
      go_roundw
      case rel => exact ⟨j + 1, by omega, by go_num, Lib.hid (by
        have h := HO2.out
        rw [HTK.out, flatE_snoc]
        try rw [← List.map_take] at h
        exact h), Lib.hid hgb⟩
      case measure => simp [intOf]; omega
    · have hjm : j = m := by omega
      have hlt' : ¬ ((j : Int) < (m : Int)) := by omega
      rw [hjm, List.take_of_length_le (by rw [HM.out]; exact Nat.le_refl _)] at hown
      obtain ⟨B, c, hv, -, hrd, -⟩ := own_row encG_len (by rw [List.length_map, HM.out]) hown.out
      subst hv
      go_wp2_with fail
      try rw [Exit.noGoto_ret]
      go_ret
      exact ⟨_, ⟨_, rfl⟩, hrd, hg.out⟩
end Go.Proofs.Ytbkbgcapkhelhaa
