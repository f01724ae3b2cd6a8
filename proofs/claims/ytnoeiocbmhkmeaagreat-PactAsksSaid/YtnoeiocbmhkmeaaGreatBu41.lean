/- Layer 5: the law's tame. -/
import Derived.Test.YtnoeiocbmhkmeaaGreatBu39
import Derived.Test.YtnoeiocbmhkmeaaGreatBu19
import Derived.Test.YtnoeiocbmhkmeaaGreatBu30
namespace Go.Proofs.YtnoeiocbmhkmeaaGreat
open Go.RowKit
set_option linter.unusedSimpArgs false
set_option maxRecDepth 100000
set_option maxHeartbeats 80000000

theorem mod5_le {x n : Int} (h1 : 0 < n) (h2 : n ≤ 65535) : 0 ≤ wrap64 ((IntKind.u64.wrap x).tmod n) ∧ wrap64 ((IntKind.u64.wrap x).tmod n) < n := by
 have h0 : 0 ≤ IntKind.u64.wrap x := by simp [IntKind.wrap, IntKind.bits, IntKind.signed]; omega
 have h3 := Int.tmod_lt_of_pos (IntKind.u64.wrap x) h1
 have h4 := Int.tmod_nonneg n h0
 generalize (IntKind.u64.wrap x).tmod n = r at *
 have : wrap64 r = r := by unfold wrap64; omega
 rw [this]
 omega
def TameP (w : World) (e : Ending) (w' : World) : Prop := ∃ tl k A' c', e = .returned (.slice A' k c') ∧ tl.length = k ∧ 1 ≤ k ∧ k ≤ 5 ∧ (∀ x ∈ tl, 0 ≤ x ∧ x ≤ 1099511627776) ∧ w'.ownsRow w.heap.size 3 1 (.slice A' k c') k (flatE enc1 tl) ∧ Gr w w'
theorem tame5_any (A : Option Addr) (n c : Nat) (l : List Int) (w : World) (hn : l.length = n) (hl : n ≤ 9223372036854775807) (hp : Ints w A l) : Calls Tryz.prog 8 #[.slice A n c] w (TameP w) := by
 have HN := Lib.hid hn
 have HP := Lib.hid hp
 obtain ⟨i0, hi, hz0, hz1, hz2⟩ := info_parts Tryz.infoPtI
 have HI := Lib.hid (And.intro hi (And.intro hz0 (And.intro hz1 hz2)))
 clear hn hp hi hz0 hz1 hz2
 go_enter Tryz.func8, Tryz.ntmps8
 go_wp2_with fail
 go_loopw [3, 4] (fun q z wr => ∃ (i : Nat) (tl : List Int) (A9 : Option Addr) (c9 : Nat), i ≤ n ∧ i ≤ 5 ∧ z = .int .i64 (i : Int) ∧ q = .slice A9 i c9 ∧ Hid (tl.length = i ∧ ∀ x ∈ tl, 0 ≤ x ∧ x ≤ 1099511627776) ∧ Hid (wr.ownsRow w.heap.size 3 1 (.slice A9 i c9) i (flatE enc1 tl)) ∧ Gr w wr) (fun _ z _ => 5 - (intOf z).toNat)
 case atStart => exact ⟨0, [], none, 0, by omega, by omega, rfl, rfl, Lib.hid ⟨rfl, fun x h => by cases h⟩, Lib.hid (World.ownsRow_nil _ _ _ _), Gr.refl _⟩
 case round =>
  obtain ⟨i, tl, A9, c9, hin, hi5, rfl, rfl, htl, hown, hgr⟩ := hrel
  by_cases hlt : i < n
  ·have hki : (i : Int) < (n : Int) := by omega
   by_cases hl5 : i < 5
   ·have hk5 : (i : Int) < 5 := by omega
    obtain ⟨b, off, rfl, hc0⟩ := Ints_at (HP.out.keep hgr) (i := i) (by rw [HN.out]; exact hlt)
    generalize l.getD i 0 = x at hc0
    have key : ∃ y : Int, (x < 0 ∨ 1099511627776 < x → y = wrap64 ((IntKind.u64.wrap x).tmod 100)) ∧ (¬ (x < 0 ∨ 1099511627776 < x) → y = x) ∧ 0 ≤ y ∧ y ≤ 1099511627776 := by
     by_cases hx : x < 0 ∨ 1099511627776 < x
     ·have := mod5_le (x := x) (n := 100) (by omega) (by omega)
      exact ⟨_, fun _ => rfl, fun h => absurd hx h, by omega, by omega⟩
     ·exact ⟨x, fun h => absurd h hx, fun _ => rfl, by omega, by omega⟩
    obtain ⟨y, hy1, hy2, hy3⟩ := key
    have HT : Hid ((tl ++ [y]).length = i + 1 ∧ ∀ x ∈ tl ++ [y], 0 ≤ x ∧ x ≤ 1099511627776) := Lib.hid ⟨by rw [List.length_append, htl.out.1]; rfl, fun z hz => by
     rcases List.mem_append.1 hz with h1 | h1
     ·exact htl.out.2 z h1
     ·rw [List.mem_singleton.1 h1]; exact hy3⟩
    have HAPP : Hid (∀ (w2 : World) (v' : Value) (w10 : World), Gr w w2 → w2 = wr → w10.ownsRow w.heap.size 3 1 v' (i + 1) (flatE enc1 tl ++ enc1 y) → (w2.alloc (.cells #[.int .i64 y] 3)).grownBy w10 (Value.slice A9 i c9).ownBlock → ∃ A8 c8, v' = .slice A8 (i + 1) c8 ∧ Hid (w10.ownsRow w.heap.size 3 1 (.slice A8 (i + 1) c8) (i + 1) (flatE enc1 (tl ++ [y]))) ∧ Gr w w10) := Lib.hid (fun w2 v' w10 hg2 hw hown' hgrow => by
     subst hw
     have hal := hg2.alloc (.cells #[.int .i64 y] 3)
     have ho3 := hown.out.alloc (.cells #[.int .i64 y] 3)
     have hgf : Gr w w10 := Below.grown hal hgrow hal.size (fun t ht => (ho3.lt t ht).1)
     have h5 : w10.ownsRow w.heap.size 3 1 v' (i + 1) (flatE enc1 (tl ++ [y])) := by rw [flatE_app]; simpa [flatE] using hown'
     obtain ⟨A8, c8, rfl, -, -, -⟩ := own_row enc1p_len HT.out.1 h5
     exact ⟨A8, c8, rfl, Lib.hid h5, hgf⟩)
    clear hy3
    obtain ⟨hi, hz0, hz1, hz2⟩ := HI.out
    have h3 : x < 0 ∨ (¬ x < 0 ∧ 1099511627776 < x) ∨ (¬ x < 0 ∧ ¬ 1099511627776 < x) := by omega
    have hyy : (x < 0 ∧ Hid (y = wrap64 ((IntKind.u64.wrap x).tmod 100))) ∨ ((¬ x < 0 ∧ 1099511627776 < x) ∧ Hid (y = wrap64 ((IntKind.u64.wrap x).tmod 100))) ∨ ((¬ x < 0 ∧ ¬ 1099511627776 < x) ∧ Hid (y = x)) := by
     rcases h3 with h | h | h
     ·exact Or.inl ⟨h, Lib.hid (hy1 (Or.inl h))⟩
     ·exact Or.inr (Or.inl ⟨h, Lib.hid (hy1 (Or.inr h.2))⟩)
     ·exact Or.inr (Or.inr ⟨h, Lib.hid (hy2 (by omega))⟩)
    clear hy1 hy2 h3
    rcases hyy with ⟨hx, HY⟩ | ⟨⟨hx, hx2⟩, HY⟩ | ⟨⟨hx, hx2⟩, HY⟩
    all_goals
     go_upto_region 8 with fail
     rw [← HY.out]
     clear hx HY hc0
     go_wp2_with (at_builtin; refine wpList_append_own _ rfl _ _ 22 rfl w.heap.size 3 i0 _ 1 8 Tryz.underlying22 hi hz0 hz1 hz2 rfl (by decide) _ _ _ rfl (hown.out.alloc _) ⟨wr.heap.size, 0, none⟩ 1 1 (enc1 y) rfl rfl ?a1 ?a2 ?a3 ?a4 ?a5 ?_)
     case a1 =>
      intro t u ht
      first
      | (rw [Addr.add_lit]; exact alloc_new rfl (by rw [Nat.zero_add]; simpa [enc1] using ht))
      | simpa [enc1] using ht
     case a2 => exact fun u hu => enc1p_one _ u hu
     case a3 => unfold maxLen; omega
     case a4 => omega
     case a5 => have := hgr.size; first | omega | (simp; omega)
     intro v' w10 hown' hgrow _
     obtain ⟨A8, c8, rfl, HO8, hgf⟩ := HAPP.out wr v' w10 hgr rfl hown' hgrow
     clear hi hz0 hz1 hz2 hown' hgrow
     go_wp2_with fail
     go_roundw
     case rel => exact ⟨i + 1, tl ++ [y], A8, c8, by omega, by omega, by go_num, rfl, HT, HO8, hgf⟩
     case measure => simp [intOf]; omega
   ·have hk5 : ¬ (i : Int) < 5 := by omega
    have hq0 : ((i : Int) == 0) = false := by simp; omega
    have HF : Hid (TameP w (.returned (.slice A9 i c9)) wr) := Lib.hid ⟨tl, i, A9, c9, rfl, htl.out.1, by omega, hi5, htl.out.2, hown.out, hgr⟩
    clear hin hlt
    go_wp2_with fail
    go_ret
    exact HF.out
  ·have hki : ¬ (i : Int) < (n : Int) := by omega
   by_cases h0 : i = 0
   ·subst h0
    obtain ⟨hi, hz0, hz1, hz2⟩ := HI.out
    have h00 : tl = [] := List.eq_nil_of_length_eq_zero htl.out.1
    have hown0 : wr.ownsRow w.heap.size 3 1 (.slice A9 0 c9) 0 (flatE enc1 tl) := hown.out
    have HT0 := Lib.hid h00
    clear h00
    go_wp2_with (at_builtin; refine wpList_append_own _ rfl _ _ 22 rfl w.heap.size 3 i0 _ 1 8 Tryz.underlying22 hi hz0 hz1 hz2 rfl (by decide) _ _ _ rfl (hown0.alloc _) ⟨wr.heap.size, 0, none⟩ 1 1 (enc1 10) rfl rfl ?b1 ?b2 ?b3 ?b4 ?b5 ?_)
    case b1 =>
     intro t u ht
     first
     | (rw [Addr.add_lit]; exact alloc_new rfl (by rw [Nat.zero_add]; simpa [enc1] using ht))
     | simpa [enc1] using ht
    case b2 => exact fun u hu => enc1p_one _ u hu
    case b3 => unfold maxLen; omega
    case b5 => have := hgr.size; first | omega | (simp; omega)
    intro v' w10 hown' hgrow _
    have hal := hgr.alloc (.cells #[.int .i64 10] 3)
    have ho3 := hown0.alloc (.cells #[.int .i64 10] 3)
    have hgf : Gr w w10 := Below.grown hal hgrow hal.size (fun t ht => (ho3.lt t ht).1)
    have h5 : w10.ownsRow w.heap.size 3 1 v' 1 (flatE enc1 [10]) := by rw [HT0.out] at hown'; simpa [flatE] using hown'
    obtain ⟨A8, c8, rfl, -, -, -⟩ := own_row enc1p_len (xs := [10]) rfl h5
    have HF : Hid (TameP w (.returned (.slice A8 1 c8)) w10) := Lib.hid ⟨[10], 1, A8, c8, rfl, rfl, by omega, by omega, fun x hx => by rw [List.mem_singleton.1 hx]; omega, h5, hgf⟩
    clear hi hz0 hz1 hz2 hown' hgrow hal ho3 hgf h5 hown0
    go_wp2_with fail
    go_ret
    exact HF.out
   ·have hq0 : ((i : Int) == 0) = false := by simp; omega
    have HF : Hid (TameP w (.returned (.slice A9 i c9)) wr) := Lib.hid ⟨tl, i, A9, c9, rfl, htl.out.1, by omega, hi5, htl.out.2, hown.out, hgr⟩
    clear hin hlt
    go_wp2_with fail
    go_ret
    exact HF.out

set_option maxRecDepth 100000
set_option maxHeartbeats 80000000

theorem NetR.turn2 {B : Nat} {w w' : World} {N : Nx} {S : List Nat} (h : NetR B w N) (hc : Ch S w w') (hn : ∀ g ∈ ownB N, g ∉ S) : NetR B w' N := by
 have h1 : ∀ g ∈ blks (netIt N), g ∉ S := fun g hg => hn g (List.mem_append_left _ hg)
 refine ⟨⟨fun it hm => ⟨(h.its.all it hm).1.ch hc (h1 _ (mem_blks hm)), (h.its.all it hm).2⟩, h.its.nod⟩, owns_ch h.sites hc (fun g hg => hn g ?_), owns_ch h.mail hc (fun g hg => hn g ?_), h.spot, h.away, Nat.le_trans h.le hc.size⟩
 ·unfold ownB; exact List.mem_append_right _ (List.mem_append_left _ (by rw [hg]; simp))
 ·unfold ownB; exact List.mem_append_right _ (List.mem_append_right _ (by rw [hg]; simp))
structure PaySt (w0 : World) (B g cap p k : Nat) (ow : List Int) (N : Nx) (W : World) : Prop where
 net : NetR B W N
 p5 : N.p = p
 row : W.ownsRow w0.heap.size 3 1 (.slice (some ⟨g, 0, none⟩) k cap) k (flatE enc1 ow)
 len : ow.length = k
 gr : Gr w0 W
 gB : g < B ∧ w0.heap.size ≤ g
section
variable {w0 W W' : World} {B g cap p k : Nat} {ow : List Int} {N N' : Nx}
end
def canB (ow : List Int) (ps : List Mv) : Bool := ps.all fun p => decide (0 ≤ ow.getD p.1.toNat 0 + p.2) && decide (ow.getD p.1.toNat 0 + p.2 ≤ 1099511627776)
end Go.Proofs.YtnoeiocbmhkmeaaGreat

namespace Go.Proofs.YtnoeiocbmhkmeaaGreat
open Go.RowKit
open Go.Maps (Keyed)
set_option linter.unusedSimpArgs false
set_option maxRecDepth 100000
set_option maxHeartbeats 80000000

theorem Tick_all {B : Nat} {w : World} {N : Nx} (i : Int) (h : NetR B w N) (ho : OkN (nzN N)) :
 Calls Tryz.prog 23 #[.pointer (some ⟨N.p, 0, none⟩), .int .i64 i] w (NumP B w N (refD N i) (tikI (nzN N) i)) := by
 by_cases hr : refD N i = 0
 ·obtain ⟨k, s, rfl, hk, hkn, -⟩ := refD_zero hr
  have HRL := Lib.hid (refDown_any h (k : Int))
  rw [hr] at HRL ⊢
  have n0 := h.blk.cell 0
  obtain ⟨b, off, c, e1, nb⟩ := h.spot5 hk
  simp only [List.getElem?_toArray, List.getElem?_cons_zero] at n0
  rw [e1] at n0
  have hki : (k : Int) < (N.sites.length : Int) := by omega
  have hk0 : (0 : Int) ≤ (k : Int) := by omega
  have hq : (nzN N).sites.length = N.sites.length := List.length_map _
  have hok := rem_ok (ho.site k _ (nz_site hk)).1 ho.beg.2 ho.hi
  have HI : Hid (∀ lv', tikI (nzN N) (k : Int) = nzN { N with mail := N.mail ++ sentL N (remL s), lv := lv' }) := Lib.hid (fun lv' => by
   unfold tikI
   rw [refD_nz, if_pos hr, show ((k : Int)).toNat = k from rfl, nz_site hk]
   dsimp only
   rw [remL_nz]
   rfl)
  have HCC := Lib.hid (fun W (hW : Gr w W) => remind_any W ((h.keep hW).siteIts hk) hok)
  have HH := Lib.hid h
  have HRM := Lib.hid ho.room
  have HFW := Lib.hid (miss_few8 hok)
  generalize N.sites.length = q at n0 hki hkn
  clear h ho hr hk e1 hok hq
  go_enter Tryz.func23, Tryz.ntmps23
  go_wp2_with fail
  refine HRL.out.mono ?_
  rintro e w1 ⟨rfl, rfl⟩
  go_wp2_with fail
  refine (HCC.out _ (Gr.refl _)).mono ?_
  rintro e w3 ⟨A3, c3, rfl, hr3, hg3, hc3⟩
  have HS := Lib.hid (sendB_any A3 _ c3 (remL s) w3 (HH.out.keep hg3) rfl (by have := HFW.out; omega) hc3 HRM.out hr3)
  have HG3 := Lib.hid hg3
  clear hr3 hc3 hg3 n0 nb
  go_wp2_with fail
  refine HS.out.mono ?_
  rintro e w4 ⟨rfl, lv', hto⟩
  have HF := Lib.hid (hto.pre HG3.out)
  clear hto
  go_wp2_with fail
  go_ret
  exact ⟨rfl, _, (HI.out lv').symm, HF.out⟩
 ·have hI : tikI (nzN N) i = nzN N := by unfold tikI; rw [refD_nz, if_neg hr]
  refine (Tick_bad i h hr).mono ?_
  rintro e w' ⟨rfl, rfl⟩
  exact ⟨rfl, N, hI.symm, NetTo.refl h (Gr.refl _)⟩

end Go.Proofs.YtnoeiocbmhkmeaaGreat
