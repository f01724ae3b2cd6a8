/- Layer 5: a new net. -/
import Derived.Test.YtnoeiocbmhkmeaaGreatBu18
import Derived.Deep.CutRange
import Derived.Deep.AppendLies
import Derived.StillTailTactics
import Derived.Test.YtnoeiocbmhkmeaaGreatBu14
namespace Go.Proofs.YtnoeiocbmhkmeaaGreat
open Go.RowKit
set_option linter.unusedSimpArgs false
set_option maxRecDepth 100000
set_option maxHeartbeats 80000000

theorem okStocks_iff (l : List Int) : okStocks l = true ↔ 1 ≤ l.length ∧ l.length ≤ 8 ∧ ∀ x ∈ l, 0 ≤ x ∧ x ≤ 1099511627776 := by
 unfold okStocks
 simp [and_assoc]
theorem okStocks_no {l : List Int} (h : ¬ (1 ≤ l.length ∧ l.length ≤ 8 ∧ ∀ x ∈ l, 0 ≤ x ∧ x ≤ 1099511627776)) : okStocks l = false := by
 rw [Bool.eq_false_iff]; exact fun e => h ((okStocks_iff l).1 e)

theorem NetR.addSite {D : Nat} {w w5 w6 : World} {ss : List Sx} {s : Sx} {k c0 g' cap' : Nat} {B0 : Option Addr} (hN : NetR D w ⟨ss, [], 0, D, .slice B0 k c0, .slice none 0 0⟩) (hlen : ss.length = k) (hg5 : Gr w w5) (hs : Its D w5 (siteIt s)) (hf : ∀ g ∈ blks (siteIt s), w.heap.size ≤ g)
 (hown : w6.ownsRow D 69 1 (.slice (some ⟨g', 0, none⟩) (k + 1) cap') (k + 1) (flatE encP (ss.map (·.p)) ++ [.pointer (some ⟨s.p, 0, none⟩)]))
 (hgrow : (w5.alloc (.cells #[.pointer (some ⟨s.p, 0, none⟩)] 69)).grownBy w6 (Value.slice B0 k c0).ownBlock) (hat : (Value.slice B0 k c0).ownBlock = some g' ∨ g' = (w5.alloc (.cells #[.pointer (some ⟨s.p, 0, none⟩)] 69)).heap.size) :
 Blk w6 D 68 #[.slice B0 k c0, .slice none 0 0, .int .i64 0] ∧ NetR D (w6.setCell ⟨D, 0, none⟩ (.slice (some ⟨g', 0, none⟩) (k + 1) cap')) ⟨ss ++ [s], [], 0, D, .slice (some ⟨g', 0, none⟩) (k + 1) cap', .slice none 0 0⟩ := by
 have hal := (Gr.refl w5).alloc (.cells #[.pointer (some ⟨s.p, 0, none⟩)] 69)
 have i5 := hN.its.more hg5 hs hf
 have hsz : (w5.alloc (.cells #[.pointer (some ⟨s.p, 0, none⟩)] 69)).heap.size = w5.heap.size + 1 := by simp
 have haw : ∀ it ∈ netIt ⟨ss, [], 0, D, .slice B0 k c0, .slice none 0 0⟩ ++ siteIt s, (Value.slice B0 k c0).ownBlock ≠ some it.1 := fun it hm => by
  rcases List.mem_append.1 hm with hm | hm
  ·exact (hN.away it hm).1
  ·intro e
   have h1 := (hN.sites.lt _ e).2
   have h2 := hf it.1 (mem_blks hm)
   omega
 have haw2 : ∀ it ∈ netIt ⟨ss, [], 0, D, .slice B0 k c0, .slice none 0 0⟩ ++ siteIt s, some g' ≠ some it.1 := fun it hm e => by
  rcases hat with h | h
  ·exact haw it hm (h.trans e)
  ·have h1 := (i5.lt (mem_blks hm)).1
   injection e with e
   omega
 have i6 := (i5.keep hal).aside hgrow haw
 have hb6 : Blk w6 D 68 #[.slice B0 k c0, .slice none 0 0, .int .i64 0] := i6.at (D := .cells _ _) (by unfold netIt; simp)
 have i7 : Its D (w6.setCell ⟨D, 0, none⟩ (.slice (some ⟨g', 0, none⟩) (k + 1) cap')) (netIt ⟨ss ++ [s], [], 0, D, .slice (some ⟨g', 0, none⟩) (k + 1) cap', .slice none 0 0⟩) := by
  have i6' : Its D w6 ([] ++ [(D, .cells 68 #[.slice B0 k c0, .slice none 0 0, .int .i64 0])] ++ (ss.flatMap siteIt ++ siteIt s)) := by
   unfold netIt at i6; simpa using i6
  have := i6'.turn (D' := .cells 68 #[.slice (some ⟨g', 0, none⟩) (k + 1) cap', .slice none 0 0, .int .i64 0]) ((Gb.refl D w6).put 0 _) (hb6.put 0 _)
  unfold netIt
  simpa using this
 refine ⟨hb6, i7, ?_, World.ownsRow_nil _ _ _ _, Or.inr (by simp [Value.ownBlock]), fun it hm => ⟨?_, by simp [Value.ownBlock]⟩, ?_⟩
 ·have h1 : (Value.slice (some ⟨g', 0, none⟩) (k + 1) cap').ownBlock ≠ some D := fun e => haw2 (D, .cells 68 #[.slice B0 k c0, .slice none 0 0, .int .i64 0]) (by unfold netIt; simp) e
  have h2 := ownsRow_setCell_other (a := ⟨D, 0, none⟩) hown h1 (.slice (some ⟨g', 0, none⟩) (k + 1) cap')
  show World.ownsRow _ _ _ _ _ (ss ++ [s]).length _
  rw [List.length_append, hlen, List.map_append, flatE_app]
  simpa [flatE, encP] using h2
 ·intro e
  have hm2 : it.1 ∈ blks (netIt ⟨ss, [], 0, D, .slice B0 k c0, .slice none 0 0⟩ ++ siteIt s) := by
   have := mem_blks hm
   unfold netIt at this ⊢
   simpa [blks] using this
  obtain ⟨jt, hj, ej⟩ := List.mem_map.1 hm2
  exact haw2 jt hj (e.trans (by rw [← ej]))
 ·have h1 := (Gr.trans hg5 hal).size
  have h2 := hN.le
  have h3 := World.grownBy.size hgrow
  simp [World.setCell]
  omega

theorem New_any (A : Option Addr) (n c : Nat) (l : List Int) (w : World) (hn : l.length = n) (hl : n ≤ 9223372036854775807) (hp : Ints w A l) : Calls Tryz.prog 9 #[.slice A n c] w (NewP l w) := by
 have HN := Lib.hid hn
 have HP := Lib.hid hp
 by_cases hb : n < 1 ∨ 8 < n
 ·have HR := Lib.hid (okStocks_no (l := l) (fun h => by have := h.1; have := h.2.1; omega))
  clear hn hp
  rcases hb with hb | hb
  all_goals
   go_enter Tryz.func9, Tryz.ntmps9
   go_wp2_with fail
   refine bodyPost_ret (v := .tuple #[.pointer none, .int .i64 2]) ?_ ?_ ?_
   ·simp [results, Tryz.results9, go_sem]
   ·rfl
   ·exact Or.inl ⟨HR.out, rfl, Gr.refl _⟩
 ·have hn1 : 1 ≤ n := by omega
  have hn8 : n ≤ 8 := by omega
  obtain ⟨i0, hi, hz0, hz1, hz2⟩ := info_parts Tryz.infoPtS
  have HI := Lib.hid (And.intro hi (And.intro hz0 (And.intro hz1 hz2)))
  clear hn hp hb hi hz0 hz1 hz2
  go_enter Tryz.func9, Tryz.ntmps9
  go_upto_region 4 with fail
  generalize hW1 : World.alloc w _ = w1
  have hg1 : Gr w w1 := by rw [← hW1]; exact (Gr.refl w).alloc _
  have hB1 : Blk w1 w.heap.size 68 #[.slice none 0 0, .slice none 0 0, .int .i64 0] := by rw [← hW1]; exact Blk.new w _ _ rfl
  have hN1 : NetR w.heap.size w1 ⟨[], [], 0, w.heap.size, .slice none 0 0, .slice none 0 0⟩ :=
   ⟨Its.one (D := .cells _ _) hB1 (Nat.le_refl _), World.ownsRow_nil _ _ _ _, World.ownsRow_nil _ _ _ _, Or.inl rfl, fun it _ => ⟨by simp [Value.ownBlock], by simp [Value.ownBlock]⟩, hg1.size⟩
  obtain ⟨D, hD⟩ : ∃ D, w.heap.size = D := ⟨_, rfl⟩
  rw [hD] at hN1 ⊢
  have HDD := Lib.hid hD
  have HN1 := Lib.hid hN1
  clear hW1 hB1 hN1 hD
  go_wp2_with fail
  go_loopw [19] (fun z wr => ∃ (k : Nat) (ss : List Sx) (B0 : Option Addr) (c0 : Nat), k ≤ n ∧ z = .int .i64 (k : Int) ∧ Hid (NewL (l.take k) ss) ∧ Hid (∀ x ∈ l.take k, 0 ≤ x ∧ x ≤ 1099511627776) ∧ Hid (NetR D wr ⟨ss, [], 0, D, .slice B0 k c0, .slice none 0 0⟩) ∧ Gr w wr) (fun z _ => n - (intOf z).toNat)
  case atStart => exact ⟨0, [], none, 0, Nat.zero_le _, rfl, Lib.hid ⟨rfl, fun i s x h => by simp at h⟩, Lib.hid (fun x h => by simp at h), HN1, hg1⟩
  case round =>
   obtain ⟨k, ss, B0, c0, hk, rfl, hnl, hval, hN, hgr⟩ := hrel
   clear HN1 hg1
   have n0 := hN.out.blk.cell 0
   simp only [List.getElem?_toArray, List.getElem?_cons_zero] at n0
   by_cases hlt : k < n
   ·obtain ⟨b, off, rfl, hc0⟩ := Ints_at (HP.out.keep hgr) (i := k) (by rw [HN.out]; exact hlt)
    have hxk : l[k]? = some (l.getD k 0) := getD_of 0 (by rw [HN.out]; exact hlt)
    generalize l.getD k 0 = x at hc0 hxk
    have hki : (k : Int) < (n : Int) := by omega
    by_cases hx : x < 0 ∨ 1099511627776 < x
    ·have HR := Lib.hid (okStocks_no (l := l) (fun h => by have := h.2.2 x (List.mem_of_getElem? hxk); omega))
     clear hxk
     rcases hx with hx | hx
     all_goals
      go_wp2_with fail
      refine bodyPost_ret (v := .tuple #[.pointer none, .int .i64 2]) ?_ ?_ ?_
      ·simp [results, Tryz.results9, go_sem]
      ·rfl
      ·exact Or.inl ⟨HR.out, rfl, hgr⟩
    ·have hx1 : ¬ x < 0 := by omega
     have hx2 : ¬ 1099511627776 < x := by omega
     have hlen : ss.length = k := by have := hnl.out.1; rw [List.length_take, HN.out] at this; omega
     have HLN := Lib.hid hlen
     have HXK := Lib.hid hxk
     have hdr := (Gr.refl wr).drew
     have n0d := hdr.keep n0
     have HNd := Lib.hid (hN.out.keep hdr)
     have hBs : D ≤ wr.drew.heap.size := HNd.out.le
     have HOd : Hid (∀ w5, Gr wr.drew w5 → w5.ownsRow D 69 1 (.slice B0 k c0) k (flatE encP (ss.map (·.p)))) := Lib.hid (fun w5 hg => by
      have h1 := owns_gr HNd.out.sites hg
      have h2 : (Nx.sites ⟨ss, [], 0, D, .slice B0 k c0, .slice none 0 0⟩).length = k := hlen
      rw [h2] at h1
      exact h1)
     have hgd := hgr.drew
     have HGA : Hid (∀ (w5 w6 : World) {s : Sx}, Gr wr.drew w5 → (w5.alloc (.cells #[.pointer (some ⟨s.p, 0, none⟩)] 69)).grownBy w6 (Value.slice B0 k c0).ownBlock → Gr w w6) := Lib.hid (fun w5 w6 s hg hgrow => by
      have h1 := (hgd.trans hg).alloc (.cells #[.pointer (some ⟨s.p, 0, none⟩)] 69)
      exact Below.grown h1 hgrow h1.size (fun t ht => by have := (HNd.out.sites.lt t ht).1; have := HDD.out; omega))
     obtain ⟨hi, hz0, hz1, hz2⟩ := HI.out
     clear hx hxk hlen hgd
     go_upto_region 9 with fail
     refine wp_region_held_drew (S := (fun _ => True)) ?_ ?_ (fun hHeld => ?_)
     ·kernel_rfl
     ·((try dsimp only); (try trivial))
     refine ti 0 (some 30) rfl rfl ?_; try simp only [Act.put, lA, lB, lC]
     refine ti 1 (some 31) rfl rfl ?_; try simp only [Act.put, lA, lB, lC]
     refine ti 2 (some 32) rfl rfl ?_; try simp only [Act.put, lA, lB, lC]
     refine ti 3 (some 33) rfl rfl ?_; try simp only [Act.put, lA, lB, lC]
     refine ti 5 (some 35) rfl rfl ?_; try simp only [Act.put, lA, lB, lC]
     refine ti 6 (some 36) rfl rfl ?_; try simp only [Act.put, lA, lB, lC]
     refine tr [4, 7] (.cons rfl (fun K hK => ?_) (.cons rfl (fun K hK => ?_) .nil))
     go_simp
     refine hK.out _ _ ?_ (fun hHeld => ?_)
     ·((try dsimp only); (try trivial))
     clear hK K; try simp only [Act.put, lA, lB, lC]
     refine tr [7] (.cons rfl (fun K hK => ?_) .nil)
     go_simp
     first | (go_at_call 30; (with_reducible refine (newSite_any _ _ _ hBs).mono ?_); rintro e w5 ⟨s, rfl, hs1, hs2, hs3, hg5⟩; have HS1 := Lib.hid hs1; have HS2 := Lib.hid hs2; have HS3 := Lib.hid hs3; have HN5 := Lib.hid (HNd.out.keep hg5); have HO5 := Lib.hid (HOd.out _ hg5); have n5 := hg5.keep n0d; have n5a : (w5.alloc (.cells #[.pointer (some ⟨s.p, 0, none⟩)] 69)).cell? ⟨D, 0, none⟩ = some (.slice B0 k c0) := alloc_old n5; have HG5 := Lib.hid hg5; clear hs1 hs2 hs3 hg5) | (refine step_append_lies _ (by rfl) (.tmp 34) (.tmp 38) 66 (by rfl) D 69 i0 _ 1 8 Tryz.underlying66 hi hz0 hz1 hz2 rfl (by decide) (.slice B0 k c0) k (flatE encP (ss.map (·.p))) (by rfl) (HO5.out.alloc _) ⟨w5.heap.size, 0, none⟩ 1 1 [.pointer (some ⟨s.p, 0, none⟩)] (by rfl) rfl (World.news_of_block (heap_alloc_new _ _)) (by intro u hu; rw [List.mem_singleton.1 hu]; rfl) (by decide) (by unfold maxLen; omega) (by omega) (by have := HN5.out.le; simp; omega) _ rfl ?_; intro g' cap' w6 hown' hgrow hat _; have HAD := NetR.addSite HNd.out HLN.out HG5.out HS1.out HS3.out hown' hgrow hat; have d8 := HAD.1.cell 0; have d9 := HAD.1.free 0; have HF := Lib.hid HAD.2; have HGR := Lib.hid (HGA.out _ _ HG5.out hgrow); clear HAD hown' hgrow hat)
     refine hK.out _ _ ?_ (fun hHeld => ?_)
     ·((try dsimp only); (try trivial))
     clear hK K; try simp only [Act.put, lA, lB, lC]
     refine tr [8] (.cons rfl (fun K hK => ?_) .nil)
     go_simp
     refine hK.out _ _ ?_ (fun hHeld => ?_)
     ·((try dsimp only); (try trivial))
     clear hK K; try simp only [Act.put, lA, lB, lC]
     refine tr [9] (.cons rfl (fun K hK => ?_) .nil)
     first | (refine step_append_lies _ (by rfl) (.tmp 34) (.tmp 38) 66 (by rfl) D 69 i0 _ 1 8 Tryz.underlying66 hi hz0 hz1 hz2 rfl (by decide) (.slice B0 k c0) k (flatE encP (ss.map (·.p))) (by rfl) (HO5.out.alloc _) ⟨w5.heap.size, 0, none⟩ 1 1 [.pointer (some ⟨s.p, 0, none⟩)] (by rfl) rfl (World.news_of_block (heap_alloc_new _ _)) (by intro u hu; rw [List.mem_singleton.1 hu]; rfl) (by decide) (by unfold maxLen; omega) (by omega) (by have := HN5.out.le; simp; omega) _ rfl ?_; intro g' cap' w6 hown' hgrow hat _; have HAD := NetR.addSite HNd.out HLN.out HG5.out HS1.out HS3.out hown' hgrow hat; have d8 := HAD.1.cell 0; have d9 := HAD.1.free 0; have HF := Lib.hid HAD.2; have HGR := Lib.hid (HGA.out _ _ HG5.out hgrow); clear HAD hown' hgrow hat)
     refine hK.out _ _ ?_ (fun hHeld => ?_)
     ·((try dsimp only); (try trivial))
     clear hK K; try simp only [Act.put, lA, lB, lC]
     refine ti 10 (some 40) rfl rfl ?_; try simp only [Act.put, lA, lB, lC]
     refine ti 11 (some 41) rfl rfl ?_; try simp only [Act.put, lA, lB, lC]
     refine tr [12] (.cons rfl (fun K hK => ?_) .nil)
     go_simp
     refine hK.out _ _ ?_ (fun hHeld => ?_)
     ·((try dsimp only); (try trivial))
     clear hK K; try simp only [Act.put, lA, lB, lC]
     refine wpAnyH_done ?_ ?_ _
     ·kernel_rfl
     rotate_left
     go_simp
     first | (go_at_call 30; (with_reducible refine (newSite_any _ _ _ hBs).mono ?_); rintro e w5 ⟨s, rfl, hs1, hs2, hs3, hg5⟩; have HS1 := Lib.hid hs1; have HS2 := Lib.hid hs2; have HS3 := Lib.hid hs3; have HN5 := Lib.hid (HNd.out.keep hg5); have HO5 := Lib.hid (HOd.out _ hg5); have n5 := hg5.keep n0d; have n5a : (w5.alloc (.cells #[.pointer (some ⟨s.p, 0, none⟩)] 69)).cell? ⟨D, 0, none⟩ = some (.slice B0 k c0) := alloc_old n5; have HG5 := Lib.hid hg5; clear hs1 hs2 hs3 hg5) | (refine step_append_lies _ (by rfl) (.tmp 34) (.tmp 38) 66 (by rfl) D 69 i0 _ 1 8 Tryz.underlying66 hi hz0 hz1 hz2 rfl (by decide) (.slice B0 k c0) k (flatE encP (ss.map (·.p))) (by rfl) (HO5.out.alloc _) ⟨w5.heap.size, 0, none⟩ 1 1 [.pointer (some ⟨s.p, 0, none⟩)] (by rfl) rfl (World.news_of_block (heap_alloc_new _ _)) (by intro u hu; rw [List.mem_singleton.1 hu]; rfl) (by decide) (by unfold maxLen; omega) (by omega) (by have := HN5.out.le; simp; omega) _ rfl ?_; intro g' cap' w6 hown' hgrow hat _; have HAD := NetR.addSite HNd.out HLN.out HG5.out HS1.out HS3.out hown' hgrow hat; have d8 := HAD.1.cell 0; have d9 := HAD.1.free 0; have HF := Lib.hid HAD.2; have HGR := Lib.hid (HGA.out _ _ HG5.out hgrow); clear HAD hown' hgrow hat)
     refine hK.out _ _ ?_ (fun hHeld => ?_)
     ·((try dsimp only); (try trivial))
     clear hK K; try simp only [Act.put, lA, lB, lC]
     refine tr [4, 8] (.cons rfl (fun K hK => ?_) (.cons rfl (fun K hK => ?_) .nil))
     go_simp
     refine hK.out _ _ ?_ (fun hHeld => ?_)
     ·((try dsimp only); (try trivial))
     clear hK K; try simp only [Act.put, lA, lB, lC]
     refine tr [8] (.cons rfl (fun K hK => ?_) .nil)
     go_simp
     refine hK.out _ _ ?_ (fun hHeld => ?_)
     ·((try dsimp only); (try trivial))
     clear hK K; try simp only [Act.put, lA, lB, lC]
     refine tr [9] (.cons rfl (fun K hK => ?_) .nil)
     first | (refine step_append_lies _ (by rfl) (.tmp 34) (.tmp 38) 66 (by rfl) D 69 i0 _ 1 8 Tryz.underlying66 hi hz0 hz1 hz2 rfl (by decide) (.slice B0 k c0) k (flatE encP (ss.map (·.p))) (by rfl) (HO5.out.alloc _) ⟨w5.heap.size, 0, none⟩ 1 1 [.pointer (some ⟨s.p, 0, none⟩)] (by rfl) rfl (World.news_of_block (heap_alloc_new _ _)) (by intro u hu; rw [List.mem_singleton.1 hu]; rfl) (by decide) (by unfold maxLen; omega) (by omega) (by have := HN5.out.le; simp; omega) _ rfl ?_; intro g' cap' w6 hown' hgrow hat _; have HAD := NetR.addSite HNd.out HLN.out HG5.out HS1.out HS3.out hown' hgrow hat; have d8 := HAD.1.cell 0; have d9 := HAD.1.free 0; have HF := Lib.hid HAD.2; have HGR := Lib.hid (HGA.out _ _ HG5.out hgrow); clear HAD hown' hgrow hat)
     refine hK.out _ _ ?_ (fun hHeld => ?_)
     ·((try dsimp only); (try trivial))
     clear hK K; try simp only [Act.put, lA, lB, lC]
     refine ti 10 (some 40) rfl rfl ?_; try simp only [Act.put, lA, lB, lC]
     refine ti 11 (some 41) rfl rfl ?_; try simp only [Act.put, lA, lB, lC]
     refine tr [12] (.cons rfl (fun K hK => ?_) .nil)
     go_simp
     refine hK.out _ _ ?_ (fun hHeld => ?_)
     ·((try dsimp only); (try trivial))
     clear hK K; try simp only [Act.put, lA, lB, lC]
     refine wpAnyH_done ?_ ?_ _
     ·kernel_rfl
     rotate_left
     go_simp
     refine hK.out _ _ ?_ (fun hHeld => ?_)
     ·((try dsimp only); (try trivial))
     clear hK K; try simp only [Act.put, lA, lB, lC]
     refine tr [4] (.cons rfl (fun K hK => ?_) .nil)
     go_simp
     refine hK.out _ _ ?_ (fun hHeld => ?_)
     ·((try dsimp only); (try trivial))
     clear hK K; try simp only [Act.put, lA, lB, lC]
     refine tr [9] (.cons rfl (fun K hK => ?_) .nil)
     first | (refine step_append_lies _ (by rfl) (.tmp 34) (.tmp 38) 66 (by rfl) D 69 i0 _ 1 8 Tryz.underlying66 hi hz0 hz1 hz2 rfl (by decide) (.slice B0 k c0) k (flatE encP (ss.map (·.p))) (by rfl) (HO5.out.alloc _) ⟨w5.heap.size, 0, none⟩ 1 1 [.pointer (some ⟨s.p, 0, none⟩)] (by rfl) rfl (World.news_of_block (heap_alloc_new _ _)) (by intro u hu; rw [List.mem_singleton.1 hu]; rfl) (by decide) (by unfold maxLen; omega) (by omega) (by have := HN5.out.le; simp; omega) _ rfl ?_; intro g' cap' w6 hown' hgrow hat _; have HAD := NetR.addSite HNd.out HLN.out HG5.out HS1.out HS3.out hown' hgrow hat; have d8 := HAD.1.cell 0; have d9 := HAD.1.free 0; have HF := Lib.hid HAD.2; have HGR := Lib.hid (HGA.out _ _ HG5.out hgrow); clear HAD hown' hgrow hat)
     refine hK.out _ _ ?_ (fun hHeld => ?_)
     ·((try dsimp only); (try trivial))
     clear hK K; try simp only [Act.put, lA, lB, lC]
     refine ti 10 (some 40) rfl rfl ?_; try simp only [Act.put, lA, lB, lC]
     refine ti 11 (some 41) rfl rfl ?_; try simp only [Act.put, lA, lB, lC]
     refine tr [12] (.cons rfl (fun K hK => ?_) .nil)
     go_simp
     refine hK.out _ _ ?_ (fun hHeld => ?_)
     ·((try dsimp only); (try trivial))
     clear hK K; try simp only [Act.put, lA, lB, lC]
     refine wpAnyH_done ?_ ?_ _
     ·kernel_rfl
     rotate_left
     all_goals
      clear hHeld hi hz0 hz1 hz2 d8 d9 n5 n5a n0d HOd HGA
      have hgf := HGR.out.setCell (p := ⟨D, 0, none⟩) (Nat.le_of_eq HDD.out) (.slice (some ⟨g', 0, none⟩) (k + 1) cap')
      generalize w6.setCell _ _ = w7 at HF hgf ⊢
      go_wp2_with fail
      go_roundw
      case rel => exact ⟨k + 1, ss ++ [s], some ⟨g', 0, none⟩, cap', by omega, by go_num, Lib.hid (hnl.out.snoc (by rw [HN.out]; exact hlt) HXK.out (by obtain ⟨⟨a1, a2, a3⟩, a4, a5, a6, a7, a8⟩ := HS2.out; exact ⟨a1, a2, a3, a4, a5, a6, a7, a8⟩)), Lib.hid (fun y hy => by
       rw [List.take_add_one, HXK.out, Option.toList_some, List.mem_append, List.mem_singleton] at hy
       rcases hy with hy | rfl
       ·exact hval.out y hy
       ·omega), HF, hgf⟩
      case measure => simp [intOf]; omega
   ·obtain rfl : k = n := by omega
    have htk : l.take k = l := List.take_of_length_le (by rw [HN.out]; exact Nat.le_refl _)
    rw [htk] at hnl hval
    have HOK := Lib.hid ((okStocks_iff l).2 ⟨by rw [HN.out]; exact hn1, by rw [HN.out]; exact hn8, hval.out⟩)
    clear htk hlt n0
    go_wp2_with fail
    refine bodyPost_ret (v := .tuple #[.pointer (some ⟨D, 0, none⟩), .int .i64 0]) ?_ ?_ ?_
    ·simp [results, Tryz.results9, go_sem]
    ·rfl
    ·exact Or.inr ⟨HOK.out, _, rfl, by rw [HDD.out]; exact hN.out, hnl.out, rfl, rfl, hgr⟩

set_option maxRecDepth 100000
set_option maxHeartbeats 80000000

theorem Rd.ch {α : Type} {k : Nat} {enc : α → List Value} {S : List Nat} {w w' : World} {g off : Nat} {xs : List α} (h : Rd k enc w (some ⟨g, off, none⟩) xs) (hc : Ch S w w') (hn : g ∉ S) (hlt : g < w.heap.size) : Rd k enc w' (some ⟨g, off, none⟩) xs := fun i x hx => by
 obtain ⟨b, o, e, hcell⟩ := h i x hx
 injection e with e
 injection e with e1 e2
 refine ⟨b, o, by rw [e1, e2], fun j v hv => ?_⟩
 have h2 := hcell j v hv
 have hb := hc.block g hlt hn
 rw [← e1] at h2 ⊢
 exact (World.cell?_of_block hb).trans h2
def nw (i : Nat) (x : Int) : Sx := ⟨i, x, true, [], [], [], [], [], 0, 0, 0, 0, 0, 0⟩
def newN (l : List Int) : Nx := ⟨l.zipIdx.map (fun p => nw p.2 p.1), [], 0, 0, .slice none 0 0, .slice none 0 0⟩
theorem NewS.nz {i : Nat} {x : Int} {s : Sx} (h : NewS i x s) : nz s = nw i x := by
 obtain ⟨num, stock, up, prom, kept, drop, opn, grt, p, mp, mq, mr, mo, mg⟩ := s
 obtain ⟨h1, h2, h3, h4, h5, h6, h7, h8⟩ := h
 dsimp only at h1 h2 h3 h4 h5 h6 h7 h8
 subst h1 h2 h3 h4 h5 h6 h7 h8
 rfl
theorem newN_of {l : List Int} {N : Nx} (h : NewL l N.sites) (hm : N.mail = []) (hb : N.begun = 0) : nzN N = newN l := by
 unfold nzN newN
 rw [hm, hb]
 congr 1
 apply List.ext_getElem?
 intro k
 rw [List.getElem?_map, List.getElem?_map]
 by_cases hk : k < l.length
 ·have h1 : l[k]? = some (l[k]'hk) := List.getElem?_eq_getElem _
  have h2 : N.sites[k]? = some (N.sites[k]'(by rw [h.1]; exact hk)) := List.getElem?_eq_getElem _
  have h3 := h.2 k _ _ h2 h1
  rw [h2, List.getElem?_zipIdx, h1]
  simp only [Option.map_some, Nat.zero_add]
  rw [h3.nz]
 ·rw [List.getElem?_eq_none (by rw [h.1]; omega), List.getElem?_eq_none (by simp; omega)]
  rfl
theorem newN_len (l : List Int) : (newN l).sites.length = l.length := by unfold newN; simp
theorem newN_site {l : List Int} {k : Nat} {x : Int} (h : l[k]? = some x) : (newN l).sites[k]? = some (nw k x) := by
 unfold newN
 rw [List.getElem?_map, List.getElem?_zipIdx, h]
 simp
theorem newN_ok {l : List Int} (h : okStocks l = true) : OkN (newN l) := by
 have h1 := (okStocks_iff l).1 h
 refine ⟨by rw [newN_len]; exact h1.1, by rw [newN_len]; exact h1.2.1, by unfold newN; dsimp only; omega, fun k s hs => ?_, by unfold newN; simp, fun m hm => by unfold newN at hm; simp at hm⟩
 have hk : k < l.length := by
  have := (List.getElem?_eq_some_iff.1 hs).1
  rw [newN_len] at this
  exact this
 have h2 : l[k]? = some (l[k]'hk) := List.getElem?_eq_getElem _
 have h3 := h1.2.2 _ (List.mem_of_getElem? h2)
 rw [newN_site h2] at hs
 injection hs with hs
 subst hs
 rw [newN_len]
 refine ⟨⟨by unfold nw; dsimp only; omega, ?_, ?_, List.Pairwise.nil, fun _ he => (by cases he), List.Pairwise.nil, fun _ he => (by cases he), List.Pairwise.nil, fun _ he => (by cases he), fun _ he => (by cases he)⟩, rfl⟩
 ·show 0 ≤ l[k] + 0
  omega
 ·show l[k] + 0 ≤ 1099511627776
  omega
def begE (N : Nx) (i : Int) (ps : List Mv) : Int := if refD N i ≠ 0 then refD N i else if okTx N ps = false then 2 else if 256 ≤ N.begun then 5 else 0
def begT (N : Nx) (i : Int) (ps : List Mv) : Int := if begE N i ps = 0 then N.begun + 1 else 0
def begI (N : Nx) (i : Int) (ps : List Mv) : Nx := if begE N i ps = 0 then begN N i.toNat ps else N
theorem begE_nz (N : Nx) (i : Int) (ps : List Mv) : begE (nzN N) i ps = begE N i ps := by unfold begE; rw [refD_nz, okTx_nz]; rfl
theorem begT_nz (N : Nx) (i : Int) (ps : List Mv) : begT (nzN N) i ps = begT N i ps := by unfold begT; rw [begE_nz]; rfl
theorem begI_nz (N : Nx) (i : Int) (ps : List Mv) : begI (nzN N) i ps = if begE N i ps = 0 then nzN (begN N i.toNat ps) else nzN N := by unfold begI; rw [begE_nz, begN_nz]
def BeginP (B : Nat) (w : World) (N : Nx) (i : Int) (ps : List Mv) (e : Ending) (w' : World) : Prop :=
 e = .returned (.tuple #[.int .i64 (begT N i ps), .int .i64 (begE N i ps)]) ∧ ∃ N', nzN N' = begI (nzN N) i ps ∧ NetTo B w N N' w'
theorem Begin_all {B : Nat} {N : Nx} (i : Int) (A : Option Addr) (n c : Nat) (ps : List Mv) (w : World) (h : NetR B w N) (ho : OkN (nzN N)) (hn : ps.length = n) (hl : n ≤ 512)
 (hp : ∀ W, Ch (ownB N) w W → Pts W A ps) (hI : ∀ p ∈ ps, I64 p.1) :
 Calls Tryz.prog 16 #[.pointer (some ⟨N.p, 0, none⟩), .int .i64 i, .slice A n c] w (BeginP B w N i ps) := by
 have hnew : ∀ s ∈ N.sites, mget s.opn (N.begun + 1) = none := fun s hs => by
  obtain ⟨k, hk⟩ := List.mem_iff_getElem?.1 hs
  have h1 := (ho.site k _ (nz_site hk)).1
  have h2 : mget (dzs s.opn) (N.begun + 1) = none := mget_none.2 (fun p hp e => by
   have h3 := (h1.opn p hp).1.2
   have : p.1 ≤ N.begun := h3
   omega)
  rw [mget_dz] at h2
  simpa using h2
 refine (Begin_any i A n c ps w h (by rw [← nz_len]; exact ho.hi) ho.room ho.beg.1 hn hl hp hI hnew).mono ?_
 rintro e w' (⟨h1, rfl, hg⟩ | ⟨h1, h2, rfl, hg⟩ | ⟨h1, h2, h3, rfl, hg⟩ | ⟨h1, h2, h3, rfl, k, s, d, N', rfl, hk, hd1, hd2, h4, h5, h6, h7⟩)
 ·have hE : begE N i ps = refD N i := by unfold begE; rw [if_pos h1]
  refine ⟨?_, N, ?_, NetTo.refl h hg⟩
  ·unfold begT; rw [hE, if_neg h1]
  ·rw [begI_nz, hE, if_neg h1]
 ·have hE : begE N i ps = 2 := by unfold begE; rw [h1, if_neg (by simp), if_pos h2]
  refine ⟨?_, N, ?_, NetTo.refl h hg⟩
  ·unfold begT; rw [hE]; rfl
  ·rw [begI_nz, hE]; rfl
 ·have hE : begE N i ps = 5 := by unfold begE; rw [h1, if_neg (by simp), if_neg (by simp [h2]), if_pos h3]
  refine ⟨?_, N, ?_, NetTo.refl h hg⟩
  ·unfold begT; rw [hE]; rfl
  ·rw [begI_nz, hE]; rfl
 ·have hE : begE N (k : Int) ps = 0 := by unfold begE; rw [h1, if_neg (by simp), if_neg (by simp [h2]), if_neg (by omega)]
  refine ⟨?_, N', ?_, h7⟩
  ·unfold begT; rw [hE]; rfl
  ·rw [begI_nz, hE, if_pos rfl, show ((k : Int)).toNat = k from rfl]
   unfold begN
   rw [hk]
   dsimp only
   obtain ⟨ss, ml, bg, p, sv, lv⟩ := N'
   dsimp only at h4 h5 h6
   subst h4 h5 h6
   rw [nz_set, nz_set]
   congr 2
   unfold nz dzs
   simp only [List.map_append]
   obtain ⟨dp, dm, db, dc, dg⟩ := d
   dsimp only at hd1 hd2
   subst hd1 hd2
   rfl
def seqV : Nat → Nx
 | 0 => begI (newN [10, 0]) 0 [(0, -4), (1, 4)]
 | i + 1 => delN (seqV i) 0
theorem seq_ok : ∀ i, OkN (seqV i)
 | 0 => by
   have h : begI (newN [10, 0]) 0 [(0, -4), (1, 4)] = begN (newN [10, 0]) 0 [(0, -4), (1, 4)] := by rfl
   show OkN (begI (newN [10, 0]) 0 [(0, -4), (1, 4)])
   rw [h]
   exact begN_ok (newN_ok (by decide)) (s := nw 0 10) rfl (by rfl) (by decide)
 | i + 1 => delN_ok (seq_ok i) 0
theorem seq_some : ∀ i, i < 8 → (seqV i).mail ≠ [] := by
 intro i hi
 have : i = 0 ∨ i = 1 ∨ i = 2 ∨ i = 3 ∨ i = 4 ∨ i = 5 ∨ i = 6 ∨ i = 7 := by omega
 rcases this with rfl | rfl | rfl | rfl | rfl | rfl | rfl | rfl <;> (intro h; exact absurd (congrArg List.length h) (by decide))
theorem seq_none : (seqV 8).mail = [] := by rfl
theorem seq_end : stockN (seqV 8) 0 = 6 ∧ stockN (seqV 8) 1 = 4 ∧ settledN (seqV 8) = true ∧ refS (seqV 8) 0 = 0 ∧ refS (seqV 8) 1 = 0 := ⟨by rfl, by rfl, by rfl, by rfl, by rfl⟩

end Go.Proofs.YtnoeiocbmhkmeaaGreat

namespace Go.Proofs.YtnoeiocbmhkmeaaGreat
set_option linter.unusedSimpArgs false
set_option maxRecDepth 100000
set_option maxHeartbeats 80000000

def canP (own : List Int) (ps : List Mv) : Prop := ∀ p ∈ ps, ∀ o, own[p.1.toNat]? = some o → 0 ≤ o + p.2 ∧ o + p.2 ≤ 1099511627776
structure Calm (N : Nx) (own : List Int) (co : Int → Int) (pa : Int → List Mv) (G : Int → Prop) : Prop where
 ok : OkN N
 inv : Inv N co pa G
 liv : Liv N co (fun _ => True)
 mail : N.mail = []
 len : own.length = N.sites.length
 site : ∀ (k : Nat) (s : Sx), N.sites[k]? = some s → s.up = true ∧ s.opn = [] ∧ s.grt = [] ∧ s.prom = [] ∧ own[k]? = some s.stock
structure Run (N : Nx) (own : List Int) (t : Int) (ps : List Mv) (co : Int → Int) (pa : Int → List Mv) (G : Int → Prop) : Prop where
 ok : OkN N
 inv : Inv N co pa G
 liv : Liv N co (fun _ => True)
 beg : t = N.begun ∧ 1 ≤ t
 pat : pa t = ps
 len : own.length = N.sites.length
 up : ∀ s ∈ N.sites, s.up = true
 only : ∀ s ∈ N.sites, (∀ e ∈ s.opn, e.1 = t) ∧ (∀ e ∈ s.grt, e.1 = t) ∧ ∀ e ∈ s.prom, e.1 = t
 mailt : ∀ m ∈ N.mail, m.2.2.2.1 = t
 stk : ∀ (k : Nat) (s : Sx), N.sites[k]? = some s → ∃ o, own[k]? = some o ∧ s.stock = o + if (atS s t).kp then (mget ps (k : Int)).getD 0 else 0
 can : canP own ps → (∀ k, (atN N t k).dr = false) ∧ (∀ m ∈ N.mail, m.2.2.1 ≠ 3 ∧ (m.2.2.1 = 5 → G t)) ∧ ((atN N t (co t)).op ≠ none ∨ G t)
 bad : ∀ f x o, (f, x) ∈ ps → own[f.toNat]? = some o → ¬ (0 ≤ o + x ∧ o + x ≤ 1099511627776) → (atN N t f).pr = none ∧ (atN N t f).kp = false
set_option maxRecDepth 100000
set_option maxHeartbeats 80000000

def ownEnd (N : Nx) : List Int := N.sites.map (·.stock)
def addP5 : List Int → List Mv → List Int
 | own, [] => own
 | own, p :: r => addP5 (own.set p.1.toNat (own.getD p.1.toNat 0 + p.2)) r
theorem mget_cons {β : Type} (p : Int × β) (r : List (Int × β)) (a : Int) : mget (p :: r) a = if p.1 = a then some p.2 else mget r a := by
 unfold mget
 rw [List.find?_cons]
 by_cases h : p.1 = a
 ·simp [h]
 ·simp [h]
end Go.Proofs.YtnoeiocbmhkmeaaGreat
