/- Layer 5: a new net. -/
import Derived.Test.YtnoeiocbmhkmeaaPtN
import Derived.Deep.CutRange
import Derived.Deep.AppendLies
import Derived.StillTailTactics
namespace Go.Proofs.Ytnoeiocbmhkmeaa
open Go.RowKit
set_option linter.unusedSimpArgs false

theorem okStocks_iff (l : List Int) : okStocks l = true ↔ 1 ≤ l.length ∧ l.length ≤ 8 ∧ ∀ x ∈ l, 0 ≤ x ∧ x ≤ 1099511627776 := by
  unfold okStocks
  simp [and_assoc]
theorem okStocks_no {l : List Int} (h : ¬ (1 ≤ l.length ∧ l.length ≤ 8 ∧ ∀ x ∈ l, 0 ≤ x ∧ x ≤ 1099511627776)) : okStocks l = false := by
  rw [Bool.eq_false_iff]; exact fun e => h ((okStocks_iff l).1 e)

/-- A site more. -/
theorem NetR.addSite {D : Nat} {w w5 w6 : World} {ss : List Sx} {s : Sx} {k c0 g' cap' : Nat} {B0 : Option Addr} (hN : NetR D w ⟨ss, [], 0, D, .slice B0 k c0, .slice none 0 0⟩) (hlen : ss.length = k) (hg5 : Gr w w5) (hs : Its D w5 (siteIt s)) (hf : ∀ g ∈ blks (siteIt s), w.heap.size ≤ g)
    (hown : w6.ownsRow D 69 1 (.slice (some ⟨g', 0, none⟩) (k + 1) cap') (k + 1) (flatE encP (ss.map (·.p)) ++ [.pointer (some ⟨s.p, 0, none⟩)]))
    (hgrow : (w5.alloc (.cells #[.pointer (some ⟨s.p, 0, none⟩)] 69)).grownBy w6 (Value.slice B0 k c0).ownBlock) (hat : (Value.slice B0 k c0).ownBlock = some g' ∨ g' = (w5.alloc (.cells #[.pointer (some ⟨s.p, 0, none⟩)] 69)).heap.size) :
    Blk w6 D 43 #[.slice B0 k c0, .slice none 0 0, .int .i64 0] ∧ NetR D (w6.setCell ⟨D, 0, none⟩ (.slice (some ⟨g', 0, none⟩) (k + 1) cap')) ⟨ss ++ [s], [], 0, D, .slice (some ⟨g', 0, none⟩) (k + 1) cap', .slice none 0 0⟩ := by
  have hal := (Gr.refl w5).alloc (.cells #[.pointer (some ⟨s.p, 0, none⟩)] 69)
  have i5 := hN.its.more hg5 hs hf
  have hsz : (w5.alloc (.cells #[.pointer (some ⟨s.p, 0, none⟩)] 69)).heap.size = w5.heap.size + 1 := by simp
  have haw : ∀ it ∈ netIt ⟨ss, [], 0, D, .slice B0 k c0, .slice none 0 0⟩ ++ siteIt s, (Value.slice B0 k c0).ownBlock ≠ some it.1 := fun it hm => by
    rcases List.mem_append.1 hm with hm | hm
    · exact (hN.away it hm).1
    · intro e
      have h1 := (hN.sites.lt _ e).2
      have h2 := hf it.1 (mem_blks hm)
      omega
  have haw2 : ∀ it ∈ netIt ⟨ss, [], 0, D, .slice B0 k c0, .slice none 0 0⟩ ++ siteIt s, some g' ≠ some it.1 := fun it hm e => by
    rcases hat with h | h
    · exact haw it hm (h.trans e)
    · have h1 := (i5.lt (mem_blks hm)).1
      injection e with e
      omega
  have i6 := (i5.keep hal).aside hgrow haw
  have hb6 : Blk w6 D 43 #[.slice B0 k c0, .slice none 0 0, .int .i64 0] := i6.at (D := .cells _ _) (by unfold netIt; simp)
  have i7 : Its D (w6.setCell ⟨D, 0, none⟩ (.slice (some ⟨g', 0, none⟩) (k + 1) cap')) (netIt ⟨ss ++ [s], [], 0, D, .slice (some ⟨g', 0, none⟩) (k + 1) cap', .slice none 0 0⟩) := by
    have i6' : Its D w6 ([] ++ [(D, .cells 43 #[.slice B0 k c0, .slice none 0 0, .int .i64 0])] ++ (ss.flatMap siteIt ++ siteIt s)) := by
      unfold netIt at i6; simpa using i6
    have := i6'.turn (D' := .cells 43 #[.slice (some ⟨g', 0, none⟩) (k + 1) cap', .slice none 0 0, .int .i64 0]) ((Gb.refl D w6).put 0 _) (hb6.put 0 _)
    unfold netIt
    simpa using this
  refine ⟨hb6, i7, ?_, World.ownsRow_nil _ _ _ _, Or.inr (by simp [Value.ownBlock]), fun it hm => ⟨?_, by simp [Value.ownBlock]⟩, ?_⟩
  · have h1 : (Value.slice (some ⟨g', 0, none⟩) (k + 1) cap').ownBlock ≠ some D := fun e => haw2 (D, .cells 43 #[.slice B0 k c0, .slice none 0 0, .int .i64 0]) (by unfold netIt; simp) e
    have h2 := ownsRow_setCell_other (a := ⟨D, 0, none⟩) hown h1 (.slice (some ⟨g', 0, none⟩) (k + 1) cap')
    show World.ownsRow _ _ _ _ _ (ss ++ [s]).length _
    rw [List.length_append, hlen, List.map_append, flatE_app]
    simpa [flatE, encP] using h2
  · intro e
    have hm2 : it.1 ∈ blks (netIt ⟨ss, [], 0, D, .slice B0 k c0, .slice none 0 0⟩ ++ siteIt s) := by
      have := mem_blks hm
      unfold netIt at this ⊢
      simpa [blks] using this
    obtain ⟨jt, hj, ej⟩ := List.mem_map.1 hm2
    exact haw2 jt hj (e.trans (by rw [← ej]))
  · have h1 := (Gr.trans hg5 hal).size
    have h2 := hN.le
    have h3 := World.grownBy.size hgrow
    simp [World.setCell]
    omega

set_option maxRecDepth 100000 in
set_option maxHeartbeats 8000000 in
theorem New_any (A : Option Addr) (n c : Nat) (l : List Int) (w : World) (hn : l.length = n) (hl : n ≤ 9223372036854775807) (hp : Ints w A l) : Calls Try.prog 10 #[.slice A n c] w (NewP l w) := by
  have HN := Lib.hid hn
  have HP := Lib.hid hp
  by_cases hb : n < 1 ∨ 8 < n
  · have HR := Lib.hid (okStocks_no (l := l) (fun h => by have := h.1; have := h.2.1; omega))
    clear hn hp
    rcases hb with hb | hb
    all_goals
      go_enter Try.func10, Try.ntmps10
      go_wp2_with fail
      refine bodyPost_ret (v := .tuple #[.pointer none, .int .i64 2]) ?_ ?_ ?_
      · simp [results, Try.results10, go_sem]
      · rfl
      · exact Or.inl ⟨HR.out, rfl, Gr.refl _⟩
  · have hn1 : 1 ≤ n := by omega
    have hn8 : n ≤ 8 := by omega
    obtain ⟨i0, hi, hz0, hz1, hz2⟩ := info_parts Try.infoPtS
    have HI := Lib.hid (And.intro hi (And.intro hz0 (And.intro hz1 hz2)))
    clear hn hp hb hi hz0 hz1 hz2
    go_enter Try.func10, Try.ntmps10
    go_upto_region 4 with fail
    generalize hW1 : World.alloc w _ = w1
    have hg1 : Gr w w1 := by rw [← hW1]; exact (Gr.refl w).alloc _
    have hB1 : Blk w1 w.heap.size 43 #[.slice none 0 0, .slice none 0 0, .int .i64 0] := by rw [← hW1]; exact Blk.new w _ _ rfl
    have hN1 : NetR w.heap.size w1 ⟨[], [], 0, w.heap.size, .slice none 0 0, .slice none 0 0⟩ :=
      ⟨Its.one (D := .cells _ _) hB1 (Nat.le_refl _), World.ownsRow_nil _ _ _ _, World.ownsRow_nil _ _ _ _, Or.inl rfl, fun it _ => ⟨by simp [Value.ownBlock], by simp [Value.ownBlock]⟩, hg1.size⟩
    obtain ⟨D, hD⟩ : ∃ D, w.heap.size = D := ⟨_, rfl⟩
    rw [hD] at hN1 ⊢
    have HDD := Lib.hid hD
    have HN1 := Lib.hid hN1
    clear hW1 hB1 hN1 hD
    go_wp2_with fail
    go_loopw [19] (fun z wr => ∃ (k : Nat) (ss : List Sx) (B0 : Option Addr) (c0 : Nat), k ≤ n ∧ z = .int .i64 (k : Int) ∧ Hid (NewL (l.take k) ss) ∧ Hid (∀ x ∈ l.take k, 0 ≤ x ∧ x ≤ 1099511627776) ∧ Hid (NetR D wr ⟨ss, [], 0, D, .slice B0 k c0, .slice none 0 0⟩) ∧ Gr w wr) (fun z _ => n - (intOf z).toNat)
    case atStart => exact ⟨0, [], none, 0, Nat.zero_le _, rfl, Lib.hid ⟨rfl, fun i s x h => by simp at h⟩, Lib.hid (fun x h => by simp at h), HN1, hg1⟩
    case round =>
      obtain ⟨k, ss, B0, c0, hk, rfl, hnl, hval, hN, hgr⟩ := hrel
      clear HN1 hg1
      have n0 := hN.out.blk.cell 0
      simp only [List.getElem?_toArray, List.getElem?_cons_zero] at n0
      by_cases hlt : k < n
      · obtain ⟨b, off, rfl, hc0⟩ := Ints_at (HP.out.keep hgr) (i := k) (by rw [HN.out]; exact hlt)
        have hxk : l[k]? = some (l.getD k 0) := getD_of 0 (by rw [HN.out]; exact hlt)
        generalize l.getD k 0 = x at hc0 hxk
        have hki : (k : Int) < (n : Int) := by omega
        by_cases hx : x < 0 ∨ 1099511627776 < x
        · have HR := Lib.hid (okStocks_no (l := l) (fun h => by have := h.2.2 x (List.mem_of_getElem? hxk); omega))
          clear hxk
          rcases hx with hx | hx
          all_goals
            go_wp2_with fail
            refine bodyPost_ret (v := .tuple #[.pointer none, .int .i64 2]) ?_ ?_ ?_
            · simp [results, Try.results10, go_sem]
            · rfl
            · exact Or.inl ⟨HR.out, rfl, hgr⟩
        · have hx1 : ¬ x < 0 := by omega
          have hx2 : ¬ 1099511627776 < x := by omega
          have hlen : ss.length = k := by have := hnl.out.1; rw [List.length_take, HN.out] at this; omega
          have HLN := Lib.hid hlen
          have HXK := Lib.hid hxk
          have hdr := (Gr.refl wr).drew
          have n0d := hdr.keep n0
          have HNd := Lib.hid (hN.out.keep hdr)
          have hBs : D ≤ wr.drew.heap.size := HNd.out.le
          have HOd : Hid (∀ w5, Gr wr.drew w5 → w5.ownsRow D 69 1 (.slice B0 k c0) k (flatE encP (ss.map (·.p)))) := Lib.hid (fun w5 hg => by
            have h1 := owns_gr HNd.out.sites hg
            have h2 : (Nx.sites ⟨ss, [], 0, D, .slice B0 k c0, .slice none 0 0⟩).length = k := hlen
            rw [h2] at h1
            exact h1)
          have hgd := hgr.drew
          have HGA : Hid (∀ (w5 w6 : World) {s : Sx}, Gr wr.drew w5 → (w5.alloc (.cells #[.pointer (some ⟨s.p, 0, none⟩)] 69)).grownBy w6 (Value.slice B0 k c0).ownBlock → Gr w w6) := Lib.hid (fun w5 w6 s hg hgrow => by
            have h1 := (hgd.trans hg).alloc (.cells #[.pointer (some ⟨s.p, 0, none⟩)] 69)
            exact Below.grown h1 hgrow h1.size (fun t ht => by have := (HNd.out.sites.lt t ht).1; have := HDD.out; omega))
          obtain ⟨hi, hz0, hz1, hz2⟩ := HI.out
          clear hx hxk hlen hgd
          go_upto_region 9 with fail
          refine wp_region_held_drew (S := (fun _ => True)) ?_ ?_ (fun hHeld => ?_)
          · kernel_rfl
          · ((try dsimp only); (try trivial))
          refine take_in (i := 0) (v := ?_) (d := (some 30)) rfl rfl ?_ ?_ ?_ ?_ ?_ ?_ ?_ ?_
          rotate_left
          · kernel_rfl
          · kernel_rfl
          · kernel_rfl
          · (intro _ _ _ hq; exact hq)
          · rfl
          · (intro _w hSw; (try dsimp only at hSw); go_simp; try with_reducible rfl)
          · assumption
          try simp only [Act.put, List.setIfInBounds_toArray, List.set_cons_zero, List.set_cons_succ]
          refine take_in (i := 1) (v := ?_) (d := (some 31)) rfl rfl ?_ ?_ ?_ ?_ ?_ ?_ ?_ ?_
          rotate_left
          · kernel_rfl
          · kernel_rfl
          · kernel_rfl
          · (intro _ _ _ hq; exact hq)
          · rfl
          · (intro _w hSw; (try dsimp only at hSw); go_simp; try with_reducible rfl)
          · assumption
          try simp only [Act.put, List.setIfInBounds_toArray, List.set_cons_zero, List.set_cons_succ]
          refine take_in (i := 2) (v := ?_) (d := (some 32)) rfl rfl ?_ ?_ ?_ ?_ ?_ ?_ ?_ ?_
          rotate_left
          · kernel_rfl
          · kernel_rfl
          · kernel_rfl
          · (intro _ _ _ hq; exact hq)
          · rfl
          · (intro _w hSw; (try dsimp only at hSw); go_simp; try with_reducible rfl)
          · assumption
          try simp only [Act.put, List.setIfInBounds_toArray, List.set_cons_zero, List.set_cons_succ]
          refine take_in (i := 3) (v := ?_) (d := (some 33)) rfl rfl ?_ ?_ ?_ ?_ ?_ ?_ ?_ ?_
          rotate_left
          · kernel_rfl
          · kernel_rfl
          · kernel_rfl
          · (intro _ _ _ hq; exact hq)
          · rfl
          · (intro _w hSw; (try dsimp only at hSw); go_simp; try with_reducible rfl)
          · assumption
          try simp only [Act.put, List.setIfInBounds_toArray, List.set_cons_zero, List.set_cons_succ]
          refine take_in (i := 5) (v := ?_) (d := (some 35)) rfl rfl ?_ ?_ ?_ ?_ ?_ ?_ ?_ ?_
          rotate_left
          · kernel_rfl
          · kernel_rfl
          · kernel_rfl
          · (intro _ _ _ hq; exact hq)
          · rfl
          · (intro _w hSw; (try dsimp only at hSw); go_simp; try with_reducible rfl)
          · assumption
          try simp only [Act.put, List.setIfInBounds_toArray, List.set_cons_zero, List.set_cons_succ]
          refine take_in (i := 6) (v := ?_) (d := (some 36)) rfl rfl ?_ ?_ ?_ ?_ ?_ ?_ ?_ ?_
          rotate_left
          · kernel_rfl
          · kernel_rfl
          · kernel_rfl
          · (intro _ _ _ hq; exact hq)
          · rfl
          · (intro _w hSw; (try dsimp only at hSw); go_simp; try with_reducible rfl)
          · assumption
          try simp only [Act.put, List.setIfInBounds_toArray, List.set_cons_zero, List.set_cons_succ]
          refine wpAnyH_ready (rs := [4, 7]) ?_ ?_ ?_
          · kernel_rfl
          · simp
          refine (AllReadyH.cons rfl (fun K hK => ?_) (AllReadyH.cons rfl (fun K hK => ?_) AllReadyH.nil))
          go_simp
          refine hK.out _ _ ?_ (fun hHeld => ?_)
          · ((try dsimp only); (try trivial))
          clear hK K
          try simp only [Act.put, List.setIfInBounds_toArray, List.set_cons_zero, List.set_cons_succ]
          refine wpAnyH_ready (rs := [7]) ?_ ?_ ?_
          · kernel_rfl
          · simp
          refine (AllReadyH.cons rfl (fun K hK => ?_) AllReadyH.nil)
          go_simp
          first | (go_at_call 35; (with_reducible refine (newSite_any _ _ _ hBs).mono ?_); rintro e w5 ⟨s, rfl, hs1, hs2, hs3, hg5⟩; have HS1 := Lib.hid hs1; have HS2 := Lib.hid hs2; have HS3 := Lib.hid hs3; have HN5 := Lib.hid (HNd.out.keep hg5); have HO5 := Lib.hid (HOd.out _ hg5); have n5 := hg5.keep n0d; have n5a : (w5.alloc (.cells #[.pointer (some ⟨s.p, 0, none⟩)] 69)).cell? ⟨D, 0, none⟩ = some (.slice B0 k c0) := alloc_old n5; have HG5 := Lib.hid hg5; clear hs1 hs2 hs3 hg5) | (refine step_append_lies _ (by rfl) (.tmp 34) (.tmp 38) 41 (by rfl) D 69 i0 _ 1 8 Try.underlying41 hi hz0 hz1 hz2 rfl (by decide) (.slice B0 k c0) k (flatE encP (ss.map (·.p))) (by rfl) (HO5.out.alloc _) ⟨w5.heap.size, 0, none⟩ 1 1 [.pointer (some ⟨s.p, 0, none⟩)] (by rfl) rfl (World.news_of_block (heap_alloc_new _ _)) (by intro u hu; rw [List.mem_singleton.1 hu]; rfl) (by decide) (by unfold maxLen; omega) (by omega) (by have := HN5.out.le; simp; omega) _ rfl ?_; intro g' cap' w6 hown' hgrow hat _; have HAD := NetR.addSite HNd.out HLN.out HG5.out HS1.out HS3.out hown' hgrow hat; have d8 := HAD.1.cell 0; have d9 := HAD.1.free 0; have HF := Lib.hid HAD.2; have HGR := Lib.hid (HGA.out _ _ HG5.out hgrow); clear HAD hown' hgrow hat)
          refine hK.out _ _ ?_ (fun hHeld => ?_)
          · ((try dsimp only); (try trivial))
          clear hK K
          try simp only [Act.put, List.setIfInBounds_toArray, List.set_cons_zero, List.set_cons_succ]
          refine wpAnyH_ready (rs := [8]) ?_ ?_ ?_
          · kernel_rfl
          · simp
          refine (AllReadyH.cons rfl (fun K hK => ?_) AllReadyH.nil)
          go_simp
          refine hK.out _ _ ?_ (fun hHeld => ?_)
          · ((try dsimp only); (try trivial))
          clear hK K
          try simp only [Act.put, List.setIfInBounds_toArray, List.set_cons_zero, List.set_cons_succ]
          refine wpAnyH_ready (rs := [9]) ?_ ?_ ?_
          · kernel_rfl
          · simp
          refine (AllReadyH.cons rfl (fun K hK => ?_) AllReadyH.nil)
          first | (go_at_call 35; (with_reducible refine (newSite_any _ _ _ hBs).mono ?_); rintro e w5 ⟨s, rfl, hs1, hs2, hs3, hg5⟩; have HS1 := Lib.hid hs1; have HS2 := Lib.hid hs2; have HS3 := Lib.hid hs3; have HN5 := Lib.hid (HNd.out.keep hg5); have HO5 := Lib.hid (HOd.out _ hg5); have n5 := hg5.keep n0d; have n5a : (w5.alloc (.cells #[.pointer (some ⟨s.p, 0, none⟩)] 69)).cell? ⟨D, 0, none⟩ = some (.slice B0 k c0) := alloc_old n5; have HG5 := Lib.hid hg5; clear hs1 hs2 hs3 hg5) | (refine step_append_lies _ (by rfl) (.tmp 34) (.tmp 38) 41 (by rfl) D 69 i0 _ 1 8 Try.underlying41 hi hz0 hz1 hz2 rfl (by decide) (.slice B0 k c0) k (flatE encP (ss.map (·.p))) (by rfl) (HO5.out.alloc _) ⟨w5.heap.size, 0, none⟩ 1 1 [.pointer (some ⟨s.p, 0, none⟩)] (by rfl) rfl (World.news_of_block (heap_alloc_new _ _)) (by intro u hu; rw [List.mem_singleton.1 hu]; rfl) (by decide) (by unfold maxLen; omega) (by omega) (by have := HN5.out.le; simp; omega) _ rfl ?_; intro g' cap' w6 hown' hgrow hat _; have HAD := NetR.addSite HNd.out HLN.out HG5.out HS1.out HS3.out hown' hgrow hat; have d8 := HAD.1.cell 0; have d9 := HAD.1.free 0; have HF := Lib.hid HAD.2; have HGR := Lib.hid (HGA.out _ _ HG5.out hgrow); clear HAD hown' hgrow hat)
          refine hK.out _ _ ?_ (fun hHeld => ?_)
          · ((try dsimp only); (try trivial))
          clear hK K
          try simp only [Act.put, List.setIfInBounds_toArray, List.set_cons_zero, List.set_cons_succ]
          refine take_in (i := 10) (v := ?_) (d := (some 40)) rfl rfl ?_ ?_ ?_ ?_ ?_ ?_ ?_ ?_
          rotate_left
          · kernel_rfl
          · kernel_rfl
          · kernel_rfl
          · (intro _ _ _ hq; exact hq)
          · rfl
          · (intro _w hSw; (try dsimp only at hSw); go_simp; try with_reducible rfl)
          · assumption
          try simp only [Act.put, List.setIfInBounds_toArray, List.set_cons_zero, List.set_cons_succ]
          refine take_in (i := 11) (v := ?_) (d := (some 41)) rfl rfl ?_ ?_ ?_ ?_ ?_ ?_ ?_ ?_
          rotate_left
          · kernel_rfl
          · kernel_rfl
          · kernel_rfl
          · (intro _ _ _ hq; exact hq)
          · rfl
          · (intro _w hSw; (try dsimp only at hSw); go_simp; try with_reducible rfl)
          · assumption
          try simp only [Act.put, List.setIfInBounds_toArray, List.set_cons_zero, List.set_cons_succ]
          refine wpAnyH_ready (rs := [12]) ?_ ?_ ?_
          · kernel_rfl
          · simp
          refine (AllReadyH.cons rfl (fun K hK => ?_) AllReadyH.nil)
          go_simp
          refine hK.out _ _ ?_ (fun hHeld => ?_)
          · ((try dsimp only); (try trivial))
          clear hK K
          try simp only [Act.put, List.setIfInBounds_toArray, List.set_cons_zero, List.set_cons_succ]
          refine wpAnyH_done ?_ ?_ _
          · kernel_rfl
          rotate_left
          go_simp
          first | (go_at_call 35; (with_reducible refine (newSite_any _ _ _ hBs).mono ?_); rintro e w5 ⟨s, rfl, hs1, hs2, hs3, hg5⟩; have HS1 := Lib.hid hs1; have HS2 := Lib.hid hs2; have HS3 := Lib.hid hs3; have HN5 := Lib.hid (HNd.out.keep hg5); have HO5 := Lib.hid (HOd.out _ hg5); have n5 := hg5.keep n0d; have n5a : (w5.alloc (.cells #[.pointer (some ⟨s.p, 0, none⟩)] 69)).cell? ⟨D, 0, none⟩ = some (.slice B0 k c0) := alloc_old n5; have HG5 := Lib.hid hg5; clear hs1 hs2 hs3 hg5) | (refine step_append_lies _ (by rfl) (.tmp 34) (.tmp 38) 41 (by rfl) D 69 i0 _ 1 8 Try.underlying41 hi hz0 hz1 hz2 rfl (by decide) (.slice B0 k c0) k (flatE encP (ss.map (·.p))) (by rfl) (HO5.out.alloc _) ⟨w5.heap.size, 0, none⟩ 1 1 [.pointer (some ⟨s.p, 0, none⟩)] (by rfl) rfl (World.news_of_block (heap_alloc_new _ _)) (by intro u hu; rw [List.mem_singleton.1 hu]; rfl) (by decide) (by unfold maxLen; omega) (by omega) (by have := HN5.out.le; simp; omega) _ rfl ?_; intro g' cap' w6 hown' hgrow hat _; have HAD := NetR.addSite HNd.out HLN.out HG5.out HS1.out HS3.out hown' hgrow hat; have d8 := HAD.1.cell 0; have d9 := HAD.1.free 0; have HF := Lib.hid HAD.2; have HGR := Lib.hid (HGA.out _ _ HG5.out hgrow); clear HAD hown' hgrow hat)
          refine hK.out _ _ ?_ (fun hHeld => ?_)
          · ((try dsimp only); (try trivial))
          clear hK K
          try simp only [Act.put, List.setIfInBounds_toArray, List.set_cons_zero, List.set_cons_succ]
          refine wpAnyH_ready (rs := [4, 8]) ?_ ?_ ?_
          · kernel_rfl
          · simp
          refine (AllReadyH.cons rfl (fun K hK => ?_) (AllReadyH.cons rfl (fun K hK => ?_) AllReadyH.nil))
          go_simp
          refine hK.out _ _ ?_ (fun hHeld => ?_)
          · ((try dsimp only); (try trivial))
          clear hK K
          try simp only [Act.put, List.setIfInBounds_toArray, List.set_cons_zero, List.set_cons_succ]
          refine wpAnyH_ready (rs := [8]) ?_ ?_ ?_
          · kernel_rfl
          · simp
          refine (AllReadyH.cons rfl (fun K hK => ?_) AllReadyH.nil)
          go_simp
          refine hK.out _ _ ?_ (fun hHeld => ?_)
          · ((try dsimp only); (try trivial))
          clear hK K
          try simp only [Act.put, List.setIfInBounds_toArray, List.set_cons_zero, List.set_cons_succ]
          refine wpAnyH_ready (rs := [9]) ?_ ?_ ?_
          · kernel_rfl
          · simp
          refine (AllReadyH.cons rfl (fun K hK => ?_) AllReadyH.nil)
          first | (go_at_call 35; (with_reducible refine (newSite_any _ _ _ hBs).mono ?_); rintro e w5 ⟨s, rfl, hs1, hs2, hs3, hg5⟩; have HS1 := Lib.hid hs1; have HS2 := Lib.hid hs2; have HS3 := Lib.hid hs3; have HN5 := Lib.hid (HNd.out.keep hg5); have HO5 := Lib.hid (HOd.out _ hg5); have n5 := hg5.keep n0d; have n5a : (w5.alloc (.cells #[.pointer (some ⟨s.p, 0, none⟩)] 69)).cell? ⟨D, 0, none⟩ = some (.slice B0 k c0) := alloc_old n5; have HG5 := Lib.hid hg5; clear hs1 hs2 hs3 hg5) | (refine step_append_lies _ (by rfl) (.tmp 34) (.tmp 38) 41 (by rfl) D 69 i0 _ 1 8 Try.underlying41 hi hz0 hz1 hz2 rfl (by decide) (.slice B0 k c0) k (flatE encP (ss.map (·.p))) (by rfl) (HO5.out.alloc _) ⟨w5.heap.size, 0, none⟩ 1 1 [.pointer (some ⟨s.p, 0, none⟩)] (by rfl) rfl (World.news_of_block (heap_alloc_new _ _)) (by intro u hu; rw [List.mem_singleton.1 hu]; rfl) (by decide) (by unfold maxLen; omega) (by omega) (by have := HN5.out.le; simp; omega) _ rfl ?_; intro g' cap' w6 hown' hgrow hat _; have HAD := NetR.addSite HNd.out HLN.out HG5.out HS1.out HS3.out hown' hgrow hat; have d8 := HAD.1.cell 0; have d9 := HAD.1.free 0; have HF := Lib.hid HAD.2; have HGR := Lib.hid (HGA.out _ _ HG5.out hgrow); clear HAD hown' hgrow hat)
          refine hK.out _ _ ?_ (fun hHeld => ?_)
          · ((try dsimp only); (try trivial))
          clear hK K
          try simp only [Act.put, List.setIfInBounds_toArray, List.set_cons_zero, List.set_cons_succ]
          refine take_in (i := 10) (v := ?_) (d := (some 40)) rfl rfl ?_ ?_ ?_ ?_ ?_ ?_ ?_ ?_
          rotate_left
          · kernel_rfl
          · kernel_rfl
          · kernel_rfl
          · (intro _ _ _ hq; exact hq)
          · rfl
          · (intro _w hSw; (try dsimp only at hSw); go_simp; try with_reducible rfl)
          · assumption
          try simp only [Act.put, List.setIfInBounds_toArray, List.set_cons_zero, List.set_cons_succ]
          refine take_in (i := 11) (v := ?_) (d := (some 41)) rfl rfl ?_ ?_ ?_ ?_ ?_ ?_ ?_ ?_
          rotate_left
          · kernel_rfl
          · kernel_rfl
          · kernel_rfl
          · (intro _ _ _ hq; exact hq)
          · rfl
          · (intro _w hSw; (try dsimp only at hSw); go_simp; try with_reducible rfl)
          · assumption
          try simp only [Act.put, List.setIfInBounds_toArray, List.set_cons_zero, List.set_cons_succ]
          refine wpAnyH_ready (rs := [12]) ?_ ?_ ?_
          · kernel_rfl
          · simp
          refine (AllReadyH.cons rfl (fun K hK => ?_) AllReadyH.nil)
          go_simp
          refine hK.out _ _ ?_ (fun hHeld => ?_)
          · ((try dsimp only); (try trivial))
          clear hK K
          try simp only [Act.put, List.setIfInBounds_toArray, List.set_cons_zero, List.set_cons_succ]
          refine wpAnyH_done ?_ ?_ _
          · kernel_rfl
          rotate_left
          go_simp
          refine hK.out _ _ ?_ (fun hHeld => ?_)
          · ((try dsimp only); (try trivial))
          clear hK K
          try simp only [Act.put, List.setIfInBounds_toArray, List.set_cons_zero, List.set_cons_succ]
          refine wpAnyH_ready (rs := [4]) ?_ ?_ ?_
          · kernel_rfl
          · simp
          refine (AllReadyH.cons rfl (fun K hK => ?_) AllReadyH.nil)
          go_simp
          refine hK.out _ _ ?_ (fun hHeld => ?_)
          · ((try dsimp only); (try trivial))
          clear hK K
          try simp only [Act.put, List.setIfInBounds_toArray, List.set_cons_zero, List.set_cons_succ]
          refine wpAnyH_ready (rs := [9]) ?_ ?_ ?_
          · kernel_rfl
          · simp
          refine (AllReadyH.cons rfl (fun K hK => ?_) AllReadyH.nil)
          first | (go_at_call 35; (with_reducible refine (newSite_any _ _ _ hBs).mono ?_); rintro e w5 ⟨s, rfl, hs1, hs2, hs3, hg5⟩; have HS1 := Lib.hid hs1; have HS2 := Lib.hid hs2; have HS3 := Lib.hid hs3; have HN5 := Lib.hid (HNd.out.keep hg5); have HO5 := Lib.hid (HOd.out _ hg5); have n5 := hg5.keep n0d; have n5a : (w5.alloc (.cells #[.pointer (some ⟨s.p, 0, none⟩)] 69)).cell? ⟨D, 0, none⟩ = some (.slice B0 k c0) := alloc_old n5; have HG5 := Lib.hid hg5; clear hs1 hs2 hs3 hg5) | (refine step_append_lies _ (by rfl) (.tmp 34) (.tmp 38) 41 (by rfl) D 69 i0 _ 1 8 Try.underlying41 hi hz0 hz1 hz2 rfl (by decide) (.slice B0 k c0) k (flatE encP (ss.map (·.p))) (by rfl) (HO5.out.alloc _) ⟨w5.heap.size, 0, none⟩ 1 1 [.pointer (some ⟨s.p, 0, none⟩)] (by rfl) rfl (World.news_of_block (heap_alloc_new _ _)) (by intro u hu; rw [List.mem_singleton.1 hu]; rfl) (by decide) (by unfold maxLen; omega) (by omega) (by have := HN5.out.le; simp; omega) _ rfl ?_; intro g' cap' w6 hown' hgrow hat _; have HAD := NetR.addSite HNd.out HLN.out HG5.out HS1.out HS3.out hown' hgrow hat; have d8 := HAD.1.cell 0; have d9 := HAD.1.free 0; have HF := Lib.hid HAD.2; have HGR := Lib.hid (HGA.out _ _ HG5.out hgrow); clear HAD hown' hgrow hat)
          refine hK.out _ _ ?_ (fun hHeld => ?_)
          · ((try dsimp only); (try trivial))
          clear hK K
          try simp only [Act.put, List.setIfInBounds_toArray, List.set_cons_zero, List.set_cons_succ]
          refine take_in (i := 10) (v := ?_) (d := (some 40)) rfl rfl ?_ ?_ ?_ ?_ ?_ ?_ ?_ ?_
          rotate_left
          · kernel_rfl
          · kernel_rfl
          · kernel_rfl
          · (intro _ _ _ hq; exact hq)
          · rfl
          · (intro _w hSw; (try dsimp only at hSw); go_simp; try with_reducible rfl)
          · assumption
          try simp only [Act.put, List.setIfInBounds_toArray, List.set_cons_zero, List.set_cons_succ]
          refine take_in (i := 11) (v := ?_) (d := (some 41)) rfl rfl ?_ ?_ ?_ ?_ ?_ ?_ ?_ ?_
          rotate_left
          · kernel_rfl
          · kernel_rfl
          · kernel_rfl
          · (intro _ _ _ hq; exact hq)
          · rfl
          · (intro _w hSw; (try dsimp only at hSw); go_simp; try with_reducible rfl)
          · assumption
          try simp only [Act.put, List.setIfInBounds_toArray, List.set_cons_zero, List.set_cons_succ]
          refine wpAnyH_ready (rs := [12]) ?_ ?_ ?_
          · kernel_rfl
          · simp
          refine (AllReadyH.cons rfl (fun K hK => ?_) AllReadyH.nil)
          go_simp
          refine hK.out _ _ ?_ (fun hHeld => ?_)
          · ((try dsimp only); (try trivial))
          clear hK K
          try simp only [Act.put, List.setIfInBounds_toArray, List.set_cons_zero, List.set_cons_succ]
          refine wpAnyH_done ?_ ?_ _
          · kernel_rfl
          rotate_left
          all_goals
            clear hHeld hi hz0 hz1 hz2 d8 d9 n5 n5a n0d HOd HGA
            have hgf := HGR.out.setCell (p := ⟨D, 0, none⟩) (Nat.le_of_eq HDD.out) (.slice (some ⟨g', 0, none⟩) (k + 1) cap')
            generalize w6.setCell _ _ = w7 at HF hgf ⊢
            go_wp2_with fail
            go_roundw
            case rel => exact ⟨k + 1, ss ++ [s], some ⟨g', 0, none⟩, cap', by omega, by go_num, Lib.hid (hnl.out.snoc (by rw [HN.out]; exact hlt) HXK.out (by obtain ⟨⟨a1, a2, a3⟩, a4, a5, a6, a7, a8⟩ := HS2.out; exact ⟨a1, a2, a3, a4, a5, a6, a7, a8⟩)), Lib.hid (fun y hy => by
              rw [List.take_add_one, HXK.out, Option.toList_some, List.mem_append, List.mem_singleton] at hy
              rcases hy with hy | rfl
              · exact hval.out y hy
              · omega), HF, hgf⟩
            case measure => simp [intOf]; omega
      · obtain rfl : k = n := by omega
        have htk : l.take k = l := List.take_of_length_le (by rw [HN.out]; exact Nat.le_refl _)
        rw [htk] at hnl hval
        have HOK := Lib.hid ((okStocks_iff l).2 ⟨by rw [HN.out]; exact hn1, by rw [HN.out]; exact hn8, hval.out⟩)
        clear htk hlt n0
        go_wp2_with fail
        refine bodyPost_ret (v := .tuple #[.pointer (some ⟨D, 0, none⟩), .int .i64 0]) ?_ ?_ ?_
        · simp [results, Try.results10, go_sem]
        · rfl
        · exact Or.inr ⟨HOK.out, _, rfl, by rw [HDD.out]; exact hN.out, hnl.out, rfl, rfl, hgr⟩

end Go.Proofs.Ytnoeiocbmhkmeaa
