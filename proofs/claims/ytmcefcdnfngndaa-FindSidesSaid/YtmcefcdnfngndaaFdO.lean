/- Layer 7: orderOf: the suffixes in order, by twice as many bytes each round. -/
import Derived.Test.YtmcefcdnfngndaaFdR
import Derived.Deep.RegionLaw
import Derived.Laws.EntriesVeiled
namespace Go.Proofs.Ytmcefcdnfngndaa
open Go.RowKit Go.Shelf
set_option linter.unusedSimpArgs false

theorem round_ord {T : List UInt8} {n L : Nat} {r : Nat → Nat} {o : List Nat} (hn : T.length = n) (h : RankL T L r) (hL : 1 ≤ L) (hp : o.Perm (List.range n)) (ha : AscP (pairR n L r) o) :
    RankL T (L + L) (fun i => rkN (pairR n L r) o (o.idxOf i)) ∧ (n ≤ L + L → IsOrd T o) := by
  subst hn
  exact ⟨(h.next hL hp ha).1, fun h2 => ord_of h2 hp (h.next hL hp ha).2⟩
theorem start_ord {T : List UInt8} {n : Nat} (hn : T.length = n) (h : n ≤ 1) : IsOrd T (List.range n) := by
  subst hn
  refine ⟨List.Perm.refl _, ?_⟩
  rcases (show T.length = 0 ∨ T.length = 1 by omega) with e | e
  · rw [e]; simp
  · rw [e]; simp
theorem nI_range (n : Nat) : nI (List.range n) = (List.range n).map fun v : Nat => (v : Int) := rfl
theorem range_getD {n i : Nat} (h : i < n) : (List.range n).getD i 0 = i := by
  rw [List.getD_eq_getElem?_getD, List.getElem?_eq_getElem (by simpa using h)]; simp

theorem h3a (w : World) (A B C : Obj) : ((((w.alloc A).alloc B).alloc C).drew).heap[w.heap.size]? = some A :=
  (Below.block ((((Gr.refl (w.alloc A)).alloc B).alloc C).drew) _ (by simp)).trans (heap_alloc_new w A)
theorem h3b (w : World) (A B C : Obj) : ((((w.alloc A).alloc B).alloc C).drew).heap[w.heap.size + 1]? = some B := by
  have h := (Below.block (((Gr.refl ((w.alloc A).alloc B)).alloc C).drew) (w.alloc A).heap.size (by simp)).trans (heap_alloc_new (w.alloc A) B)
  simpa using h
theorem h3c (w : World) (A B C : Obj) : ((((w.alloc A).alloc B).alloc C).drew).heap[w.heap.size + 1 + 1]? = some C := by
  have h := heap_alloc_new ((w.alloc A).alloc B) C
  have e : ((w.alloc A).alloc B).heap.size = w.heap.size + 1 + 1 := by simp
  rw [e] at h
  exact h
theorem FB.zero {w : World} {g n : Nat} (h : w.heap[g]? = some (.cells (icF n) 3)) : FB 3 w g n (fun _ => 0) := ⟨_, h, fun i hi => by simp [icF, hi]⟩
/-- A round of orderOf as it stands in memory: an order, ranks by the first L bytes. -/
structure OrS (s : ByteArray) (n L BL gO gR BR BT base : Nat) (o : List Nat) (r : Nat → Nat) (w : World) : Prop where
  cl : Blk w BL 3 #[.int .i64 (L : Int)]
  ord : FB 3 w gO n (fun i => ((o.getD i 0 : Nat) : Int))
  perm : o.Perm (List.range n)
  rks : FB 3 w gR n (fun i => (r i : Int))
  br : Blk w BR 23 #[.slice (some ⟨gR, 0, none⟩) n n]
  bt : Blk w BT 9 #[.string s]
  rank : RankL (bts s) L r
  rle : ∀ i, i < n → r i ≤ 4096
  all : n ≤ L → IsOrd (bts s) o
  lo : base ≤ gO
section
variable {s : ByteArray} {n L BL gO gR BR BT base : Nat} {o : List Nat} {r : Nat → Nat} {w w' : World}
theorem OrS.keep (h : OrS s n L BL gO gR BR BT base o r w) (hg : Gr w w') : OrS s n L BL gO gR BR BT base o r w' :=
  ⟨h.cl.keep hg, h.ord.keep hg, h.perm, h.rks.keep hg, h.br.keep hg, h.bt.keep hg, h.rank, h.rle, h.all, h.lo⟩
theorem OrS.len (h : OrS s n L BL gO gR BR BT base o r w) : o.length = n := by rw [h.perm.length_eq, List.length_range]
theorem OrS.mem (h : OrS s n L BL gO gR BR BT base o r w) {x : Nat} : x ∈ o ↔ x < n := by rw [h.perm.mem_iff, List.mem_range]
theorem OrS.pair (h : OrS s n L BL gO gR BR BT base o r w) (hn : s.size = n) (hnb : n ≤ 4096) (hL : 1 ≤ L ∧ L ≤ 8192) (hg : Gr w w') {x : Nat} (hx : x < n) :
    Calls Try.prog 38 #[.int .i64 (x : Int), .pointer (some ⟨BL, 0, none⟩), .pointer (some ⟨BT, 0, none⟩), .pointer (some ⟨BR, 0, none⟩)] w' fun e w2 => e = .returned (.agg #[.int .i64 ((pairR n L r x).1 : Int), .int .i64 ((pairR n L r x).2 : Int)]) ∧ Gr w' w2 :=
  pair_any x n L BL BT BR gR n s r w' hx hn hnb hL ((h.cl.keep hg).cell 0) ((h.bt.keep hg).cell 0) ((h.br.keep hg).cell 0) (h.rks.keep hg)
theorem pairR_le {n L : Nat} {r : Nat → Nat} (h : ∀ i, i < n → r i ≤ 4096) {x : Nat} (hx : x < n) : (pairR n L r x).1 ≤ 4096 ∧ (pairR n L r x).2 ≤ 4096 := by
  refine ⟨h x hx, ?_⟩
  show (if x + L < n then r (x + L) else 0) ≤ 4096
  split
  · rename_i c; exact h _ c
  · omega
end
def OrdP (s : ByteArray) (n : Nat) (w : World) (e : Ending) (w' : World) : Prop :=
  ∃ (G : Nat) (o : List Nat), e = .returned (.slice (some ⟨G, 0, none⟩) n n) ∧ w.heap.size ≤ G ∧ FB 3 w' G n (fun i => ((o.getD i 0 : Nat) : Int)) ∧ IsOrd (bts s) o ∧ Gr w w'

set_option maxRecDepth 1000000 in
set_option maxHeartbeats 16000000 in
theorem orderOf_any (s : ByteArray) (n : Nat) (w : World) (hn : s.size = n) (hnb : n ≤ 4096) : Calls Try.prog 28 #[.string s] w (OrdP s n w) := by
  have hTn : (bts s).length = n := by rw [bts_len]; exact hn
  have HN := Lib.hid hn
  have HT := Lib.hid hTn
  have hmk := fun W => mk_icF n (by omega) W
  have hsn1 : (s.size : Int) = (n : Int) := by omega
  clear hn hTn
  go_enter Try.func28, Try.ntmps28
  go_upto_region 1 with fail
  generalize hW1 : World.alloc w _ = w1
  obtain ⟨BT, hBT⟩ : ∃ B, w.heap.size = B := ⟨_, rfl⟩
  have hg1 : Gr w w1 := by rw [← hW1]; exact (Gr.refl w).alloc _
  have HTX : Hid (Blk w1 BT 9 #[.string s]) := Lib.hid (by rw [← hW1]; exact Blk.new w _ _ hBT)
  have HB1 : Hid (BT < w1.heap.size) := Lib.hid (by rw [← hW1, ← hBT]; simp)
  have t0 := HTX.out.cell 0
  rw [hBT]
  have HBT := Lib.hid hBT
  clear hW1 hBT
  go_cut [3, 4] from 8 to 13 (fun v3 v4 wx => ∃ g1 g2 BR, v3 = .slice (some ⟨g1, 0, none⟩) n n ∧ v4 = .pointer (some ⟨BR, 0, none⟩) ∧ g1 ≠ g2 ∧ Hid (w1.heap.size ≤ g1 ∧ w1.heap.size ≤ g2 ∧ w1.heap.size ≤ BR) ∧ Hid (FB 3 wx g1 n (fun _ => 0)) ∧ Hid (FB 3 wx g2 n (fun _ => 0)) ∧ Hid (Blk wx BR 23 #[.slice (some ⟨g2, 0, none⟩) n n]) ∧ Hid (Gr w1 wx))
  case first =>
    refine wp_region_held_drew (S := (fun W' => W'.cell? ⟨BT, 0, none⟩ = some (.string s))) ?_ ?_ (fun hHeld => ?_)
    · kernel_rfl
    · ((try dsimp only); (first | exact hHeld | exact alloc_old hHeld | exact t0 | exact alloc_old (alloc_old (alloc_old t0))))
    refine take_in (i := 0) (v := ?_) (d := (some 8)) rfl rfl ?_ ?_ ?_ ?_ ?_ ?_ ?_ ?_
    rotate_left
    · kernel_rfl
    · kernel_rfl
    · kernel_rfl
    · (intro _ _ _ hq; exact hq)
    · rfl
    · (intro _w hSw; (try dsimp only at hSw); go_simp; try with_reducible rfl)
    · assumption
    try simp only [Act.put, List.setIfInBounds_toArray, List.set_cons_zero, List.set_cons_succ]
    refine take_in (i := 1) (v := ?_) (d := (some 9)) rfl rfl ?_ ?_ ?_ ?_ ?_ ?_ ?_ ?_
    rotate_left
    · kernel_rfl
    · kernel_rfl
    · kernel_rfl
    · (intro _ _ _ hq; exact hq)
    · rfl
    · (intro _w hSw; (try dsimp only at hSw); go_simp; try with_reducible rfl)
    · assumption
    try simp only [Act.put, List.setIfInBounds_toArray, List.set_cons_zero, List.set_cons_succ]
    refine take_in (i := 3) (v := ?_) (d := (some 11)) rfl rfl ?_ ?_ ?_ ?_ ?_ ?_ ?_ ?_
    rotate_left
    · kernel_rfl
    · kernel_rfl
    · kernel_rfl
    · (intro _ _ _ hq; exact hq)
    · rfl
    · (intro _w hSw; (try dsimp only at hSw); go_simp; try with_reducible rfl)
    · assumption
    try simp only [Act.put, List.setIfInBounds_toArray, List.set_cons_zero, List.set_cons_succ]
    refine take_in (i := 4) (v := ?_) (d := (some 12)) rfl rfl ?_ ?_ ?_ ?_ ?_ ?_ ?_ ?_
    rotate_left
    · kernel_rfl
    · kernel_rfl
    · kernel_rfl
    · (intro _ _ _ hq; exact hq)
    · rfl
    · (intro _w hSw; (try dsimp only at hSw); go_simp; try with_reducible rfl)
    · assumption
    try simp only [Act.put, List.setIfInBounds_toArray, List.set_cons_zero, List.set_cons_succ]
    refine wpAnyH_ready (rs := [2, 5, 6]) ?_ ?_ ?_
    · kernel_rfl
    · simp
    refine (AllReadyH.cons rfl (fun K hK => ?_) (AllReadyH.cons rfl (fun K hK => ?_) (AllReadyH.cons rfl (fun K hK => ?_) AllReadyH.nil)))
    go_simp
    refine hK.out _ _ ?_ (fun hHeld => ?_)
    · ((try dsimp only); (first | exact hHeld | exact alloc_old hHeld | exact t0 | exact alloc_old (alloc_old (alloc_old t0))))
    clear hK K
    try simp only [Act.put, List.setIfInBounds_toArray, List.set_cons_zero, List.set_cons_succ]
    refine wpAnyH_ready (rs := [5, 6]) ?_ ?_ ?_
    · kernel_rfl
    · simp
    refine (AllReadyH.cons rfl (fun K hK => ?_) (AllReadyH.cons rfl (fun K hK => ?_) AllReadyH.nil))
    go_simp
    refine hK.out _ _ ?_ (fun hHeld => ?_)
    · ((try dsimp only); (first | exact hHeld | exact alloc_old hHeld | exact t0 | exact alloc_old (alloc_old (alloc_old t0))))
    clear hK K
    try simp only [Act.put, List.setIfInBounds_toArray, List.set_cons_zero, List.set_cons_succ]
    refine wpAnyH_ready (rs := [6]) ?_ ?_ ?_
    · kernel_rfl
    · simp
    refine (AllReadyH.cons rfl (fun K hK => ?_) AllReadyH.nil)
    go_simp
    refine hK.out _ _ ?_ (fun hHeld => ?_)
    · ((try dsimp only); (first | exact hHeld | exact alloc_old hHeld | exact t0 | exact alloc_old (alloc_old (alloc_old t0))))
    clear hK K
    try simp only [Act.put, List.setIfInBounds_toArray, List.set_cons_zero, List.set_cons_succ]
    refine take_in (i := 7) (v := ?_) (d := (some 3)) rfl rfl ?_ ?_ ?_ ?_ ?_ ?_ ?_ ?_
    rotate_left
    · kernel_rfl
    · kernel_rfl
    · kernel_rfl
    · (intro _ _ _ hq; exact hq)
    · rfl
    · (intro _w hSw; (try dsimp only at hSw); go_simp; try with_reducible rfl)
    · assumption
    try simp only [Act.put, List.setIfInBounds_toArray, List.set_cons_zero, List.set_cons_succ]
    refine wpAnyH_ready (rs := [8]) ?_ ?_ ?_
    · kernel_rfl
    · simp
    refine (AllReadyH.cons rfl (fun K hK => ?_) AllReadyH.nil)
    go_simp
    refine hK.out _ _ ?_ (fun hHeld => ?_)
    · ((try dsimp only); (first | exact hHeld | exact alloc_old hHeld | exact t0 | exact alloc_old (alloc_old (alloc_old t0))))
    clear hK K
    try simp only [Act.put, List.setIfInBounds_toArray, List.set_cons_zero, List.set_cons_succ]
    refine wpAnyH_done ?_ ?_ _
    · kernel_rfl
    rotate_left
    go_simp
    refine hK.out _ _ ?_ (fun hHeld => ?_)
    · ((try dsimp only); (first | exact hHeld | exact alloc_old hHeld | exact t0 | exact alloc_old (alloc_old (alloc_old t0))))
    clear hK K
    try simp only [Act.put, List.setIfInBounds_toArray, List.set_cons_zero, List.set_cons_succ]
    refine take_in (i := 7) (v := ?_) (d := (some 3)) rfl rfl ?_ ?_ ?_ ?_ ?_ ?_ ?_ ?_
    rotate_left
    · kernel_rfl
    · kernel_rfl
    · kernel_rfl
    · (intro _ _ _ hq; exact hq)
    · rfl
    · (intro _w hSw; (try dsimp only at hSw); go_simp; try with_reducible rfl)
    · assumption
    try simp only [Act.put, List.setIfInBounds_toArray, List.set_cons_zero, List.set_cons_succ]
    refine wpAnyH_ready (rs := [5]) ?_ ?_ ?_
    · kernel_rfl
    · simp
    refine (AllReadyH.cons rfl (fun K hK => ?_) AllReadyH.nil)
    go_simp
    refine hK.out _ _ ?_ (fun hHeld => ?_)
    · ((try dsimp only); (first | exact hHeld | exact alloc_old hHeld | exact t0 | exact alloc_old (alloc_old (alloc_old t0))))
    clear hK K
    try simp only [Act.put, List.setIfInBounds_toArray, List.set_cons_zero, List.set_cons_succ]
    refine wpAnyH_ready (rs := [8]) ?_ ?_ ?_
    · kernel_rfl
    · simp
    refine (AllReadyH.cons rfl (fun K hK => ?_) AllReadyH.nil)
    go_simp
    refine hK.out _ _ ?_ (fun hHeld => ?_)
    · ((try dsimp only); (first | exact hHeld | exact alloc_old hHeld | exact t0 | exact alloc_old (alloc_old (alloc_old t0))))
    clear hK K
    try simp only [Act.put, List.setIfInBounds_toArray, List.set_cons_zero, List.set_cons_succ]
    refine wpAnyH_done ?_ ?_ _
    · kernel_rfl
    rotate_left
    go_simp
    refine hK.out _ _ ?_ (fun hHeld => ?_)
    · ((try dsimp only); (first | exact hHeld | exact alloc_old hHeld | exact t0 | exact alloc_old (alloc_old (alloc_old t0))))
    clear hK K
    try simp only [Act.put, List.setIfInBounds_toArray, List.set_cons_zero, List.set_cons_succ]
    refine wpAnyH_ready (rs := [2, 6]) ?_ ?_ ?_
    · kernel_rfl
    · simp
    refine (AllReadyH.cons rfl (fun K hK => ?_) (AllReadyH.cons rfl (fun K hK => ?_) AllReadyH.nil))
    go_simp
    refine hK.out _ _ ?_ (fun hHeld => ?_)
    · ((try dsimp only); (first | exact hHeld | exact alloc_old hHeld | exact t0 | exact alloc_old (alloc_old (alloc_old t0))))
    clear hK K
    try simp only [Act.put, List.setIfInBounds_toArray, List.set_cons_zero, List.set_cons_succ]
    refine wpAnyH_ready (rs := [6]) ?_ ?_ ?_
    · kernel_rfl
    · simp
    refine (AllReadyH.cons rfl (fun K hK => ?_) AllReadyH.nil)
    go_simp
    refine hK.out _ _ ?_ (fun hHeld => ?_)
    · ((try dsimp only); (first | exact hHeld | exact alloc_old hHeld | exact t0 | exact alloc_old (alloc_old (alloc_old t0))))
    clear hK K
    try simp only [Act.put, List.setIfInBounds_toArray, List.set_cons_zero, List.set_cons_succ]
    refine take_in (i := 7) (v := ?_) (d := (some 3)) rfl rfl ?_ ?_ ?_ ?_ ?_ ?_ ?_ ?_
    rotate_left
    · kernel_rfl
    · kernel_rfl
    · kernel_rfl
    · (intro _ _ _ hq; exact hq)
    · rfl
    · (intro _w hSw; (try dsimp only at hSw); go_simp; try with_reducible rfl)
    · assumption
    try simp only [Act.put, List.setIfInBounds_toArray, List.set_cons_zero, List.set_cons_succ]
    refine wpAnyH_ready (rs := [8]) ?_ ?_ ?_
    · kernel_rfl
    · simp
    refine (AllReadyH.cons rfl (fun K hK => ?_) AllReadyH.nil)
    go_simp
    refine hK.out _ _ ?_ (fun hHeld => ?_)
    · ((try dsimp only); (first | exact hHeld | exact alloc_old hHeld | exact t0 | exact alloc_old (alloc_old (alloc_old t0))))
    clear hK K
    try simp only [Act.put, List.setIfInBounds_toArray, List.set_cons_zero, List.set_cons_succ]
    refine wpAnyH_done ?_ ?_ _
    · kernel_rfl
    rotate_left
    go_simp
    refine hK.out _ _ ?_ (fun hHeld => ?_)
    · ((try dsimp only); (first | exact hHeld | exact alloc_old hHeld | exact t0 | exact alloc_old (alloc_old (alloc_old t0))))
    clear hK K
    try simp only [Act.put, List.setIfInBounds_toArray, List.set_cons_zero, List.set_cons_succ]
    refine wpAnyH_ready (rs := [2]) ?_ ?_ ?_
    · kernel_rfl
    · simp
    refine (AllReadyH.cons rfl (fun K hK => ?_) AllReadyH.nil)
    go_simp
    refine hK.out _ _ ?_ (fun hHeld => ?_)
    · ((try dsimp only); (first | exact hHeld | exact alloc_old hHeld | exact t0 | exact alloc_old (alloc_old (alloc_old t0))))
    clear hK K
    try simp only [Act.put, List.setIfInBounds_toArray, List.set_cons_zero, List.set_cons_succ]
    refine take_in (i := 7) (v := ?_) (d := (some 3)) rfl rfl ?_ ?_ ?_ ?_ ?_ ?_ ?_ ?_
    rotate_left
    · kernel_rfl
    · kernel_rfl
    · kernel_rfl
    · (intro _ _ _ hq; exact hq)
    · rfl
    · (intro _w hSw; (try dsimp only at hSw); go_simp; try with_reducible rfl)
    · assumption
    try simp only [Act.put, List.setIfInBounds_toArray, List.set_cons_zero, List.set_cons_succ]
    refine wpAnyH_ready (rs := [8]) ?_ ?_ ?_
    · kernel_rfl
    · simp
    refine (AllReadyH.cons rfl (fun K hK => ?_) AllReadyH.nil)
    go_simp
    refine hK.out _ _ ?_ (fun hHeld => ?_)
    · ((try dsimp only); (first | exact hHeld | exact alloc_old hHeld | exact t0 | exact alloc_old (alloc_old (alloc_old t0))))
    clear hK K
    try simp only [Act.put, List.setIfInBounds_toArray, List.set_cons_zero, List.set_cons_succ]
    refine wpAnyH_done ?_ ?_ _
    · kernel_rfl
    rotate_left
    go_simp
    refine hK.out _ _ ?_ (fun hHeld => ?_)
    · ((try dsimp only); (first | exact hHeld | exact alloc_old hHeld | exact t0 | exact alloc_old (alloc_old (alloc_old t0))))
    clear hK K
    try simp only [Act.put, List.setIfInBounds_toArray, List.set_cons_zero, List.set_cons_succ]
    refine wpAnyH_ready (rs := [2, 5]) ?_ ?_ ?_
    · kernel_rfl
    · simp
    refine (AllReadyH.cons rfl (fun K hK => ?_) (AllReadyH.cons rfl (fun K hK => ?_) AllReadyH.nil))
    go_simp
    refine hK.out _ _ ?_ (fun hHeld => ?_)
    · ((try dsimp only); (first | exact hHeld | exact alloc_old hHeld | exact t0 | exact alloc_old (alloc_old (alloc_old t0))))
    clear hK K
    try simp only [Act.put, List.setIfInBounds_toArray, List.set_cons_zero, List.set_cons_succ]
    refine take_in (i := 7) (v := ?_) (d := (some 3)) rfl rfl ?_ ?_ ?_ ?_ ?_ ?_ ?_ ?_
    rotate_left
    · kernel_rfl
    · kernel_rfl
    · kernel_rfl
    · (intro _ _ _ hq; exact hq)
    · rfl
    · (intro _w hSw; (try dsimp only at hSw); go_simp; try with_reducible rfl)
    · assumption
    try simp only [Act.put, List.setIfInBounds_toArray, List.set_cons_zero, List.set_cons_succ]
    refine wpAnyH_ready (rs := [5]) ?_ ?_ ?_
    · kernel_rfl
    · simp
    refine (AllReadyH.cons rfl (fun K hK => ?_) AllReadyH.nil)
    go_simp
    refine hK.out _ _ ?_ (fun hHeld => ?_)
    · ((try dsimp only); (first | exact hHeld | exact alloc_old hHeld | exact t0 | exact alloc_old (alloc_old (alloc_old t0))))
    clear hK K
    try simp only [Act.put, List.setIfInBounds_toArray, List.set_cons_zero, List.set_cons_succ]
    refine wpAnyH_ready (rs := [8]) ?_ ?_ ?_
    · kernel_rfl
    · simp
    refine (AllReadyH.cons rfl (fun K hK => ?_) AllReadyH.nil)
    go_simp
    refine hK.out _ _ ?_ (fun hHeld => ?_)
    · ((try dsimp only); (first | exact hHeld | exact alloc_old hHeld | exact t0 | exact alloc_old (alloc_old (alloc_old t0))))
    clear hK K
    try simp only [Act.put, List.setIfInBounds_toArray, List.set_cons_zero, List.set_cons_succ]
    refine wpAnyH_done ?_ ?_ _
    · kernel_rfl
    rotate_left
    go_simp
    refine hK.out _ _ ?_ (fun hHeld => ?_)
    · ((try dsimp only); (first | exact hHeld | exact alloc_old hHeld | exact t0 | exact alloc_old (alloc_old (alloc_old t0))))
    clear hK K
    try simp only [Act.put, List.setIfInBounds_toArray, List.set_cons_zero, List.set_cons_succ]
    refine wpAnyH_ready (rs := [2]) ?_ ?_ ?_
    · kernel_rfl
    · simp
    refine (AllReadyH.cons rfl (fun K hK => ?_) AllReadyH.nil)
    go_simp
    refine hK.out _ _ ?_ (fun hHeld => ?_)
    · ((try dsimp only); (first | exact hHeld | exact alloc_old hHeld | exact t0 | exact alloc_old (alloc_old (alloc_old t0))))
    clear hK K
    try simp only [Act.put, List.setIfInBounds_toArray, List.set_cons_zero, List.set_cons_succ]
    refine take_in (i := 7) (v := ?_) (d := (some 3)) rfl rfl ?_ ?_ ?_ ?_ ?_ ?_ ?_ ?_
    rotate_left
    · kernel_rfl
    · kernel_rfl
    · kernel_rfl
    · (intro _ _ _ hq; exact hq)
    · rfl
    · (intro _w hSw; (try dsimp only at hSw); go_simp; try with_reducible rfl)
    · assumption
    try simp only [Act.put, List.setIfInBounds_toArray, List.set_cons_zero, List.set_cons_succ]
    refine wpAnyH_ready (rs := [8]) ?_ ?_ ?_
    · kernel_rfl
    · simp
    refine (AllReadyH.cons rfl (fun K hK => ?_) AllReadyH.nil)
    go_simp
    refine hK.out _ _ ?_ (fun hHeld => ?_)
    · ((try dsimp only); (first | exact hHeld | exact alloc_old hHeld | exact t0 | exact alloc_old (alloc_old (alloc_old t0))))
    clear hK K
    try simp only [Act.put, List.setIfInBounds_toArray, List.set_cons_zero, List.set_cons_succ]
    refine wpAnyH_done ?_ ?_ _
    · kernel_rfl
    rotate_left
    all_goals
      go_wp2_with fail
      go_meet
      have hgW : ∀ A B C : Obj, Gr w1 (((w1.alloc A).alloc B).alloc C).drew := fun A B C => ((((Gr.refl w1).alloc A).alloc B).alloc C).drew
      first
      | exact ⟨w1.heap.size, w1.heap.size + 1, w1.heap.size + 1 + 1, rfl, rfl, by omega, Lib.hid (by omega), Lib.hid (FB.zero (h3a _ _ _ _)), Lib.hid (FB.zero (h3b _ _ _ _)), Lib.hid (h3c _ _ _ _), Lib.hid (hgW _ _ _)⟩
      | exact ⟨w1.heap.size, w1.heap.size + 1 + 1, w1.heap.size + 1, rfl, rfl, by omega, Lib.hid (by omega), Lib.hid (FB.zero (h3a _ _ _ _)), Lib.hid (FB.zero (h3c _ _ _ _)), Lib.hid (h3b _ _ _ _), Lib.hid (hgW _ _ _)⟩
      | exact ⟨w1.heap.size + 1, w1.heap.size, w1.heap.size + 1 + 1, rfl, rfl, by omega, Lib.hid (by omega), Lib.hid (FB.zero (h3b _ _ _ _)), Lib.hid (FB.zero (h3a _ _ _ _)), Lib.hid (h3c _ _ _ _), Lib.hid (hgW _ _ _)⟩
      | exact ⟨w1.heap.size + 1 + 1, w1.heap.size, w1.heap.size + 1, rfl, rfl, by omega, Lib.hid (by omega), Lib.hid (FB.zero (h3c _ _ _ _)), Lib.hid (FB.zero (h3a _ _ _ _)), Lib.hid (h3b _ _ _ _), Lib.hid (hgW _ _ _)⟩
      | exact ⟨w1.heap.size + 1, w1.heap.size + 1 + 1, w1.heap.size, rfl, rfl, by omega, Lib.hid (by omega), Lib.hid (FB.zero (h3b _ _ _ _)), Lib.hid (FB.zero (h3c _ _ _ _)), Lib.hid (h3a _ _ _ _), Lib.hid (hgW _ _ _)⟩
      | exact ⟨w1.heap.size + 1 + 1, w1.heap.size + 1, w1.heap.size, rfl, rfl, by omega, Lib.hid (by omega), Lib.hid (FB.zero (h3c _ _ _ _)), Lib.hid (FB.zero (h3b _ _ _ _)), Lib.hid (h3a _ _ _ _), Lib.hid (hgW _ _ _)⟩
  case rest =>
    obtain ⟨g1, g2, BR, rfl, rfl, hne, hle, HF1, HF2, HBR, HGC⟩ := hcut
    clear hmk
    have HTX2 := Lib.hid (HTX.out.keep HGC.out)
    have HWG : Hid (Gr w wc) := Lib.hid (hg1.trans HGC.out)
    have HLE : Hid (w.heap.size ≤ g1 ∧ w.heap.size ≤ g2 ∧ w.heap.size ≤ BR) := Lib.hid (by have := hle.out; have := hg1.size; omega)
    have HN1 : Hid (BR ≠ g1 ∧ BR ≠ g2) := Lib.hid (by
      obtain ⟨cs, h1, _⟩ := HF1.out
      obtain ⟨cs', h2, _⟩ := HF2.out
      exact ⟨HBR.out.differ h1 (by decide), HBR.out.differ h2 (by decide)⟩)
    have HBTL : Hid (BT ≠ g1 ∧ BT ≠ g2) := Lib.hid (by
      obtain ⟨cs, h1, _⟩ := HF1.out
      obtain ⟨cs', h2, _⟩ := HF2.out
      exact ⟨HTX2.out.differ h1 (by decide), HTX2.out.differ h2 (by decide)⟩)
    clear hle HTX HGC hg1 t0
    have t0 := HTX2.out.cell 0
    go_wp2_with fail
    go_loopw [16] (fun z wr => ∃ (k : Nat) (F R : Nat → Int), k ≤ n ∧ z = .int .i64 (k : Int) ∧ Hid (FB 3 wr g1 n F) ∧ Hid (FB 3 wr g2 n R) ∧ Hid (∀ t, t < k → F t = (t : Int)) ∧ Hid (∀ t (h : t < (bts s).length), t < k → R t = (((bts s)[t].toNat + 1 : Nat) : Int)) ∧ Hid (Blk wr BR 23 #[.slice (some ⟨g2, 0, none⟩) n n]) ∧ Hid (Blk wr BT 9 #[.string s]) ∧ Gr w wr) (fun z _ => n - (intOf z).toNat)
    case atStart => exact ⟨0, _, _, Nat.zero_le _, rfl, HF1, HF2, Lib.hid (fun t ht => by omega), Lib.hid (fun t _ ht => by omega), HBR, HTX2, HWG.out⟩
    case round =>
      clear HF1 HF2 HBR HTX2 HWG t0
      obtain ⟨k, F, R, hk, rfl, hF, hR, hFI, hRI, hBR, hBT, hgr⟩ := hrel
      by_cases hlt : k < n
      · have hks : k < s.size := by rw [HN.out]; exact hlt
        have hksi : (k : Int) < (s.size : Int) := by omega
        have hki : (k : Int) < (n : Int) := by omega
        have x1 := hBR.out.cell 0
        have x2 := hBT.out.cell 0
        have a0 := hF.out.at hlt
        have b0 := hR.out.at hlt
        have a1 := hF.out.free k
        have b1 := hR.out.free k
        have hb8 : s[k].toNat ≤ 255 := by have := s[k].toNat_lt; omega
        have HBY : Hid ((bts s)[k]'(by rw [HT.out]; exact hlt) = s[k]) := Lib.hid rfl
        generalize hby : s[k] = by_ at hb8 HBY
        have b2 : ∀ v, (wr.setCell ⟨g1, k, none⟩ v).cell? ⟨g2, k, none⟩ = some (.int .i64 (R k)) := fun v => cell_other b0 (Ne.symm hne)
        have a2 : ∀ v, (wr.setCell ⟨g2, k, none⟩ v).cell? ⟨g1, k, none⟩ = some (.int .i64 (F k)) := fun v => cell_other a0 hne
        have HFP := Lib.hid ((hF.out.put k (k : Int)).other (p := ⟨g2, k, none⟩) hne (.int .i64 ((by_.toNat : Int) + 1)))
        have HRP := Lib.hid ((hR.out.other (p := ⟨g1, k, none⟩) (Ne.symm hne) (.int .i64 (k : Int))).put k ((by_.toNat : Int) + 1))
        have HBRP := Lib.hid ((hBR.out.other (p := ⟨g1, k, none⟩) HN1.out.1 (.int .i64 (k : Int))).other (p := ⟨g2, k, none⟩) HN1.out.2 (.int .i64 ((by_.toNat : Int) + 1)))
        have HBTP := Lib.hid ((hBT.out.other (p := ⟨g1, k, none⟩) HBTL.out.1 (.int .i64 (k : Int))).other (p := ⟨g2, k, none⟩) HBTL.out.2 (.int .i64 ((by_.toNat : Int) + 1)))
        have HGP := Lib.hid ((hgr.setCell (p := ⟨g1, k, none⟩) HLE.out.1 (.int .i64 (k : Int))).setCell (p := ⟨g2, k, none⟩) HLE.out.2.1 (.int .i64 ((by_.toNat : Int) + 1)))
        have HFI : Hid (∀ t, t < k + 1 → upF F k (k : Int) t = (t : Int)) := Lib.hid (fun t ht => by
          by_cases e : t = k
          · rw [e, upF_at]
          · rw [upF_ne _ _ e]; exact hFI.out t (by omega))
        have HRI : Hid (∀ t (h : t < (bts s).length), t < k + 1 → upF R k ((by_.toNat : Int) + 1) t = (((bts s)[t].toNat + 1 : Nat) : Int)) := Lib.hid (fun t h ht => by
          by_cases e : t = k
          · subst e; rw [upF_at, HBY.out]; omega
          · rw [upF_ne _ _ e]; exact hRI.out t h (by omega))
        generalize F k = fk at a0 a2
        generalize R k = rk at b0 b2
        clear hF hR hBR hBT hFI hRI
        go_upto_region 5 with fail
        refine wp_region_held_drew (S := (fun W' => W'.cell? ⟨BR, 0, none⟩ = some (.slice (some ⟨g2, 0, none⟩) n n) ∧ W'.cell? ⟨BT, 0, none⟩ = some (.string s))) ?_ ?_ (fun hHeld => ?_)
        · kernel_rfl
        · ((try dsimp only); (first | exact hHeld | exact ⟨x1, x2⟩ | exact ⟨cell_other hHeld.1 HN1.out.1, cell_other hHeld.2 HBTL.out.1⟩ | exact ⟨cell_other hHeld.1 HN1.out.2, cell_other hHeld.2 HBTL.out.2⟩))
        refine take_in (i := 0) (v := ?_) (d := (some 19)) rfl rfl ?_ ?_ ?_ ?_ ?_ ?_ ?_ ?_
        rotate_left
        · kernel_rfl
        · kernel_rfl
        · kernel_rfl
        · (intro _ _ _ hq; exact hq)
        · rfl
        · (intro _w hSw; (try dsimp only at hSw); go_simp; try with_reducible rfl)
        · assumption
        try simp only [Act.put, List.setIfInBounds_toArray, List.set_cons_zero, List.set_cons_succ]
        refine take_in (i := 1) (v := ?_) (d := (some 20)) rfl rfl ?_ ?_ ?_ ?_ ?_ ?_ ?_ ?_
        rotate_left
        · kernel_rfl
        · kernel_rfl
        · kernel_rfl
        · (intro _ _ _ hq; exact hq)
        · rfl
        · (intro _w hSw; (try dsimp only at hSw); go_simp; try with_reducible rfl)
        · assumption
        try simp only [Act.put, List.setIfInBounds_toArray, List.set_cons_zero, List.set_cons_succ]
        refine take_in (i := 2) (v := ?_) (d := (some 21)) rfl rfl ?_ ?_ ?_ ?_ ?_ ?_ ?_ ?_
        rotate_left
        · kernel_rfl
        · kernel_rfl
        · kernel_rfl
        · (intro _ _ _ hq; exact hq)
        · rfl
        · (intro _w hSw; (try dsimp only at hSw); go_simp; try with_reducible rfl)
        · assumption
        try simp only [Act.put, List.setIfInBounds_toArray, List.set_cons_zero, List.set_cons_succ]
        refine take_in (i := 3) (v := ?_) (d := (some 22)) rfl rfl ?_ ?_ ?_ ?_ ?_ ?_ ?_ ?_
        rotate_left
        · kernel_rfl
        · kernel_rfl
        · kernel_rfl
        · (intro _ _ _ hq; exact hq)
        · rfl
        · (intro _w hSw; (try dsimp only at hSw); go_simp; try with_reducible rfl)
        · assumption
        try simp only [Act.put, List.setIfInBounds_toArray, List.set_cons_zero, List.set_cons_succ]
        refine take_in (i := 4) (v := ?_) (d := (some 23)) rfl rfl ?_ ?_ ?_ ?_ ?_ ?_ ?_ ?_
        rotate_left
        · kernel_rfl
        · kernel_rfl
        · kernel_rfl
        · (intro _ _ _ hq; exact hq)
        · rfl
        · (intro _w hSw; (try dsimp only at hSw); go_simp; try with_reducible rfl)
        · assumption
        try simp only [Act.put, List.setIfInBounds_toArray, List.set_cons_zero, List.set_cons_succ]
        refine take_in (i := 5) (v := ?_) (d := (some 24)) rfl rfl ?_ ?_ ?_ ?_ ?_ ?_ ?_ ?_
        rotate_left
        · kernel_rfl
        · kernel_rfl
        · kernel_rfl
        · (intro _ _ _ hq; exact hq)
        · rfl
        · (intro _w hSw; (try dsimp only at hSw); go_simp; try with_reducible rfl)
        · assumption
        try simp only [Act.put, List.setIfInBounds_toArray, List.set_cons_zero, List.set_cons_succ]
        refine take_in (i := 6) (v := ?_) (d := (some 25)) rfl rfl ?_ ?_ ?_ ?_ ?_ ?_ ?_ ?_
        rotate_left
        · kernel_rfl
        · kernel_rfl
        · kernel_rfl
        · (intro _ _ _ hq; exact hq)
        · rfl
        · (intro _w hSw; (try dsimp only at hSw); go_simp; try with_reducible rfl)
        · assumption
        try simp only [Act.put, List.setIfInBounds_toArray, List.set_cons_zero, List.set_cons_succ]
        refine take_in (i := 7) (v := ?_) (d := (some 26)) rfl rfl ?_ ?_ ?_ ?_ ?_ ?_ ?_ ?_
        rotate_left
        · kernel_rfl
        · kernel_rfl
        · kernel_rfl
        · (intro _ _ _ hq; exact hq)
        · rfl
        · (intro _w hSw; (try dsimp only at hSw); go_simp; try with_reducible rfl)
        · assumption
        try simp only [Act.put, List.setIfInBounds_toArray, List.set_cons_zero, List.set_cons_succ]
        refine wpAnyH_ready (rs := [8]) ?_ ?_ ?_
        · kernel_rfl
        · simp
        refine (AllReadyH.cons rfl (fun K hK => ?_) AllReadyH.nil)
        go_simp
        first | (go_at_call 37; (with_reducible refine (rankOf_any _ _ hb8).mono ?_); rintro e w' ⟨rfl, rfl⟩)
        refine hK.out _ _ ?_ (fun hHeld => ?_)
        · ((try dsimp only); (first | exact hHeld | exact ⟨x1, x2⟩ | exact ⟨cell_other hHeld.1 HN1.out.1, cell_other hHeld.2 HBTL.out.1⟩ | exact ⟨cell_other hHeld.1 HN1.out.2, cell_other hHeld.2 HBTL.out.2⟩))
        clear hK K
        try simp only [Act.put, List.setIfInBounds_toArray, List.set_cons_zero, List.set_cons_succ]
        refine take_in (i := 9) (v := ?_) (d := (some 28)) rfl rfl ?_ ?_ ?_ ?_ ?_ ?_ ?_ ?_
        rotate_left
        · kernel_rfl
        · kernel_rfl
        · kernel_rfl
        · (intro _ _ _ hq; exact hq)
        · rfl
        · (intro _w hSw; (try dsimp only at hSw); go_simp; try with_reducible rfl)
        · assumption
        try simp only [Act.put, List.setIfInBounds_toArray, List.set_cons_zero, List.set_cons_succ]
        refine wpAnyH_ready (rs := [10]) ?_ ?_ ?_
        · kernel_rfl
        · simp
        refine (AllReadyH.cons rfl (fun K hK => ?_) AllReadyH.nil)
        go_simp
        refine hK.out _ _ ?_ (fun hHeld => ?_)
        · ((try dsimp only); (first | exact hHeld | exact ⟨x1, x2⟩ | exact ⟨cell_other hHeld.1 HN1.out.1, cell_other hHeld.2 HBTL.out.1⟩ | exact ⟨cell_other hHeld.1 HN1.out.2, cell_other hHeld.2 HBTL.out.2⟩))
        clear hK K
        try simp only [Act.put, List.setIfInBounds_toArray, List.set_cons_zero, List.set_cons_succ]
        refine take_in (i := 11) (v := ?_) (d := (some 29)) rfl rfl ?_ ?_ ?_ ?_ ?_ ?_ ?_ ?_
        rotate_left
        · kernel_rfl
        · kernel_rfl
        · kernel_rfl
        · (intro _ _ _ hq; exact hq)
        · rfl
        · (intro _w hSw; (try dsimp only at hSw); go_simp; try with_reducible rfl)
        · assumption
        try simp only [Act.put, List.setIfInBounds_toArray, List.set_cons_zero, List.set_cons_succ]
        refine wpAnyH_ready (rs := [12]) ?_ ?_ ?_
        · kernel_rfl
        · simp
        refine (AllReadyH.cons rfl (fun K hK => ?_) AllReadyH.nil)
        go_simp
        refine hK.out _ _ ?_ (fun hHeld => ?_)
        · ((try dsimp only); (first | exact hHeld | exact ⟨x1, x2⟩ | exact ⟨cell_other hHeld.1 HN1.out.1, cell_other hHeld.2 HBTL.out.1⟩ | exact ⟨cell_other hHeld.1 HN1.out.2, cell_other hHeld.2 HBTL.out.2⟩))
        clear hK K
        try simp only [Act.put, List.setIfInBounds_toArray, List.set_cons_zero, List.set_cons_succ]
        refine wpAnyH_done ?_ ?_ _
        · kernel_rfl
        rotate_left
        all_goals
          go_wp2_with fail
          go_roundw
          case rel => exact ⟨k + 1, _, _, by omega, by go_num, HFP, HRP, HFI, HRI, HBRP, HBTP, HGP.out.drew⟩
          case measure => simp [intOf]; omega
      · obtain rfl : n = k := by omega
        have HO0 : Hid (FB 3 wr g1 n (fun i => (((List.range n).getD i 0 : Nat) : Int))) := Lib.hid (hF.out.congr (fun i hi => by rw [range_getD hi, hFI.out i hi]))
        obtain ⟨r0, HR0, HRL⟩ : ∃ r0 : Nat → Nat, Hid (FB 3 wr g2 n (fun i => (r0 i : Int))) ∧ Hid (RankL (bts s) 1 r0 ∧ ∀ i, r0 i ≤ 4096) := ⟨fun i => if h : i < (bts s).length then (bts s)[i].toNat + 1 else 1, Lib.hid (hR.out.congr (fun i hi => by
            have h : i < (bts s).length := by rw [HT.out]; exact hi
            rw [hRI.out i h hi]
            simp only [h, dif_pos])), Lib.hid ⟨rank_one (fun i hi => by simp only [hi, dif_pos]), fun i => by
              dsimp only
              split
              · rename_i h; have := ((bts s)[i]).toNat_lt; omega
              · omega⟩⟩
        clear hF hR hFI hRI hlt hk
        generalize g1 = gO at HO0 HLE
        have hlo : w.heap.size ≤ gO := HLE.out.1
        go_upto_region 8 with fail
        generalize hW4 : World.alloc wr _ = w4
        have hg4 : Gr wr w4 := by rw [← hW4]; exact (Gr.refl wr).alloc _
        obtain ⟨BL, hBL⟩ : ∃ B, wr.heap.size = B := ⟨_, rfl⟩
        have HCL : Hid (Blk w4 BL 3 #[.int .i64 1]) := Lib.hid (by rw [← hW4]; exact Blk.new wr _ _ hBL)
        rw [hBL]
        have HS : Hid (OrS s n 1 BL gO g2 BR BT w.heap.size (List.range n) r0 w4) := Lib.hid ⟨HCL.out, HO0.out.keep hg4, List.Perm.refl _, HR0.out.keep hg4, hBR.out.keep hg4, hBT.out.keep hg4, HRL.out.1, fun i _ => HRL.out.2 i, fun h => start_ord HT.out h, hlo⟩
        have hgr4 := hgr.trans hg4
        have HBRW : Hid (w.heap.size ≤ BR) := Lib.hid HLE.out.2.2
        clear hW4 hBL hg4 HCL HO0 HR0 HRL hBR hBT hgr hlo HLE HN1 HBTL hne
        go_loopg [3, 6] n (fun kx v3 v6 wr => ∃ (L BL gO gR : Nat) (o : List Nat) (r : Nat → Nat), v3 = .slice (some ⟨gO, 0, none⟩) n n ∧ v6 = .pointer (some ⟨BL, 0, none⟩) ∧ 1 ≤ L ∧ L ≤ 8192 ∧ n - L ≤ kx ∧ Hid (OrS s n L BL gO gR BR BT w.heap.size o r wr) ∧ Gr w wr)
        case atStart => exact ⟨1, BL, gO, g2, List.range n, r0, rfl, rfl, Nat.le_refl _, by omega, by omega, HS, hgr4⟩
        case round =>
          clear HS hgr4
          obtain ⟨L, BL, gO, gR, o, r, rfl, rfl, hL1, hL2, hkx, hS, hgr⟩ := hrel
          have x0 := hS.out.cl.cell 0
          have x1 := hS.out.bt.cell 0
          by_cases hlt : L < n
          · have hli : (L : Int) < (n : Int) := by omega
            have hls : (L : Int) < (s.size : Int) := by omega
            have eg2 : ∀ args w, (callFunc 40 args).run Try.prog w = .ok (.enter 40 args) w := enters_of Try.func40 (by kernel_rfl) rfl
            have eg3 : ∀ args w, (callFunc 41 args).run Try.prog w = .ok (.enter 41 args) w := enters_of Try.func41 (by kernel_rfl) rfl
            have eg1 : ∀ args w, (callFunc 38 args).run Try.prog w = .ok (.enter 38 args) w := enters_of Try.func38 (by kernel_rfl) rfl
            go_upto_region 11 with fail
            generalize hW5 : World.alloc wr _ = w5
            obtain ⟨BP, hBP⟩ : ∃ B, wr.heap.size = B := ⟨_, rfl⟩
            have hg5 : Gr wr w5 := by rw [← hW5]; exact (Gr.refl wr).alloc _
            have HP5 : Hid (w5.cell? ⟨BP, 0, none⟩ = some (PairV BL BT BR)) := Lib.hid (by rw [← hW5, ← hBP]; exact alloc_new rfl rfl)
            rw [hBP]
            have HS5 := Lib.hid (hS.out.keep hg5)
            have hgr5 := hgr.trans hg5
            obtain ⟨P, HPP⟩ : ∃ P : Nat → Nat × Nat, Hid (P = pairR n L r) := ⟨_, Lib.hid rfl⟩
            have HPL : Hid (∀ x, x < n → (P x).1 ≤ 4096 ∧ (P x).2 ≤ 4096) := Lib.hid (fun x hx => by rw [HPP.out]; exact pairR_le hS.out.rle hx)
            have HPR : Hid (∀ W, Gr w5 W → ∀ x, x < n → Calls Try.prog 38 #[.int .i64 (x : Int), .pointer (some ⟨BL, 0, none⟩), .pointer (some ⟨BT, 0, none⟩), .pointer (some ⟨BR, 0, none⟩)] W fun e w2 => e = .returned (.agg #[.int .i64 ((P x).1 : Int), .int .i64 ((P x).2 : Int)]) ∧ Gr W w2) := Lib.hid (fun W hW x hx => by
              rw [HPP.out]; exact HS5.out.pair HN.out hnb ⟨hL1, hL2⟩ hW hx)
            have HC1 := Lib.hid (sorted_any (some ⟨gO, 0, none⟩) n n 40 #[.pointer (some ⟨BP, 0, none⟩)] o (fun x => (P x).2) w5 eg2 hS.out.len (by omega) (HS5.out.ord.ints (nI o) (by rw [nI_len]; exact hS.out.len) (fun i _ => (nI_at o i).symm)) (fun x hx => by
              have hxn := hS.out.mem.1 hx
              exact ⟨(HPL.out x hxn).2, by omega⟩) (fun W hW x hx => second_any x BP BL BT BR _ _ W (hW.keep HP5.out) (HPR.out W hW x (hS.out.mem.1 hx))))
            have HPM1 : Hid ((sortB (fun x => (P x).2) o 4097).Perm (List.range n)) := Lib.hid ((sortB_perm _ o 4097 (fun x hx => by have := (HPL.out x (hS.out.mem.1 hx)).2; omega)).trans hS.out.perm)
            have HAS : Hid (AscP P (sortB (fun x => (P x).1) (sortB (fun x => (P x).2) o 4097) 4097)) := Lib.hid (sort_two P o 4097)
            clear hW5 hBP hg5 hS hgr x0 x1 eg2
            generalize sortB (fun x => (P x).2) o 4097 = o1 at HC1 HPM1 HAS
            go_wp2_with fail
            refine HC1.out.mono ?_
            rintro e w6 ⟨G1, rfl, -, hF1, hg6⟩
            have hl1 : o1.length = n := by rw [HPM1.out.length_eq, List.length_range]
            have hm1 : ∀ x, x ∈ o1 ↔ x < n := fun x => by rw [HPM1.out.mem_iff, List.mem_range]
            have HC2 := Lib.hid (sorted_any (some ⟨G1, 0, none⟩) n n 41 #[.pointer (some ⟨BP, 0, none⟩)] o1 (fun x => (P x).1) w6 eg3 hl1 (by omega) (hF1.ints (nI o1) (by rw [nI_len]; exact hl1) (fun i _ => (nI_at o1 i).symm)) (fun x hx => by
              have hxn := (hm1 x).1 hx
              exact ⟨(HPL.out x hxn).1, by omega⟩) (fun W hW x hx => first_any x BP BL BT BR _ _ W ((hg6.trans hW).keep HP5.out) (HPR.out W (hg6.trans hW) x ((hm1 x).1 hx))))
            have HPM2 : Hid ((sortB (fun x => (P x).1) o1 4097).Perm (List.range n)) := Lib.hid ((sortB_perm _ o1 4097 (fun x hx => by have := (HPL.out x ((hm1 x).1 hx)).1; omega)).trans HPM1.out)
            have HG6 := Lib.hid hg6
            clear hF1 hl1 hm1 hg6 HC1 HPM1 eg3
            generalize sortB (fun x => (P x).1) o1 4097 = o2 at HC2 HPM2 HAS
            go_wp2_with fail
            refine HC2.out.mono ?_
            rintro e w7 ⟨G2, rfl, hG2, hF2, hg7⟩
            have hl2 : o2.length = n := by rw [HPM2.out.length_eq, List.length_range]
            have hm2 : ∀ x, x ∈ o2 ↔ x < n := fun x => by rw [HPM2.out.mem_iff, List.mem_range]
            have hg57 := HG6.out.trans hg7
            have HC3 := Lib.hid (ranksOf_any (some ⟨G2, 0, none⟩) n n 38 #[.pointer (some ⟨BL, 0, none⟩), .pointer (some ⟨BT, 0, none⟩), .pointer (some ⟨BR, 0, none⟩)] o2 P w7 eg1 hl2 hnb (hF2.ints (nI o2) (by rw [nI_len]; exact hl2) (fun i _ => (nI_at o2 i).symm)) (HPM2.out.nodup_iff.2 List.nodup_range) (fun x hx => (hm2 x).1 hx) (fun x hx => (hm2 x).2 hx) (fun W hW x hx => HPR.out W (hg57.trans hW) x ((hm2 x).1 hx)))
            have HF2 := Lib.hid hF2
            have HLO2 : Hid (w.heap.size ≤ G2) := Lib.hid (by have := hgr5.size; have := HG6.out.size; omega)
            have HS7 := Lib.hid (HS5.out.keep hg57)
            have hgr7 := hgr5.trans hg57
            have p0 := hg57.keep HP5.out
            unfold PairV at p0
            obtain ⟨hrk, hall⟩ := round_ord HT.out HS5.out.rank hL1 HPM2.out (by rw [← HPP.out]; exact HAS.out)
            rw [← HPP.out] at hrk
            have HRK := Lib.hid hrk
            have HALL := Lib.hid hall
            have HRL : Hid (∀ i, i < n → rkN P o2 (o2.idxOf i) ≤ 4096) := Lib.hid (fun i hi => by
              have h1 := (rkN_bd P o2 (o2.idxOf i)).2
              have h2 := List.idxOf_lt_length_of_mem ((hm2 i).2 hi)
              omega)
            clear hF2 hl2 hm2 hg57 hg7 HC2 HG6 HS5 hgr5 hrk hall hG2 eg1 HAS HPR HPL
            go_wp2_with fail
            refine HC3.out.mono ?_
            rintro e w8 ⟨G3, rfl, -, hF3, hg8⟩
            have HS8 := Lib.hid (HS7.out.keep hg8)
            have HF8 := Lib.hid (HF2.out.keep hg8)
            have HF3 := Lib.hid hF3
            have hgr8 := hgr7.trans hg8
            have b0 := HS8.out.br.cell 0
            have b1 := HS8.out.br.free 0
            have l0 := HS8.out.cl.cell 0
            have HNB : Hid (BL ≠ BR) := Lib.hid (HS8.out.cl.differ HS8.out.br (by decide))
            have HNT : Hid (BT ≠ BR) := Lib.hid (HS8.out.bt.differ HS8.out.br (by decide))
            have HN2 : Hid (G2 ≠ BR) := Lib.hid (by
              obtain ⟨cs, h1, _⟩ := HF8.out
              exact h1.differ HS8.out.br (by decide))
            have HN3 : Hid (G3 ≠ BR) := Lib.hid (by
              obtain ⟨cs, h1, _⟩ := HF3.out
              exact h1.differ HS8.out.br (by decide))
            obtain ⟨w9, hw9⟩ : ∃ w9, w8.setCell ⟨BR, 0, none⟩ (.slice (some ⟨G3, 0, none⟩) n n) = w9 := ⟨_, rfl⟩
            have HBT9 : Hid (Blk w9 BT 9 #[.string s]) := Lib.hid (by rw [← hw9]; exact HS8.out.bt.other HNT.out _)
            have HBR9 : Hid (Blk w9 BR 23 #[.slice (some ⟨G3, 0, none⟩) n n]) := Lib.hid (by rw [← hw9]; simpa using HS8.out.br.put 0 (.slice (some ⟨G3, 0, none⟩) n n))
            have HF9 : Hid (FB 3 w9 G2 n (fun i => ((o2.getD i 0 : Nat) : Int))) := Lib.hid (by rw [← hw9]; exact HF8.out.other HN2.out _)
            have HK9 : Hid (FB 3 w9 G3 n (fun i => ((rkN P o2 (o2.idxOf i) : Nat) : Int))) := Lib.hid (by rw [← hw9]; exact HF3.out.other HN3.out _)
            have l1 : w9.cell? ⟨BL, 0, none⟩ = some (.int .i64 (L : Int)) := by rw [← hw9]; exact cell_other l0 HNB.out
            have hgr9 : Gr w w9 := by rw [← hw9]; exact hgr8.setCell (p := ⟨BR, 0, none⟩) HBRW.out _
            have e2 : IntKind.i64.wrap ((L : Int) * 2) = (L : Int) * 2 := IntWalk.i64_in _ (by omega)
            clear hF3 hg8 HC3 HS7 HF2 hgr7 p0
            go_upto_region 14 with fail
            (try rw [hw9])
            clear hw9 b0 b1 l0 HS8 HF8 HF3 hgr8 HN2 HN3 HNB HNT
            go_wp2_with fail
            generalize hW10 : World.alloc w9 _ = w10
            obtain ⟨B2, hB2⟩ : ∃ B, w9.heap.size = B := ⟨_, rfl⟩
            have hg10 : Gr w9 w10 := by rw [← hW10]; exact (Gr.refl w9).alloc _
            have HCL : Hid (Blk w10 B2 3 #[.int .i64 ((L : Int) * 2)]) := Lib.hid (by rw [← hW10]; exact Blk.new w9 _ _ hB2)
            rw [hB2]
            have e3 : ((L + L : Nat) : Int) = (L : Int) * 2 := by omega
            have HS10 : Hid (OrS s n (L + L) B2 G2 G3 BR BT w.heap.size o2 (fun i => rkN P o2 (o2.idxOf i)) w10) := Lib.hid ⟨by rw [e3]; exact HCL.out, HF9.out.keep hg10, HPM2.out, HK9.out.keep hg10, HBR9.out.keep hg10, HBT9.out.keep hg10, HRK.out, HRL.out, HALL.out, HLO2.out⟩
            have hgr10 := hgr9.trans hg10
            clear hW10 hB2 hg10 HCL
            go_roundg (n - (L + L))
            case measure => omega
            case rel => exact ⟨L + L, B2, G2, G3, o2, _, rfl, rfl, by omega, by omega, Nat.le_refl _, HS10, hgr10⟩
          · have hli : ¬ (L : Int) < (n : Int) := by omega
            have hls : ¬ (L : Int) < (s.size : Int) := by omega
            go_wp2_with fail
            go_ret
            exact ⟨gO, o, rfl, hS.out.lo, hS.out.ord, hS.out.all (by omega), hgr⟩

end Go.Proofs.Ytmcefcdnfngndaa
