/- The law's probe that the program is there. -/
import Derived.Test.YtjkdjfagaakijaaSeparate
import Derived.Test.YtjkdjfagaakijaaInside
namespace Go.Proofs.Ytjkdjfagaakijaa
open Go.RowKit
set_option linter.unusedSimpArgs false

def awP : List (Int × Int) := [(0, 0), (4, 0), (4, 4), (2, 1)]
theorem awP_area : areaL awP = 12 := by decide
theorem awP_inside : insideL awP 3 1 = 1 := by decide
theorem awP_simple : SimpleP awP := by
  refine ⟨by decide, by decide, by decide, by decide, ?_⟩
  rintro ⟨i, j, h1, h2, h3, h4⟩
  have h2' : j < 4 := h2
  have h : ∀ j, j < 4 → ∀ i, i < 4 → i + 2 ≤ j → ¬(i = 0 ∧ j + 1 = 4) → touchE (ed awP i) (ed awP j) = false := by decide
  have := h j h2' i (by omega) h1 h3
  rw [this] at h4
  exact absurd h4 (by decide)
theorem srt_id {p q : Int × Int} (h : ltOf cfP q p = false) : srtL [p, q] = [p, q] := by
  unfold srtL
  apply List.mergeSort_of_pairwise
  simp [h]
theorem cor1 : cornersL [(0, 0), (2, 2)] = [(0, 0), (2, 2)] := by
  unfold cornersL sdL; rw [srt_id (by decide)]; decide
theorem cor2 : cornersL [(0, 2), (2, 0)] = [(0, 2), (2, 0)] := by
  unfold cornersL sdL; rw [srt_id (by decide)]; decide
theorem aw_line : lineL [(0, 0), (2, 2)] [(0, 2), (2, 0)] = none := by decide
theorem aw_shared : sharedL [(0, 0), (2, 2)] [(0, 2), (2, 0)] = (8, 8, 8) := by decide
theorem aw_sep : sepV (cornersL [(0, 0), (2, 2)]) (cornersL [(0, 2), (2, 0)]) = apartV true 8 8 8 0 0 0 := by
  rw [cor1, cor2]; unfold sepV; rw [aw_line, aw_shared]

/-- Points laid in a block of their own. -/
theorem Pts_lit {w : World} {t : TypeId} {g : Nat} {cs : Array Value} {ps : List (Int × Int)} (h : Blk w g t cs) (hc : ∀ i x, ps[i]? = some x → cs[i * 2]? = some (.int .i64 x.1) ∧ cs[i * 2 + 1]? = some (.int .i64 x.2)) : Pts w (some ⟨g, 0, none⟩) ps := fun i x hx => by
  obtain ⟨h1, h2⟩ := hc i x hx
  refine ⟨g, 0, rfl, fun j v hv => ?_⟩
  rw [h.cell, Nat.zero_add]
  match j, hv with
  | 0, hv => rw [← hv]; exact h1
  | 1, hv => rw [← hv]; exact h2
  | j + 2, hv => simp [enc2] at hv

set_option maxRecDepth 100000 in
set_option maxHeartbeats 4000000 in
theorem awake_any (w : World) : Calls Try.prog 14 #[] w fun e w' => e = .returned (.bool true) ∧ Gr w w' := by
  go_enter Try.func14, Try.ntmps14
  go_wp2_with fail
  generalize hW : World.alloc w _ = W
  have hgW : Gr w W := by rw [← hW]; exact (Gr.refl _).alloc _
  have hBk : Blk W w.heap.size 40 #[.int .i64 0, .int .i64 0, .int .i64 4, .int .i64 0, .int .i64 4, .int .i64 4, .int .i64 2, .int .i64 1] := by rw [← hW]; exact heap_alloc_new w _
  clear hW
  have hp : Pts W (some ⟨w.heap.size, 0, none⟩) awP := Pts_lit hBk (by
    intro i x hx
    match i, hx with
    | 0, hx => obtain rfl := Option.some.inj hx; exact ⟨rfl, rfl⟩
    | 1, hx => obtain rfl := Option.some.inj hx; exact ⟨rfl, rfl⟩
    | 2, hx => obtain rfl := Option.some.inj hx; exact ⟨rfl, rfl⟩
    | 3, hx => obtain rfl := Option.some.inj hx; exact ⟨rfl, rfl⟩
    | k + 4, hx => simp [awP] at hx)
  have HP := Lib.hid hp
  clear hp hBk
  refine (Area_yes _ 4 4 awP _ rfl (by omega) HP.out (by decide)).mono ?_
  rintro e w1 ⟨rfl, hg⟩
  rw [awP_area]
  go_wp2_with fail
  refine (Inside_yes _ 4 4 awP 3 1 _ rfl (by omega) (HP.out.keep hg) awP_simple (by decide)).mono ?_
  rintro e w2 ⟨rfl, hb⟩
  replace hg := hg.trans hb
  clear hb
  rw [awP_inside]
  go_wp2_with fail
  generalize hW2 : World.alloc (World.alloc w2 _) _ = W2
  have hgW2 : Gr w2 W2 := by rw [← hW2]; exact ((Gr.refl _).alloc _).alloc _
  have hq1 : Pts W2 (some ⟨w2.heap.size, 0, none⟩) [(0, 0), (2, 2)] := by
    rw [← hW2]
    exact Rd.keep (Pts_lit (heap_alloc_new w2 _) (by
      intro i x hx
      match i, hx with
      | 0, hx => obtain rfl := Option.some.inj hx; exact ⟨rfl, rfl⟩
      | 1, hx => obtain rfl := Option.some.inj hx; exact ⟨rfl, rfl⟩
      | k + 2, hx => simp at hx)) ((Gr.refl _).alloc _)
  have hq2 : Pts W2 (some ⟨w2.heap.size + 1, 0, none⟩) [(0, 2), (2, 0)] := by
    rw [← hW2]
    have h := heap_alloc_new (w2.alloc (.cells #[.int .i64 0, .int .i64 0, .int .i64 2, .int .i64 2] 40)) (.cells #[.int .i64 0, .int .i64 2, .int .i64 2, .int .i64 0] 40)
    have e : (w2.alloc (.cells #[.int .i64 0, .int .i64 0, .int .i64 2, .int .i64 2] 40)).heap.size = w2.heap.size + 1 := by simp
    rw [e] at h
    exact Pts_lit h (by
      intro i x hx
      match i, hx with
      | 0, hx => obtain rfl := Option.some.inj hx; exact ⟨rfl, rfl⟩
      | 1, hx => obtain rfl := Option.some.inj hx; exact ⟨rfl, rfl⟩
      | k + 2, hx => simp at hx)
  clear hW2
  refine (Separate_yes _ _ 2 2 2 2 [(0, 0), (2, 2)] [(0, 2), (2, 0)] _ rfl rfl (by omega) (by omega) (by omega) (by omega) hq1 hq2 (by decide) (by decide)).mono ?_
  clear hq1 hq2
  rintro e w3 ⟨rfl, hb⟩
  replace hg := (hg.trans hgW2).trans hb
  rw [aw_sep]
  simp only [apartV]
  go_wp2_with fail
  generalize hW4 : World.alloc w3 _ = W4
  have hgW4 : Gr w3 W4 := by rw [← hW4]; exact (Gr.refl _).alloc _
  clear hW4
  have hsm := Simple_any (some ⟨w.heap.size, 0, none⟩) 4 4 awP W4 rfl (by omega) (HP.out.keep (hg.trans hgW4))
  refine hsm.mono ?_
  rintro e w5 ⟨r, rfl, hr, hg5⟩
  obtain rfl : r = true := hr.2 awP_simple
  go_wp2_with fail
  go_ret
  exact ⟨rfl, ((hgW.trans hg).trans hgW4).trans hg5⟩

end Go.Proofs.Ytjkdjfagaakijaa
