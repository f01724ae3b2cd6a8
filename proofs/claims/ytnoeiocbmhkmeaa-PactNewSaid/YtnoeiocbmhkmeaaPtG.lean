/- Layer 5: a site of a net takes a step; a transaction more. -/
import Derived.Test.YtnoeiocbmhkmeaaPtT
namespace Go.Proofs.Ytnoeiocbmhkmeaa
open Go.RowKit
set_option linter.unusedSimpArgs false

theorem owns_ch {S : List Nat} {w w' : World} {base : Nat} {e : TypeId} {size n : Nat} {v : Value} {xs : List Value} (h : w.ownsRow base e size v n xs) (hc : Ch S w w') (hn : ∀ g, v.ownBlock = some g → g ∉ S) : w'.ownsRow base e size v n xs := by
  refine ⟨h.1, ?_⟩
  rcases h.2 with hn1 | ⟨g, cap, cur, rfl, hb, hgg, rest⟩
  · exact .inl hn1
  · refine .inr ⟨g, cap, cur, rfl, hb, ?_, rest⟩
    rw [hc.block g (Array.getElem?_eq_some_iff.1 hgg).1 (hn g rfl)]
    exact hgg
theorem split_at {α : Type} {l : List α} {k : Nat} {x : α} (h : l[k]? = some x) : l = l.take k ++ [x] ++ l.drop (k + 1) := by
  obtain ⟨hl, e⟩ := List.getElem?_eq_some_iff.1 h
  have h1 : l.take (k + 1) = l.take k ++ [x] := by rw [List.take_add_one, h]; rfl
  rw [← h1, List.take_append_drop]
theorem set_at {α : Type} {l : List α} {k : Nat} {x y : α} (h : l[k]? = some x) : l.set k y = l.take k ++ [y] ++ l.drop (k + 1) := by
  obtain ⟨hl, e⟩ := List.getElem?_eq_some_iff.1 h
  rw [List.set_eq_take_append_cons_drop, if_pos hl]; simp
/-- A net's items about a site. -/
theorem netIt_at {N : Nx} {k : Nat} {s : Sx} (h : N.sites[k]? = some s) : netIt N = (((N.p, Ds.cells 43 #[N.sv, N.lv, .int .i64 N.begun]) : Nat × Ds) :: (N.sites.take k).flatMap siteIt) ++ siteIt s ++ (N.sites.drop (k + 1)).flatMap siteIt := by
  unfold netIt
  conv => lhs; rw [split_at h]
  simp [List.flatMap_append]
theorem netIt_set {N : Nx} {k : Nat} {s s' : Sx} (h : N.sites[k]? = some s) : netIt { N with sites := N.sites.set k s' } = (((N.p, Ds.cells 43 #[N.sv, N.lv, .int .i64 N.begun]) : Nat × Ds) :: (N.sites.take k).flatMap siteIt) ++ siteIt s' ++ (N.sites.drop (k + 1)).flatMap siteIt := by
  unfold netIt
  dsimp only
  rw [set_at h]
  simp [List.flatMap_append]
theorem NetR.siteIts {B : Nat} {w : World} {N : Nx} (h : NetR B w N) {k : Nat} {s : Sx} (hs : N.sites[k]? = some s) : Its B w (siteIt s) := by
  have h1 := h.its
  rw [netIt_at hs] at h1
  exact h1.part
theorem site_own {N : Nx} {k : Nat} {s : Sx} (hs : N.sites[k]? = some s) : ∀ g ∈ blks (siteIt s), g ∈ blks (netIt N) := fun g hg => by
  rw [netIt_at hs, blks_app, blks_app]
  exact List.mem_append_left _ (List.mem_append_right _ hg)
theorem NetR.step {B : Nat} {w w' : World} {N : Nx} (h : NetR B w N) {k : Nat} {s s' : Sx} (hs : N.sites[k]? = some s) (hi : Its B w' (siteIt s')) (hc : Ch (blks (siteIt s)) w w') (hp : s'.p = s.p) (hb : ∀ g ∈ blks (siteIt s'), g ∈ blks (siteIt s) ∨ w.heap.size ≤ g) :
    NetTo B w N { N with sites := N.sites.set k s' } w' := by
  have h1 := h.its
  rw [netIt_at hs] at h1
  have h2 := h1.mid hc (fun g hg => Or.inl hg) hi hb
  rw [← netIt_set hs] at h2
  have hso := site_own hs
  have hbn : ∀ g ∈ blks (netIt { N with sites := N.sites.set k s' }), g ∈ blks (netIt N) ∨ w.heap.size ≤ g := fun g hg => by
    rw [netIt_set hs, blks_app, blks_app] at hg
    rw [netIt_at hs, blks_app, blks_app]
    rcases List.mem_append.1 hg with hg | hg
    · rcases List.mem_append.1 hg with hg | hg
      · exact Or.inl (List.mem_append_left _ (List.mem_append_left _ hg))
      · exact (hb g hg).imp (fun h => List.mem_append_left _ (List.mem_append_right _ h)) id
    · exact Or.inl (List.mem_append_right _ hg)
  have hsv : ∀ g, N.sv.ownBlock = some g → g ∉ blks (siteIt s) := fun g hg hm => by
    obtain ⟨it, hi, rfl⟩ := List.mem_map.1 (hso g hm)
    exact (h.away it hi).1 hg
  have hlv : ∀ g, N.lv.ownBlock = some g → g ∉ blks (siteIt s) := fun g hg hm => by
    obtain ⟨it, hi, rfl⟩ := List.mem_map.1 (hso g hm)
    exact (h.away it hi).2 hg
  have hmap : (N.sites.set k s').map (·.p) = N.sites.map (·.p) := by
    conv => rhs; rw [split_at hs]
    rw [set_at hs]
    simp [hp]
  refine ⟨⟨h2, ?_, owns_ch h.mail hc hlv, h.spot, fun it hm => ?_, Nat.le_trans h.le hc.size⟩, hc.mono (fun g hg => List.mem_append_left _ (hso g hg)), fun g hg => ?_, rfl, rfl⟩
  · show w'.ownsRow B 69 1 N.sv (N.sites.set k s').length (flatE encP ((N.sites.set k s').map (·.p)))
    rw [hmap, List.length_set]
    exact owns_ch h.sites hc hsv
  · rcases hbn it.1 (mem_blks hm) with h3 | h3
    · obtain ⟨jt, hj, ej⟩ := List.mem_map.1 h3
      exact ⟨fun e => (h.away jt hj).1 (e.trans (by rw [← ej])), fun e => (h.away jt hj).2 (e.trans (by rw [← ej]))⟩
    · exact ⟨fun e => by have := (h.sites.lt _ e).2; omega, fun e => by have := (h.mail.lt _ e).2; omega⟩
  · unfold ownB at hg ⊢
    rcases List.mem_append.1 hg with hg | hg
    · exact (hbn g hg).imp (List.mem_append_left _) id
    · exact Or.inl (List.mem_append_right _ hg)
/-- The number of transactions turns. -/
theorem NetR.count {B : Nat} {w : World} {N : Nx} (h : NetR B w N) (x : Int) : NetTo B w N { N with begun := x } (w.setCell ⟨N.p, 2, none⟩ (.int .i64 x)) := by
  have hmp : ((N.p, Ds.cells 43 #[N.sv, N.lv, .int .i64 N.begun]) : Nat × Ds) ∈ netIt N := by unfold netIt; exact List.mem_cons_self
  have i6 : Its B w ([] ++ [(N.p, .cells 43 #[N.sv, N.lv, .int .i64 N.begun])] ++ N.sites.flatMap siteIt) := by
    have := h.its
    unfold netIt at this; simpa using this
  have i7 := i6.turn (D' := .cells 43 #[N.sv, N.lv, .int .i64 x]) ((Gb.refl N.p w).put 2 (.int .i64 x)) (h.blk.put 2 _)
  have e : blks (netIt { N with begun := x }) = blks (netIt N) := by unfold netIt blks; simp
  refine ⟨⟨by unfold netIt; simpa using i7, ownsRow_setCell_other (a := ⟨N.p, 2, none⟩) h.sites (h.away _ hmp).1 _, ownsRow_setCell_other (a := ⟨N.p, 2, none⟩) h.mail (h.away _ hmp).2 _, h.spot, fun it hm => ?_, by simp [World.setCell]; exact h.le⟩, (Ch.refl).set (p := ⟨N.p, 2, none⟩) (List.mem_append_left _ (mem_blks hmp)) _, fun g hg => Or.inl ?_, rfl, rfl⟩
  · have hm2 : it.1 ∈ blks (netIt N) := by rw [← e]; exact mem_blks hm
    obtain ⟨jt, hj, ej⟩ := List.mem_map.1 hm2
    exact ⟨fun e => (h.away jt hj).1 (e.trans (by rw [← ej])), fun e => (h.away jt hj).2 (e.trans (by rw [← ej]))⟩
  · unfold ownB at hg ⊢
    rw [e] at hg
    exact hg

end Go.Proofs.Ytnoeiocbmhkmeaa
