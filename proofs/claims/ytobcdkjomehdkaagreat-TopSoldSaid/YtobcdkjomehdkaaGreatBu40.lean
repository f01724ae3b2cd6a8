/- Layer 4: the slots out of a flow. -/
import Derived.Test.YtobcdkjomehdkaaGreatBu38
import Derived.Test.YtobcdkjomehdkaaGreatBu39
namespace Go.Proofs.YtobcdkjomehdkaaGreat
open Go.RowKit
set_option linter.unusedSimpArgs false
set_option maxRecDepth 100000
set_option maxHeartbeats 80000000

def LayU (G : Grid) (N : Nat) (f : Nat → Nat → Nat) (s j u : Nat) (L : List Rc) : Prop :=
 (Lay G N f s j u L ∧ u ≤ upto f s (j + 1)) ∨ (u = upto f s (j + 1) ∧ Lay G N f s (j + 1) u L)
theorem LayU.done {G : Grid} {N : Nat} {f : Nat → Nat → Nat} {s j u : Nat} {L : List Rc} (h : LayU G N f s j u L) (hu : upto f s (j + 1) ≤ u) : u = upto f s (j + 1) ∧ Lay G N f s (j + 1) u L := by
 rcases h with ⟨h, hle⟩ | h
 ·have e : u = upto f s (j + 1) := by omega
  exact ⟨e, h.job e⟩
 ·exact h
theorem LayU.step {G : Grid} {N : Nat} {f : Nat → Nat → Nat} {s j u p : Nat} {L : List Rc} (h : LayU G N f s j u L) (hs : s < G.K) (hj : j < N) (hu : u < upto f s (j + 1)) (hp : p = min (upto f s (j + 1) - u) (G.ln s - u % G.ln s)) :
 LayU G N f s j (u + p) (L ++ [⟨s, j, u / G.ln s, u % G.ln s, p⟩]) ∧ 1 ≤ p ∧ u + p ≤ upto f s (j + 1) := by
 have hl := G.pos s hs
 have hm := Nat.mod_lt u (by omega : 0 < G.ln s)
 rcases h with ⟨h, hle⟩ | ⟨e, -⟩
 ·refine ⟨?_, by omega, by omega⟩
  rcases h.piece hs hj hu hp with k | ⟨e, k⟩
  ·exact Or.inl ⟨k, by omega⟩
  ·exact Or.inr ⟨e, k⟩
 ·omega
theorem LayU.few {G : Grid} {N : Nat} {f : Nat → Nat → Nat} {s j u : Nat} {L : List Rc} (h : LayU G N f s j u L) (hs : s ≤ 64) (hj : j ≤ 32) (hu : u ≤ 33554432) : L.length ≤ 67108864 := by
 have hd : u / G.ln s ≤ u := Nat.div_le_self _ _
 rcases h with ⟨h, -⟩ | ⟨-, h⟩
 ·have := h.few; omega
 ·have := h.few; omega

def SlotsPost (B : Nat) (l : List Jb) (w : World) (e : Ending) (w' : World) : Prop :=
 ∃ A k c sl, e = .returned (.slice A k c) ∧ sl.length = k ∧ Rd 4 enc4B w' A sl ∧ SchedP B l sl ∧ Fresh w.heap.size w' A k c ∧ Gr w w'

theorem SchedP.perm {n : Int} {l : List Jb} {s t : List Sl} (h : SchedP n l s) (p : t.Perm s) : SchedP n l t :=
 ⟨by rw [p.length_eq]; exact h.few, fun x hx => h.ok x (p.mem_iff.1 hx), p.symm.pairwise h.apart (fun {x y} hxy => fun e => (hxy (e.imp Eq.symm Eq.symm)).symm), fun j hj => by rw [← h.done j hj]; exact lsum_perm _ p⟩

theorem owns_shape0 {w : World} {base : Nat} {e : TypeId} {size n : Nat} {v : Value} {xs : List Value} (h : w.ownsRow base e size v n xs) (h0 : n = 0 → ∃ g c, v = .slice (some ⟨g, 0, none⟩) 0 c) : ∃ g c, v = .slice (some ⟨g, 0, none⟩) n c := by
 rcases Nat.eq_zero_or_pos n with e | e
 ·subst e; exact h0 rfl
 ·obtain ⟨g, c, e, -⟩ := owns_shape h e; exact ⟨g, c, e⟩
theorem SchedP.some {n : Int} {l : List Jb} {s : List Sl} (h : SchedP n l s) (hJ : JobsP l) (h1 : 1 ≤ l.length) : 1 ≤ s.length := by
 rcases Nat.eq_zero_or_pos s.length with e | e
 ·have hs : s = [] := List.eq_nil_of_length_eq_zero e
  subst hs
  have hd := h.done 0 h1
  have hw := (hJ _ (List.mem_of_getElem? (getD_of (0, 0, 0) (show 0 < l.length from h1)))).2.2.1
  have e2 : jbA l 0 = l.getD 0 (0, 0, 0) := rfl
  rw [e2] at hd
  rw [← hd] at hw
  simp [doneS, lsum] at hw
 ·exact e

theorem slots_any {p g m fb B : Nat} {A : Option Addr} {n c : Nat} {SA : Option Addr} {K sc : Nat} {F : Nat → Option Nat} {r' : Nat → Nat → Int} {l : List Jb} (w : World) (hK : (tms l).length - 1 = K) (hn : l.length = n) (hn32 : n ≤ 32) (hB : B ≤ 8) (hJ : JobsP l)
 (h : PlanR w p g m fb B A n c SA K sc (tms l) F r') (hf : FullF (gridT (tms l) (tms_asc l)) B l (flF r' n)) (hp : ∀ j s, ((flF r' n j s : Nat) : Int) = r' (2 + n + s) (2 + j)) :
 Calls Tryz.prog 60 #[.pointer (some ⟨p, 0, none⟩)] w (SlotsPost B l w) := by
 have hK64 : K ≤ 63 := by have := timesL_len (tmL l); rw [tmL_len, hn] at this; change (tms l).length ≤ _ at this; omega
 have HPR := Lib.hid h
 have HN := Lib.hid hn
 have HK := Lib.hid hK
 have HJ := Lib.hid hJ
 have HP := Lib.hid hp
 obtain ⟨G, hG⟩ : ∃ G, gridT (tms l) (tms_asc l) = G := ⟨_, rfl⟩
 have hGK : G.K = K := by rw [← hG]; exact hK
 have HGL : Hid (∀ s, s < K → ((G.ln s : Nat) : Int) = lnA (tms l) s) := Lib.hid (fun s hs => by rw [← hG]; exact grid_ln (tms_asc l) (by omega))
 have HGA : Hid (∀ s, G.at_ s = (spA (tms l) s).1) := Lib.hid (fun s => by rw [← hG]; rfl)
 rw [hG] at hf
 have HF := Lib.hid hf
 have HGK := Lib.hid hGK
 generalize hff : flF r' n = f at hp hf HF HP
 obtain ⟨i0, hi, hz0, hz1, hz2⟩ := info_parts Tryz.infoBnT
 have HI := Lib.hid (And.intro hi (And.intro hz0 (And.intro hz1 hz2)))
 have hmade := World.ownsRow_made (base := w.heap.size) (e := 162) (size := 4) w #[] 0 (Nat.le_refl _) (Nat.zero_le _) (by simp)
 have HMD := Lib.hid hmade
 have p3 := (h.blk.keep ((Gr.refl w).alloc (.cells #[] 162))).cell 3
 clear h hn hK hJ hp hG hGK hf hff hi hz0 hz1 hz2 hmade
 go_enter Tryz.func60, Tryz.ntmps60
 go_wp2_with fail
 generalize hW1 : World.alloc w _ = w1 at HMD
 have hg1 : Gr w w1 := by rw [← hW1]; exact (Gr.refl w).alloc _
 clear hW1 p3
 go_loopw [3, 19] (fun q z wr => ∃ (s : Nat) (L : List Rc) (k : Nat), s ≤ K ∧ z = .int .i64 (s : Int) ∧ (s = 0 → ∃ g c, q = .slice (some ⟨g, 0, none⟩) 0 c) ∧ L.length = k ∧ Hid (wr.ownsRow w.heap.size 162 4 q k (flatE enc4B (L.map (slR G)))) ∧ Hid (Lay G n f s 0 0 L) ∧ Gr w wr) (fun _ z _ => K - (intOf z).toNat)
 case atStart => exact ⟨0, [], 0, Nat.zero_le _, rfl, fun _ => ⟨_, _, rfl⟩, rfl, HMD, Lib.hid (Lay.nil G n f), hg1⟩
 case round =>
  clear HMD hg1
  obtain ⟨s, L, k, hs, rfl, hsh, hk, hown, hlay, hgr⟩ := hrel
  by_cases hsl : s < K
  ·clear hsh
   have hsp := (HPR.out.keep hgr).sp
   obtain ⟨bs, os, hSA, e0, e1⟩ := Pts_at hsp (k := s) (by rw [spanL_len, HK.out]; exact hsl)
   change wr.cell? ⟨bs, os + s * 2, none⟩ = some (.int .i64 (spA (tms l) s).1) at e0
   change wr.cell? ⟨bs, os + s * 2 + 1, none⟩ = some (.int .i64 (spA (tms l) s).2) at e1
   have hSA' := hSA
   subst hSA
   have hsi : (s : Int) < (K : Int) := by omega
   have hln := HGL.out s hsl
   have hlb := lnA_bd HJ.out s
   have hl1 := G.pos s (by rw [HGK.out]; exact hsl)
   have hat := HGA.out s
   have hcol := HF.out.col s (by rw [HGK.out]; exact hsl)
   rw [HN.out] at hcol
   have hx0 : 0 ≤ (spA (tms l) s).1 ∧ (spA (tms l) s).1 ≤ 4194304 := by
    have hs' : s < (tms l).length - 1 := by rw [HK.out]; exact hsl
    rw [spA_at hs']
    dsimp only
    rw [List.getD_eq_getElem?_getD, List.getElem?_eq_getElem (by omega)]
    exact tms_bd HJ.out _ (List.getElem_mem _)
   unfold lnA at hln hlb
   generalize spA (tms l) s = sp at e0 e1 hln hlb hat hx0
   obtain ⟨x, y⟩ := sp
   dsimp only at e0 e1 hln hlb hat hx0
   obtain ⟨ln, hlnn⟩ : ∃ q, G.ln s = q := ⟨_, rfl⟩
   rw [hlnn] at hln hl1 hcol
   have HLN := Lib.hid hlnn
   have HAT := Lib.hid hat
   have HXY := Lib.hid hln
   have hlnb : ln ≤ 4194304 := by omega
   have hcb : B * ln ≤ 8 * 4194304 := Nat.mul_le_mul hB (by omega)
   have HCOL := Lib.hid hcol
   clear hlnn hat hsp hcol hSA' hln hlb
   go_upto_region 5 with fail
   generalize hW2 : World.alloc wr _ = w2
   have hg2 : Gr wr w2 := by rw [← hW2]; exact (Gr.refl wr).alloc _
   have hY2 : Blk w2 wr.heap.size 47 #[.int .i64 x, .int .i64 y] := by rw [← hW2]; exact heap_alloc_new wr _
   generalize wr.heap.size = Y at hY2 ⊢
   have HY2 := Lib.hid hY2
   have HO2 := Lib.hid (owns_gr hown.out hg2)
   have hgr2 := hgr.trans hg2
   clear hW2 hY2 hown hg2 e0 e1 hgr
   have p2 := (HPR.out.keep hgr2).blk.cell 2
   go_wp2_with fail
   go_loopw [3, 6, 29] (fun q us z wi => ∃ (j u : Nat) (L : List Rc) (k : Nat), j ≤ n ∧ z = .int .i64 (j : Int) ∧ us = .int .i64 (u : Int) ∧ u = upto f s j ∧ L.length = k ∧ Hid (wi.ownsRow w.heap.size 162 4 q k (flatE enc4B (L.map (slR G)))) ∧ Hid (Lay G n f s j u L) ∧ Hid (Blk wi Y 47 #[.int .i64 x, .int .i64 y]) ∧ Gr w wi) (fun _ _ z _ => n - (intOf z).toNat)
   case atStart => exact ⟨0, 0, L, k, Nat.zero_le _, rfl, rfl, rfl, hk, HO2, hlay, HY2, hgr2⟩
   case round =>
    clear hk hlay HO2 HY2 hgr2 p2
    obtain ⟨j, u, L, k, hj, rfl, rfl, hu, hk, hown, hlay, hY, hgr⟩ := hrel
    by_cases hjl : j < n
    ·have huE : upto f s (j + 1) ≤ B * ln := Nat.le_trans (upto_mono (by omega)) HCOL.out
     have hfl : upto f s (j + 1) = u + f j s := by rw [hu]; rfl
     have hpv := HP.out j s
     have hji : (j : Int) < (n : Int) := by omega
     have hPL := HPR.out.keep hgr
     have p0 := hPL.blk.cell 0
     have p2 := hPL.blk.cell 2
     have hdr : Gr wr wr.drew := (Gr.refl wr).drew
     have hFL : ∀ W, Gr w W → Calls Tryz.prog 80 #[.pointer (some ⟨g, 0, none⟩), .agg #[.int .i64 (2 + (j : Int)), .int .i64 (2 + (n : Int) + (s : Int))]] W fun e w' => e = .returned (.int .i64 ((f j s : Nat) : Int)) ∧ Gr W w' := fun W hW => by
      have := flow_any g m r' (2 + j) (2 + n + s) W (by omega) (by omega) (HPR.out.keep hW).g0 (HPR.out.keep hW).rm
      rw [← hpv] at this
      rwa [show ((2 + j : Nat) : Int) = 2 + (j : Int) by omega, show ((2 + n + s : Nat) : Int) = 2 + (n : Int) + (s : Int) by omega] at this
     have HFL := Lib.hid hFL
     have HJN := Lib.hid (fun W => jobNode_any (.pointer (some ⟨p, 0, none⟩)) j W (by omega))
     have HSN := Lib.hid (fun W (hW : W.cell? ⟨p, 2, none⟩ = some (.slice A n c)) => spanNode_any p A n c s W (by omega) (by omega) hW)
     obtain ⟨E, hE⟩ : ∃ E, upto f s (j + 1) = E := ⟨_, rfl⟩
     rw [hE] at huE hfl
     have HE := Lib.hid hE
     obtain ⟨fl, hfn⟩ : ∃ q, f j s = q := ⟨_, rfl⟩
     rw [hfn] at hfl hFL
     have HFN := Lib.hid hfn
     have HLU : Hid (LayU G n f s j u L) := Lib.hid (Or.inl ⟨hlay.out, by rw [hE]; omega⟩)
     have hlnp : (0 : Int) < (ln : Int) := by omega
     clear hpv hPL hFL hE hfn hlay hu
     go_upto_region 9 with fail
     refine wp_region_held_drew (S := (fun W' => Gr wr W' ∧ W'.cell? ⟨p, 0, none⟩ = some (.pointer (some ⟨g, 0, none⟩)) ∧ W'.cell? ⟨p, 2, none⟩ = some (.slice A n c))) ?_ ?_ (fun hHeld => ?_)
     ·kernel_rfl
     ·((try dsimp only); (first | exact hHeld | exact ⟨hdr, hdr.keep p0, hdr.keep p2⟩ | exact ⟨hHeld.1.trans HG9.out, HG9.out.keep hHeld.2.1, HG9.out.keep hHeld.2.2⟩))
     refine ti 0 (some 32) rfl rfl ?_; try simp only [Act.put, lA, lB, lC]
     refine ti 1 (some 33) rfl rfl ?_; try simp only [Act.put, lA, lB, lC]
     refine ti 2 (some 34) rfl rfl ?_; try simp only [Act.put, lA, lB, lC]
     refine ti 3 (some 35) rfl rfl ?_; try simp only [Act.put, lA, lB, lC]
     refine ti 4 (some 36) rfl rfl ?_; try simp only [Act.put, lA, lB, lC]
     refine ti 5 (some 37) rfl rfl ?_; try simp only [Act.put, lA, lB, lC]
     refine ti 7 (some 39) rfl rfl ?_; try simp only [Act.put, lA, lB, lC]
     refine ti 8 (some 40) rfl rfl ?_; try simp only [Act.put, lA, lB, lC]
     refine tr [6] (.cons rfl (fun K hK => ?_) .nil)
     go_simp
     first | (go_at_call 55; (with_reducible refine (HJN.out _).mono ?_); rintro e w' ⟨rfl, rfl⟩)
     refine hK.out _ _ ?_ (fun hHeld => ?_)
     ·((try dsimp only); (first | exact hHeld | exact ⟨hdr, hdr.keep p0, hdr.keep p2⟩ | exact ⟨hHeld.1.trans HG9.out, HG9.out.keep hHeld.2.1, HG9.out.keep hHeld.2.2⟩))
     clear hK K; try simp only [Act.put, lA, lB, lC]
     refine tr [9] (.cons rfl (fun K hK => ?_) .nil)
     go_simp
     first | (go_at_call 56; (with_reducible refine (HSN.out _ hHeld.2.2).mono ?_); rintro e w' ⟨rfl, rfl⟩)
     refine hK.out _ _ ?_ (fun hHeld => ?_)
     ·((try dsimp only); (first | exact hHeld | exact ⟨hdr, hdr.keep p0, hdr.keep p2⟩ | exact ⟨hHeld.1.trans HG9.out, HG9.out.keep hHeld.2.1, HG9.out.keep hHeld.2.2⟩))
     clear hK K; try simp only [Act.put, lA, lB, lC]
     refine ti 10 (some 42) rfl rfl ?_; try simp only [Act.put, lA, lB, lC]
     refine tr [11] (.cons rfl (fun K hK => ?_) .nil)
     go_simp
     first | (go_at_call 80; (with_reducible refine (HFL.out _ (hgr.trans hHeld.1)).mono ?_); rintro e w3 ⟨rfl, hg3⟩; have HG9 := Lib.hid hg3; clear hg3)
     refine hK.out _ _ ?_ (fun hHeld => ?_)
     ·((try dsimp only); (first | exact hHeld | exact ⟨hdr, hdr.keep p0, hdr.keep p2⟩ | exact ⟨hHeld.1.trans HG9.out, HG9.out.keep hHeld.2.1, HG9.out.keep hHeld.2.2⟩))
     clear hK K; try simp only [Act.put, lA, lB, lC]
     refine ti 12 (some 8) rfl rfl ?_; try simp only [Act.put, lA, lB, lC]
     refine wpAnyH_done ?_ ?_ _
     ·kernel_rfl
     rotate_left
     all_goals
      have hgw := hHeld.1
      have HO3 := Lib.hid (owns_gr hown.out hgw)
      have HY3 := Lib.hid (hY.out.keep hgw)
      have hgr3 := hgr.trans hgw
      rw [HFN.out]
      clear hown hY hgr hgw hHeld HG9 p0 p2 hdr
      go_wp2_with fail
      rw [show (u : Int) + (fl : Int) = (E : Int) by omega]
      go_loopw [3, 6] (fun q us wi => ∃ (u : Nat) (L : List Rc) (k : Nat), us = .int .i64 (u : Int) ∧ u ≤ E ∧ L.length = k ∧ Hid (wi.ownsRow w.heap.size 162 4 q k (flatE enc4B (L.map (slR G)))) ∧ Hid (LayU G n f s j u L) ∧ Hid (Blk wi Y 47 #[.int .i64 x, .int .i64 y]) ∧ Gr w wi) (fun _ us _ => E - (intOf us).toNat)
      case atStart => exact ⟨u, L, k, rfl, by omega, hk, HO3, HLU, HY3, hgr3⟩
      case round =>
       clear hk hfl HO3 HLU HY3 hgr3
       obtain ⟨u, L, k, rfl, huE2, hk, hown, hlu, hY, hgr⟩ := hrel
       by_cases hlt : u < E
       ·have hki : (u : Int) < (E : Int) := by omega
        have hfw := hlu.out.few (by omega) (by omega) (by omega)
        obtain ⟨q, hq⟩ : ∃ q, u / ln = q := ⟨_, rfl⟩
        obtain ⟨o, ho⟩ : ∃ o, u % ln = o := ⟨_, rfl⟩
        have hoL : o < ln := by rw [← ho]; exact Nat.mod_lt _ (by omega)
        have hqu : q ≤ u := by rw [← hq]; exact Nat.div_le_self _ _
        obtain ⟨pt, hpt⟩ : ∃ pt, min (E - u) (ln - o) = pt := ⟨_, rfl⟩
        have hstep := hlu.out.step (p := pt) (by rw [HGK.out]; exact hsl) hjl (by rw [HE.out]; exact hlt) (by rw [HE.out, HLN.out, ho]; exact hpt.symm)
        rw [HE.out, HLN.out, hq, ho] at hstep
        obtain ⟨hst, hp1, hp2⟩ := hstep
        have HST := Lib.hid hst
        have hlnx : y - x = (ln : Int) := HXY.out.symm
        have hwl : IntKind.i64.wrap (y - x) = y - x := IntWalk.i64_in _ (by omega)
        have HLE : Hid (∀ W, Calls Tryz.prog 57 #[.agg #[.int .i64 x, .int .i64 y]] W fun e w' => e = .returned (.int .i64 (ln : Int)) ∧ Gr W w') := Lib.hid (fun W => by have := length_any x y W hwl; rwa [hlnx] at this)
        have HQ := Lib.hid hq
        have HO := Lib.hid ho
        have HPT := Lib.hid hpt
        have hdr : Gr wr wr.drew := (Gr.refl wr).drew
        have y0 := hY.out.cell 0
        have y1 := hY.out.cell 1
        have hdiv : ((u : Int) / (ln : Int)) = (q : Int) := by rw [← hq]; rfl
        have hmod : ((u : Int).tmod (ln : Int)) = (o : Int) := by rw [← ho]; rfl
        have hqw : IntKind.i64.wrap (q : Int) = (q : Int) := IntWalk.i64_in _ (by omega)
        have hnz : ¬ ln = 0 := by omega
        have hnz2 : ¬ (ln : Int) = 0 := by omega
        clear hq ho hpt hst hlnx hwl hlu
        go_upto_region 12 with fail
        refine wp_region_held_drew (S := (fun W' => Gr wr W' ∧ W'.cell? ⟨Y, 0, none⟩ = some (.int .i64 x) ∧ W'.cell? ⟨Y, 1, none⟩ = some (.int .i64 y))) ?_ ?_ (fun hHeld => ?_)
        ·kernel_rfl
        ·((try dsimp only); (first | exact hHeld | exact ⟨hdr, hdr.keep y0, hdr.keep y1⟩ | exact ⟨hHeld.1.trans HG9.out, HG9.out.keep hHeld.2.1, HG9.out.keep hHeld.2.2⟩))
        refine ti 0 (some 50) rfl rfl ?_; try simp only [Act.put, lA, lB, lC]
        refine ti 1 (some 51) rfl rfl ?_; try simp only [Act.put, lA, lB, lC]
        refine ti 4 (some 54) rfl rfl ?_; try simp only [Act.put, lA, lB, lC]
        refine ti 5 (some 55) rfl rfl ?_; try simp only [Act.put, lA, lB, lC]
        refine tr [2] (.cons rfl (fun K hK => ?_) .nil)
        go_simp
        first | (go_at_call 57; (with_reducible refine (HLE.out _).mono ?_); rintro e w3 ⟨rfl, hg3⟩; have HG9 := Lib.hid hg3; clear hg3)
        refine hK.out _ _ ?_ (fun hHeld => ?_)
        ·((try dsimp only); (first | exact hHeld | exact ⟨hdr, hdr.keep y0, hdr.keep y1⟩ | exact ⟨hHeld.1.trans HG9.out, HG9.out.keep hHeld.2.1, HG9.out.keep hHeld.2.2⟩))
        clear hK K; try simp only [Act.put, lA, lB, lC]
        refine ti 3 (some 53) rfl rfl ?_; try simp only [Act.put, lA, lB, lC]
        refine tr [6] (.cons rfl (fun K hK => ?_) .nil)
        go_simp
        first | (go_at_call 57; (with_reducible refine (HLE.out _).mono ?_); rintro e w3 ⟨rfl, hg3⟩; have HG9 := Lib.hid hg3; clear hg3)
        refine hK.out _ _ ?_ (fun hHeld => ?_)
        ·((try dsimp only); (first | exact hHeld | exact ⟨hdr, hdr.keep y0, hdr.keep y1⟩ | exact ⟨hHeld.1.trans HG9.out, HG9.out.keep hHeld.2.1, HG9.out.keep hHeld.2.2⟩))
        clear hK K; try simp only [Act.put, lA, lB, lC]
        refine ti 7 (some 57) rfl rfl ?_; try simp only [Act.put, lA, lB, lC]
        refine ti 8 (some 10) rfl rfl ?_; try simp only [Act.put, lA, lB, lC]
        refine ti 9 (some 11) rfl rfl ?_; try simp only [Act.put, lA, lB, lC]
        refine wpAnyH_done ?_ ?_ _
        ·kernel_rfl
        rotate_left
        all_goals
         have hgw := hHeld.1
         have HO3 := Lib.hid (owns_gr hown.out hgw)
         have HY3 := Lib.hid (hY.out.keep hgw)
         have hgr3 := hgr.trans hgw
         clear hown hY hgr hgw hHeld HG9 y0 y1 hdr hdiv hmod hqw
         have y0 := HY3.out.cell 0
         have y1 := HY3.out.cell 1
         have hsl4 : slR G ⟨s, j, q, o, pt⟩ = ((j : Int), (q : Int), x + (o : Int), x + (o : Int) + (pt : Int)) := by unfold slR; dsimp only; rw [HAT.out]
         have HSL : Hid (flatE enc4B ((L ++ [(⟨s, j, q, o, pt⟩ : Rc)]).map (slR G)) = flatE enc4B (L.map (slR G)) ++ [.int .i64 (j : Int), .int .i64 (q : Int), .int .i64 (x + (o : Int)), .int .i64 (x + (o : Int) + (pt : Int))]) := Lib.hid (by rw [List.map_append, flatE_app, List.map_singleton, hsl4]; rfl)
         clear hsl4
         have hmin : min ((E : Int) - (u : Int)) ((ln : Int) - (o : Int)) = (pt : Int) := by have := HPT.out; omega
         go_wp2_with fail
         refine (HLE.out _).mono ?_
         rintro e w4 ⟨rfl, hg4⟩
         have HO4 := Lib.hid (owns_gr HO3.out hg4)
         have HY4 := Lib.hid (HY3.out.keep hg4)
         have hgr4 := hgr3.trans hg4
         clear HO3 HY3 hgr3 hg4 y0 y1
         have y0 := HY4.out.cell 0
         obtain ⟨hi, hz0, hz1, hz2⟩ := HI.out
         all_goals
          go_upto_region 14 with fail
          go_wp2_with (at_builtin; refine wpList_append_own _ rfl _ _ 51 rfl w.heap.size 162 i0 _ 4 32 Tryz.underlying51 hi hz0 hz1 hz2 rfl (by decide) _ _ _ rfl (HO4.out.alloc _) ⟨w4.heap.size, 0, none⟩ 1 1 [.int .i64 (j : Int), .int .i64 (q : Int), .int .i64 (x + (o : Int)), .int .i64 (x + (o : Int) + (pt : Int))] rfl rfl (by intro t z ht; rw [Addr.add_lit]; exact alloc_new rfl (by rw [Nat.zero_add]; simpa using ht)) (by intro z hz; simp at hz; rcases hz with rfl | rfl | rfl | rfl <;> rfl) (by unfold maxLen; omega) (by omega) (by have := hgr4.size; simp; omega) ?_)
          intro v' w5 hown5 hgrow _
          have hal : Gr w4 (w4.alloc (.cells #[.int .i64 (j : Int), .int .i64 (q : Int), .int .i64 (x + (o : Int)), .int .i64 (x + (o : Int) + (pt : Int))] 162)) := (Gr.refl _).alloc _
          have ho4 := HO4.out.alloc (.cells #[.int .i64 (j : Int), .int .i64 (q : Int), .int .i64 (x + (o : Int)), .int .i64 (x + (o : Int) + (pt : Int))] 162)
          have hg5 : Gr w w5 := Below.grown (hgr4.trans hal) hgrow (hgr4.trans hal).size (fun t ht => (ho4.lt t ht).1)
          have HY5 := Lib.hid ((HY4.out.keep hal).grown hgrow ((HY4.out.keep hal).apart ho4 (by decide)))
          have HO5 : Hid (w5.ownsRow w.heap.size 162 4 v' (k + 1) (flatE enc4B ((L ++ [(⟨s, j, q, o, pt⟩ : Rc)]).map (slR G)))) := Lib.hid (by rw [HSL.out]; exact hown5)
          clear hown5 hgrow hal ho4 HO4 HY4 hgr4 hi hz0 hz1 hz2 y0
          go_wp2_with fail
          go_roundw
          case rel => exact ⟨u + pt, L ++ [⟨s, j, q, o, pt⟩], k + 1, by go_num, hp2, by simp [hk], HO5, HST, HY5, hg5⟩
          case measure => simp [intOf]; omega
       ·have huE3 : u = E := by omega
        obtain ⟨hd1, hd2⟩ := hlu.out.done (by rw [HE.out]; omega)
        have HLY := Lib.hid hd2
        have hud : u = upto f s (j + 1) := hd1
        have HUD := Lib.hid hud
        clear hd1 hd2 hud hlu
        go_wp2_with fail
        go_roundw
        case rel => exact ⟨j + 1, u, L, k, by omega, by go_num, rfl, HUD.out, hk, hown, HLY, hY, hgr⟩
        case measure => simp [intOf]; omega
    ·obtain rfl : j = n := by omega
     have HLY := Lib.hid (hlay.out.span (n := B) hn32 (by rw [HGK.out]; exact hsl) (by rw [hu, HLN.out]; exact HCOL.out) hB)
     clear hjl hu hlay
     go_wp2_with fail
     go_roundw
     case rel => exact ⟨s + 1, L, k, by omega, by go_num, fun h => by omega, hk, hown, HLY, hgr⟩
     case measure => simp [intOf]; omega
  ·obtain rfl : s = K := by omega
   have hfw := hlay.out.few
   have hSC : SchedP B l (L.map (slR G)) := by
    have hl := hlay.out
    have hN := HN.out
    subst hN
    rw [← HGK.out] at hl
    exact hl.sched (by rw [HGK.out]; omega) HF.out.cov HF.out.le HF.out.col HF.out.row
   have HSC := Lib.hid hSC
   have hk4 : k ≤ 4096 := by have := hSC.few; rw [List.length_map, hk] at this; exact this
   clear hsl hlay hSC hfw
   obtain ⟨g3, c3, rfl⟩ := owns_shape0 hown.out (fun hk0 => hsh (by
    have h1 : ¬ 1 ≤ l.length := fun h => by have := HSC.out.some HJ.out h; rw [List.length_map, hk] at this; omega
    have h2 := timesL_len (tmL l)
    rw [tmL_len] at h2
    change (tms l).length ≤ _ at h2
    have h3 := HK.out
    omega))
   have HIO := Lib.hid (fun W => inOrder_any 83 W)
   go_wp2_with fail
   refine (HIO.out _).mono ?_
   rintro e w3 ⟨ob, rfl, hob, -, hg3⟩
   have hlm : (L.map (slR G)).length = k := by rw [List.length_map, hk]
   have HSS := Lib.hid (sortedS_bench g3 0 k c3 ob (L.map (slR G)) w3 hlm hk4 hob ((Rd_of_owns enc4_len hlm hown.out).keep hg3))
   have hgr3 := hgr.trans hg3
   clear hob hg3 hown hlm HIO
   go_wp2_with fail
   refine HSS.out.mono ?_
   rintro e w4 ⟨g4, c4, sl, rfl, h1, h2, h3, -, hg4, h5, hu4⟩
   have HF4 : Hid (Fresh w.heap.size w4 (some ⟨g4, 0, none⟩) k c4) := Lib.hid (Or.inr ⟨g4, rfl, Nat.le_trans hgr3.size hg4, hu4.1, hu4.2⟩)
   have HR := Lib.hid (And.intro h1 (And.intro h3 (HSC.out.perm h2)))
   have hgr4 := hgr3.trans h5
   clear h1 h2 h3 h5 HSS hg4 hu4
   go_wp2_with fail
   go_ret
   exact ⟨some ⟨g4, 0, none⟩, k, c4, sl, rfl, HR.out.1, HR.out.2.1, HR.out.2.2, HF4.out, hgr4⟩

end Go.Proofs.YtobcdkjomehdkaaGreat
