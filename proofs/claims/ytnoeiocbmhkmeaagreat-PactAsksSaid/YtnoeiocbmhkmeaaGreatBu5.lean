/- Layer 5: a site's stock; is it down. -/
import Derived.Test.YtnoeiocbmhkmeaaGreatBu4
namespace Go.Proofs.YtnoeiocbmhkmeaaGreat
open Go.RowKit
set_option linter.unusedSimpArgs false
set_option maxRecDepth 100000
set_option maxHeartbeats 80000000

theorem NetR.spot5 {B : Nat} {w : World} {N : Nx} (h : NetR B w N) {k : Nat} {s : Sx} (hs : N.sites[k]? = some s) :
 ∃ b off c, N.sv = .slice (some ⟨b, off, none⟩) N.sites.length c ∧ w.cell? ⟨b, off + k, none⟩ = some (.pointer (some ⟨s.p, 0, none⟩)) := by
 obtain ⟨A, c, e, hr⟩ := h.arr
 obtain ⟨b, off, rfl, hc⟩ := hr k s.p (by rw [List.getElem?_map, hs]; rfl)
 have h1 := hc 0 _ rfl
 rw [Nat.mul_one, Nat.add_zero] at h1
 exact ⟨b, off, c, e, h1⟩
theorem refS_cases (N : Nx) (i : Int) : (refS N i = 1) ∨ (refS N i = 3) ∨ (refS N i = 0 ∧ ∃ (k : Nat) (s : Sx), i = (k : Int) ∧ N.sites[k]? = some s ∧ k < N.sites.length) := by
 unfold refS
 split
 ·exact Or.inl rfl
 ·split
  ·exact Or.inr (Or.inl rfl)
  ·refine Or.inr (Or.inr ⟨rfl, i.toNat, N.sites[i.toNat]'(by omega), by omega, List.getElem?_eq_getElem _, by omega⟩)
def refD (N : Nx) (i : Int) : Int := if refS N i ≠ 0 then refS N i else if (N.sites[i.toNat]?.map (·.up)).getD true then 0 else 7
def stockN (N : Nx) (i : Int) : Int := if refS N i ≠ 0 then 0 else (N.sites[i.toNat]?.map (·.stock)).getD 0

theorem refDown_any {B : Nat} {w : World} {N : Nx} (h : NetR B w N) (i : Int) : Calls Tryz.prog 44 #[.pointer (some ⟨N.p, 0, none⟩), .int .i64 i] w fun e w' => e = .returned (.int .i64 (refD N i)) ∧ w' = w := by
 have HU := Lib.hid (refSite_any h i)
 obtain ⟨r, hr⟩ : ∃ r, refD N i = r := ⟨_, rfl⟩
 rw [hr]
 unfold refD at hr
 rcases refS_cases N i with h1 | h1 | ⟨h1, k, s, rfl, hk, hkn⟩
 ·rw [h1] at HU hr
  have HR := Lib.hid hr
  clear hr h h1
  go_enter Tryz.func44, Tryz.ntmps44
  go_wp2_with fail
  refine HU.out.mono ?_
  rintro e w1 ⟨rfl, rfl⟩
  go_wp2_with fail
  go_ret
  exact ⟨ret_int (by rw [← HR.out]; rfl), rfl⟩
 ·rw [h1] at HU hr
  have HR := Lib.hid hr
  clear hr h h1
  go_enter Tryz.func44, Tryz.ntmps44
  go_wp2_with fail
  refine HU.out.mono ?_
  rintro e w1 ⟨rfl, rfl⟩
  go_wp2_with fail
  go_ret
  exact ⟨ret_int (by rw [← HR.out]; rfl), rfl⟩
 ·rw [h1] at HU hr
  have n0 := h.blk.cell 0
  obtain ⟨b, off, c, e, hc⟩ := h.spot5 hk
  simp only [List.getElem?_toArray, List.getElem?_cons_zero] at n0
  rw [e] at n0
  have hu : w.cell? ⟨s.p, 2, none⟩ = some (.bool s.up) := (h.site (List.mem_of_getElem? hk)).cell 2
  rw [if_neg (by simp), show ((k : Int)).toNat = k from rfl, hk] at hr
  simp only [Option.map_some, Option.getD_some] at hr
  have hki : (k : Int) < (N.sites.length : Int) := by omega
  have hk0 : (0 : Int) ≤ (k : Int) := by omega
  generalize N.sites.length = n at n0 hki hkn
  clear h h1 e hk
  cases hup : s.up with
  | true =>
    rw [hup] at hu
    have HR : Hid ((0 : Int) = r) := Lib.hid (by simpa [hup] using hr)
    clear hr hup
    go_enter Tryz.func44, Tryz.ntmps44
    go_wp2_with fail
    refine HU.out.mono ?_
    rintro e w1 ⟨rfl, rfl⟩
    go_wp2_with fail
    go_ret
    exact ⟨ret_int (by rw [← HR.out]), rfl⟩
  | false =>
    rw [hup] at hu
    have HR : Hid ((7 : Int) = r) := Lib.hid (by simpa [hup] using hr)
    clear hr hup
    go_enter Tryz.func44, Tryz.ntmps44
    go_wp2_with fail
    refine HU.out.mono ?_
    rintro e w1 ⟨rfl, rfl⟩
    go_wp2_with fail
    go_ret
    exact ⟨ret_int (by rw [← HR.out]), rfl⟩
theorem Stock_any {B : Nat} {w : World} {N : Nx} (h : NetR B w N) (i : Int) : Calls Tryz.prog 15 #[.pointer (some ⟨N.p, 0, none⟩), .int .i64 i] w fun e w' => e = .returned (.tuple #[.int .i64 (stockN N i), .int .i64 (refS N i)]) ∧ w' = w := by
 have HU := Lib.hid (refSite_any h i)
 obtain ⟨r, hr⟩ : ∃ r, stockN N i = r := ⟨_, rfl⟩
 rw [hr]
 unfold stockN at hr
 rcases refS_cases N i with h1 | h1 | ⟨h1, k, s, rfl, hk, hkn⟩
 ·rw [h1] at HU hr ⊢
  obtain rfl : 0 = r := by rw [← hr]; rfl
  clear hr h h1
  go_enter Tryz.func15, Tryz.ntmps15
  go_wp2_with fail
  refine HU.out.mono ?_
  rintro e w1 ⟨rfl, rfl⟩
  go_wp2_with fail
  refine bodyPost_ret (v := .tuple #[.int .i64 0, .int .i64 1]) ?_ ?_ ?_
  ·simp [results, Tryz.results15, go_sem]
  ·rfl
  ·exact ⟨rfl, rfl⟩
 ·rw [h1] at HU hr ⊢
  obtain rfl : 0 = r := by rw [← hr]; rfl
  clear hr h h1
  go_enter Tryz.func15, Tryz.ntmps15
  go_wp2_with fail
  refine HU.out.mono ?_
  rintro e w1 ⟨rfl, rfl⟩
  go_wp2_with fail
  refine bodyPost_ret (v := .tuple #[.int .i64 0, .int .i64 3]) ?_ ?_ ?_
  ·simp [results, Tryz.results15, go_sem]
  ·rfl
  ·exact ⟨rfl, rfl⟩
 ·rw [h1] at HU hr ⊢
  have n0 := h.blk.cell 0
  obtain ⟨b, off, c, e, hc⟩ := h.spot5 hk
  simp only [List.getElem?_toArray, List.getElem?_cons_zero] at n0
  rw [e] at n0
  have hu : w.cell? ⟨s.p, 1, none⟩ = some (.int .i64 s.stock) := (h.site (List.mem_of_getElem? hk)).cell 1
  rw [if_neg (by simp), show ((k : Int)).toNat = k from rfl, hk] at hr
  simp only [Option.map_some, Option.getD_some] at hr
  rw [hr] at hu
  have hki : (k : Int) < (N.sites.length : Int) := by omega
  have hk0 : (0 : Int) ≤ (k : Int) := by omega
  generalize N.sites.length = n at n0 hki hkn
  clear h h1 e hk hr
  go_enter Tryz.func15, Tryz.ntmps15
  go_wp2_with fail
  refine HU.out.mono ?_
  rintro e w1 ⟨rfl, rfl⟩
  go_wp2_with fail
  refine bodyPost_ret (v := .tuple #[.int .i64 r, .int .i64 0]) ?_ ?_ ?_
  ·simp [results, Tryz.results15, go_sem]
  ·rfl
  ·exact ⟨rfl, rfl⟩

set_option maxRecDepth 100000
set_option maxHeartbeats 80000000

def badC (c : Int) : Bool := decide (c = 0) || decide (c < -1099511627776) || decide (1099511627776 < c)
def okFrom (N : Nx) : List Int → Int → List Mv → Bool
 | _, sm, [] => decide (sm = 0)
 | seen, sm, p :: r => if decide (refS N p.1 ≠ 0) || decide (p.1 ∈ seen) then false else if badC p.2 then false else okFrom N (p.1 :: seen) (sm + p.2) r
def okTx (N : Nx) (ps : List Mv) : Bool := !ps.isEmpty && okFrom N [] 0 ps
def namedA (seen : List Int) : Array Value := ((List.range 8).map fun (j : Nat) => Value.bool (decide ((j : Int) ∈ seen))).toArray
theorem namedA_get (seen : List Int) {k : Nat} (hk : k < 8) : (namedA seen)[k]? = some (.bool (decide ((k : Int) ∈ seen))) := by
 unfold namedA
 rw [List.getElem?_toArray, List.getElem?_map, List.getElem?_range hk]
 rfl
theorem namedA_put (seen : List Int) (k : Nat) : (namedA seen).setIfInBounds k (.bool true) = namedA ((k : Int) :: seen) := by
 apply Array.ext_getElem?
 intro j
 rw [Array.getElem?_setIfInBounds]
 have hs : (namedA seen).size = 8 := by unfold namedA; simp
 by_cases hj : j < 8
 ·rw [namedA_get _ hj, namedA_get _ hj, hs]
  split
  ·rename_i h
   subst h
   rw [if_pos hj]
   simp
  ·rename_i h
   have h2 : ¬ ((j : Int) = (k : Int)) := by omega
   simp [h2]
 ·have e1 : (namedA seen)[j]? = none := Array.getElem?_eq_none (by omega)
  have e2 : (namedA ((k : Int) :: seen))[j]? = none := Array.getElem?_eq_none (by unfold namedA; simp; omega)
  rw [e1, e2, hs]
  split
  ·rw [if_neg (by omega)]
  ·rfl
theorem okFrom_step {N : Nx} {seen : List Int} {sm : Int} {ps : List Mv} {i : Nat} {p : Mv} (h : ps[i]? = some p) :
 okFrom N seen sm (ps.drop i) = if decide (refS N p.1 ≠ 0) || decide (p.1 ∈ seen) then false else if badC p.2 then false else okFrom N (p.1 :: seen) (sm + p.2) (ps.drop (i + 1)) := by
 rw [List.drop_eq_getElem_cons (List.getElem?_eq_some_iff.1 h).1]
 have e := (List.getElem?_eq_some_iff.1 h).2
 rw [e]
 rfl

theorem isTx_any {B : Nat} {N : Nx} (A : Option Addr) (n c : Nat) (ps : List Mv) (w : World) (h : NetR B w N) (h8 : N.sites.length ≤ 8) (hn : ps.length = n) (hl : n ≤ 512) (hp : Pts w A ps) :
 Calls Tryz.prog 45 #[.pointer (some ⟨N.p, 0, none⟩), .slice A n c] w fun e w' => e = .returned (.bool (okTx N ps)) ∧ Gr w w' := by
 obtain ⟨r, hr⟩ : ∃ r, okTx N ps = r := ⟨_, rfl⟩
 rw [hr]
 unfold okTx at hr
 by_cases h0 : n = 0
 ·subst h0
  obtain rfl := List.eq_nil_of_length_eq_zero hn
  have HR := Lib.hid hr
  clear hr h hn hp
  go_enter Tryz.func45, Tryz.ntmps45
  go_wp2_with fail
  go_ret
  exact ⟨ret_bool (by rw [← HR.out]; rfl), Gr.refl _⟩
 ·have hr1 : okFrom N [] 0 ps = r := by
   rw [← hr]
   cases ps with
   | nil => simp at hn; omega
   | cons x l => simp
  have HN := Lib.hid hn
  have HP := Lib.hid hp
  have HR := Lib.hid hr1
  have HU := Lib.hid (fun W (hW : Gr w W) (i : Int) => refSite_any (h.keep hW) i)
  have HC := Lib.hid (fun (i : Int) => refS_cases N i)
  have H8 := Lib.hid h8
  have hn0 : 0 < n := by omega
  have hnb : ((n : Int) == 0) = false := by simp; omega
  clear hr hr1 h hn hp h8
  go_enter Tryz.func45, Tryz.ntmps45
  go_upto_region 4 with fail
  generalize hW1 : World.alloc w _ = w1
  have hg1 : Gr w w1 := by rw [← hW1]; exact (Gr.refl w).alloc _
  have hB1 : Blk w1 w.heap.size 108 (namedA []) := by rw [← hW1]; exact Blk.new w _ _ rfl
  obtain ⟨G, hG⟩ : ∃ G, w.heap.size = G := ⟨_, rfl⟩
  rw [hG] at hB1 ⊢
  have HGG := Lib.hid hG
  have HB1 := Lib.hid hB1
  clear hW1 hB1 hG
  go_wp2_with fail
  go_loopw [6, 14] (fun sm z wr => ∃ (i : Nat) (seen : List Int) (s : Int), i ≤ n ∧ z = .int .i64 (i : Int) ∧ sm = .int .i64 s ∧ Hid (okFrom N seen s (ps.drop i) = r) ∧ Hid (Blk wr G 108 (namedA seen)) ∧ (-1099511627776 * (i : Int) ≤ s ∧ s ≤ 1099511627776 * (i : Int)) ∧ Gr w wr) (fun _ z _ => n - (intOf z).toNat)
  case atStart => exact ⟨0, [], 0, Nat.zero_le _, rfl, rfl, Lib.hid (by rw [List.drop_zero]; exact HR.out), HB1, ⟨by omega, by omega⟩, hg1⟩
  case round =>
   obtain ⟨i, seen, s, hin, rfl, rfl, hok, hB, ⟨hs1, hs2⟩, hgr⟩ := hrel
   clear HB1 hg1
   by_cases hlt : i < n
   ·obtain ⟨b, off, rfl, x0, x1⟩ := Pts_at (HP.out.keep hgr) (k := i) (by rw [HN.out]; exact hlt)
    have hpk : ps[i]? = some (ps.getD i (0, 0)) := getD_of (0, 0) (by rw [HN.out]; exact hlt)
    have HE := Lib.hid ((okFrom_step (N := N) (seen := seen) (sm := s) hpk).symm.trans hok.out)
    generalize ps.getD i (0, 0) = p at *
    obtain ⟨p1, p2⟩ := p
    dsimp only at x0 x1 HE
    have hki : (i : Int) < (n : Int) := by omega
    clear hpk
    go_upto_region 8 with fail
    generalize hW : World.alloc wr _ = w5
    obtain ⟨hgW, k0, k1⟩ := box2q hW
    have hZG : wr.heap.size ≠ G := by have := hB.out.lt; omega
    generalize wr.heap.size = Z at k0 k1 hZG ⊢
    have hgr5 := hgr.trans hgW
    have HB5 := Lib.hid (hB.out.keep hgW)
    have HU5 := Lib.hid (HU.out w5 hgr5 p1)
    have HZG := Lib.hid hZG
    clear hW hgW hgr hB x0 x1 hZG
    rcases HC.out p1 with h1 | h1 | ⟨h1, k, st, rfl, hk, hkn⟩
    ·rw [h1] at HU5
     have HF : Hid (false = r) := Lib.hid (by have h2 := HE.out; rw [h1] at h2; simpa using h2)
     go_wp2_with fail
     refine HU5.out.mono ?_
     rintro e w6 ⟨rfl, rfl⟩
     go_wp2_with fail
     go_ret
     exact ⟨ret_bool (by rw [← HF.out]), hgr5⟩
    ·rw [h1] at HU5
     have HF : Hid (false = r) := Lib.hid (by have h2 := HE.out; rw [h1] at h2; simpa using h2)
     go_wp2_with fail
     refine HU5.out.mono ?_
     rintro e w6 ⟨rfl, rfl⟩
     go_wp2_with fail
     go_ret
     exact ⟨ret_bool (by rw [← HF.out]), hgr5⟩
    ·rw [h1] at HU5
     have hk8 : k < 8 := by have := H8.out; omega
     have hk8i : (k : Int) < 8 := by omega
     have hk0 : (0 : Int) ≤ (k : Int) := by omega
     have g0 : w5.cell? ⟨G, k, none⟩ = some (.bool (decide ((k : Int) ∈ seen))) := (HB5.out.cell k).trans (namedA_get seen hk8)
     clear hk
     by_cases hm : (k : Int) ∈ seen
     ·rw [decide_eq_true hm] at g0
      have HF : Hid (false = r) := Lib.hid (by have h2 := HE.out; rw [h1] at h2; simpa [hm] using h2)
      go_wp2_with fail
      refine HU5.out.mono ?_
      rintro e w6 ⟨rfl, rfl⟩
      go_wp2_with fail
      go_ret
      exact ⟨ret_bool (by rw [← HF.out]), hgr5⟩
     ·rw [decide_eq_false hm] at g0
      by_cases c0 : p2 = 0
      ·subst c0
       have HF : Hid (false = r) := Lib.hid (by have h2 := HE.out; rw [h1] at h2; have h3 : badC 0 = true := rfl; simpa [hm, h3] using h2)
       go_wp2_with fail
       refine HU5.out.mono ?_
       rintro e w6 ⟨rfl, rfl⟩
       go_wp2_with fail
       go_ret
       exact ⟨ret_bool (by rw [← HF.out]), hgr5⟩
      ·by_cases c1 : p2 < -1099511627776
       ·have HF : Hid (false = r) := Lib.hid (by have h2 := HE.out; rw [h1] at h2; have h3 : badC p2 = true := (by unfold badC; simp; omega); simpa [hm, h3] using h2)
        go_wp2_with fail
        refine HU5.out.mono ?_
        rintro e w6 ⟨rfl, rfl⟩
        go_wp2_with fail
        go_ret
        exact ⟨ret_bool (by rw [← HF.out]), hgr5⟩
       ·by_cases c2 : 1099511627776 < p2
        ·have HF : Hid (false = r) := Lib.hid (by have h2 := HE.out; rw [h1] at h2; have h3 : badC p2 = true := (by unfold badC; simp; omega); simpa [hm, h3] using h2)
         go_wp2_with fail
         refine HU5.out.mono ?_
         rintro e w6 ⟨rfl, rfl⟩
         go_wp2_with fail
         go_ret
         exact ⟨ret_bool (by rw [← HF.out]), hgr5⟩
        ·have HT : Hid (okFrom N ((k : Int) :: seen) (s + p2) (ps.drop (i + 1)) = r) := Lib.hid (by have h2 := HE.out; rw [h1] at h2; have h3 : badC p2 = false := (by unfold badC; simp [c0, c1, c2]); simpa [hm, h3] using h2)
         have g1 := HB5.out.free k
         have b0 : (p2 == 0) = false := by simp [c0]
         have b1 : decide (p2 < -1099511627776) = false := decide_eq_false c1
         have b2 : decide (1099511627776 < p2) = false := decide_eq_false c2
         have w1e : IntKind.i64.wrap (s + p2) = s + p2 := IntWalk.i64_in _ (by omega)
         go_wp2_with fail
         refine HU5.out.mono ?_
         rintro e w6 ⟨rfl, rfl⟩
         have hgr7 := hgr5.setCell (p := ⟨G, k, none⟩) (Nat.le_of_eq HGG.out) (.bool true)
         have HB7 : Hid (Blk (w6.setCell ⟨G, k, none⟩ (.bool true)) G 108 (namedA ((k : Int) :: seen))) := Lib.hid (by have h2 := HB5.out.put k (.bool true); rw [namedA_put] at h2; exact h2)
         have k1b : (w6.setCell ⟨G, k, none⟩ (.bool true)).cell? ⟨Z, 1, none⟩ = some (.int .i64 p2) := cell_other k1 HZG.out
         go_wp2_with fail
         go_roundw
         case rel => exact ⟨i + 1, (k : Int) :: seen, s + p2, by omega, by go_num, rfl, HT, HB7, ⟨by omega, by omega⟩, hgr7⟩
         case measure => simp [intOf]; omega

   ·obtain rfl : i = n := by omega
    have HF : Hid (decide (s = 0) = r) := Lib.hid (by have h2 := hok.out; rw [List.drop_of_length_le (by rw [HN.out]; exact Nat.le_refl _)] at h2; exact h2)
    go_wp2_with fail
    go_ret
    exact ⟨ret_bool (by rw [← HF.out]; first | rfl | simp), hgr⟩

set_option maxRecDepth 100000
set_option maxHeartbeats 80000000

theorem owns_ch {S : List Nat} {w w' : World} {base : Nat} {e : TypeId} {size n : Nat} {v : Value} {xs : List Value} (h : w.ownsRow base e size v n xs) (hc : Ch S w w') (hn : ∀ g, v.ownBlock = some g → g ∉ S) : w'.ownsRow base e size v n xs := by
 refine ⟨h.1, ?_⟩
 rcases h.2 with hn1 | ⟨g, cap, cur, rfl, hb, hgg, rest⟩
 ·exact .inl hn1
 ·refine .inr ⟨g, cap, cur, rfl, hb, ?_, rest⟩
  rw [hc.block g (Array.getElem?_eq_some_iff.1 hgg).1 (hn g rfl)]
  exact hgg
theorem split_at {α : Type} {l : List α} {k : Nat} {x : α} (h : l[k]? = some x) : l = l.take k ++ [x] ++ l.drop (k + 1) := by
 obtain ⟨hl, e⟩ := List.getElem?_eq_some_iff.1 h
 have h1 : l.take (k + 1) = l.take k ++ [x] := by rw [List.take_add_one, h]; rfl
 rw [← h1, List.take_append_drop]
theorem set_at {α : Type} {l : List α} {k : Nat} {x y : α} (h : l[k]? = some x) : l.set k y = l.take k ++ [y] ++ l.drop (k + 1) := by
 obtain ⟨hl, e⟩ := List.getElem?_eq_some_iff.1 h
 rw [List.set_eq_take_append_cons_drop, if_pos hl]; simp
theorem netIt_at {N : Nx} {k : Nat} {s : Sx} (h : N.sites[k]? = some s) : netIt N = (((N.p, Ds.cells 68 #[N.sv, N.lv, .int .i64 N.begun]) : Nat × Ds) :: (N.sites.take k).flatMap siteIt) ++ siteIt s ++ (N.sites.drop (k + 1)).flatMap siteIt := by
 unfold netIt
 conv => lhs; rw [split_at h]
 simp [List.flatMap_append]
theorem netIt_set {N : Nx} {k : Nat} {s s' : Sx} (h : N.sites[k]? = some s) : netIt { N with sites := N.sites.set k s' } = (((N.p, Ds.cells 68 #[N.sv, N.lv, .int .i64 N.begun]) : Nat × Ds) :: (N.sites.take k).flatMap siteIt) ++ siteIt s' ++ (N.sites.drop (k + 1)).flatMap siteIt := by
 unfold netIt
 dsimp only
 rw [set_at h]
 simp [List.flatMap_append]
theorem NetR.siteIts {B : Nat} {w : World} {N : Nx} (h : NetR B w N) {k : Nat} {s : Sx} (hs : N.sites[k]? = some s) : Its B w (siteIt s) := by
 have h1 := h.its
 rw [netIt_at hs] at h1
 exact h1.part
theorem site_own {N : Nx} {k : Nat} {s : Sx} (hs : N.sites[k]? = some s) : ∀ g ∈ blks (siteIt s), g ∈ blks (netIt N) := fun g hg => by
 rw [netIt_at hs, blks_app, blks_app]
 exact List.mem_append_left _ (List.mem_append_right _ hg)
theorem NetR.step {B : Nat} {w w' : World} {N : Nx} (h : NetR B w N) {k : Nat} {s s' : Sx} (hs : N.sites[k]? = some s) (hi : Its B w' (siteIt s')) (hc : Ch (blks (siteIt s)) w w') (hp : s'.p = s.p) (hb : ∀ g ∈ blks (siteIt s'), g ∈ blks (siteIt s) ∨ w.heap.size ≤ g) :
 NetTo B w N { N with sites := N.sites.set k s' } w' := by
 have h1 := h.its
 rw [netIt_at hs] at h1
 have h2 := h1.mid hc (fun g hg => Or.inl hg) hi hb
 rw [← netIt_set hs] at h2
 have hso := site_own hs
 have hbn : ∀ g ∈ blks (netIt { N with sites := N.sites.set k s' }), g ∈ blks (netIt N) ∨ w.heap.size ≤ g := fun g hg => by
  rw [netIt_set hs, blks_app, blks_app] at hg
  rw [netIt_at hs, blks_app, blks_app]
  rcases List.mem_append.1 hg with hg | hg
  ·rcases List.mem_append.1 hg with hg | hg
   ·exact Or.inl (List.mem_append_left _ (List.mem_append_left _ hg))
   ·exact (hb g hg).imp (fun h => List.mem_append_left _ (List.mem_append_right _ h)) id
  ·exact Or.inl (List.mem_append_right _ hg)
 have hsv : ∀ g, N.sv.ownBlock = some g → g ∉ blks (siteIt s) := fun g hg hm => by
  obtain ⟨it, hi, rfl⟩ := List.mem_map.1 (hso g hm)
  exact (h.away it hi).1 hg
 have hlv : ∀ g, N.lv.ownBlock = some g → g ∉ blks (siteIt s) := fun g hg hm => by
  obtain ⟨it, hi, rfl⟩ := List.mem_map.1 (hso g hm)
  exact (h.away it hi).2 hg
 have hmap : (N.sites.set k s').map (·.p) = N.sites.map (·.p) := by
  conv => rhs; rw [split_at hs]
  rw [set_at hs]
  simp [hp]
 refine ⟨⟨h2, ?_, owns_ch h.mail hc hlv, h.spot, fun it hm => ?_, Nat.le_trans h.le hc.size⟩, hc.mono (fun g hg => List.mem_append_left _ (hso g hg)), fun g hg => ?_, rfl, rfl⟩
 ·show w'.ownsRow B 69 1 N.sv (N.sites.set k s').length (flatE encP ((N.sites.set k s').map (·.p)))
  rw [hmap, List.length_set]
  exact owns_ch h.sites hc hsv
 ·rcases hbn it.1 (mem_blks hm) with h3 | h3
  ·obtain ⟨jt, hj, ej⟩ := List.mem_map.1 h3
   exact ⟨fun e => (h.away jt hj).1 (e.trans (by rw [← ej])), fun e => (h.away jt hj).2 (e.trans (by rw [← ej]))⟩
  ·exact ⟨fun e => by have := (h.sites.lt _ e).2; omega, fun e => by have := (h.mail.lt _ e).2; omega⟩
 ·unfold ownB at hg ⊢
  rcases List.mem_append.1 hg with hg | hg
  ·exact (hbn g hg).imp (List.mem_append_left _) id
  ·exact Or.inl (List.mem_append_right _ hg)
theorem NetR.count {B : Nat} {w : World} {N : Nx} (h : NetR B w N) (x : Int) : NetTo B w N { N with begun := x } (w.setCell ⟨N.p, 2, none⟩ (.int .i64 x)) := by
 have hmp : ((N.p, Ds.cells 68 #[N.sv, N.lv, .int .i64 N.begun]) : Nat × Ds) ∈ netIt N := by unfold netIt; exact List.mem_cons_self
 have i6 : Its B w ([] ++ [(N.p, .cells 68 #[N.sv, N.lv, .int .i64 N.begun])] ++ N.sites.flatMap siteIt) := by
  have := h.its
  unfold netIt at this; simpa using this
 have i7 := i6.turn (D' := .cells 68 #[N.sv, N.lv, .int .i64 x]) ((Gb.refl N.p w).put 2 (.int .i64 x)) (h.blk.put 2 _)
 have e : blks (netIt { N with begun := x }) = blks (netIt N) := by unfold netIt blks; simp
 refine ⟨⟨by unfold netIt; simpa using i7, ownsRow_setCell_other (a := ⟨N.p, 2, none⟩) h.sites (h.away _ hmp).1 _, ownsRow_setCell_other (a := ⟨N.p, 2, none⟩) h.mail (h.away _ hmp).2 _, h.spot, fun it hm => ?_, by simp [World.setCell]; exact h.le⟩, (Ch.refl).set (p := ⟨N.p, 2, none⟩) (List.mem_append_left _ (mem_blks hmp)) _, fun g hg => Or.inl ?_, rfl, rfl⟩
 ·have hm2 : it.1 ∈ blks (netIt N) := by rw [← e]; exact mem_blks hm
  obtain ⟨jt, hj, ej⟩ := List.mem_map.1 hm2
  exact ⟨fun e => (h.away jt hj).1 (e.trans (by rw [← ej])), fun e => (h.away jt hj).2 (e.trans (by rw [← ej]))⟩
 ·unfold ownB at hg ⊢
  rw [e] at hg
  exact hg

set_option maxRecDepth 100000
set_option maxHeartbeats 80000000

def BegP (B : Nat) (N : Nx) (i : Int) (ps : List Mv) (w : World) (e : Ending) (w' : World) : Prop :=
 (refD N i ≠ 0 ∧ e = .returned (.tuple #[.int .i64 0, .int .i64 (refD N i)]) ∧ Gr w w') ∨
 (refD N i = 0 ∧ okTx N ps = false ∧ e = .returned (.tuple #[.int .i64 0, .int .i64 2]) ∧ Gr w w') ∨
 (refD N i = 0 ∧ okTx N ps = true ∧ 256 ≤ N.begun ∧ e = .returned (.tuple #[.int .i64 0, .int .i64 5]) ∧ Gr w w') ∨
 (refD N i = 0 ∧ okTx N ps = true ∧ N.begun < 256 ∧ e = .returned (.tuple #[.int .i64 (N.begun + 1), .int .i64 0]) ∧ ∃ (k : Nat) (s : Sx) (d : Dl) (N' : Nx), i = (k : Int) ∧ N.sites[k]? = some s ∧ d.parts = ps ∧ d.miss = missOf ps ∧
   N'.sites = N.sites.set k { s with opn := s.opn ++ [(N.begun + 1, d)] } ∧ N'.mail = N.mail ++ (wrL s 1 (N.begun + 1) ps).take (1024 - N.mail.length) ∧ N'.begun = N.begun + 1 ∧ NetTo B w N N' w')
theorem refD_zero {N : Nx} {i : Int} (h : refD N i = 0) : ∃ (k : Nat) (s : Sx), i = (k : Int) ∧ N.sites[k]? = some s ∧ k < N.sites.length ∧ s.up = true := by
 unfold refD at h
 rcases refS_cases N i with h1 | h1 | ⟨h1, k, s, rfl, hk, hkn⟩
 ·rw [h1] at h; simp at h
 ·rw [h1] at h; simp at h
 ·refine ⟨k, s, rfl, hk, hkn, ?_⟩
  rw [h1] at h
  simp [hk] at h
  exact h

theorem Begin_any {B : Nat} {N : Nx} (i : Int) (A : Option Addr) (n c : Nat) (ps : List Mv) (w : World) (h : NetR B w N) (h8 : N.sites.length ≤ 8) (hml : N.mail.length ≤ 1024) (hb0 : 0 ≤ N.begun) (hn : ps.length = n) (hl : n ≤ 512)
 (hp : ∀ W, Ch (ownB N) w W → Pts W A ps) (hI : ∀ p ∈ ps, I64 p.1) (hnew : ∀ s ∈ N.sites, mget s.opn (N.begun + 1) = none) :
 Calls Tryz.prog 16 #[.pointer (some ⟨N.p, 0, none⟩), .int .i64 i, .slice A n c] w (BegP B N i ps w) := by
 have HN := Lib.hid hn
 have HP := Lib.hid hp
 have HH := Lib.hid h
 have HI := Lib.hid hI
 have HNEW := Lib.hid hnew
 have H8 := Lib.hid h8
 have HML := Lib.hid hml
 have HD := Lib.hid (refDown_any h i)
 have HT := Lib.hid (isTx_any A n c ps w h h8 hn hl (hp w Ch.refl))
 have n2 : w.cell? ⟨N.p, 2, none⟩ = some (.int .i64 N.begun) := h.blk.cell 2
 have f2 : w.frozen? ⟨N.p, 2, none⟩ = false := h.blk.free 2
 by_cases hd : refD N i = 0
 ·rw [hd] at HD
  obtain ⟨k, s, rfl, hk, hkn, -⟩ := refD_zero hd
  cases htx : okTx N ps with
  | false =>
    rw [htx] at HT
    have HQ := Lib.hid (And.intro hd htx)
    clear hn hp h hI hnew h8 hml hd htx hk hkn
    go_enter Tryz.func16, Tryz.ntmps16
    go_wp2_with fail
    refine HD.out.mono ?_
    rintro e w1 ⟨rfl, rfl⟩
    go_wp2_with fail
    refine HT.out.mono ?_
    rintro e w2 ⟨rfl, hg2⟩
    go_wp2_with fail
    refine bodyPost_ret (v := .tuple #[.int .i64 0, .int .i64 2]) ?_ ?_ ?_
    ·simp [results, Tryz.results16, go_sem]
    ·rfl
    ·exact Or.inr (Or.inl ⟨HQ.out.1, HQ.out.2, rfl, hg2⟩)
  | true =>
    rw [htx] at HT
    have HQ := Lib.hid (And.intro hd htx)
    by_cases hf : 256 ≤ N.begun
    ·clear hn hp h hI hnew h8 hml hd htx hk hkn
     go_enter Tryz.func16, Tryz.ntmps16
     go_wp2_with fail
     refine HD.out.mono ?_
     rintro e w1 ⟨rfl, rfl⟩
     go_wp2_with fail
     refine HT.out.mono ?_
     rintro e w2 ⟨rfl, hg2⟩
     replace n2 := hg2.keep n2
     go_wp2_with fail
     refine bodyPost_ret (v := .tuple #[.int .i64 0, .int .i64 5]) ?_ ?_ ?_
     ·simp [results, Tryz.results16, go_sem]
     ·rfl
     ·exact Or.inr (Or.inr (Or.inl ⟨HQ.out.1, HQ.out.2, hf, rfl, hg2⟩))
    ·have h1n : 1 ≤ n := by
      cases ps with
      | nil => simp [okTx] at htx
      | cons x l => simp at hn; omega
     have hI1 : I64 (N.begun + 1) := by unfold I64; omega
     have hw1 : IntKind.i64.wrap (N.begun + 1) = N.begun + 1 := IntWalk.i64_in _ (by omega)
     have hki : (k : Int) < (N.sites.length : Int) := by omega
     have hk0 : (0 : Int) ≤ (k : Int) := by omega
     have HK := Lib.hid (And.intro hk hkn)
     have HF := Lib.hid hf
     have hf' : N.begun < 256 := by omega
     clear hn hp h hI hnew h8 hml hd htx hk hkn
     obtain ⟨x, hx⟩ : ∃ x, N.begun = x := ⟨_, rfl⟩
     rw [hx] at n2 hI1 hw1 hf hf' hb0
     have HX := Lib.hid hx
     clear hx
     go_enter Tryz.func16, Tryz.ntmps16
     go_wp2_with fail
     refine HD.out.mono ?_
     rintro e w1 ⟨rfl, rfl⟩
     go_wp2_with fail
     refine HT.out.mono ?_
     rintro e w2 ⟨rfl, hg2⟩
     replace n2 := hg2.keep n2
     have f2 : w2.frozen? ⟨N.p, 2, none⟩ = false := (HH.out.keep hg2).blk.free 2
     go_upto_region 9 with fail
     have HT3 := Lib.hid (NetTo.pre ((HH.out.keep hg2).count (x + 1)) hg2)
     generalize w2.setCell _ _ = w3 at HT3 ⊢
     have hdr := (Gr.refl w3).drew
     have HND := Lib.hid (HT3.out.net.keep hdr)
     have HIS := Lib.hid (HND.out.siteIts (k := k) (s := s) HK.out.1)
     have HPW : Hid (∀ W, Ch (blks (siteIt s)) w3.drew W → Pts W A ps) := Lib.hid (fun W hW => HP.out W ((HT3.out.ch.gr hdr).trans hW (fun g hg => Or.inl (by unfold ownB; exact List.mem_append_left _ (site_own HK.out.1 g hg)))))
     have HNW := Lib.hid (by have := HNEW.out s (List.mem_of_getElem? HK.out.1); rw [HX.out] at this; exact this : mget s.opn (x + 1) = none)
     have HWL : Hid ((wrL s 1 (x + 1) ps).length = n) := Lib.hid (by unfold wrL; rw [List.length_map, HN.out])
     have n0 := HND.out.blk.cell 0
     obtain ⟨b, off, c1, e1, nb⟩ := HND.out.spot5 (k := k) (s := s) HK.out.1
     simp only [List.getElem?_toArray, List.getElem?_cons_zero] at n0
     rw [e1] at n0
     have m2 : w3.drew.cell? ⟨N.p, 2, none⟩ = some (.int .i64 (x + 1)) := HND.out.blk.cell 2
     clear n2 f2 e1
     refine wp_region_held_drew (S := (fun _ => True)) ?_ ?_ (fun hHeld => ?_)
     ·kernel_rfl
     ·((try dsimp only); (try trivial))
     refine ti 0 (some 31) rfl rfl ?_; try simp only [Act.put, lA, lB, lC]
     refine ti 1 (some 32) rfl rfl ?_; try simp only [Act.put, lA, lB, lC]
     refine ti 2 (some 33) rfl rfl ?_; try simp only [Act.put, lA, lB, lC]
     refine ti 3 (some 34) rfl rfl ?_; try simp only [Act.put, lA, lB, lC]
     refine ti 5 (some 36) rfl rfl ?_; try simp only [Act.put, lA, lB, lC]
     refine ti 8 (some 39) rfl rfl ?_; try simp only [Act.put, lA, lB, lC]
     refine ti 9 (some 40) rfl rfl ?_; try simp only [Act.put, lA, lB, lC]
     refine ti 10 (some 41) rfl rfl ?_; try simp only [Act.put, lA, lB, lC]
     refine ti 12 (some 43) rfl rfl ?_; try simp only [Act.put, lA, lB, lC]
     refine tr [4, 11] (.cons rfl (fun K hK => ?_) (.cons rfl (fun K hK => ?_) .nil))
     go_simp
     refine hK.out _ _ ?_ (fun hHeld => ?_)
     ·((try dsimp only); (try trivial))
     clear hK K; try simp only [Act.put, lA, lB, lC]
     refine ti 6 (some 37) rfl rfl ?_; try simp only [Act.put, lA, lB, lC]
     refine tr [7, 11] (.cons rfl (fun K hK => ?_) (.cons rfl (fun K hK => ?_) .nil))
     go_simp
     refine hK.out _ _ ?_ (fun hHeld => ?_)
     ·((try dsimp only); (try trivial))
     clear hK K; try simp only [Act.put, lA, lB, lC]
     refine tr [11] (.cons rfl (fun K hK => ?_) .nil)
     go_simp
     refine hK.out _ _ ?_ (fun hHeld => ?_)
     ·((try dsimp only); (try trivial))
     clear hK K; try simp only [Act.put, lA, lB, lC]
     refine tr [13] (.cons rfl (fun K hK => ?_) .nil)
     go_simp
     first | (go_at_call 47; (with_reducible refine (begin5_any (x + 1) A n c ps _ HIS.out hI1 HNW.out HN.out hl h1n HPW.out HI.out).mono ?_); rintro e w5 ⟨d, hd1, hd2, hst⟩; obtain ⟨⟨A5, c5, rfl, hr5, hc5⟩, hi5, hch5, hp5, hbk5⟩ := hst; rw [HWL.out] at hc5 ⊢; have HN5 := Lib.hid (HND.out.step (k := k) HK.out.1 hi5 hch5 hp5 hbk5); have HR5 := Lib.hid hr5; have HDD := Lib.hid (And.intro hd1 hd2); clear hd1 hd2 hi5 hch5 hp5 hbk5 hr5)
     refine hK.out _ _ ?_ (fun hHeld => ?_)
     ·((try dsimp only); (try trivial))
     clear hK K; try simp only [Act.put, lA, lB, lC]
     refine tr [14] (.cons rfl (fun K hK => ?_) .nil)
     go_simp
     first | (go_at_call 46; (with_reducible refine (send5_any A5 n c5 (wrL s 1 (x + 1) ps) _ HN5.out.net HWL.out (by omega) hc5 HML.out HR5.out).mono ?_); rintro e w6 ⟨rfl, lv', hto⟩; have HTO := Lib.hid hto; clear hto)
     refine hK.out _ _ ?_ (fun hHeld => ?_)
     ·((try dsimp only); (try trivial))
     clear hK K; try simp only [Act.put, lA, lB, lC]
     refine wpAnyH_done ?_ ?_ _
     ·kernel_rfl
     rotate_left
     go_simp
     refine hK.out _ _ ?_ (fun hHeld => ?_)
     ·((try dsimp only); (try trivial))
     clear hK K; try simp only [Act.put, lA, lB, lC]
     refine tr [7] (.cons rfl (fun K hK => ?_) .nil)
     go_simp
     refine hK.out _ _ ?_ (fun hHeld => ?_)
     ·((try dsimp only); (try trivial))
     clear hK K; try simp only [Act.put, lA, lB, lC]
     refine tr [13] (.cons rfl (fun K hK => ?_) .nil)
     go_simp
     first | (go_at_call 47; (with_reducible refine (begin5_any (x + 1) A n c ps _ HIS.out hI1 HNW.out HN.out hl h1n HPW.out HI.out).mono ?_); rintro e w5 ⟨d, hd1, hd2, hst⟩; obtain ⟨⟨A5, c5, rfl, hr5, hc5⟩, hi5, hch5, hp5, hbk5⟩ := hst; rw [HWL.out] at hc5 ⊢; have HN5 := Lib.hid (HND.out.step (k := k) HK.out.1 hi5 hch5 hp5 hbk5); have HR5 := Lib.hid hr5; have HDD := Lib.hid (And.intro hd1 hd2); clear hd1 hd2 hi5 hch5 hp5 hbk5 hr5)
     refine hK.out _ _ ?_ (fun hHeld => ?_)
     ·((try dsimp only); (try trivial))
     clear hK K; try simp only [Act.put, lA, lB, lC]
     refine tr [14] (.cons rfl (fun K hK => ?_) .nil)
     go_simp
     first | (go_at_call 46; (with_reducible refine (send5_any A5 n c5 (wrL s 1 (x + 1) ps) _ HN5.out.net HWL.out (by omega) hc5 HML.out HR5.out).mono ?_); rintro e w6 ⟨rfl, lv', hto⟩; have HTO := Lib.hid hto; clear hto)
     refine hK.out _ _ ?_ (fun hHeld => ?_)
     ·((try dsimp only); (try trivial))
     clear hK K; try simp only [Act.put, lA, lB, lC]
     refine wpAnyH_done ?_ ?_ _
     ·kernel_rfl
     rotate_left
     go_simp
     refine hK.out _ _ ?_ (fun hHeld => ?_)
     ·((try dsimp only); (try trivial))
     clear hK K; try simp only [Act.put, lA, lB, lC]
     refine tr [4] (.cons rfl (fun K hK => ?_) .nil)
     go_simp
     refine hK.out _ _ ?_ (fun hHeld => ?_)
     ·((try dsimp only); (try trivial))
     clear hK K; try simp only [Act.put, lA, lB, lC]
     refine ti 6 (some 37) rfl rfl ?_; try simp only [Act.put, lA, lB, lC]
     refine tr [7] (.cons rfl (fun K hK => ?_) .nil)
     go_simp
     refine hK.out _ _ ?_ (fun hHeld => ?_)
     ·((try dsimp only); (try trivial))
     clear hK K; try simp only [Act.put, lA, lB, lC]
     refine tr [13] (.cons rfl (fun K hK => ?_) .nil)
     go_simp
     first | (go_at_call 47; (with_reducible refine (begin5_any (x + 1) A n c ps _ HIS.out hI1 HNW.out HN.out hl h1n HPW.out HI.out).mono ?_); rintro e w5 ⟨d, hd1, hd2, hst⟩; obtain ⟨⟨A5, c5, rfl, hr5, hc5⟩, hi5, hch5, hp5, hbk5⟩ := hst; rw [HWL.out] at hc5 ⊢; have HN5 := Lib.hid (HND.out.step (k := k) HK.out.1 hi5 hch5 hp5 hbk5); have HR5 := Lib.hid hr5; have HDD := Lib.hid (And.intro hd1 hd2); clear hd1 hd2 hi5 hch5 hp5 hbk5 hr5)
     refine hK.out _ _ ?_ (fun hHeld => ?_)
     ·((try dsimp only); (try trivial))
     clear hK K; try simp only [Act.put, lA, lB, lC]
     refine tr [14] (.cons rfl (fun K hK => ?_) .nil)
     go_simp
     first | (go_at_call 46; (with_reducible refine (send5_any A5 n c5 (wrL s 1 (x + 1) ps) _ HN5.out.net HWL.out (by omega) hc5 HML.out HR5.out).mono ?_); rintro e w6 ⟨rfl, lv', hto⟩; have HTO := Lib.hid hto; clear hto)
     refine hK.out _ _ ?_ (fun hHeld => ?_)
     ·((try dsimp only); (try trivial))
     clear hK K; try simp only [Act.put, lA, lB, lC]
     refine wpAnyH_done ?_ ?_ _
     ·kernel_rfl
     rotate_left
     all_goals
      have HFIN := Lib.hid (NetTo.trans (HT3.out.trans (NetTo.pre HN5.out hdr)) HTO.out)
      have m3 : w6.cell? ⟨N.p, 2, none⟩ = some (.int .i64 (x + 1)) := HFIN.out.net.blk.cell 2
      obtain rfl := HX.out
      clear m2 nb n0 hw1 hdr hg2
      go_wp2_with fail
      refine bodyPost_ret (v := .tuple #[.int .i64 (N.begun + 1), .int .i64 0]) ?_ ?_ ?_
      ·simp [results, Tryz.results16, go_sem]
      ·rfl
      ·exact Or.inr (Or.inr (Or.inr ⟨HQ.out.1, HQ.out.2, hf', rfl, k, s, d, _, rfl, HK.out.1, HDD.out.1, HDD.out.2, rfl, rfl, rfl, HFIN.out⟩))
 ·obtain ⟨r, hr⟩ : ∃ r, refD N i = r := ⟨_, rfl⟩
  rw [hr] at HD hd
  have HR := Lib.hid hr
  have hb : (r == 0) = false := by simp [hd]
  clear hn hp h hI hnew h8 hml hr
  go_enter Tryz.func16, Tryz.ntmps16
  go_wp2_with fail
  refine HD.out.mono ?_
  rintro e w1 ⟨rfl, rfl⟩
  go_wp2_with fail
  refine bodyPost_ret (v := .tuple #[.int .i64 0, .int .i64 r]) ?_ ?_ ?_
  ·simp [results, Tryz.results16, go_sem]
  ·rfl
  ·exact Or.inl ⟨by rw [HR.out]; exact hd, by rw [HR.out], Gr.refl _⟩

end Go.Proofs.YtnoeiocbmhkmeaaGreat
