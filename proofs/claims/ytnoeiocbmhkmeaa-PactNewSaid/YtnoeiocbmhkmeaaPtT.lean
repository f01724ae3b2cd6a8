/- Layer 5: is it a transaction? -/
import Derived.Test.YtnoeiocbmhkmeaaPtK
namespace Go.Proofs.Ytnoeiocbmhkmeaa
open Go.RowKit
set_option linter.unusedSimpArgs false

def badC (c : Int) : Bool := decide (c = 0) || decide (c < -1099511627776) || decide (1099511627776 < c)
/-- Is the rest in order, if these sites are named and this is the sum? -/
def okFrom (N : Nx) : List Int → Int → List Mv → Bool
  | _, sm, [] => decide (sm = 0)
  | seen, sm, p :: r => if decide (refS N p.1 ≠ 0) || decide (p.1 ∈ seen) then false else if badC p.2 then false else okFrom N (p.1 :: seen) (sm + p.2) r
def okTx (N : Nx) (ps : List Mv) : Bool := !ps.isEmpty && okFrom N [] 0 ps
def namedA (seen : List Int) : Array Value := ((List.range 8).map fun (j : Nat) => Value.bool (decide ((j : Int) ∈ seen))).toArray
theorem namedA_get (seen : List Int) {k : Nat} (hk : k < 8) : (namedA seen)[k]? = some (.bool (decide ((k : Int) ∈ seen))) := by
  unfold namedA
  rw [List.getElem?_toArray, List.getElem?_map, List.getElem?_range hk]
  rfl
theorem namedA_put (seen : List Int) (k : Nat) : (namedA seen).setIfInBounds k (.bool true) = namedA ((k : Int) :: seen) := by
  apply Array.ext_getElem?
  intro j
  rw [Array.getElem?_setIfInBounds]
  have hs : (namedA seen).size = 8 := by unfold namedA; simp
  by_cases hj : j < 8
  · rw [namedA_get _ hj, namedA_get _ hj, hs]
    split
    · rename_i h
      subst h
      rw [if_pos hj]
      simp
    · rename_i h
      have h2 : ¬ ((j : Int) = (k : Int)) := by omega
      simp [h2]
  · have e1 : (namedA seen)[j]? = none := Array.getElem?_eq_none (by omega)
    have e2 : (namedA ((k : Int) :: seen))[j]? = none := Array.getElem?_eq_none (by unfold namedA; simp; omega)
    rw [e1, e2, hs]
    split
    · rw [if_neg (by omega)]
    · rfl
theorem okFrom_step {N : Nx} {seen : List Int} {sm : Int} {ps : List Mv} {i : Nat} {p : Mv} (h : ps[i]? = some p) :
    okFrom N seen sm (ps.drop i) = if decide (refS N p.1 ≠ 0) || decide (p.1 ∈ seen) then false else if badC p.2 then false else okFrom N (p.1 :: seen) (sm + p.2) (ps.drop (i + 1)) := by
  rw [List.drop_eq_getElem_cons (List.getElem?_eq_some_iff.1 h).1]
  have e := (List.getElem?_eq_some_iff.1 h).2
  rw [e]
  rfl

set_option maxRecDepth 100000 in
set_option maxHeartbeats 8000000 in
theorem isTx_any {B : Nat} {N : Nx} (A : Option Addr) (n c : Nat) (ps : List Mv) (w : World) (h : NetR B w N) (h8 : N.sites.length ≤ 8) (hn : ps.length = n) (hl : n ≤ 512) (hp : Pts w A ps) :
    Calls Try.prog 41 #[.pointer (some ⟨N.p, 0, none⟩), .slice A n c] w fun e w' => e = .returned (.bool (okTx N ps)) ∧ Gr w w' := by
  obtain ⟨r, hr⟩ : ∃ r, okTx N ps = r := ⟨_, rfl⟩
  rw [hr]
  unfold okTx at hr
  by_cases h0 : n = 0
  · subst h0
    obtain rfl := List.eq_nil_of_length_eq_zero hn
    have HR := Lib.hid hr
    clear hr h hn hp
    go_enter Try.func41, Try.ntmps41
    go_wp2_with fail
    go_ret
    exact ⟨ret_bool (by rw [← HR.out]; rfl), Gr.refl _⟩
  · have hr1 : okFrom N [] 0 ps = r := by
      rw [← hr]
      cases ps with
      | nil => simp at hn; omega
      | cons x l => simp
    have HN := Lib.hid hn
    have HP := Lib.hid hp
    have HR := Lib.hid hr1
    have HU := Lib.hid (fun W (hW : Gr w W) (i : Int) => refSite_any (h.keep hW) i)
    have HC := Lib.hid (fun (i : Int) => refS_cases N i)
    have H8 := Lib.hid h8
    have hn0 : 0 < n := by omega
    have hnb : ((n : Int) == 0) = false := by simp; omega
    clear hr hr1 h hn hp h8
    go_enter Try.func41, Try.ntmps41
    go_upto_region 4 with fail
    generalize hW1 : World.alloc w _ = w1
    have hg1 : Gr w w1 := by rw [← hW1]; exact (Gr.refl w).alloc _
    have hB1 : Blk w1 w.heap.size 101 (namedA []) := by rw [← hW1]; exact Blk.new w _ _ rfl
    obtain ⟨G, hG⟩ : ∃ G, w.heap.size = G := ⟨_, rfl⟩
    rw [hG] at hB1 ⊢
    have HGG := Lib.hid hG
    have HB1 := Lib.hid hB1
    clear hW1 hB1 hG
    go_wp2_with fail
    go_loopw [6, 14] (fun sm z wr => ∃ (i : Nat) (seen : List Int) (s : Int), i ≤ n ∧ z = .int .i64 (i : Int) ∧ sm = .int .i64 s ∧ Hid (okFrom N seen s (ps.drop i) = r) ∧ Hid (Blk wr G 101 (namedA seen)) ∧ (-1099511627776 * (i : Int) ≤ s ∧ s ≤ 1099511627776 * (i : Int)) ∧ Gr w wr) (fun _ z _ => n - (intOf z).toNat)
    case atStart => exact ⟨0, [], 0, Nat.zero_le _, rfl, rfl, Lib.hid (by rw [List.drop_zero]; exact HR.out), HB1, ⟨by omega, by omega⟩, hg1⟩
    case round =>
      obtain ⟨i, seen, s, hin, rfl, rfl, hok, hB, ⟨hs1, hs2⟩, hgr⟩ := hrel
      clear HB1 hg1
      by_cases hlt : i < n
      · obtain ⟨b, off, rfl, x0, x1⟩ := Pts_at (HP.out.keep hgr) (k := i) (by rw [HN.out]; exact hlt)
        have hpk : ps[i]? = some (ps.getD i (0, 0)) := getD_of (0, 0) (by rw [HN.out]; exact hlt)
        have HE := Lib.hid ((okFrom_step (N := N) (seen := seen) (sm := s) hpk).symm.trans hok.out)
        generalize ps.getD i (0, 0) = p at *
        obtain ⟨p1, p2⟩ := p
        dsimp only at x0 x1 HE
        have hki : (i : Int) < (n : Int) := by omega
        clear hpk
        go_upto_region 8 with fail
        generalize hW : World.alloc wr _ = w5
        obtain ⟨hgW, k0, k1⟩ := box2q hW
        have hZG : wr.heap.size ≠ G := by have := hB.out.lt; omega
        generalize wr.heap.size = Z at k0 k1 hZG ⊢
        have hgr5 := hgr.trans hgW
        have HB5 := Lib.hid (hB.out.keep hgW)
        have HU5 := Lib.hid (HU.out w5 hgr5 p1)
        have HZG := Lib.hid hZG
        clear hW hgW hgr hB x0 x1 hZG
        rcases HC.out p1 with h1 | h1 | ⟨h1, k, st, rfl, hk, hkn⟩
        · rw [h1] at HU5
          have HF : Hid (false = r) := Lib.hid (by have h2 := HE.out; rw [h1] at h2; simpa using h2)
          go_wp2_with fail
          refine HU5.out.mono ?_
          rintro e w6 ⟨rfl, rfl⟩
          go_wp2_with fail
          go_ret
          exact ⟨ret_bool (by rw [← HF.out]), hgr5⟩
        · rw [h1] at HU5
          have HF : Hid (false = r) := Lib.hid (by have h2 := HE.out; rw [h1] at h2; simpa using h2)
          go_wp2_with fail
          refine HU5.out.mono ?_
          rintro e w6 ⟨rfl, rfl⟩
          go_wp2_with fail
          go_ret
          exact ⟨ret_bool (by rw [← HF.out]), hgr5⟩
        · rw [h1] at HU5
          have hk8 : k < 8 := by have := H8.out; omega
          have hk8i : (k : Int) < 8 := by omega
          have hk0 : (0 : Int) ≤ (k : Int) := by omega
          have g0 : w5.cell? ⟨G, k, none⟩ = some (.bool (decide ((k : Int) ∈ seen))) := (HB5.out.cell k).trans (namedA_get seen hk8)
          clear hk
          by_cases hm : (k : Int) ∈ seen
          · rw [decide_eq_true hm] at g0
            have HF : Hid (false = r) := Lib.hid (by have h2 := HE.out; rw [h1] at h2; simpa [hm] using h2)
            go_wp2_with fail
            refine HU5.out.mono ?_
            rintro e w6 ⟨rfl, rfl⟩
            go_wp2_with fail
            go_ret
            exact ⟨ret_bool (by rw [← HF.out]), hgr5⟩
          · rw [decide_eq_false hm] at g0
            by_cases c0 : p2 = 0
            · subst c0
              have HF : Hid (false = r) := Lib.hid (by have h2 := HE.out; rw [h1] at h2; have h3 : badC 0 = true := rfl; simpa [hm, h3] using h2)
              go_wp2_with fail
              refine HU5.out.mono ?_
              rintro e w6 ⟨rfl, rfl⟩
              go_wp2_with fail
              go_ret
              exact ⟨ret_bool (by rw [← HF.out]), hgr5⟩
            · by_cases c1 : p2 < -1099511627776
              · have HF : Hid (false = r) := Lib.hid (by have h2 := HE.out; rw [h1] at h2; have h3 : badC p2 = true := (by unfold badC; simp; omega); simpa [hm, h3] using h2)
                go_wp2_with fail
                refine HU5.out.mono ?_
                rintro e w6 ⟨rfl, rfl⟩
                go_wp2_with fail
                go_ret
                exact ⟨ret_bool (by rw [← HF.out]), hgr5⟩
              · by_cases c2 : 1099511627776 < p2
                · have HF : Hid (false = r) := Lib.hid (by have h2 := HE.out; rw [h1] at h2; have h3 : badC p2 = true := (by unfold badC; simp; omega); simpa [hm, h3] using h2)
                  go_wp2_with fail
                  refine HU5.out.mono ?_
                  rintro e w6 ⟨rfl, rfl⟩
                  go_wp2_with fail
                  go_ret
                  exact ⟨ret_bool (by rw [← HF.out]), hgr5⟩
                · have HT : Hid (okFrom N ((k : Int) :: seen) (s + p2) (ps.drop (i + 1)) = r) := Lib.hid (by have h2 := HE.out; rw [h1] at h2; have h3 : badC p2 = false := (by unfold badC; simp [c0, c1, c2]); simpa [hm, h3] using h2)
                  have g1 := HB5.out.free k
                  have b0 : (p2 == 0) = false := by simp [c0]
                  have b1 : decide (p2 < -1099511627776) = false := decide_eq_false c1
                  have b2 : decide (1099511627776 < p2) = false := decide_eq_false c2
                  have w1e : IntKind.i64.wrap (s + p2) = s + p2 := IntWalk.i64_in _ (by omega)
                  go_wp2_with fail
                  refine HU5.out.mono ?_
                  rintro e w6 ⟨rfl, rfl⟩
                  have hgr7 := hgr5.setCell (p := ⟨G, k, none⟩) (Nat.le_of_eq HGG.out) (.bool true)
                  have HB7 : Hid (Blk (w6.setCell ⟨G, k, none⟩ (.bool true)) G 101 (namedA ((k : Int) :: seen))) := Lib.hid (by have h2 := HB5.out.put k (.bool true); rw [namedA_put] at h2; exact h2)
                  have k1b : (w6.setCell ⟨G, k, none⟩ (.bool true)).cell? ⟨Z, 1, none⟩ = some (.int .i64 p2) := cell_other k1 HZG.out
                  go_wp2_with fail
                  go_roundw
                  case rel => exact ⟨i + 1, (k : Int) :: seen, s + p2, by omega, by go_num, rfl, HT, HB7, ⟨by omega, by omega⟩, hgr7⟩
                  case measure => simp [intOf]; omega

      · obtain rfl : i = n := by omega
        have HF : Hid (decide (s = 0) = r) := Lib.hid (by have h2 := hok.out; rw [List.drop_of_length_le (by rw [HN.out]; exact Nat.le_refl _)] at h2; exact h2)
        go_wp2_with fail
        go_ret
        exact ⟨ret_bool (by rw [← HF.out]; first | rfl | simp), hgr⟩

end Go.Proofs.Ytnoeiocbmhkmeaa
