/- Layer 2: the law's own copy of a table. -/
import Derived.Test.YtcojionipffanabCSome
import Derived.Test.YtcojionipffanabCTable
import Derived.StillTailTactics
import Derived.Deep.CutRange
namespace Go.Proofs.Ytcojionipffanab
open Go.RowKit
set_option linter.unusedSimpArgs false

/-- A table as it comes in: rows with their capacities. -/
def RdT (w : World) (A : Option Addr) (tb : List (List Int)) : Prop :=
  ∀ i row, tb[i]? = some row → ∃ b off Ai ci, A = some ⟨b, off, none⟩ ∧ w.cell? ⟨b, off + i, none⟩ = some (.slice Ai row.length ci) ∧ row.length ≤ ci ∧ ci ≤ maxLen ∧ (Ai = none → ci = 0) ∧ Ints w Ai row
theorem RdT.keep {w w' : World} {A : Option Addr} {tb : List (List Int)} (h : RdT w A tb) (hg : Gr w w') : RdT w' A tb := fun i row hr => by
  obtain ⟨b, off, Ai, ci, e, hc, h1, h2, h3, hI⟩ := h i row hr
  exact ⟨b, off, Ai, ci, e, hg.keep hc, h1, h2, h3, hI.keep hg⟩
/-- Rows of different kinds of elements lie apart. -/
theorem owns_apart {w : World} {base base' size size' n n' : Nat} {e e' : TypeId} {v v' : Value} {xs xs' : List Value} (h : w.ownsRow base e size v n xs) (h' : w.ownsRow base' e' size' v' n' xs') (hne : e ≠ e') : v.ownBlock = none ∨ v.ownBlock ≠ v'.ownBlock := by
  rcases h.2 with ⟨rfl, _⟩ | ⟨g, cap, cur, rfl, _, hh, _⟩
  · exact Or.inl rfl
  · refine Or.inr fun e => ?_
    rcases h'.2 with ⟨rfl, _⟩ | ⟨g', cap', cur', rfl, _, hh', _⟩
    · simp [Value.ownBlock] at e
    · obtain rfl : g = g' := by simpa [Value.ownBlock] using e
      rw [hh] at hh'
      injection hh' with hh'
      injection hh' with _ ht
      exact hne ht
def cutTb (tb : List (List Int)) : List (List Int) := (tb.take 50).map fun r => r.take 50
/-- The copy in the making: the rows' slices, each its own. -/
def TabS (w0 w : World) (R : List (List Int)) (k : Nat) (vs : List Value) : Prop := ∀ j row, j < k → R[j]? = some row → ∃ A c, vs[j]? = some (.slice A row.length c) ∧ w.ownsRow w0.heap.size 3 1 (.slice A row.length c) row.length (flatE enc1 row)
theorem TabS.keep {w0 w w' : World} {R : List (List Int)} {k : Nat} {vs : List Value} (h : TabS w0 w R k vs) (hg : Gr w w') : TabS w0 w' R k vs := fun j row hj hr => by
  obtain ⟨A, c, h1, h2⟩ := h j row hj hr
  exact ⟨A, c, h1, owns_gr h2 hg⟩
theorem TabS.grown {w0 w w' : World} {R : List (List Int)} {k n : Nat} {vs xs : List Value} {v : Value} (h : TabS w0 w R k vs) (ho : w.ownsRow w0.heap.size 41 1 v n xs) (hg : w.grownBy w' v.ownBlock) : TabS w0 w' R k vs := fun j row hj hr => by
  obtain ⟨A, c, h1, h2⟩ := h j row hj hr
  exact ⟨A, c, h1, h2.kept hg (owns_apart h2 ho (by decide))⟩
theorem TabS.snoc {w0 w : World} {R : List (List Int)} {k : Nat} {vs : List Value} {A : Option Addr} {c : Nat} {row : List Int} (h : TabS w0 w R k vs) (hl : vs.length = k) (hr : R[k]? = some row) (ho : w.ownsRow w0.heap.size 3 1 (.slice A row.length c) row.length (flatE enc1 row)) :
    TabS w0 w R (k + 1) (vs ++ [.slice A row.length c]) := fun j row' hj hr' => by
  by_cases e : j = k
  · subst e
    obtain rfl : row = row' := by rw [hr] at hr'; exact Option.some.inj hr'
    exact ⟨A, c, by rw [List.getElem?_append_right (by omega), hl, Nat.sub_self]; rfl, ho⟩
  · obtain ⟨A', c', h1, h2⟩ := h j row' (by omega) hr'
    exact ⟨A', c', by rw [List.getElem?_append_left (by omega)]; exact h1, h2⟩
def tabPost (R : List (List Int)) (w : World) (e : Ending) (w' : World) : Prop := ∃ A c, e = .returned (.slice A R.length c) ∧ R.length ≤ c ∧ RdRows w' A R ∧ Gr w w'
theorem tab_done {w w1 : World} {R : List (List Int)} {k : Nat} {v : Value} {vs : List Value} (hk : R.length = k) (ho : w1.ownsRow w.heap.size 41 1 v k vs) (hT : TabS w w1 R k vs) (hg : Gr w w1) : tabPost R w (.returned v) w1 := by
  have hl : vs.length = k := by have := ho.1; omega
  rcases ho.2 with ⟨rfl, h0⟩ | ⟨g, cap, cur, rfl, _, _, hcap, _⟩
  · have : R = [] := List.eq_nil_of_length_eq_zero (by omega)
    subst this
    exact ⟨none, 0, rfl, Nat.le_refl _, fun i row h => by simp at h, hg⟩
  · refine ⟨some ⟨g, 0, none⟩, cap, by rw [hk], by omega, fun i row hr => ?_, hg⟩
    have hi : i < k := by have := (List.getElem?_eq_some_iff.1 hr).1; omega
    obtain ⟨A, c, h1, h2⟩ := hT i row hi hr
    refine ⟨g, 0, A, c, rfl, by rw [Nat.zero_add, ho.cellAt i (by omega)]; exact h1, ?_⟩
    obtain ⟨A', c', e, -, hrd, -⟩ := own_row enc1_len rfl h2
    cases e
    exact hrd

set_option maxRecDepth 100000 in
set_option maxHeartbeats 2000000 in
theorem table_any (A : Option Addr) (n c : Nat) (tb : List (List Int)) (w : World) (hn : tb.length = n) (hl : n ≤ 9223372036854775807) (hp : RdT w A tb) :
    Calls Try.prog 20 #[.slice A n c] w (tabPost (cutTb tb) w) := by
  have HN := Lib.hid hn
  have HP := Lib.hid hp
  have HI := Lib.hid (info_parts Try.infoInt)
  have HII := Lib.hid (info_parts Try.infoInts)
  clear hn hp
  go_enter Try.func20, Try.ntmps20
  go_wp2_with fail
  go_loopw [3, 4] (fun v z wr => ∃ (k : Nat) (vs : List Value), k ≤ n ∧ k ≤ 50 ∧ z = .int .i64 k ∧ Hid (wr.ownsRow w.heap.size 41 1 v k vs) ∧ Hid (TabS w wr (cutTb tb) k vs) ∧ Hid (Gr w wr)) (fun _ z _ => n - (intOf z).toNat)
  case atStart => exact ⟨0, [], Nat.zero_le _, Nat.zero_le _, rfl, Lib.hid (World.ownsRow_nil _ _ _ _), Lib.hid (fun j row hj => absurd hj (by omega)), Lib.hid (Gr.refl _)⟩
  case round =>
    obtain ⟨k, vs, hkn, hk50, rfl, HO, HT, HG⟩ := hrel
    go_upto_region 3 with fail
    obtain ⟨w5, hw5⟩ : ∃ w5, w5 = wr := ⟨_, rfl⟩
    go_cut [13] from 6 to 13 (fun t wx => t = .bool (decide (k < n ∧ k < 50)) ∧ wx = w5)
    case first =>
      by_cases h1 : k < n
      · have d1 : decide ((k : Int) < (n : Int)) = true := decide_eq_true (by omega)
        by_cases h2 : k < 50
        · have d2 : decide ((k : Int) < 50) = true := decide_eq_true (by omega)
          go_wp2_with fail
          go_meet
          exact ⟨congrArg Value.bool (by rw [decide_eq_true ⟨h1, h2⟩]), hw5.symm⟩
        · have d2 : decide ((k : Int) < 50) = false := decide_eq_false (by omega)
          go_wp2_with fail
          go_meet
          exact ⟨congrArg Value.bool (by rw [decide_eq_false (fun h => h2 h.2)]), hw5.symm⟩
      · have d1 : decide ((k : Int) < (n : Int)) = false := decide_eq_false (by omega)
        go_wp2_with fail
        go_meet
        exact ⟨congrArg Value.bool (by rw [decide_eq_false (fun h => h1 h.1)]), hw5.symm⟩
    case rest =>
      obtain ⟨rfl, hwc⟩ := hcut
      subst hw5
      obtain rfl : w5 = wc := hwc.symm
      clear hwc
      by_cases hlt : k < n ∧ k < 50
      · rw [decide_eq_true hlt]
        obtain ⟨h1, h2⟩ := hlt
        obtain ⟨b, off, Ai, ci, rfl, x0, y1, y2, y3, hI⟩ := HP.out.keep HG.out k _ (getD_of [] (show k < tb.length by have := HN.out; omega))
        have HR : Hid ((cutTb tb)[k]? = some ((tb.getD k []).take 50)) := Lib.hid (by
          unfold cutTb
          rw [List.getElem?_map, List.getElem?_take, if_pos h2, getD_of [] (show k < tb.length by have := HN.out; omega)]; rfl)
        generalize tb.getD k [] = row at x0 y1 hI HR
        obtain ⟨rn, hrn⟩ : ∃ rn, row.length = rn := ⟨_, rfl⟩
        rw [hrn] at x0 y1
        have HRN := Lib.hid hrn
        have HIN := Lib.hid (Rd_take hI 50)
        obtain ⟨m, hm⟩ : ∃ m, (row.take 50).length = m := ⟨_, rfl⟩
        have hmm : m = min rn 50 := by rw [← hm, List.length_take, hrn]; omega
        have HM := Lib.hid hm
        clear hrn hI hm
        unfold maxLen at y2
        go_upto_region 6 with fail
        go_cut [5] from 5 to 28 (fun p5 wx => ∃ A3 c3, p5 = .slice A3 m c3 ∧ Hid (wx.ownsRow w.heap.size 3 1 (.slice A3 m c3) m (flatE enc1 (row.take 50))) ∧ Hid (Gr w5 wx))
        case first =>
          obtain ⟨i0, hi, hz0, hz1, hz2⟩ := HI.out
          have hgs := HG.out.size
          rcases Ai with _ | ad
          · obtain rfl : ci = 0 := y3 rfl
            obtain rfl : rn = 0 := by omega
            obtain rfl : m = 0 := by omega
            have t1 : (if (50 : Int) < 0 then (50 : Int) else 0) = 0 := by simp
            have t2 : (if (0 : Int) < 50 then (0 : Int) else 50) = 0 := by simp
            have HE : Hid (flatE enc1 (row.take 50) = []) := Lib.hid (by rw [List.eq_nil_of_length_eq_zero HM.out]; rfl)
            clear y2 y3 hi hz0 hz1 hz2 hmm
            go_still_tail 12, (by kernel_rfl)
            have hgd := Lib.hid (HG.out.drew)
            have hgw := Lib.hid (Gr.refl w5).drew
            obtain ⟨i0, hi, -⟩ := HI.out
            go_wp2_with (at_builtin; refine wpList_append_own_none rfl _ _ 41 rfl w.heap.size 3 i0 1 Try.underlying41 hi _ 0 [] rfl (World.ownsRow_nil _ _ _ _) rfl ?_)
            go_meet
            exact ⟨none, 0, rfl, by rw [HE.out]; exact Lib.hid (World.ownsRow_nil _ _ _ _), hgw⟩
          · have hgw := Lib.hid (Gr.refl w5).drew
            have HNW := Lib.hid (Rd_news enc1_len (by decide) (HIN.out.keep (Gr.refl w5).drew))
            by_cases h4 : rn ≤ 50
            · have t1 : (if (50 : Int) < (rn : Int) then (50 : Int) else (rn : Int)) = (rn : Int) := by rw [if_neg (by omega)]
              obtain rfl : m = rn := by omega
              clear y3 hi hz0 hz1 hz2 hmm
              go_still_tail 12, (by kernel_rfl)
              obtain ⟨i0, hi, hz0, hz1, hz2⟩ := HI.out
              go_wp2_with (at_builtin; refine wpList_append_own _ rfl _ _ 41 rfl w.heap.size 3 i0 _ 1 8 Try.underlying41 hi hz0 hz1 hz2 rfl (by decide) _ _ _ rfl (World.ownsRow_nil _ _ _ _) ad m ci (flatE enc1 (row.take 50)) rfl ?q1 ?q2 ?q3 ?q4 ?q5 ?q6 ?_)
              case q1 => rw [flatE_len enc1_len, HM.out]
              case q2 => exact HNW.out
              case q3 => exact oneCell_flat enc1_one _
              case q4 => unfold maxLen; omega
              case q5 => omega
              intro v' w6 hown hgrow _
              go_wp2_with fail
              go_meet
              have hown' : w6.ownsRow w.heap.size 3 1 v' m (flatE enc1 (row.take 50)) := by simpa using hown
              obtain ⟨A3, c3, rfl, -⟩ := own_row enc1_len HM.out hown'
              exact ⟨A3, c3, rfl, Lib.hid hown', Lib.hid (hgw.out.trans ((Below.refl _ _).grown hgrow (Nat.le_refl _) (fun t ht => by simp [Value.ownBlock] at ht)))⟩
            · have t1 : (if (50 : Int) < (rn : Int) then (50 : Int) else (rn : Int)) = 50 := by rw [if_pos (by omega)]
              obtain rfl : m = 50 := by omega
              have h5 : 50 ≤ ci := by omega
              have h6 : (50 : Int) ≤ (ci : Int) := by omega
              clear y3 hi hz0 hz1 hz2 hmm
              go_still_tail 12, (by kernel_rfl)
              obtain ⟨i0, hi, hz0, hz1, hz2⟩ := HI.out
              go_wp2_with (at_builtin; refine wpList_append_own _ rfl _ _ 41 rfl w.heap.size 3 i0 _ 1 8 Try.underlying41 hi hz0 hz1 hz2 rfl (by decide) _ _ _ rfl (World.ownsRow_nil _ _ _ _) ad 50 ci (flatE enc1 (row.take 50)) rfl ?r1 ?r2 ?r3 ?r4 ?r5 ?r6 ?_)
              case r1 => rw [flatE_len enc1_len, HM.out]
              case r2 => exact HNW.out
              case r3 => exact oneCell_flat enc1_one _
              case r4 => unfold maxLen; omega
              case r5 => omega
              intro v' w6 hown hgrow _
              go_wp2_with fail
              go_meet
              have hown' : w6.ownsRow w.heap.size 3 1 v' 50 (flatE enc1 (row.take 50)) := by simpa using hown
              obtain ⟨A3, c3, rfl, -⟩ := own_row enc1_len HM.out hown'
              exact ⟨A3, c3, rfl, Lib.hid hown', Lib.hid (hgw.out.trans ((Below.refl _ _).grown hgrow (Nat.le_refl _) (fun t ht => by simp [Value.ownBlock] at ht)))⟩
        case rest =>
          obtain ⟨A3, c3, rfl, HO3, HG3⟩ := hcut
          have HOW := Lib.hid (owns_gr HO.out HG3.out)
          have HTS := Lib.hid (HT.out.keep HG3.out)
          have HGW := Lib.hid (HG.out.trans HG3.out)
          have hm50 : m ≤ 50 := by omega
          clear HO HT HG HG3 x0 y1 y2 y3 hmm
          obtain ⟨i0, hi, hz0, hz1, hz2⟩ := HII.out
          go_wp2_with (at_builtin; refine wpList_append_own _ rfl _ _ 36 rfl w.heap.size 41 i0 _ 1 24 Try.underlying36 hi hz0 hz1 hz2 rfl (by decide) _ _ _ rfl (HOW.out.alloc _) ⟨wc.heap.size, 0, none⟩ 1 1 [.slice A3 m c3] rfl rfl ?a1 ?a2 ?a3 ?a4 ?a5 ?_)
          case a1 =>
            intro t u ht
            rw [Addr.add_lit]
            exact alloc_new rfl (by rw [Nat.zero_add]; simpa using ht)
          case a2 =>
            intro u hu
            simp at hu
            subst hu; rfl
          case a3 => unfold maxLen; omega
          case a4 => omega
          case a5 => have := HGW.out.size; simp at this ⊢; omega
          intro v' w7 hown hgrow _
          have hal : Gr wc (wc.alloc (.cells #[.slice A3 m c3] 41)) := (Gr.refl _).alloc _
          have ho2 := HOW.out.alloc (.cells #[.slice A3 m c3] 41)
          have hrow := (owns_gr HO3.out hal).kept hgrow (owns_apart (owns_gr HO3.out hal) ho2 (by decide))
          have hts := (HTS.out.keep hal).grown ho2 hgrow
          have hlv : vs.length = k := by have := HOW.out.1; omega
          have HF1 := Lib.hid hown
          have HF2 : Hid (TabS w w7 (cutTb tb) (k + 1) (vs ++ [.slice A3 m c3])) := Lib.hid (by
            have := HM.out
            subst this
            exact hts.snoc hlv HR.out hrow)
          have HF3 : Hid (Gr w w7) := Lib.hid (Below.grown (HGW.out.trans hal) hgrow (HGW.out.trans hal).size (fun t ht => (ho2.lt t ht).1))
          clear hown hgrow hal ho2 hrow hts hlv hi hz0 hz1 hz2
          go_wp2_with fail
          go_roundw
          case rel => exact ⟨k + 1, _, by omega, by omega, by go_num, HF1, HF2, HF3⟩
          case measure => simp [intOf] <;> omega
      · rw [decide_eq_false hlt]
        go_wp2_with fail
        try rw [Exit.noGoto_ret]
        go_ret
        have hk : (cutTb tb).length = k := by unfold cutTb; rw [List.length_map, List.length_take]; have := HN.out; omega
        exact tab_done hk HO.out HT.out HG.out

end Go.Proofs.Ytcojionipffanab
