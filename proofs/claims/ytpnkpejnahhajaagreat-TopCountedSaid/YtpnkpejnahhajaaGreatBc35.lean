/- Layer 4: the spans between neighbouring times. -/
import Derived.Test.YtpnkpejnahhajaaGreatBc34
import Derived.Deep.CutRange
import Derived.Deep.AppendLies
namespace Go.Proofs.YtpnkpejnahhajaaGreat
open Go.RowKit
set_option linter.unusedSimpArgs false

def CloneJPost (ns : List Int) (w : World) (e : Ending) (w' : World) : Prop :=
  ∃ g c, e = .returned (.slice (some ⟨g, 0, none⟩) ns.length c) ∧ ns.length ≤ c ∧ w.heap.size ≤ g ∧ w'.ownsRow w.heap.size 3 1 (.slice (some ⟨g, 0, none⟩) ns.length c) ns.length (flatE enc1 ns) ∧ Gr w w'

set_option maxHeartbeats 1000000 in
theorem cloneJ_any (b off n c : Nat) (ns : List Int) (w : World) (hn : ns.length = n) (hl : n ≤ 4096) (hp : Ints w (some ⟨b, off, none⟩) ns) :
    Calls Tryz.prog 62 #[.slice (some ⟨b, off, none⟩) n c] w (CloneJPost ns w) := by
  obtain ⟨i0, hi, hz0, hz1, hz2⟩ := info_parts Tryz.infoBnI
  have q : ∀ (w : World) (a : Option Addr) (n c n' c' : Nat), (binOp .eql 26 (.slice a n c) (.slice none n' c')).run Tryz.prog w = .ok (.bool a.isNone) w := fun w a n c n' c' => Lib.run_eql_slice_nil w _ _ a n c n' c' Tryz.underlying26
  have HN := Lib.hid hn
  have HP := Lib.hid hp
  clear hn hp
  go_enter Tryz.func62, Tryz.ntmps62
  go_wp2_with (at_builtin; refine wpList_append_own _ rfl _ _ 26 rfl w.heap.size 3 i0 _ 1 8 Tryz.underlying26 hi hz0 hz1 hz2 rfl (by decide) _ _ _ rfl (World.ownsRow_made w #[] 0 (Nat.le_refl _) (Nat.zero_le _) (by simp)) ⟨b, off, none⟩ n c (flatE enc1 ns) rfl ?qc1 ?qc2 ?qc3 ?qc4 ?qc5 ?qc6 ?_)
  case qc1 => rw [flatE_len enc1_len, HN.out]
  case qc2 =>
    intro j u hj
    rw [Addr.add_lit]
    exact alloc_old (flatE_cells enc1_len (by decide) HP.out j u hj)
  case qc3 => exact oneCell_flat enc1_one ns
  case qc4 => unfold maxLen; omega
  case qc5 => omega
  case qc6 => simp
  intro v' w1 hown hgrow hnil
  have hown' : w1.ownsRow w.heap.size 3 1 v' n (flatE enc1 ns) := by simpa using hown
  have HO := Lib.hid hown'
  have HG := Lib.hid hgrow
  have HNIL := Lib.hid hnil
  clear hown hgrow hnil hi hz0 hz1 hz2 q hown'
  go_wp2
  go_ret
  rcases HO.out.2 with ⟨ev, _⟩ | ⟨g, cap, cur, rfl, hg, _, hnc, _⟩
  · exact (HNIL.out ev).elim
  · refine ⟨g, cap, by rw [HN.out]; rfl, by rw [HN.out]; exact hnc, hg, by rw [HN.out]; exact HO.out, ?_⟩
    exact ((Below.refl _ w).alloc (Nat.le_refl _) _).grown HG.out (by simp) (by intro k hk; simp [Value.ownBlock] at hk; omega)

set_option maxRecDepth 100000 in
set_option maxHeartbeats 1000000 in
theorem sortedI_any (b off n c : Nat) (ns : List Int) (w : World) (hn : ns.length = n) (hl : n ≤ 4096) (hp : Ints w (some ⟨b, off, none⟩) ns) :
    Calls Tryz.prog 70 #[.slice (some ⟨b, off, none⟩) n c, .func (.func 71) #[] #[]] w fun e w' => ∃ g c', e = .returned (.slice (some ⟨g, 0, none⟩) n c') ∧ n ≤ c' ∧ w.heap.size ≤ g ∧ w'.ownsRow w.heap.size 3 1 (.slice (some ⟨g, 0, none⟩) n c') n (flatE enc1 (srtI ns)) ∧ Gr w w' := by
  have HC := Lib.hid (cloneJ_any b off n c ns w hn hl hp)
  have HN := Lib.hid hn
  clear hn hp
  go_enter Tryz.func70, Tryz.ntmps70
  go_wp2_with fail
  refine HC.out.mono ?_
  rintro e w1 ⟨g, c1, rfl, hc, hg, hown, hgr⟩
  have HS := Lib.hid (sortI_any g c1 w.heap.size ns w1 (by rw [HN.out]; exact hl) hown)
  rw [HN.out] at hc HS ⊢
  clear hown HC
  go_wp2_with fail
  refine HS.out.mono ?_
  rintro e w2 ⟨rfl, hown2, hgb⟩
  have HO2 := Lib.hid hown2
  clear hown2 HS
  go_wp2_with fail
  go_ret
  exact ⟨g, c1, rfl, hc, hg, HO2.out, hgb.gr hgr hg⟩

/-- All times at which a job becomes ready or due. -/
def tmL (l : List Jb) : List Int := l.flatMap fun j => [j.1, j.2.1]
theorem tmL_snoc (l : List Jb) (j : Jb) : tmL (l ++ [j]) = tmL l ++ [j.1, j.2.1] := by simp [tmL]
theorem tmL_len (l : List Jb) : (tmL l).length = 2 * l.length := by
  induction l with
  | nil => rfl
  | cons x r ih => simp only [tmL, List.flatMap_cons, List.length_append, List.length_cons, List.length_nil] at *; omega
/-- The times of a task. -/
def tms (l : List Jb) : List Int := timesL (tmL l)
/-- The spans between neighbouring times. -/
def spanL (T : List Int) : List (Int × Int) := (List.range (T.length - 1)).map fun k => (T.getD k 0, T.getD (k + 1) 0)
theorem spanL_take (T : List Int) (k : Nat) (h : k < T.length - 1) : (spanL T).take (k + 1) = (spanL T).take k ++ [(T.getD k 0, T.getD (k + 1) 0)] := by
  rw [List.take_add_one]
  congr 1
  unfold spanL
  simp [h]
theorem spanL_len (T : List Int) : (spanL T).length = T.length - 1 := by simp [spanL]
theorem Tryz.infoBnS : (Tryz.prog.info? 103).map (fun i => (i.zero, i.size, i.bytes)) = some (some (.agg #[.int .i64 0, .int .i64 0]), 2, 16) := by kernel_rfl

def SpansPost (l : List Jb) (w : World) (e : Ending) (w' : World) : Prop :=
  ∃ A c, e = .returned (.slice A ((tms l).length - 1) c) ∧ Pts w' A (spanL (tms l)) ∧ Gr w w'

set_option maxRecDepth 100000 in
set_option maxHeartbeats 8000000 in
theorem spansOf_any (A : Option Addr) (n c : Nat) (l : List Jb) (w : World) (hn : l.length = n) (hl : n ≤ 64) (hp : Tris w A l) : Calls Tryz.prog 37 #[.slice A n c] w (SpansPost l w) := by
  obtain ⟨i0, hi, hz0, hz1, hz2⟩ := info_parts Tryz.infoBnI
  have HI := Lib.hid (And.intro hi (And.intro hz0 (And.intro hz1 hz2)))
  obtain ⟨i1, hj, hy0, hy1, hy2⟩ := info_parts Tryz.infoBnS
  have HJ := Lib.hid (And.intro hj (And.intro hy0 (And.intro hy1 hy2)))
  clear hi hz0 hz1 hz2 hj hy0 hy1 hy2
  have HN := Lib.hid hn
  have HP := Lib.hid hp
  clear hn hp
  have hmade := World.ownsRow_made (base := w.heap.size) (e := 3) (size := 1) w #[] 0 (Nat.le_refl _) (Nat.zero_le _) (by simp)
  have HMD := Lib.hid hmade
  clear hmade
  go_enter Tryz.func37, Tryz.ntmps37
  go_wp2_with fail
  generalize hW1 : World.alloc w _ = w1 at HMD
  have hg1 : Gr w w1 := by rw [← hW1]; exact (Gr.refl w).alloc _
  clear hW1
  go_loopw [3, 11] (fun q z wr => ∃ k : Nat, k ≤ n ∧ z = .int .i64 (k : Int) ∧ (∃ g c, q = .slice (some ⟨g, 0, none⟩) (2 * k) c) ∧ Hid (wr.ownsRow w.heap.size 3 1 q (2 * k) (flatE enc1 (tmL (l.take k)))) ∧ Gr w wr) (fun _ z _ => n - (intOf z).toNat)
  case atStart => exact ⟨0, Nat.zero_le _, rfl, ⟨_, _, rfl⟩, HMD, hg1⟩
  case round =>
    obtain ⟨k, hk, rfl, hsh, hown, hgr⟩ := hrel
    by_cases hlt : k < n
    · obtain ⟨b, off, rfl, q0, q1, q2⟩ := Tris_at (HP.out.keep hgr) (i := k) (by rw [HN.out]; exact hlt)
      have HTK : Hid (tmL (l.take (k + 1)) = tmL (l.take k) ++ [(l.getD k (0, 0, 0)).1, (l.getD k (0, 0, 0)).2.1]) := Lib.hid (by rw [List.take_add_one, getD_of (0, 0, 0) (by rw [HN.out]; exact hlt), Option.toList_some, tmL_snoc])
      generalize l.getD k (0, 0, 0) = jb at q0 q1 q2 HTK
      obtain ⟨a1, a2, a3⟩ := jb
      dsimp only at q0 q1 q2 HTK
      have hki : (k : Int) < (n : Int) := by omega
      go_upto_region 5 with fail
      generalize hW2 : World.alloc wr _ = w2
      obtain ⟨hg2, d0, d1, d2⟩ : Gr wr w2 ∧ w2.cell? ⟨wr.heap.size, 0, none⟩ = some (.int .i64 a1) ∧ w2.cell? ⟨wr.heap.size, 1, none⟩ = some (.int .i64 a2) ∧ w2.cell? ⟨wr.heap.size, 2, none⟩ = some (.int .i64 a3) := by
        rw [← hW2]; exact ⟨(Gr.refl wr).alloc _, alloc_new rfl rfl, alloc_new rfl rfl, alloc_new rfl rfl⟩
      have hgr2 := hgr.trans hg2
      have HO2 := Lib.hid (owns_gr hown.out hg2)
      generalize wr.heap.size = Z at d0 d1 d2 ⊢
      obtain ⟨hi, hz0, hz1, hz2⟩ := HI.out
      clear hW2 q0 q1 q2 hown hgr hg2 hsh
      go_wp2_with (at_builtin; refine wpList_append_own _ rfl _ _ 26 rfl w.heap.size 3 i0 _ 1 8 Tryz.underlying26 hi hz0 hz1 hz2 rfl (by decide) _ _ _ rfl (HO2.out.alloc _) ⟨w2.heap.size, 0, none⟩ 2 2 [.int .i64 a1, .int .i64 a2] rfl rfl ?a1 ?a2 ?a3 ?a4 ?a5 ?_)
      case a1 =>
        intro t x ht
        rw [Addr.add_lit]
        exact alloc_new rfl (by rw [Nat.zero_add]; simpa using ht)
      case a2 => intro x hx; simp at hx; rcases hx with rfl | rfl <;> rfl
      case a3 => unfold maxLen; omega
      case a4 => omega
      case a5 => have := hgr2.size; simp; omega
      intro v' w3 hown3 hgrow _
      have hal : Gr w2 (w2.alloc (.cells #[.int .i64 a1, .int .i64 a2] 3)) := (Gr.refl _).alloc _
      have ho2 := HO2.out.alloc (.cells #[.int .i64 a1, .int .i64 a2] 3)
      have hg3 : Gr w w3 := Below.grown (hgr2.trans hal) hgrow (hgr2.trans hal).size (fun t ht => (ho2.lt t ht).1)
      have HO3 : Hid (w3.ownsRow w.heap.size 3 1 v' (2 * (k + 1)) (flatE enc1 (tmL (l.take (k + 1))))) := Lib.hid (by rw [HTK.out, flatE_app, show 2 * (k + 1) = 2 * k + 2 by omega]; exact hown3)
      have HSH3 : Hid (∃ g c, v' = .slice (some ⟨g, 0, none⟩) (2 * (k + 1)) c) := Lib.hid (by obtain ⟨g, c, e, -⟩ := owns_shape HO3.out (by omega); exact ⟨g, c, e⟩)
      clear hown3 hgrow hal ho2 hi hz0 hz1 hz2 d0 d1 d2
      go_wp2_with fail
      go_roundw
      case rel => exact ⟨k + 1, by omega, by go_num, HSH3.out, HO3, hg3⟩
      case measure => simp [intOf]; omega
    · obtain rfl : k = n := by omega
      have HTL : Hid (tmL (l.take k) = tmL l) := Lib.hid (by rw [List.take_of_length_le (by rw [HN.out]; exact Nat.le_refl _)])
      obtain ⟨gt, ct, rfl⟩ := hsh
      have hlen : (tmL l).length = 2 * k := by rw [tmL_len, HN.out]
      have HLEN := Lib.hid hlen
      have hown' := hown.out
      rw [HTL.out] at hown'
      have HS := Lib.hid (sortedI_any gt 0 (2 * k) ct (tmL l) wr hlen (by omega) (Rd_of_owns enc1_len hlen hown'))
      clear hown hown' hlt hlen
      go_wp2_with fail
      refine HS.out.mono ?_
      rintro e w2 ⟨g2, c2, rfl, hc2, hgs2, hown2, hg2⟩
      have hsl : (srtI (tmL l)).length = 2 * k := by rw [srtI_len, HLEN.out]
      have hC := compI_any g2 c2 wr.heap.size (srtI (tmL l)) w2 (by omega) (by omega) (by rw [hsl]; exact hown2)
      rw [hsl] at hC
      change Calls Tryz.prog 69 _ _ _ at hC
      have HC := Lib.hid hC
      clear hC hown2 HS
      go_wp2_with fail
      refine HC.out.mono ?_
      rintro e w3 ⟨rfl, hown3, hgb3⟩
      change w3.ownsRow wr.heap.size 3 1 (.slice (some ⟨g2, 0, none⟩) (tms l).length c2) (tms l).length (flatE enc1 (tms l)) at hown3
      have hT2 : (tms l).length ≤ 2 * k := by have := timesL_len (tmL l); rw [HLEN.out] at this; exact this
      have hgr3 : Gr w w3 := (hgb3.gr hg2 hgs2).trans (Gr.refl _) |> hgr.trans
      have HT := Lib.hid (Rd_of_owns enc1_len rfl hown3)
      obtain ⟨tn, htn⟩ : ∃ tn, (tms l).length = tn := ⟨_, rfl⟩
      rw [show (Go.Lib.compact (srtI (tmL l))).length = tn from htn]
      rw [htn] at hT2
      have HTN := Lib.hid htn
      clear hown3 hgb3 htn hgs2 hg2 HC hgr
      have hm3 := World.ownsRow_made (base := w3.heap.size) (e := 103) (size := 2) w3 #[] 0 (Nat.le_refl _) (Nat.zero_le _) (by simp)
      have HM3 := Lib.hid hm3
      clear hm3
      go_wp2_with fail
      generalize hW4 : World.alloc w3 _ = w4 at HM3
      have hg34 : Gr w3 w4 := by rw [← hW4]; exact (Gr.refl w3).alloc _
      clear hW4
      generalize hTT : tms l = T at HTN HT
      have HTT := Lib.hid hTT
      clear hTT
      go_loopw [6, 7] (fun q z wr => ∃ j : Nat, 1 ≤ j ∧ (j ≤ tn ∨ j = 1) ∧ z = .int .i64 (j : Int) ∧ Hid (wr.ownsRow w3.heap.size 103 2 q (j - 1) (flatE enc2 ((spanL T).take (j - 1)))) ∧ Gr w3 wr) (fun _ z _ => tn - (intOf z).toNat)
      case atStart => exact ⟨1, Nat.le_refl _, Or.inr rfl, rfl, HM3, hg34⟩
      case round =>
        clear HM3 hg34
        obtain ⟨j, hj1, hj2, rfl, hown, hgr⟩ := hrel
        by_cases hjl : j < tn
        · obtain ⟨j', rfl⟩ : ∃ j', j = j' + 1 := ⟨j - 1, by omega⟩
          obtain ⟨x, hx⟩ : ∃ x, T[j']? = some x := ⟨_, List.getElem?_eq_getElem (by rw [HTN.out]; omega)⟩
          obtain ⟨y, hy⟩ : ∃ y, T[j' + 1]? = some y := ⟨_, List.getElem?_eq_getElem (by rw [HTN.out]; omega)⟩
          obtain ⟨b, off, e, cx0⟩ := HT.out j' x hx
          cases e
          obtain ⟨b, off, e, cy0⟩ := HT.out (j' + 1) y hy
          cases e
          have cx3 := cx0 0 _ rfl
          have cy3 := cy0 0 _ rfl
          simp only [Nat.zero_add, Nat.mul_one, Nat.add_zero] at cx3 cy3
          have HXW := Lib.hid (And.intro cx3 cy3)
          have cx := hgr.keep cx3
          have cy := hgr.keep cy3
          have HST : Hid ((spanL T).take (j' + 1) = (spanL T).take j' ++ [(x, y)]) := Lib.hid (by
            rw [spanL_take T j' (by rw [HTN.out]; omega), List.getD_eq_getElem?_getD, List.getD_eq_getElem?_getD, hx, hy]; rfl)
          have hs1 : IntKind.i64.wrap (((j' : Nat) : Int) + 1 - 1) = (j' : Int) := by rw [show (j' : Int) + 1 - 1 = (j' : Int) by omega]; exact IntWalk.i64_in _ (by omega)
          have hs2 : IntKind.i64.wrap (j' : Int) = (j' : Int) := IntWalk.i64_in _ (by omega)
          have hs3 : IntKind.i64.wrap ((j' : Int) + 1) = (j' : Int) + 1 := IntWalk.i64_in _ (by omega)
          simp only [Nat.add_sub_cancel] at hown
          have hda : Gr wr (wr.alloc (.cells #[.int .i64 x, .int .i64 y] 103)).drew := ((Gr.refl wr).alloc _).drew
          have HOA := Lib.hid (owns_gr hown.out hda)
          have hbase : w3.heap.size ≤ wr.heap.size := hgr.size
          have hgra := hgr.trans hda
          have hi1 : (0 : Int) ≤ (j' : Int) := by omega
          have hi2 : (j' : Int) < (tn : Int) := by omega
          have hi3 : (j' : Int) + 1 < (tn : Int) := by omega
          have hi4 : (0 : Int) ≤ (j' : Int) + 1 := by omega
          have hi5 : ((j' : Int) + 1).toNat = j' + 1 := by omega
          have px := hda.keep cx
          have py := hda.keep cy
          have hdr := (Gr.refl wr).drew
          obtain ⟨hq, hy0, hy1, hy2⟩ := HJ.out
          clear hx hy cx0 cy0 hown cx3 cy3
          go_upto_region 12 with fail
          refine wp_region_held_drew (S := (fun W' => W'.cell? ⟨g2, j', none⟩ = some (.int .i64 x) ∧ W'.cell? ⟨g2, j' + 1, none⟩ = some (.int .i64 y))) ?_ ?_ (fun hHeld => ?_)
          · kernel_rfl
          · ((try dsimp only); (first | exact hHeld | exact ⟨hdr.keep cx, hdr.keep cy⟩ | exact ⟨px, py⟩ | exact ⟨HX5.out.1, HX5.out.2⟩))
          refine take_in (i := 0) (v := ?_) (d := (some 33)) rfl rfl ?_ ?_ ?_ ?_ ?_ ?_ ?_ ?_
          rotate_left
          · kernel_rfl
          · kernel_rfl
          · kernel_rfl
          · (intro _ _ _ hq; exact hq)
          · rfl
          · (intro _w hSw; (try dsimp only at hSw); go_simp; try with_reducible rfl)
          · assumption
          try simp only [Act.put, List.setIfInBounds_toArray, List.set_cons_zero, List.set_cons_succ]
          refine take_in (i := 1) (v := ?_) (d := (some 34)) rfl rfl ?_ ?_ ?_ ?_ ?_ ?_ ?_ ?_
          rotate_left
          · kernel_rfl
          · kernel_rfl
          · kernel_rfl
          · (intro _ _ _ hq; exact hq)
          · rfl
          · (intro _w hSw; (try dsimp only at hSw); go_simp; try with_reducible rfl)
          · assumption
          try simp only [Act.put, List.setIfInBounds_toArray, List.set_cons_zero, List.set_cons_succ]
          refine take_in (i := 2) (v := ?_) (d := (some 35)) rfl rfl ?_ ?_ ?_ ?_ ?_ ?_ ?_ ?_
          rotate_left
          · kernel_rfl
          · kernel_rfl
          · kernel_rfl
          · (intro _ _ _ hq; exact hq)
          · rfl
          · (intro _w hSw; (try dsimp only at hSw); go_simp; try with_reducible rfl)
          · assumption
          try simp only [Act.put, List.setIfInBounds_toArray, List.set_cons_zero, List.set_cons_succ]
          refine take_in (i := 3) (v := ?_) (d := (some 36)) rfl rfl ?_ ?_ ?_ ?_ ?_ ?_ ?_ ?_
          rotate_left
          · kernel_rfl
          · kernel_rfl
          · kernel_rfl
          · (intro _ _ _ hq; exact hq)
          · rfl
          · (intro _w hSw; (try dsimp only at hSw); go_simp; try with_reducible rfl)
          · assumption
          try simp only [Act.put, List.setIfInBounds_toArray, List.set_cons_zero, List.set_cons_succ]
          refine take_in (i := 4) (v := ?_) (d := (some 37)) rfl rfl ?_ ?_ ?_ ?_ ?_ ?_ ?_ ?_
          rotate_left
          · kernel_rfl
          · kernel_rfl
          · kernel_rfl
          · (intro _ _ _ hq; exact hq)
          · rfl
          · (intro _w hSw; (try dsimp only at hSw); go_simp; try with_reducible rfl)
          · assumption
          try simp only [Act.put, List.setIfInBounds_toArray, List.set_cons_zero, List.set_cons_succ]
          refine take_in (i := 5) (v := ?_) (d := (some 38)) rfl rfl ?_ ?_ ?_ ?_ ?_ ?_ ?_ ?_
          rotate_left
          · kernel_rfl
          · kernel_rfl
          · kernel_rfl
          · (intro _ _ _ hq; exact hq)
          · rfl
          · (intro _w hSw; (try dsimp only at hSw); go_simp; try with_reducible rfl)
          · assumption
          try simp only [Act.put, List.setIfInBounds_toArray, List.set_cons_zero, List.set_cons_succ]
          refine take_in (i := 6) (v := ?_) (d := (some 39)) rfl rfl ?_ ?_ ?_ ?_ ?_ ?_ ?_ ?_
          rotate_left
          · kernel_rfl
          · kernel_rfl
          · kernel_rfl
          · (intro _ _ _ hq; exact hq)
          · rfl
          · (intro _w hSw; (try dsimp only at hSw); go_simp; try with_reducible rfl)
          · assumption
          try simp only [Act.put, List.setIfInBounds_toArray, List.set_cons_zero, List.set_cons_succ]
          refine take_in (i := 7) (v := ?_) (d := (some 40)) rfl rfl ?_ ?_ ?_ ?_ ?_ ?_ ?_ ?_
          rotate_left
          · kernel_rfl
          · kernel_rfl
          · kernel_rfl
          · (intro _ _ _ hq; exact hq)
          · rfl
          · (intro _w hSw; (try dsimp only at hSw); go_simp; try with_reducible rfl)
          · assumption
          try simp only [Act.put, List.setIfInBounds_toArray, List.set_cons_zero, List.set_cons_succ]
          refine take_in (i := 8) (v := ?_) (d := (some 41)) rfl rfl ?_ ?_ ?_ ?_ ?_ ?_ ?_ ?_
          rotate_left
          · kernel_rfl
          · kernel_rfl
          · kernel_rfl
          · (intro _ _ _ hq; exact hq)
          · rfl
          · (intro _w hSw; (try dsimp only at hSw); go_simp; try with_reducible rfl)
          · assumption
          try simp only [Act.put, List.setIfInBounds_toArray, List.set_cons_zero, List.set_cons_succ]
          refine take_in (i := 9) (v := ?_) (d := (some 42)) rfl rfl ?_ ?_ ?_ ?_ ?_ ?_ ?_ ?_
          rotate_left
          · kernel_rfl
          · kernel_rfl
          · kernel_rfl
          · (intro _ _ _ hq; exact hq)
          · rfl
          · (intro _w hSw; (try dsimp only at hSw); go_simp; try with_reducible rfl)
          · assumption
          try simp only [Act.put, List.setIfInBounds_toArray, List.set_cons_zero, List.set_cons_succ]
          refine take_in (i := 10) (v := ?_) (d := (some 43)) rfl rfl ?_ ?_ ?_ ?_ ?_ ?_ ?_ ?_
          rotate_left
          · kernel_rfl
          · kernel_rfl
          · kernel_rfl
          · (intro _ _ _ hq; exact hq)
          · rfl
          · (intro _w hSw; (try dsimp only at hSw); go_simp; try with_reducible rfl)
          · assumption
          try simp only [Act.put, List.setIfInBounds_toArray, List.set_cons_zero, List.set_cons_succ]
          refine wpAnyH_ready (rs := [11]) ?_ ?_ ?_
          · kernel_rfl
          · simp
          refine (AllReadyH.cons rfl (fun K hK => ?_) AllReadyH.nil)
          go_simp
          refine hK.out _ _ ?_ (fun hHeld => ?_)
          · ((try dsimp only); (first | exact hHeld | exact ⟨hdr.keep cx, hdr.keep cy⟩ | exact ⟨px, py⟩ | exact ⟨HX5.out.1, HX5.out.2⟩))
          clear hK K
          try simp only [Act.put, List.setIfInBounds_toArray, List.set_cons_zero, List.set_cons_succ]
          refine wpAnyH_ready (rs := [12]) ?_ ?_ ?_
          · kernel_rfl
          · simp
          refine (AllReadyH.cons rfl (fun K hK => ?_) AllReadyH.nil)
          first | (refine step_append_lies _ (by rfl) (.tmp 33) (.tmp 44) 27 (by rfl) w3.heap.size 103 i1 _ 2 16 Tryz.underlying27 hq hy0 hy1 hy2 rfl (by decide) u6 j' (flatE enc2 ((spanL T).take j')) (by rfl) HOA.out ⟨wr.heap.size, 0, none⟩ 1 1 [.int .i64 x, .int .i64 y] (by rfl) rfl (World.news_of_block (heap_alloc_new _ _)) (enc2_one (x, y)) (by decide) (by unfold maxLen; omega) (by omega) (by simp; omega) _ rfl ?_; intro g' cap' w5 hown' hgrow _ _; have HG5 : Hid (Gr w3 w5) := Lib.hid (Below.grown hgra hgrow hgra.size (fun t ht => (HOA.out.lt t ht).1)); have HO5 := Lib.hid hown'; have HX5 := Lib.hid (And.intro (HG5.out.keep HXW.out.1) (HG5.out.keep HXW.out.2)); clear hown' hgrow)
          refine hK.out _ _ ?_ (fun hHeld => ?_)
          · ((try dsimp only); (first | exact hHeld | exact ⟨hdr.keep cx, hdr.keep cy⟩ | exact ⟨px, py⟩ | exact ⟨HX5.out.1, HX5.out.2⟩))
          clear hK K
          try simp only [Act.put, List.setIfInBounds_toArray, List.set_cons_zero, List.set_cons_succ]
          refine take_in (i := 13) (v := ?_) (d := (some 6)) rfl rfl ?_ ?_ ?_ ?_ ?_ ?_ ?_ ?_
          rotate_left
          · kernel_rfl
          · kernel_rfl
          · kernel_rfl
          · (intro _ _ _ hq; exact hq)
          · rfl
          · (intro _w hSw; (try dsimp only at hSw); go_simp; try with_reducible rfl)
          · assumption
          try simp only [Act.put, List.setIfInBounds_toArray, List.set_cons_zero, List.set_cons_succ]
          refine wpAnyH_done ?_ ?_ _
          · kernel_rfl
          rotate_left
          all_goals
            have HO6 : Hid (w5.ownsRow w3.heap.size 103 2 (.slice (some ⟨g', 0, none⟩) (j' + 1) cap') (j' + 1) (flatE enc2 ((spanL T).take (j' + 1)))) := Lib.hid (by rw [HST.out, flatE_app]; exact HO5.out)
            clear hHeld HO5 px py cx cy hq hy0 hy1 hy2
            go_wp2_with fail
            go_roundw
            case rel => exact ⟨j' + 2, by omega, Or.inl (by omega), by go_num, HO6, HG5.out⟩
            case measure => simp [intOf]; omega
        · have hjt : tn - 1 = j - 1 := by omega
          have hfin : (spanL T).take (j - 1) = spanL T := List.take_of_length_le (by rw [spanL_len, HTN.out]; omega)
          rw [hfin] at hown
          have HFL : Hid ((spanL T).length = j - 1) := Lib.hid (by rw [spanL_len, HTN.out]; exact hjt)
          obtain ⟨A6, c6, rfl, -, hrd, -⟩ := own_row enc2_len HFL.out hown.out
          clear hjl
          go_wp2_with fail
          go_ret
          unfold SpansPost
          rw [HTT.out, HTN.out, hjt]
          exact ⟨A6, c6, rfl, hrd, hgr3.trans hgr⟩

end Go.Proofs.YtpnkpejnahhajaaGreat
