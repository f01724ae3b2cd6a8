/- Through the layers: the slots of a schedule as boxes. Plain mathematics.
Through the layers: jobs with small times.
Layer 4: a block of ints by a function.
Two rows that do not share a block. -/
import Derived.Test.YtpnkpejnahhajaaGreatBu54
import Derived.Test.YtpnkpejnahhajaaGreatBu16
import Derived.Test.YtpnkpejnahhajaaGreatBu26
import Derived.Deep.CutRange
import Derived.StillTailTactics
import Derived.Test.YtpnkpejnahhajaaGreatBu0
namespace Go.Proofs.YtpnkpejnahhajaaGreat

def bxB (x : Sl) : Bx := ⟨x.2.2.1.toNat, x.2.1.toNat, (x.2.2.2 - x.2.2.1).toNat, 1, 0⟩
def bxJ (x : Sl) : Bx := ⟨x.2.2.1.toNat, x.1.toNat, (x.2.2.2 - x.2.2.1).toNat, 1, 0⟩
/-- Valid jobs with small times. -/
def SmJ (l : List Jb) : Prop := ∀ j ∈ l, 0 ≤ j.1 ∧ j.1 < j.2.1 ∧ j.2.1 ≤ 49 ∧ 1 ≤ j.2.2 ∧ j.2.2 ≤ 49
theorem SmJ.slot {n : Int} {l : List Jb} (h : SmJ l) {x : Sl} (hx : okS n l x) : (0 ≤ x.1 ∧ x.1 < l.length) ∧ (0 ≤ x.2.1 ∧ x.2.1 < n) ∧ 0 ≤ x.2.2.1 ∧ x.2.2.1 < x.2.2.2 ∧ x.2.2.2 ≤ 49 := by
  obtain ⟨h1, h2, h3, h4, h5⟩ := hx
  have hm : jbA l x.1.toNat ∈ l := by
    have hi : x.1.toNat < l.length := by omega
    unfold jbA; rw [List.getD_eq_getElem?_getD, List.getElem?_eq_getElem hi]; exact List.getElem_mem hi
  have := h _ hm
  omega
theorem SmJ.ok {n : Int} {l : List Jb} {s : List Sl} (h : SmJ l) (hn : n ≤ 8) (hl : l.length ≤ 32) (hs : ∀ x ∈ s, okS n l x) : (∀ b ∈ s.map bxB, BxOk b) ∧ (∀ b ∈ s.map bxJ, BxOk b) := by
  constructor
  · intro b hb
    obtain ⟨x, hx, rfl⟩ := List.mem_map.1 hb
    have := h.slot (hs x hx)
    unfold BxOk bxB; dsimp only; omega
  · intro b hb
    obtain ⟨x, hx, rfl⟩ := List.mem_map.1 hb
    have := h.slot (hs x hx)
    unfold BxOk bxJ; dsimp only; omega
theorem SmJ.apart {n : Int} {l : List Jb} {s : List Sl} (h : SmJ l) (hs : ∀ x ∈ s, okS n l x) (hap : s.Pairwise apS) : (s.map bxB).Pairwise BxApart ∧ (s.map bxJ).Pairwise BxApart := by
  constructor
  · rw [List.pairwise_map]
    refine List.Pairwise.imp_of_mem (fun {a b} ha hb hab => ?_) hap
    have h1 := h.slot (hs a ha)
    have h2 := h.slot (hs b hb)
    unfold apS at hab
    unfold BxApart bxB; dsimp only
    by_cases e : a.2.1 = b.2.1
    · have := hab (Or.inr e); omega
    · omega
  · rw [List.pairwise_map]
    refine List.Pairwise.imp_of_mem (fun {a b} ha hb hab => ?_) hap
    have h1 := h.slot (hs a ha)
    have h2 := h.slot (hs b hb)
    unfold apS at hab
    unfold BxApart bxJ; dsimp only
    by_cases e : a.1 = b.1
    · have := hab (Or.inl e); omega
    · omega
/-- A job made valid and small. -/
def tjJ (q : Jb) : Jb := (modT q.1 30, modT q.1 30 + 1 + modT q.2.1 20, 1 + modT q.2.2 (1 + modT q.2.1 20))
theorem tjJ_in (q : Jb) : (0 ≤ modT q.1 30 ∧ modT q.1 30 < 30) ∧ (0 ≤ modT q.2.1 20 ∧ modT q.2.1 20 < 20) ∧ 0 ≤ modT q.2.2 (1 + modT q.2.1 20) ∧ modT q.2.2 (1 + modT q.2.1 20) < 1 + modT q.2.1 20 := by
  have h1 := modT_le (x := q.1) (n := 30) (by omega) (by omega)
  have h2 := modT_le (x := q.2.1) (n := 20) (by omega) (by omega)
  exact ⟨h1, h2, modT_le (by omega) (by omega)⟩
theorem tjL_sm (l : List Jb) : SmJ ((l.take 8).map tjJ) := by
  intro j hj
  obtain ⟨q, -, rfl⟩ := List.mem_map.1 hj
  have := tjJ_in q
  unfold tjJ; dsimp only; omega
theorem tjL_ok (l : List Jb) {B : Int} (hB : 1 ≤ B ∧ B ≤ 8) : okT B ((l.take 8).map tjJ) = true := by
  unfold okT
  rw [decide_eq_true hB.1, decide_eq_true hB.2, decide_eq_true (by simp; omega)]
  simp only [Bool.true_and, List.all_eq_true]
  intro j hj
  have := tjL_sm l j hj
  unfold okJ
  exact decide_eq_true (by omega)
theorem doneS_take {s : List Sl} {k : Nat} {x : Sl} (h : s[k]? = some x) (j : Int) : doneS (s.take (k + 1)) j = doneS (s.take k) j + if x.1 = j then lenS x else 0 := by
  unfold doneS
  rw [List.take_add_one, h, lsum_app]; simp [lsum]

/-- What Plan gives: slots (none if it refuses), each right, all apart; all is done if it says so. -/
structure PlSl (B : Int) (l : List Jb) (p : Bool) (s : List Sl) : Prop where
  few : s.length ≤ 4096
  ok : ∀ x ∈ s, okS B l x
  apart : s.Pairwise apS
  done : p = true → ∀ j : Nat, j < l.length → doneS s j = (jbA l j).2.2
theorem plan_slots {B : Int} {l : List Jb} {w w' : World} {e : Ending} (hT : okT B l = true) (h : PlanP B l w e w') :
    ∃ p A k c v2 v3 s, e = .returned (.tuple #[.agg #[.bool p, .slice A k c, v2, v3], .int .i64 0]) ∧ List.length s = k ∧ Rd 4 enc4B w' A s ∧ PlSl B l p s ∧ (∃ n2 n3 c2 c3 A2 A3, v2 = .slice A2 n2 c2 ∧ v3 = .slice A3 n3 c3) ∧ Gr w w' := by
  have hB := (okT_v hT).1
  rcases h with ⟨h, -⟩ | ⟨-, v, rfl, h⟩
  · rw [hT] at h; cases h
  · have hBn : ((B.toNat : Nat) : Int) = B := by omega
    rcases h with ⟨A, k, c, s, e, h1, h2, h3, -, hg⟩ | ⟨JA, jc, SA, sc, J, S, e, -, -, -, -, hg⟩
    · injection e with e
      subst e
      rw [hBn] at h3
      exact ⟨true, A, k, c, _, _, s, rfl, h1, h2, ⟨h3.few, h3.ok, h3.apart, fun _ => h3.done⟩, ⟨_, _, _, _, _, _, rfl, rfl⟩, hg⟩
    · injection e with e
      subst e
      exact ⟨false, none, 0, 0, _, _, [], rfl, rfl, Rd_nil _ _, ⟨by simp, by simp, List.Pairwise.nil, fun h => by cases h⟩, ⟨_, _, _, _, _, _, rfl, rfl⟩, hg⟩

end Go.Proofs.YtpnkpejnahhajaaGreat

namespace Go.Proofs.YtpnkpejnahhajaaGreat
open Go.RowKit
set_option linter.unusedSimpArgs false

theorem Tryz.infoTpJ2 : (Tryz.prog.info? 39).map (fun i => (i.zero, i.size, i.bytes)) = some (some (.agg #[.int .i64 0, .int .i64 0, .int .i64 0]), 3, 24) := by kernel_rfl

set_option maxRecDepth 100000 in
set_option maxHeartbeats 16000000 in
theorem tjobs_any (A : Option Addr) (n c : Nat) (l : List Jb) (w : World) (k0 : Nat) (hk0 : ((l.take 8).map tjJ).length = k0) (hn : l.length = n) (_hl : n ≤ 9223372036854775807) (hp : Tris w A l) :
    Calls Tryz.prog 6 #[.slice A n c, .int .i64 8] w fun e w' => ∃ A' c', e = .returned (.slice A' k0 c') ∧ Tris w' A' ((l.take 8).map tjJ) ∧ Gr w w' := by
  obtain ⟨i0, hi, hz0, hz1, hz2⟩ := info_parts Tryz.infoTpJ2
  have HI := Lib.hid (And.intro hi (And.intro hz0 (And.intro hz1 hz2)))
  have hke : k0 = min n 8 := by rw [← hk0, List.length_map, List.length_take]; omega
  have HK := Lib.hid hk0
  have HN := Lib.hid hn
  have HP := Lib.hid hp
  clear hk0 hn hp hi hz0 hz1 hz2
  go_enter Tryz.func6, Tryz.ntmps6
  go_wp2_with fail
  go_loopw [5, 6] (fun q z wr => ∃ (k : Nat) (A8 : Option Addr) (c8 : Nat), k ≤ n ∧ k ≤ 8 ∧ z = .int .i64 (k : Int) ∧ q = .slice A8 k c8 ∧ Hid (wr.ownsRow w.heap.size 39 3 (.slice A8 k c8) k (flatE enc3 ((l.take k).map tjJ))) ∧ Gr w wr) (fun _ z _ => n - (intOf z).toNat)
  case atStart => exact ⟨0, none, 0, Nat.zero_le _, Nat.zero_le _, rfl, rfl, Lib.hid (World.ownsRow_nil w _ _ _), Gr.refl _⟩
  case round =>
    obtain ⟨k, A8, c8, hkn, hkm, rfl, rfl, hown, hgr⟩ := hrel
    by_cases hlt : k < n ∧ k < 8
    · obtain ⟨h1, h2⟩ := hlt
      have hi1 : (k : Int) < (n : Int) := by omega
      have hi2 : (k : Int) < 8 := by omega
      have hkl : k < l.length := by rw [HN.out]; exact h1
      obtain ⟨b, off, rfl, x0, x1, x2⟩ := Tris_at (HP.out.keep hgr) (i := k) hkl
      have HQ : Hid (flatE enc3 ((l.take (k + 1)).map tjJ) = flatE enc3 ((l.take k).map tjJ) ++ enc3 (tjJ (l.getD k (0, 0, 0)))) := Lib.hid (by rw [List.take_add_one, getD_of (0, 0, 0) hkl, Option.toList_some, List.map_append, flatE_app]; simp [flatE])
      generalize l.getD k (0, 0, 0) = q at x0 x1 x2 HQ
      have hd1 : decide ((k : Int) < (n : Int)) = true := decide_eq_true hi1
      have hd2 : decide ((k : Int) < 8) = true := decide_eq_true hi2
      obtain ⟨⟨p1, p2⟩, ⟨p3, p4⟩, p5, p6⟩ := tjJ_in q
      have HF : Hid (tjJ q = (modT q.1 30, modT q.1 30 + 1 + modT q.2.1 20, 1 + modT q.2.2 (1 + modT q.2.1 20))) := Lib.hid rfl
      obtain ⟨a, b_, c_⟩ := q
      dsimp only at x0 x1 x2 p1 p2 p3 p4 p5 p6 HF
      have HC1 := Lib.hid (fun W => tmod_any a 30 W (by omega) (by omega))
      have HC2 := Lib.hid (fun W => tmod_any b_ 20 W (by omega) (by omega))
      have HC3 := Lib.hid (fun W => tmod_any c_ (1 + modT b_ 20) W (by omega) (by omega))
      generalize modT a 30 = m1 at HF p1 p2 HC1
      generalize modT b_ 20 = m2 at HF p3 p4 p5 p6 HC2 HC3
      generalize modT c_ (1 + m2) = m3 at HF p5 p6 HC3
      have hgo := hgr
      go_wp2_with fail
      refine (HC1.out _).mono ?_
      rintro e w4 ⟨rfl, rfl⟩
      go_upto_region 6 with fail
      generalize hW1 : World.alloc w4 _ = w1
      have hg1 : Gr w4 w1 := by rw [← hW1]; exact (Gr.refl w4).alloc _
      have hZ : Blk w1 w4.heap.size 39 #[.int .i64 m1, .int .i64 0, .int .i64 0] := by rw [← hW1]; exact heap_alloc_new w4 _
      have hOT : (Value.slice A8 k c8).ownBlock ≠ some w4.heap.size := fun e => Nat.lt_irrefl _ ((hown.out.lt _ e).2)
      have hTle : w.heap.size ≤ w4.heap.size := hgr.size
      have hbT : b ≠ w4.heap.size := fun e => by
        have := World.block_lt_of_cell? w4 _ x0
        simp only at this; omega
      generalize w4.heap.size = T at hZ hOT hTle hbT ⊢
      have HOT := Lib.hid hOT
      have HO1 := Lib.hid (owns_gr hown.out hg1)
      have HZ1 := Lib.hid hZ
      have hgr1 := hgr.trans hg1
      replace x0 := hg1.keep x0
      replace x1 := hg1.keep x1
      replace x2 := hg1.keep x2
      have p0 := hZ.cell 0
      have f1 := hZ.free 1
      have p1' := hZ.cell 1
      have w1e : IntKind.i64.wrap (m1 + 1) = m1 + 1 := IntWalk.i64_in _ (by omega)
      have w2e : IntKind.i64.wrap (m1 + 1 + m2) = m1 + 1 + m2 := IntWalk.i64_in _ (by omega)
      have w3e : IntKind.i64.wrap (1 + m3) = 1 + m3 := IntWalk.i64_in _ (by omega)
      have w4e : IntKind.i64.wrap (m1 + 1 + m2 - m1) = 1 + m2 := by rw [show m1 + 1 + m2 - m1 = 1 + m2 by omega]; exact IntWalk.i64_in _ (by omega)
      clear hW1 hZ hOT hg1 hown hgr hgo
      go_still_tail 11, (by kernel_rfl)
      repeat still_step
      refine wpStill_step (fun K hK => ?_)
      go_simp
      refine ⟨_, HC2.out _, hK _ ?_⟩
      clear hK K
      repeat still_step
      try refine wpStill_nil ?_
      change wpList _ _ _ _ _ w1.drew
      have HZ2 := Lib.hid (HZ1.out.keep (Gr.refl w1).drew)
      have HO2 := Lib.hid (owns_gr HO1.out (Gr.refl w1).drew)
      have hgr2 := hgr1.drew
      replace x2 := (Gr.refl w1).drew.keep x2
      clear p0 f1 p1' HZ1 HO1 hgr1 x0 x1
      generalize w1.drew = w2 at HZ2 HO2 hgr2 x2 ⊢
      have f1 := HZ2.out.free 1
      have p1' := HZ2.out.cell 1
      go_upto_region 7 with fail
      have HZ3 : Hid (Blk (w2.setCell ⟨T, 1, none⟩ (.int .i64 (m1 + 1 + m2))) T 39 #[.int .i64 m1, .int .i64 (m1 + 1 + m2), .int .i64 0]) := Lib.hid (HZ2.out.put 1 (.int .i64 (m1 + 1 + m2)))
      have HO3 := Lib.hid (ownsRow_setCell_other (a := ⟨T, 1, none⟩) HO2.out HOT.out (.int .i64 (m1 + 1 + m2)))
      have hgr3 : Gr w (w2.setCell ⟨T, 1, none⟩ (.int .i64 (m1 + 1 + m2))) := hgr2.setCell hTle _
      replace x2 : (w2.setCell ⟨T, 1, none⟩ (.int .i64 (m1 + 1 + m2))).cell? ⟨b, off + k * 3 + 2, none⟩ = some (.int .i64 c_) := (World.cell?_of_block (Below.heap_setCell w2 ⟨T, 1, none⟩ _ b hbT)).trans x2
      clear f1 p1' HZ2 HO2 hgr2
      generalize w2.setCell _ _ = w3 at HZ3 HO3 hgr3 x2 ⊢
      have p0 := HZ3.out.cell 0
      have p1' := HZ3.out.cell 1
      go_still_tail 13, (by kernel_rfl)
      repeat still_step
      refine wpStill_step (fun K hK => ?_)
      go_simp
      refine ⟨_, HC3.out _, hK _ ?_⟩
      clear hK K
      repeat still_step
      try refine wpStill_nil ?_
      change wpList _ _ _ _ _ w3.drew
      have HZ4 := Lib.hid (HZ3.out.keep (Gr.refl w3).drew)
      have HO4 := Lib.hid (owns_gr HO3.out (Gr.refl w3).drew)
      have hgr4 := hgr3.drew
      clear p0 p1' HZ3 HO3 hgr3 x2
      generalize w3.drew = w4 at HZ4 HO4 hgr4 ⊢
      have f2 := HZ4.out.free 2
      have p2' := HZ4.out.cell 2
      go_upto_region 8 with fail
      have HZ5 : Hid (Blk (w4.setCell ⟨T, 2, none⟩ (.int .i64 (1 + m3))) T 39 #[.int .i64 m1, .int .i64 (m1 + 1 + m2), .int .i64 (1 + m3)]) := Lib.hid (HZ4.out.put 2 (.int .i64 (1 + m3)))
      have HO5 := Lib.hid (ownsRow_setCell_other (a := ⟨T, 2, none⟩) HO4.out HOT.out (.int .i64 (1 + m3)))
      have hgr5 : Gr w (w4.setCell ⟨T, 2, none⟩ (.int .i64 (1 + m3))) := hgr4.setCell hTle _
      clear f2 p2' HZ4 HO4 hgr4
      generalize w4.setCell _ _ = w5 at HZ5 HO5 hgr5 ⊢
      have p0 := HZ5.out.cell 0
      have p1' := HZ5.out.cell 1
      have p2' := HZ5.out.cell 2
      obtain ⟨hi, hz0, hz1, hz2⟩ := HI.out
      go_wp2_with (at_builtin; refine wpList_append_own _ rfl _ _ 22 rfl w.heap.size 39 i0 _ 3 24 Tryz.underlying22 hi hz0 hz1 hz2 rfl (by decide) _ _ _ rfl (HO5.out.alloc _) ⟨w5.heap.size, 0, none⟩ 1 1 (enc3 (m1, m1 + 1 + m2, 1 + m3)) rfl rfl ?a1 ?a2 ?a3 ?a4 ?a5 ?_)
      case a1 =>
        intro t u ht
        rw [Addr.add_lit]
        exact alloc_new rfl (by rw [Nat.zero_add]; simpa [enc3] using ht)
      case a2 => exact fun u hu => enc3_one _ u hu
      case a3 => unfold maxLen; omega
      case a4 => omega
      case a5 => have := hgr5.size; simp; omega
      intro v' w6 hown' hgrow _
      have hal := hgr5.alloc (.cells #[.int .i64 m1, .int .i64 (m1 + 1 + m2), .int .i64 (1 + m3)] 39)
      have ho3 := HO5.out.alloc (.cells #[.int .i64 m1, .int .i64 (m1 + 1 + m2), .int .i64 (1 + m3)] 39)
      have hgf : Gr w w6 := Below.grown hal hgrow hal.size (fun t ht => (ho3.lt t ht).1)
      have hown5 : w6.ownsRow w.heap.size 39 3 v' (k + 1) (flatE enc3 ((l.take (k + 1)).map tjJ)) := by rw [HQ.out, HF.out, List.map_take]; exact hown'
      obtain ⟨A9, c9, rfl, -, -, -⟩ := own_row enc3_len (xs := (l.take (k + 1)).map tjJ) (by rw [List.length_map, List.length_take, HN.out]; omega) hown5
      have HO6 := Lib.hid hown5
      clear hi hz0 hz1 hz2 hown' hgrow hal ho3 hown5 HO5 HZ5 hgr5 p0 p1' p2'
      go_wp2_with fail
      go_roundw
      case rel => exact ⟨k + 1, A9, c9, by omega, by omega, by go_num, rfl, HO6, hgf⟩
      case measure => simp [intOf]; omega
    · have hkk : k = k0 := by omega
      have HL : Hid ((l.take k).map tjJ = (l.take 8).map tjJ) := Lib.hid (by
        congr 1
        by_cases e : k = 8
        · rw [e]
        · rw [List.take_of_length_le (by rw [HN.out]; omega), List.take_of_length_le (by rw [HN.out]; omega)])
      rw [HL.out] at hown
      obtain ⟨A5, c5, he5, g1, g2, g3⟩ := own_row enc3_len (HK.out.trans hkk.symm) hown.out
      cases he5
      have HGG := Lib.hid g2
      have hv : (¬ k < n ∧ decide ((k : Int) < (n : Int)) = false) ∨ ((k < n ∧ decide ((k : Int) < (n : Int)) = true) ∧ decide ((k : Int) < 8) = false ∧ ¬ k < 8 ∧ decide (k < 8) = false) := by
        by_cases e : k < n
        · exact Or.inr ⟨⟨e, decide_eq_true (by omega)⟩, decide_eq_false (by omega), by omega, decide_eq_false (by omega)⟩
        · exact Or.inl ⟨e, decide_eq_false (by omega)⟩
      subst hkk
      clear hlt g1 g2 g3 hown hke
      rcases hv with ⟨d1, d2⟩ | ⟨⟨d1, d2⟩, d3, d4, d5⟩
      all_goals
        go_wp2_with fail
        try rw [Exit.noGoto_ret]
        go_ret
        exact ⟨_, _, rfl, HGG.out, hgr⟩

end Go.Proofs.YtpnkpejnahhajaaGreat

namespace Go.Proofs.YtpnkpejnahhajaaGreat
open Go.RowKit
set_option linter.unusedSimpArgs false

/-- A block that is just the numbers f 0 .. f (n - 1). -/
def icB (n : Nat) (f : Nat → Int) : Array Value := ⟨(List.range n).map fun i => .int .i64 (f i)⟩
def DB (w : World) (g n : Nat) (f : Nat → Int) : Prop := Blk w g 3 (icB n f)
theorem DB.keep {w w' : World} {g n : Nat} {f : Nat → Int} (h : DB w g n f) (hg : Gr w w') : DB w' g n f := Blk.keep h hg
theorem DB.at {w : World} {g n : Nat} {f : Nat → Int} (h : DB w g n f) {i : Nat} (hi : i < n) : w.cell? ⟨g, i, none⟩ = some (.int .i64 (f i)) := by
  rw [Blk.cell h]; simp [icB, hi]
theorem DB.put {w : World} {g n : Nat} {f f' : Nat → Int} (h : DB w g n f) (i : Nat) (v : Int) (hi : f' i = v) (ho : ∀ j, j < n → j ≠ i → f' j = f j) : DB (w.setCell ⟨g, i, none⟩ (.int .i64 v)) g n f' := by
  have := Blk.put h i (.int .i64 v)
  have e : (icB n f).setIfInBounds i (.int .i64 v) = icB n f' := by
    apply Array.ext
    · simp [icB]
    · intro j h1 h2
      have hj : j < n := by simpa [icB] using h2
      rw [Array.getElem_setIfInBounds (by simpa [icB] using hj)]
      split
      · rename_i e; subst e; simp [icB, hi]
      · rename_i e; simp [icB, ho j hj (fun h => e h.symm)]
  rw [e] at this
  exact this
theorem DB.congr {w : World} {g n : Nat} {f f' : Nat → Int} (h : DB w g n f) (he : ∀ j, j < n → f' j = f j) : DB w g n f' := by
  have e : icB n f = icB n f' := by
    unfold icB
    congr 1
    exact List.map_congr_left fun j hj => by rw [he j (List.mem_range.1 hj)]
  unfold DB
  rw [← e]; exact h
theorem made_icB (n : Nat) : madeCells #[Value.int .i64 0] (n * 1) = icB n (fun _ => 0) := by
  have hs : (madeCells #[Value.int .i64 0] (n * 1)).size = n := by have := size_madeCells #[Value.int .i64 0] (n * 1); simpa using this
  apply Array.ext
  · rw [hs]; simp [icB]
  · intro i h1 h2
    simp [madeCells, icB, Nat.mod_one]
theorem mk_icB (n : Nat) (hl : n ≤ 1048576) (w : World) : (Instr.makeSlice 26 (.int .i64 (n : Int)) (.int .i64 (n : Int))).run Tryz.prog w =
    .ok (.slice (some ⟨w.heap.size, 0, none⟩) n n) (w.alloc (.cells (icB n (fun _ => 0)) 3)) := by
  obtain ⟨i0, hi, hz0, hz1, hz2⟩ := info_parts Tryz.infoBnI
  have h := run_make (P := Tryz.prog) w 26 3 i0 _ Tryz.underlying26 hi hz0 .i64 .i64 (n : Int) (n : Int) (by omega) (by omega) (by rw [hz2]; omega) (by omega)
  rw [hz1] at h
  simp only [Int.toNat_natCast] at h
  rw [h, show (Value.int IntKind.i64 0).cells = #[Value.int .i64 0] from rfl, made_icB]

end Go.Proofs.YtpnkpejnahhajaaGreat

namespace Go.Proofs.YtpnkpejnahhajaaGreat
open Go.RowKit
set_option linter.unusedSimpArgs false

/-- Two rows that do not share a block. -/
def Ap (a b : Value) : Prop := ∀ t, a.ownBlock = some t → b.ownBlock ≠ some t
theorem Ap.symm {a b : Value} (h : Ap a b) : Ap b a := fun t e1 e2 => h t e2 e1
theorem Ap.or {a b : Value} (h : Ap a b) : a.ownBlock = none ∨ a.ownBlock ≠ b.ownBlock := by
  cases e : a.ownBlock with
  | none => exact Or.inl rfl
  | some t => exact Or.inr (fun e2 => h t e e2.symm)
theorem Ap.nil (b : Value) : Ap (.slice none 0 0) b := fun t e => by simp [Value.ownBlock] at e
theorem Ap.app {w : World} {a b : Value} {base g n c k s : Nat} {e : TypeId} {xs : List Value} (h : Ap a b) (hb : w.ownsRow base e s b k xs) (hat : a.ownBlock = some g ∨ g = w.heap.size) : Ap (.slice (some ⟨g, 0, none⟩) n c) b := fun t e1 e2 => by
  have hg : g = t := by simpa [Value.ownBlock] using e1
  subst hg
  rcases hat with h1 | h1
  · exact h g h1 e2
  · have := (hb.lt g e2).2; omega

end Go.Proofs.YtpnkpejnahhajaaGreat
