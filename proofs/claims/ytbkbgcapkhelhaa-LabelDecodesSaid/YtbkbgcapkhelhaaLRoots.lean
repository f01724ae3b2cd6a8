/- Layer 3: polynomials with and without a root. -/
import Derived.Test.YtbkbgcapkhelhaaLPly
namespace Go.Proofs.Ytbkbgcapkhelhaa
open Go.RowKit
set_option linter.unusedSimpArgs false

theorem getD_app_l {a b : List G} {i : Nat} (h : i < a.length) : (a ++ b).getD i g0 = a.getD i g0 := by
  rw [List.getD_eq_getElem?_getD, List.getD_eq_getElem?_getD, List.getElem?_append_left h]
theorem getD_app_r {a b : List G} {i k : Nat} (h : i = a.length + k) : (a ++ b).getD i g0 = b.getD k g0 := by
  rw [List.getD_eq_getElem?_getD, List.getD_eq_getElem?_getD, List.getElem?_append_right (by omega), h, Nat.add_sub_cancel_left]
def horS (r : G) (l : List G) (i : Nat) : List G := horL g0 r (l.take i) ++ l.drop i
theorem horS_len (r : G) (l : List G) (i : Nat) : (horS r l i).length = l.length := by
  unfold horS; rw [List.length_append, horL_len, List.length_take, List.length_drop]; omega
theorem horS_step (r : G) (l : List G) (i : Nat) (h1 : 1 ≤ i) (h2 : i < l.length) :
    (horS r l i).getD i g0 = l.getD i g0 ∧ (horS r l i).getD (i - 1) g0 = val (l.take i) r ∧ horS r l (i + 1) = (horS r l i).set i (l.getD i g0 + val (l.take i) r * r) := by
  have hl : (horL g0 r (l.take i)).length = i := by rw [horL_len, List.length_take]; omega
  have hd : l.drop i = l.getD i g0 :: l.drop (i + 1) := by rw [List.drop_eq_getElem_cons h2, List.getD_eq_getElem?_getD, List.getElem?_eq_getElem h2]; rfl
  refine ⟨?_, ?_, ?_⟩
  · unfold horS
    rw [getD_app_r (k := 0) (by omega), hd]; rfl
  · unfold horS
    rw [getD_app_l (by omega)]
    obtain ⟨a, c, e⟩ := snoc_of (q := l.take i) (fun e => by have := congrArg List.length e; rw [List.length_take, List.length_nil] at this; omega)
    have hla : (horL g0 r a).length = i - 1 := by
      have := congrArg List.length e
      rw [List.length_take, List.length_append] at this
      rw [horL_len]; simp at this; omega
    rw [e, horL_snoc, getD_app_r (k := 0) (by omega), val_snoc]; rfl
  · unfold horS
    rw [List.take_add_one, getD_of g0 h2, Option.toList_some, horL_snoc, List.set_append_right _ _ (by omega), hl, Nat.sub_self, hd, List.set_cons_zero, List.append_assoc]
    rw [show valF g0 (l.take i) r = val (l.take i) r from rfl, gadd_comm]
    rfl

set_option maxRecDepth 100000 in
set_option maxHeartbeats 1000000 in
theorem withoutRoot_any (T b off n c : Nat) (q : List G) (r : G) (w : World) (hT : Tabs T w) (hn : q.length = n) (h2 : 2 ≤ n) (hc : n ≤ c) (hl : n ≤ 1048576) (hp : Byts w (some ⟨b, off, none⟩) q) :
    Calls Try.prog 62 #[.pointer (some ⟨T, 0, none⟩), .slice (some ⟨b, off, none⟩) n c, .int .u8 (r.v : Int)] w fun e w' => ∃ g c', e = .returned (.slice (some ⟨g, 0, none⟩) (n - 1) c') ∧ n - 1 ≤ c' ∧ w.heap.size ≤ g ∧ Row w' g 0 (horL g0 r (q.take (n - 1))) ∧ Gr w w' := by
  have hlq : (q.take (n - 1)).length = n - 1 := by rw [List.length_take]; omega
  have HC := Lib.hid (cloneG_any b off (n - 1) c (q.take (n - 1)) w hlq (by omega) (by omega) (Rd_take hp _))
  have HT := Lib.hid hT
  have HH : Hid (horS r (q.take (n - 1)) 1 = q.take (n - 1)) := Lib.hid (by
    cases hq : q.take (n - 1) with
    | nil => rw [hq] at hlq; simp at hlq; omega
    | cons x t => simp [horS, horL, gzero_mul, gzero_add])
  generalize q.take (n - 1) = l at hlq HC HH ⊢
  have HL := Lib.hid hlq
  have j1 : IntKind.i64.wrap ((n : Int) - 1) = (n : Int) - 1 := IntWalk.i64_in _ (by omega)
  obtain ⟨m, hm⟩ : ∃ m, n = m + 1 := ⟨n - 1, by omega⟩
  subst hm
  rw [Nat.add_sub_cancel] at hlq HC HL ⊢
  clear hT hn hp hlq j1
  go_enter Try.func62, Try.ntmps62
  go_wp2_with fail
  refine HC.out.mono ?_
  rintro e w1 ⟨g, c', rfl, hc', hg, hR, hgr⟩
  rw [HL.out]
  rw [HL.out] at hc'
  have HR := Lib.hid hR
  have HG := Lib.hid hgr
  have HTg : Hid (T ≠ g) := Lib.hid (by have := HT.out.lt; omega)
  clear hR hgr HC
  go_wp2_with fail
  go_loopw [8] (fun z wr => ∃ i : Nat, 1 ≤ i ∧ i ≤ m ∧ z = .int .i64 i ∧ Hid (Row wr g 0 (horS r l i)) ∧ Hid (Gb g w1 wr)) (fun z _ => m - (intOf z).toNat)
  case atStart => exact ⟨1, Nat.le_refl _, by omega, rfl, by rw [HH.out]; exact HR, Lib.hid (Gb.refl _ _)⟩
  case round =>
    obtain ⟨i, hi1, hi, rfl, hRw, hG⟩ := hrel
    by_cases hlt : i < m
    · obtain ⟨s1, s2, s3⟩ := horS_step r l i hi1 (by have := HL.out; omega)
      obtain ⟨r1, r2⟩ := hRw.out i (by rw [horS_len]; have := HL.out; omega)
      obtain ⟨p1, p2⟩ := hRw.out (i - 1) (by rw [horS_len]; have := HL.out; omega)
      rw [s1, Nat.zero_add] at r1
      rw [Nat.zero_add] at r2
      rw [s2, Nat.zero_add] at p1
      have HS := Lib.hid s3
      generalize l.getD i g0 = x at r1 HS
      generalize val (l.take i) r = v at p1 HS
      have HPR := Lib.hid (fun W' (h : Gr wr W') => product_any T v r W' (((HT.out.keep HG.out).gb hG.out HTg.out).keep h))
      have hx := xor8 x (v * r)
      have j1 : IntKind.i64.wrap ((i : Int) - 1) = (i : Int) - 1 := IntWalk.i64_in _ (by omega)
      have j2 : ((i : Int) - 1).toNat = i - 1 := by omega
      have j3 : (0 : Int) ≤ (i : Int) - 1 := by omega
      have j5 : (1 : Int) ≤ (i : Int) := by omega
      have j4 : (i : Int) - 1 < (m : Int) := by omega
      clear s1 s2 s3 p2
      go_wp2_with fail
      go_region_law (first | (go_simp; go_at_call 66; refine (HPR.out _ (by first | exact (Gr.refl _).drew | exact Gr.refl _)).mono ?_; rintro e w2 ⟨rfl, hg1⟩; have r1' := hg1.keep r1; have p1' := hg1.keep p1; have r2' := (frozen_gr hg1 (World.block_lt_of_cell? _ _ r1)).trans r2))
      all_goals
        go_wp2_with fail
        go_roundw
        case rel =>
          have hgd : Gr wr w2 := by first | exact hg1 | exact (Gr.refl _).drew.trans hg1
          refine ⟨i + 1, by omega, by omega, by go_num, Lib.hid ?_, Lib.hid ((hG.out.trans (Gb.of hgd g)).put i _)⟩
          rw [HS.out]
          have := (hRw.out.keep hgd).put (k := i) (by rw [horS_len]; have := HL.out; omega) (x + v * r)
          rwa [Nat.zero_add] at this
        case measure => simp [intOf] <;> omega
    · obtain rfl : i = m := by omega
      have HF : Hid (horS r l i = horL g0 r l) := Lib.hid (by unfold horS; rw [List.take_of_length_le (by have := HL.out; omega), List.drop_of_length_le (by have := HL.out; omega), List.append_nil])
      rw [HF.out] at hRw
      go_wp2_with fail
      go_ret
      exact ⟨g, c', rfl, hc', hg, hRw.out, hG.out.gr HG.out hg⟩

end Go.Proofs.Ytbkbgcapkhelhaa
