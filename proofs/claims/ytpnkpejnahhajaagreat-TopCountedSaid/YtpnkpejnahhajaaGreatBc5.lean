/- Layer 3: combining, scaling, copying, dividing by a root.
Layer 3: polynomials with and without a root.
Layer 3: the polynomial with given roots. -/
import Derived.Test.YtpnkpejnahhajaaGreatBc3
namespace Go.Proofs.YtpnkpejnahhajaaGreat
open Go.RowKit
set_option linter.unusedSimpArgs false

def sq (l : List G) (t : Nat) : G := l.getD t g0
theorem dsum_take (s : Nat → G) : ∀ (q : List G) (k at_ : Nat), k < q.length → k ≤ at_ → dsum (q.take (k + 1)) s at_ = dsum (q.take k) s at_ + q.getD k g0 * s (at_ - k)
  | c :: r, 0, at_, _, _ => by
    cases at_ with
    | zero => simp [dsum, gzero_add]
    | succ n => simp [dsum, gzero_add, gadd_zero]
  | c :: r, k + 1, at_, h, h2 => by
    cases at_ with
    | zero => omega
    | succ n =>
      have ih := dsum_take s r k n (by simpa using h) (by omega)
      simp only [List.take_succ_cons, dsum, List.getD_cons_succ] at ih ⊢
      rw [ih, gadd_assoc, show n + 1 - (k + 1) = n - k by omega]

set_option maxRecDepth 100000 in
set_option maxHeartbeats 1000000 in
theorem combine_any (T : Nat) (A B : Option Addr) (n c m mc : Nat) (q l : List G) (at_ : Nat) (w : World) (hT : Tabs T w) (hn : q.length = n) (hm : l.length = m) (hq : Byts w A q) (hb : Byts w B l) (h1 : n ≤ at_ + 1) (h2 : at_ < m) (hl : m ≤ 1048576) :
    Calls Tryz.prog 107 #[.pointer (some ⟨T, 0, none⟩), .slice A n c, .slice B m mc, .int .i64 (at_ : Int)] w fun e w' => e = .returned (.int .u8 ((dsum q (sq l) at_).v : Int)) ∧ Gr w w' := by
  have HT := Lib.hid hT
  have HQ := Lib.hid hq
  have HB := Lib.hid hb
  have HN := Lib.hid hn
  have HM := Lib.hid hm
  clear hT hq hb hn hm
  go_enter Tryz.func107, Tryz.ntmps107
  go_wp2_with fail
  go_loopw [9, 14] (fun s z wr => ∃ k : Nat, k ≤ n ∧ z = .int .i64 k ∧ s = .int .u8 ((dsum (q.take k) (sq l) at_).v : Int) ∧ Gr w wr) (fun _ z _ => n - (intOf z).toNat)
  case atStart => exact ⟨0, Nat.zero_le _, rfl, rfl, Gr.refl _⟩
  case round =>
    obtain ⟨k, hk, rfl, rfl, hg⟩ := hrel
    by_cases hlt : k < n
    · have hkl : k < q.length := by have := HN.out; omega
      obtain ⟨b, off, rfl, c0⟩ := Byts_at (HQ.out.keep hg) hkl
      obtain ⟨b2, off2, rfl, c1⟩ := Byts_at (HB.out.keep hg) (show at_ - k < l.length by have := HM.out; omega)
      have HV := Lib.hid (dsum_take (sq l) q k at_ hkl (by omega))
      have HL : Hid (sq l (at_ - k) = l.getD (at_ - k) g0) := Lib.hid rfl
      rw [HL.out] at HV
      generalize q.getD k g0 = y at c0 HV
      generalize l.getD (at_ - k) g0 = z at c1 HV
      generalize dsum (q.take k) (sq l) at_ = s at HV ⊢
      have j1 : ((at_ : Int) - (k : Int)).toNat = at_ - k := by omega
      have j2 : (0 : Int) ≤ (at_ : Int) - (k : Int) := by omega
      have j3 : (at_ : Int) - (k : Int) < (m : Int) := by omega
      have j4 : k ≤ at_ := by omega
      clear HL
      go_wp2_with fail
      refine (product_any T y z _ (HT.out.keep hg)).mono ?_
      rintro e w1 ⟨rfl, hg1⟩
      have hx := xor8 s (y * z)
      go_wp2_with fail
      go_roundw
      case rel => exact ⟨k + 1, by omega, by go_num, by rw [HV.out], hg.trans hg1⟩
      case measure => simp [intOf] <;> omega
    · obtain rfl : k = n := by omega
      have HF : Hid (q.take k = q) := Lib.hid (List.take_of_length_le (by have := HN.out; omega))
      rw [HF.out]
      go_wp2_with fail
      go_ret
      exact ⟨rfl, hg⟩

theorem addL_zero (f : G) : ∀ ys : List G, addL (List.replicate ys.length g0) f ys = ys.map (f * ·)
  | [] => rfl
  | y :: ys => by
    rw [List.length_cons, List.replicate_succ]
    simp only [addL, List.map_cons, gzero_add]
    rw [addL_zero f ys]
/-- A row of the call's own, of bytes. -/
theorem Row.of {w : World} {base g n c : Nat} {xs : List G} (hn : xs.length = n) (h : w.ownsRow base 5 1 (.slice (some ⟨g, 0, none⟩) n c) n (flatE encG xs)) : Row w g 0 xs := fun i hi => by
  rw [Nat.zero_add, h.cellAt i (by omega), flatG, List.getElem?_map, getD_of g0 hi]
  exact ⟨rfl, h.frozenAt _⟩

set_option maxRecDepth 100000 in
set_option maxHeartbeats 1000000 in
theorem scaled_any (T : Nat) (A : Option Addr) (m mc : Nat) (ys : List G) (f : G) (w : World) (hT : Tabs T w) (hm : ys.length = m) (hy : Byts w A ys) (hl : m ≤ 1048576) :
    Calls Tryz.prog 151 #[.pointer (some ⟨T, 0, none⟩), .slice A m mc, .int .u8 (f.v : Int)] w fun e w' => ∃ g, e = .returned (.slice (some ⟨g, 0, none⟩) m m) ∧ w.heap.size ≤ g ∧ Row w' g 0 (ys.map (f * ·)) ∧ Gr w w' ∧ RoomL w' g m := by
  have hmk := fun w => mk_bytes m (by omega) w
  have HB0 := Lib.hid (BG.new w (List.replicate m g0) rfl).row
  have HG0 := Lib.hid ((Gr.refl w).alloc (.cells (gcs (List.replicate m g0)) 5))
  have HR0 : Hid (RoomL (w.alloc (.cells (gcs (List.replicate m g0)) 5)) w.heap.size m) := Lib.hid (by have := RoomL.new w (gcs (List.replicate m g0)) rfl; simpa [gcs] using this)
  have HT := Lib.hid (hT.keep HG0.out)
  have HTl := Lib.hid hT.lt
  have HY := Lib.hid (hy.keep HG0.out)
  have HYl : Hid (0 < ys.length → ∀ b o, A = some ⟨b, o, none⟩ → b ≠ w.heap.size) := Lib.hid (fun h b o e => by
    obtain ⟨b', o', e', c0⟩ := Byts_at hy h
    rw [e] at e'
    obtain ⟨rfl, rfl⟩ : b = b' ∧ o = o' := by simpa using e'
    have := World.block_lt_of_cell? w _ c0
    dsimp only at this; omega)
  have HM := Lib.hid hm
  clear hT hy hm
  go_enter Tryz.func151, Tryz.ntmps151
  go_wp2_with fail
  generalize World.alloc w _ = W0 at HB0 HG0 HT HY HR0 ⊢
  clear hmk
  refine (add_any T w.heap.size 0 m m (List.replicate m g0) f A m mc ys W0 HT.out (by have := HTl.out; omega) HB0.out (by simp) ⟨HY.out, HYl.out⟩ HM.out (Nat.le_refl _) hl).mono ?_
  rintro e w1 ⟨rfl, hR, hG, hO⟩
  go_wp2_with fail
  go_ret
  refine ⟨_, rfl, Nat.le_refl _, ?_, hG.gr HG0.out (Nat.le_refl _), hO.1 _ HR0.out⟩
  have := addL_zero f ys
  rw [HM.out] at this
  rw [← this]; exact hR

def CloneGPost (ns : List G) (w : World) (e : Ending) (w' : World) : Prop :=
  ∃ g c, e = .returned (.slice (some ⟨g, 0, none⟩) ns.length c) ∧ ns.length ≤ c ∧ w.heap.size ≤ g ∧ Row w' g 0 ns ∧ Gr w w'
set_option maxHeartbeats 1000000 in
theorem cloneG_any (b off n c : Nat) (ns : List G) (w : World) (hn : ns.length = n) (hl : n ≤ 1048576) (h0 : 1 ≤ n) (hp : Byts w (some ⟨b, off, none⟩) ns) :
    Calls Tryz.prog 102 #[.slice (some ⟨b, off, none⟩) n c] w (CloneGPost ns w) := by
  obtain ⟨i0, hi, hz0, hz1, hz2⟩ := info_parts Tryz.infoByte
  have q : ∀ (w : World) (a : Option Addr) (n c n' c' : Nat), (binOp .eql 59 (.slice a n c) (.slice none n' c')).run Tryz.prog w = .ok (.bool a.isNone) w := fun w a n c n' c' => Lib.run_eql_slice_nil w _ _ a n c n' c' Tryz.underlying59
  have HN := Lib.hid hn
  have HP := Lib.hid hp
  clear hn hp
  go_enter Tryz.func102, Tryz.ntmps102
  go_wp2_with (at_builtin; refine wpList_append_own _ rfl _ _ 59 rfl w.heap.size 5 i0 _ 1 1 Tryz.underlying59 hi hz0 hz1 hz2 rfl (by decide) _ _ _ rfl (World.ownsRow_made w #[] 0 (Nat.le_refl _) (Nat.zero_le _) (by simp)) ⟨b, off, none⟩ n c (flatE encG ns) rfl ?qc1 ?qc2 ?qc3 ?qc4 ?qc5 ?qc6 ?_)
  case qc1 => rw [flatE_len encG_len, HN.out]
  case qc2 =>
    intro j u hj
    rw [Addr.add_lit]
    exact alloc_old (flatE_cells encG_len (by decide) HP.out j u hj)
  case qc3 => exact oneCell_flat encG_one ns
  case qc4 => unfold maxLen; omega
  case qc5 => omega
  case qc6 => simp
  intro v' w1 hown hgrow hnil
  have hown' : w1.ownsRow w.heap.size 5 1 v' n (flatE encG ns) := by simpa using hown
  have HO := Lib.hid hown'
  have HG := Lib.hid hgrow
  clear hown hgrow hnil hi hz0 hz1 hz2 q hown'
  go_wp2
  go_ret
  rcases HO.out.2 with ⟨_, hz⟩ | ⟨g, cap, cur, rfl, hg, _, hnc, _⟩
  · omega
  · refine ⟨g, cap, by rw [HN.out]; rfl, by rw [HN.out]; exact hnc, hg, Row.of HN.out HO.out, ?_⟩
    exact ((Below.refl _ w).alloc (Nat.le_refl _) _).grown HG.out (by simp) (by intro k hk; simp [Value.ownBlock] at hk; omega)

end Go.Proofs.YtpnkpejnahhajaaGreat

namespace Go.Proofs.YtpnkpejnahhajaaGreat
open Go.RowKit
set_option linter.unusedSimpArgs false

theorem getD_app_l {a b : List G} {i : Nat} (h : i < a.length) : (a ++ b).getD i g0 = a.getD i g0 := by
  rw [List.getD_eq_getElem?_getD, List.getD_eq_getElem?_getD, List.getElem?_append_left h]
theorem getD_app_r {a b : List G} {i k : Nat} (h : i = a.length + k) : (a ++ b).getD i g0 = b.getD k g0 := by
  rw [List.getD_eq_getElem?_getD, List.getD_eq_getElem?_getD, List.getElem?_append_right (by omega), h, Nat.add_sub_cancel_left]
def horS (r : G) (l : List G) (i : Nat) : List G := horL g0 r (l.take i) ++ l.drop i
theorem horS_len (r : G) (l : List G) (i : Nat) : (horS r l i).length = l.length := by
  unfold horS; rw [List.length_append, horL_len, List.length_take, List.length_drop]; omega
theorem horS_step (r : G) (l : List G) (i : Nat) (h1 : 1 ≤ i) (h2 : i < l.length) :
    (horS r l i).getD i g0 = l.getD i g0 ∧ (horS r l i).getD (i - 1) g0 = val (l.take i) r ∧ horS r l (i + 1) = (horS r l i).set i (l.getD i g0 + val (l.take i) r * r) := by
  have hl : (horL g0 r (l.take i)).length = i := by rw [horL_len, List.length_take]; omega
  have hd : l.drop i = l.getD i g0 :: l.drop (i + 1) := by rw [List.drop_eq_getElem_cons h2, List.getD_eq_getElem?_getD, List.getElem?_eq_getElem h2]; rfl
  refine ⟨?_, ?_, ?_⟩
  · unfold horS
    rw [getD_app_r (k := 0) (by omega), hd]; rfl
  · unfold horS
    rw [getD_app_l (by omega)]
    obtain ⟨a, c, e⟩ := snoc_of (q := l.take i) (fun e => by have := congrArg List.length e; rw [List.length_take, List.length_nil] at this; omega)
    have hla : (horL g0 r a).length = i - 1 := by
      have := congrArg List.length e
      rw [List.length_take, List.length_append] at this
      rw [horL_len]; simp at this; omega
    rw [e, horL_snoc, getD_app_r (k := 0) (by omega), val_snoc]; rfl
  · unfold horS
    rw [List.take_add_one, getD_of g0 h2, Option.toList_some, horL_snoc, List.set_append_right _ _ (by omega), hl, Nat.sub_self, hd, List.set_cons_zero, List.append_assoc]
    rw [show valF g0 (l.take i) r = val (l.take i) r from rfl, gadd_comm]
    rfl

set_option maxRecDepth 100000 in
set_option maxHeartbeats 1000000 in
theorem withoutRoot_any (T b off n c : Nat) (q : List G) (r : G) (w : World) (hT : Tabs T w) (hn : q.length = n) (h2 : 2 ≤ n) (hc : n ≤ c) (hl : n ≤ 1048576) (hp : Byts w (some ⟨b, off, none⟩) q) :
    Calls Tryz.prog 105 #[.pointer (some ⟨T, 0, none⟩), .slice (some ⟨b, off, none⟩) n c, .int .u8 (r.v : Int)] w fun e w' => ∃ g c', e = .returned (.slice (some ⟨g, 0, none⟩) (n - 1) c') ∧ n - 1 ≤ c' ∧ w.heap.size ≤ g ∧ Row w' g 0 (horL g0 r (q.take (n - 1))) ∧ Gr w w' := by
  have hlq : (q.take (n - 1)).length = n - 1 := by rw [List.length_take]; omega
  have HC := Lib.hid (cloneG_any b off (n - 1) c (q.take (n - 1)) w hlq (by omega) (by omega) (Rd_take hp _))
  have HT := Lib.hid hT
  have HH : Hid (horS r (q.take (n - 1)) 1 = q.take (n - 1)) := Lib.hid (by
    cases hq : q.take (n - 1) with
    | nil => rw [hq] at hlq; simp at hlq; omega
    | cons x t => simp [horS, horL, gzero_mul, gzero_add])
  generalize q.take (n - 1) = l at hlq HC HH ⊢
  have HL := Lib.hid hlq
  have j1 : IntKind.i64.wrap ((n : Int) - 1) = (n : Int) - 1 := IntWalk.i64_in _ (by omega)
  obtain ⟨m, hm⟩ : ∃ m, n = m + 1 := ⟨n - 1, by omega⟩
  subst hm
  rw [Nat.add_sub_cancel] at hlq HC HL ⊢
  clear hT hn hp hlq j1
  go_enter Tryz.func105, Tryz.ntmps105
  go_wp2_with fail
  refine HC.out.mono ?_
  rintro e w1 ⟨g, c', rfl, hc', hg, hR, hgr⟩
  rw [HL.out]
  rw [HL.out] at hc'
  have HR := Lib.hid hR
  have HG := Lib.hid hgr
  have HTg : Hid (T ≠ g) := Lib.hid (by have := HT.out.lt; omega)
  clear hR hgr HC
  go_wp2_with fail
  go_loopw [8] (fun z wr => ∃ i : Nat, 1 ≤ i ∧ i ≤ m ∧ z = .int .i64 i ∧ Hid (Row wr g 0 (horS r l i)) ∧ Hid (Gb g w1 wr)) (fun z _ => m - (intOf z).toNat)
  case atStart => exact ⟨1, Nat.le_refl _, by omega, rfl, by rw [HH.out]; exact HR, Lib.hid (Gb.refl _ _)⟩
  case round =>
    obtain ⟨i, hi1, hi, rfl, hRw, hG⟩ := hrel
    by_cases hlt : i < m
    · obtain ⟨s1, s2, s3⟩ := horS_step r l i hi1 (by have := HL.out; omega)
      obtain ⟨r1, r2⟩ := hRw.out i (by rw [horS_len]; have := HL.out; omega)
      obtain ⟨p1, p2⟩ := hRw.out (i - 1) (by rw [horS_len]; have := HL.out; omega)
      rw [s1, Nat.zero_add] at r1
      rw [Nat.zero_add] at r2
      rw [s2, Nat.zero_add] at p1
      have HS := Lib.hid s3
      generalize l.getD i g0 = x at r1 HS
      generalize val (l.take i) r = v at p1 HS
      have HPR := Lib.hid (fun W' (h : Gr wr W') => product_any T v r W' (((HT.out.keep HG.out).gb hG.out HTg.out).keep h))
      have hx := xor8 x (v * r)
      have j1 : IntKind.i64.wrap ((i : Int) - 1) = (i : Int) - 1 := IntWalk.i64_in _ (by omega)
      have j2 : ((i : Int) - 1).toNat = i - 1 := by omega
      have j3 : (0 : Int) ≤ (i : Int) - 1 := by omega
      have j5 : (1 : Int) ≤ (i : Int) := by omega
      have j4 : (i : Int) - 1 < (m : Int) := by omega
      clear s1 s2 s3 p2
      go_wp2_with fail
      go_region_law (first | (go_simp; go_at_call 129; refine (HPR.out _ (by first | exact (Gr.refl _).drew | exact Gr.refl _)).mono ?_; rintro e w2 ⟨rfl, hg1⟩; have r1' := hg1.keep r1; have p1' := hg1.keep p1; have r2' := (frozen_gr hg1 (World.block_lt_of_cell? _ _ r1)).trans r2))
      all_goals
        go_wp2_with fail
        go_roundw
        case rel =>
          have hgd : Gr wr w2 := by first | exact hg1 | exact (Gr.refl _).drew.trans hg1
          refine ⟨i + 1, by omega, by omega, by go_num, Lib.hid ?_, Lib.hid ((hG.out.trans (Gb.of hgd g)).put i _)⟩
          rw [HS.out]
          have := (hRw.out.keep hgd).put (k := i) (by rw [horS_len]; have := HL.out; omega) (x + v * r)
          rwa [Nat.zero_add] at this
        case measure => simp [intOf] <;> omega
    · obtain rfl : i = m := by omega
      have HF : Hid (horS r l i = horL g0 r l) := Lib.hid (by unfold horS; rw [List.take_of_length_le (by have := HL.out; omega), List.drop_of_length_le (by have := HL.out; omega), List.append_nil])
      rw [HF.out] at hRw
      go_wp2_with fail
      go_ret
      exact ⟨g, c', rfl, hc', hg, hRw.out, hG.out.gr HG.out hg⟩

end Go.Proofs.YtpnkpejnahhajaaGreat

namespace Go.Proofs.YtpnkpejnahhajaaGreat
open Go.RowKit
set_option linter.unusedSimpArgs false

theorem timesR_snoc (q : List G) (x r : G) : ∃ D l, D.length = q.length ∧ timesR q r = D ++ [l] ∧ timesR (q ++ [x]) r = D ++ [l + x] ++ [x * r] := by
  obtain ⟨M, l, e⟩ := snoc_of (q := g0 :: q.map (· * r)) (by simp)
  have hM : M.length = q.length := by have := congrArg List.length e; simp at this; omega
  refine ⟨List.zipWith (· + ·) q M, l, by simp [hM], ?_, ?_⟩
  · unfold timesR
    rw [e, List.zipWith_append hM.symm]
    simp [gzero_add]
  · unfold timesR
    rw [List.map_append, show g0 :: (q.map (· * r) ++ [x].map (· * r)) = (g0 :: q.map (· * r)) ++ [x * r] by simp, e, List.zipWith_append (by simp [hM]), List.zipWith_append hM.symm]
    simp [gzero_add, gadd_comm]
def tsL (q : List G) (r : G) (i : Nat) : List G := timesR (q.take i) r ++ List.replicate (q.length - i) g0
theorem tsL_len (q : List G) (r : G) {i : Nat} (h : i ≤ q.length) : (tsL q r i).length = q.length + 1 := by
  unfold tsL; rw [List.length_append, timesR_len, List.length_take, List.length_replicate]; omega
theorem tsL_zero (q : List G) (r : G) : tsL q r 0 = List.replicate (q.length + 1) g0 := by
  unfold tsL
  rw [List.take_zero, Nat.sub_zero, List.replicate_succ]
  simp [timesR, gadd_zero]
theorem tsL_all (q : List G) (r : G) : tsL q r q.length = timesR q r := by
  unfold tsL; rw [List.take_length, Nat.sub_self]; simp
theorem tsL_step (q : List G) (r : G) {i : Nat} (h : i < q.length) : ∃ l, (tsL q r i).getD i g0 = l ∧ ((tsL q r i).set i (l + q.getD i g0 * g1)).getD (i + 1) g0 = g0 ∧
    tsL q r (i + 1) = ((tsL q r i).set i (l + q.getD i g0 * g1)).set (i + 1) (g0 + q.getD i g0 * r) := by
  obtain ⟨D, l, h1, h2, h3⟩ := timesR_snoc (q.take i) (q.getD i g0) r
  have hD : D.length = i := by rw [h1, List.length_take]; omega
  have ht : q.take (i + 1) = q.take i ++ [q.getD i g0] := by rw [List.take_add_one, getD_of g0 h]; rfl
  have hr : List.replicate (q.length - i) g0 = g0 :: List.replicate (q.length - (i + 1)) g0 := by rw [show q.length - i = (q.length - (i + 1)) + 1 by omega, List.replicate_succ]
  have hset : (tsL q r i).set i (l + q.getD i g0 * g1) = D ++ (l + q.getD i g0) :: g0 :: List.replicate (q.length - (i + 1)) g0 := by
    unfold tsL
    rw [h2, hr, List.append_assoc, List.set_append_right _ _ (by omega), hD, Nat.sub_self, gmul_one]
    rfl
  refine ⟨l, ?_, ?_, ?_⟩
  · unfold tsL
    rw [h2, List.append_assoc, getD_app_r (k := 0) (by omega)]; rfl
  · rw [hset, getD_app_r (k := 1) (by omega)]; rfl
  · rw [hset]
    unfold tsL
    rw [ht, h3, List.set_append_right _ _ (by omega), hD, show i + 1 - i = 1 by omega, gzero_add, List.append_assoc, List.append_assoc]
    rfl

/-- The polynomial in the making, and the tables. -/
structure Wst (rb tb T g n : Nat) (xs : List G) (w : World) : Prop where
  res : Blk w rb 59 #[.slice (some ⟨g, 0, none⟩) n n]
  tab : Blk w tb 123 #[.pointer (some ⟨T, 0, none⟩)]
  row : Row w g 0 xs
  tabs : Tabs T w
  len : xs.length = n
theorem Wst.keep {rb tb T g n : Nat} {xs : List G} {w w' : World} (h : Wst rb tb T g n xs w) (hg : Gr w w') : Wst rb tb T g n xs w' :=
  ⟨h.res.keep hg, h.tab.keep hg, h.row.keep hg, h.tabs.keep hg, h.len⟩
theorem Blk.gb {w w' : World} {g g' : Nat} {t : TypeId} {cs : Array Value} (h : Blk w g t cs) (hg : Gb g' w w') (hne : g ≠ g') : Blk w' g t cs :=
  (hg.block g h.lt (fun e => hne (by injection e))).trans h
theorem Wst.gb {rb tb T g n g' : Nat} {xs : List G} {w w' : World} (h : Wst rb tb T g n xs w) (hg : Gb g' w w') (h1 : rb ≠ g') (h2 : tb ≠ g') (h3 : g ≠ g') (h4 : T ≠ g') : Wst rb tb T g n xs w' :=
  ⟨h.res.gb hg h1, h.tab.gb hg h2, h.row.gb hg h3, h.tabs.gb hg h4, h.len⟩

theorem Rd.gbx {α : Type} {k : Nat} {enc : α → List Value} {w w' : World} {b off g : Nat} {xs : List α} (h : Rd k enc w (some ⟨b, off, none⟩) xs) (hg : Gb g w w') (hne : b ≠ g) : Rd k enc w' (some ⟨b, off, none⟩) xs := fun i x hx => by
  obtain ⟨b', o', e, hc⟩ := h i x hx
  obtain ⟨rfl, rfl⟩ : b = b' ∧ off = o' := by simpa using e
  exact ⟨b, off, rfl, fun j v hv => by have h1 := hc j v hv; exact (hg.cell (World.block_lt_of_cell? w _ h1) hne).trans h1⟩
set_option maxRecDepth 100000 in
set_option maxHeartbeats 2000000 in
theorem mult_any (rb tb T g n fb fc : Nat) (xs : List G) (r : G) (w : World) (h1n : 1 ≤ n) (hl : n ≤ 1000) (hTr : T ≠ rb) (hW : Wst rb tb T g n xs w) (hF : Byts w (some ⟨fb, 0, none⟩) [g1, r]) :
    Calls Tryz.prog 128 #[.slice (some ⟨fb, 0, none⟩) 2 fc, .pointer (some ⟨rb, 0, none⟩), .pointer (some ⟨tb, 0, none⟩)] w fun e w' => e = .returned (.tuple #[]) ∧ ∃ g', w.heap.size ≤ g' ∧ Wst rb tb T g' (n + 1) (timesR xs r) w' ∧ Gb rb w w' := by
  have hmk : ∀ w, (Instr.makeSlice 59 (.int .i64 ((n : Int) + 2 - 1)) (.int .i64 ((n : Int) + 2 - 1))).run Tryz.prog w = .ok (.slice (some ⟨w.heap.size, 0, none⟩) (n + 1) (n + 1)) (w.alloc (.cells (gcs (List.replicate (n + 1) g0)) 5)) := fun w => by
    have := mk_bytes (n + 1) (by omega) w
    rw [show (((n + 1 : Nat)) : Int) = (n : Int) + 2 - 1 by omega] at this
    exact this
  have c0 : w.cell? ⟨rb, 0, none⟩ = some (.slice (some ⟨g, 0, none⟩) n n) := hW.res.cell 0
  have j0 : IntKind.i64.wrap ((n : Int) + 2) = (n : Int) + 2 := IntWalk.i64_in _ (by omega)
  have HG0 := Lib.hid ((Gr.refl w).alloc (.cells (gcs (List.replicate (n + 1) g0)) 5))
  have HW0 := Lib.hid (hW.keep HG0.out)
  have HF0 := Lib.hid (hF.keep HG0.out)
  have HB0 := Lib.hid (BG.new w (List.replicate (n + 1) g0) rfl).row
  have HLT : Hid (rb < w.heap.size ∧ tb < w.heap.size ∧ g < w.heap.size ∧ T < w.heap.size ∧ fb < w.heap.size) := Lib.hid ⟨hW.res.lt, hW.tab.lt, hW.row.lt (by have := hW.len; omega), hW.tabs.lt, by
    obtain ⟨b', o', e', c1⟩ := Byts_at hF (i := 0) (by simp)
    obtain ⟨rfl, rfl⟩ : fb = b' ∧ 0 = o' := by simpa using e'
    exact World.block_lt_of_cell? w _ c1⟩
  have HTR := Lib.hid hTr
  have c0' := HG0.out.keep c0
  clear hW hF hTr
  go_enter Tryz.func128, Tryz.ntmps128
  go_wp2_with fail
  generalize World.alloc w _ = W0 at HG0 HW0 HF0 HB0 ⊢
  clear hmk c0 c0'
  generalize hS : w.heap.size = S at HB0 HLT ⊢
  have HS := Lib.hid hS
  clear hS
  obtain ⟨l1, l2, l3, l4, l5⟩ := HLT.out
  have hln := HW0.out.len
  have HLN := Lib.hid hln
  clear hln
  go_loopw [18] (fun z wr => ∃ i : Nat, i ≤ n ∧ z = .int .i64 i ∧ Hid (Row wr S 0 (tsL xs r i)) ∧ Hid (Gb S W0 wr)) (fun z _ => n - (intOf z).toNat)
  case atStart => exact ⟨0, Nat.zero_le _, rfl, by rw [tsL_zero, HLN.out]; exact HB0, Lib.hid (Gb.refl _ _)⟩
  case round =>
    obtain ⟨i, hi, rfl, hR, hG⟩ := hrel
    by_cases hlt : i < n
    · have hix : i < xs.length := by have := HLN.out; omega
      have HWr := Lib.hid (HW0.out.gb hG.out (by omega) (by omega) (by omega) (by omega))
      obtain ⟨c1, -⟩ := HWr.out.row i hix
      rw [Nat.zero_add] at c1
      obtain ⟨l, e1, e2, e3⟩ := tsL_step xs r hix
      have E1 := Lib.hid e1
      have E2 := Lib.hid e2
      have E3 := Lib.hid e3
      clear e1 e2 e3
      generalize xs.getD i g0 = x at c1 E2 E3
      obtain ⟨wo, hwo⟩ : ∃ wo : World, wo = wr := ⟨_, rfl⟩
      go_wp2_with fail
      go_loopw [25] (fun z wx => ∃ j : Nat, j ≤ 2 ∧ z = .int .i64 j ∧ Hid (Row wx S 0 (if j = 0 then tsL xs r i else if j = 1 then (tsL xs r i).set i (l + x * g1) else tsL xs r (i + 1))) ∧ Hid (Gb S W0 wx)) (fun z _ => 2 - (intOf z).toNat)
      case atStart => exact ⟨0, by omega, rfl, hR, hG⟩
      case round =>
        clear hR hG HWr c1 hwo
        obtain ⟨j, hj, rfl, hR, hG⟩ := hrel
        have HWx := Lib.hid (HW0.out.gb hG.out (by omega) (by omega) (by omega) (by omega))
        have t1 : wr.cell? ⟨tb, 0, none⟩ = some (.pointer (some ⟨T, 0, none⟩)) := HWx.out.tab.cell 0
        have hjc : j = 0 ∨ j = 1 ∨ j = 2 := by omega
        rcases hjc with rfl | rfl | rfl
        · obtain ⟨b0, o0, e0, f0⟩ := Byts_at (HF0.out.gbx hG.out (by omega)) (i := 0) (by simp)
          obtain ⟨rfl, rfl⟩ : fb = b0 ∧ 0 = o0 := by simpa using e0
          rw [if_pos rfl] at hR
          obtain ⟨r1, r2⟩ := hR.out i (by rw [tsL_len _ _ (by omega)]; omega)
          rw [E1.out, Nat.zero_add] at r1
          rw [Nat.zero_add] at r2
          have HPR := Lib.hid (fun W' (h : Gr wr W') => product_any T x g1 W' (HWx.out.tabs.keep h))
          have hx := xor8 l (x * g1)
          have h1 : (([g1, r] : List G).getD 0 g0) = g1 := rfl
          rw [h1, Nat.zero_add] at f0
          have j1 : IntKind.i64.wrap (i : Int) = (i : Int) := IntWalk.i64_in _ (by omega)
          have j2 : (0 : Int) ≤ (i : Int) := by omega
          have j3 : (i : Int) < (n : Int) + 1 := by omega
          clear e0 h1
          go_wp2_with fail
          go_region_law (first | (go_simp; go_at_call 129; refine (HPR.out _ (by first | exact (Gr.refl _).drew | exact Gr.refl _)).mono ?_; rintro e w2 ⟨rfl, hg1⟩; have r1' := hg1.keep r1; have t1' := hg1.keep t1; have r2' := (frozen_gr hg1 (World.block_lt_of_cell? _ _ r1)).trans r2))
          all_goals
            go_wp2_with fail
            go_roundw
            case rel =>
              have hgd : Gr wr w2 := by first | exact hg1 | exact (Gr.refl _).drew.trans hg1
              refine ⟨1, by omega, by go_num, Lib.hid ?_, Lib.hid ((hG.out.trans (Gb.of hgd S)).put (i) _)⟩
              rw [if_neg (by omega), if_pos rfl]
              have := (hR.out.keep hgd).put (k := i) (by rw [tsL_len _ _ (by omega)]; omega) (l + x * g1)
              rwa [Nat.zero_add] at this
            case measure => simp [intOf] <;> omega
        · obtain ⟨b0, o0, e0, f0⟩ := Byts_at (HF0.out.gbx hG.out (by omega)) (i := 1) (by simp)
          obtain ⟨rfl, rfl⟩ : fb = b0 ∧ 0 = o0 := by simpa using e0
          rw [if_neg (by omega), if_pos rfl] at hR
          obtain ⟨r1, r2⟩ := hR.out (i + 1) (by rw [List.length_set, tsL_len _ _ (by omega)]; omega)
          rw [E2.out, Nat.zero_add] at r1
          rw [Nat.zero_add] at r2
          have HPR := Lib.hid (fun W' (h : Gr wr W') => product_any T x r W' (HWx.out.tabs.keep h))
          have hx := xor8 g0 (x * r)
          have h1 : (([g1, r] : List G).getD 1 g0) = r := rfl
          rw [h1, Nat.zero_add] at f0
          have j1 : IntKind.i64.wrap ((i : Int) + 1) = (i : Int) + 1 := IntWalk.i64_in _ (by omega)
          have j2 : (0 : Int) ≤ (i : Int) + 1 := by omega
          have j3 : (i : Int) + 1 < (n : Int) + 1 := by omega
          have j4 : (i : Int) < (n : Int) := by omega
          have j5 : ((i : Int) + 1).toNat = i + 1 := by omega
          clear e0 h1
          go_wp2_with fail
          go_region_law (first | (go_simp; go_at_call 129; refine (HPR.out _ (by first | exact (Gr.refl _).drew | exact Gr.refl _)).mono ?_; rintro e w2 ⟨rfl, hg1⟩; have r1' := hg1.keep r1; have t1' := hg1.keep t1; have r2' := (frozen_gr hg1 (World.block_lt_of_cell? _ _ r1)).trans r2))
          all_goals
            go_wp2_with fail
            go_roundw
            case rel =>
              have hgd : Gr wr w2 := by first | exact hg1 | exact (Gr.refl _).drew.trans hg1
              refine ⟨2, by omega, by go_num, Lib.hid ?_, Lib.hid ((hG.out.trans (Gb.of hgd S)).put (i + 1) _)⟩
              rw [if_neg (by omega), if_neg (by omega), E3.out]
              have := (hR.out.keep hgd).put (k := i + 1) (by rw [List.length_set, tsL_len _ _ (by omega)]; omega) (g0 + x * r)
              rwa [Nat.zero_add] at this
            case measure => simp [intOf] <;> omega
        · rw [if_neg (by omega), if_neg (by omega)] at hR
          go_wp2_with fail
          go_roundw
          case rel => exact ⟨i + 1, by omega, by go_num, hR, hG⟩
          case measure => simp [intOf] <;> omega
    · obtain rfl : i = n := by omega
      have HWr := Lib.hid (HW0.out.gb hG.out (by omega) (by omega) (by omega) (by omega))
      have HT : Hid (tsL xs r i = timesR xs r) := Lib.hid (by rw [← HLN.out, tsL_all])
      rw [HT.out] at hR
      have t1 : wr.cell? ⟨rb, 0, none⟩ = some (.slice (some ⟨g, 0, none⟩) i i) := HWr.out.res.cell 0
      have t2 := HWr.out.res.free 0
      have hRS := HWr.out.res.put 0 (.slice (some ⟨S, 0, none⟩) (i + 1) (i + 1))
      have HF : Hid (Wst rb tb T S (i + 1) (timesR xs r) (wr.setCell ⟨rb, 0, none⟩ (.slice (some ⟨S, 0, none⟩) (i + 1) (i + 1)))) := Lib.hid ⟨by simpa using hRS, (HWr.out.tab.other (by have := HWr.out.tab.differ HWr.out.res (by decide); exact this) _), (hR.out.gb ((Gb.refl rb _).put 0 _) (by omega)), (HWr.out.tabs.gb ((Gb.refl rb _).put 0 _) (by have := HTR.out; omega)), by rw [timesR_len, HLN.out]⟩
      have hgf := Lib.hid ((Gb.of (hG.out.gr HG0.out (by rw [HS.out]; exact Nat.le_refl _)) rb).put 0 (.slice (some ⟨S, 0, none⟩) (i + 1) (i + 1)))
      clear hRS
      go_wp2_with fail
      go_end0
      exact ⟨rfl, S, by rw [HS.out]; exact Nat.le_refl _, HF.out, hgf.out⟩

end Go.Proofs.YtpnkpejnahhajaaGreat
