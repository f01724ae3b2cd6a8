/- Layer 2: Check.
Layer 2: holds and Check.
Layer 2: Best.
TopLaid: the best plan, read as parts.
Through the layers: words with few bytes changed, and the bytes of a plan. Plain mathematics.
Through the layers: a string carried in parts, each damaged a little. -/
import Derived.Test.YtpnkpejnahhajaaGreatBc18
import Derived.Test.YtpnkpejnahhajaaGreatBc21
import Derived.Test.YtpnkpejnahhajaaGreatBc16
import Derived.Test.YtpnkpejnahhajaaGreatBc12
import Derived.Test.YtpnkpejnahhajaaGreatBc15
import Derived.Test.YtpnkpejnahhajaaGreatBc11
import Derived.Deep.RegionLaw
namespace Go.Proofs.YtpnkpejnahhajaaGreat
open Go.RowKit
set_option linter.unusedSimpArgs false

def rowB (H : Nat) (row : List Int) : Bool := decide (row.length = H + 1) && row.all numB
def formB (W H : Nat) (tb : List (List Int)) : Bool := decide (tb.length = W + 1) && tb.all (rowB H)
def boundB (bs : List Bl) (tb : List (List Int)) (W H : Nat) : Bool := (List.range (W + 1)).all fun w => (List.range (H + 1)).all fun h => decide (needT bs (at2 tb) w h ≤ at2 tb w h)
end Go.Proofs.YtpnkpejnahhajaaGreat

namespace Go.Proofs.YtpnkpejnahhajaaGreat
open Go.RowKit
set_option linter.unusedSimpArgs false

theorem Frm.len {W H : Nat} {tb : List (List Int)} (h : Frm W H tb) {i : Nat} (hi : i ≤ W) : (tb.getD i []).length = H + 1 := (h.2 i hi).1

/-- What Check answers. -/
def checkC (W H : Int) (bs : List Bl) (tb : List (List Int)) : Int :=
  if taskB W H bs = true then (if (formB W.toNat H.toNat tb && boundB bs tb W.toNat H.toNat) = true then 0 else 21) else 2

end Go.Proofs.YtpnkpejnahhajaaGreat

namespace Go.Proofs.YtpnkpejnahhajaaGreat
open Go.RowKit
set_option linter.unusedSimpArgs false

def BestPost (bs : List Bl) (W H : Nat) (w : World) (e : Ending) (w' : World) : Prop :=
  ∃ P m g c g2, e = .returned (.tuple #[.slice (some ⟨g, 0, none⟩) P.length c, .slice (some ⟨g2, 0, none⟩) (W + 1) (W + 1), .int .i64 0]) ∧ Makes bs W H P m ∧ sumV m = mst bs W H ∧ P.length ≤ c ∧ w.heap.size ≤ g ∧ w.heap.size ≤ g2 ∧
    w'.ownsRow w.heap.size 61 2 (.slice (some ⟨g, 0, none⟩) P.length c) P.length (flatE enc2 P) ∧ RowsOwn w' w.heap.size g2 (mstTb bs W H) ∧ Gr w w'

/-- As above, and the plan is the only one of its kind. -/
def BestPost1 (bs : List Bl) (W H : Nat) (w : World) (e : Ending) (w' : World) : Prop :=
  ∃ P m g c g2, e = .returned (.tuple #[.slice (some ⟨g, 0, none⟩) P.length c, .slice (some ⟨g2, 0, none⟩) (W + 1) (W + 1), .int .i64 0]) ∧ Makes bs W H P m ∧ (sumV m = mst bs W H ∧ PlanOf bs W H P) ∧ P.length ≤ c ∧ w.heap.size ≤ g ∧ w.heap.size ≤ g2 ∧
    w'.ownsRow w.heap.size 61 2 (.slice (some ⟨g, 0, none⟩) P.length c) P.length (flatE enc2 P) ∧ RowsOwn w' w.heap.size g2 (mstTb bs W H) ∧ Gr w w'

set_option maxRecDepth 100000 in
set_option maxHeartbeats 1000000 in
theorem Best_one (W H : Nat) (BA : Option Addr) (bn bc : Nat) (bs : List Bl) (w : World) (hbn : bs.length = bn) (hbl : bn ≤ 281474976710656) (hB : Tris w BA bs) (ht : taskB W H bs = true) :
    Calls Tryz.prog 14 #[.int .i64 (W : Int), .int .i64 (H : Int), .slice BA bn bc] w (BestPost1 bs W H w) := by
  obtain ⟨⟨hW1, hW2⟩, ⟨hH1, hH2⟩, h16, hbs⟩ := (taskB_iff _ _ _).1 ht
  have HT := Lib.hid (isTask_any W H BA bn bc bs w hbn hbl hB _ ht)
  have HF := Lib.hid (fun W' (g : Gr w W') => fill_any W H BA bn bc bs W' (by omega) (by omega) hbn (by omega) hbs (hB.keep g))
  have HP := Lib.hid (fun g W' (h : TFull bs W H g W') => plan_any bs W H g (by omega) (by omega) (W + H) W H W' (Nat.le_refl _) (by omega) (Nat.le_refl _) (by omega) (Nat.le_refl _) h)
  have HB := Lib.hid (fun g W' (h : TFull bs W H g W') => bound_any bs W H g W' (by omega) (by omega) h)
  clear ht hbn hB hbs h16
  go_enter Tryz.func14, Tryz.ntmps14
  go_wp2_with fail
  refine HT.out.mono ?_
  rintro e w1 ⟨rfl, hb⟩
  go_wp2_with fail
  refine (HF.out _ hb).mono ?_
  rintro e w2 ⟨g, rfl, -, hT2, hb2⟩
  have HT2 := Lib.hid hT2
  clear hT2
  go_wp2_with fail
  refine (HP.out _ _ HT2.out).mono ?_
  rintro e w3 ⟨P, m, hM, hs, g1, c1, rfl, hl, hg1, hown, hb3⟩
  have HM := Lib.hid hM
  have HS := Lib.hid hs
  have HO := Lib.hid hown
  clear hM hs hown
  go_wp2_with fail
  refine (HB.out _ _ (HT2.out.keep hb3)).mono ?_
  rintro e w4 ⟨g2, rfl, hg2, hR, hb4⟩
  have HR := Lib.hid hR
  clear hR
  go_wp2_with fail
  go_ret3
  have e1 := hb.size
  have e2 := (hb.trans hb2).size
  have e3 := ((hb.trans hb2).trans hb3).size
  refine ⟨P, m, g1, c1, g2, rfl, HM.out, HS.out, hl, by omega, by omega, owns_gr (owns_base HO.out e2) hb4, ?_, ((hb.trans hb2).trans hb3).trans hb4⟩
  obtain ⟨cs, h1, h2⟩ := HR.out
  refine ⟨cs, h1, fun i row hr => ?_⟩
  obtain ⟨b, c, h3, h4⟩ := h2 i row hr
  exact ⟨b, c, h3, owns_base h4 e3⟩

end Go.Proofs.YtpnkpejnahhajaaGreat

namespace Go.Proofs.YtpnkpejnahhajaaGreat
open Go.RowKit
set_option linter.unusedSimpArgs false

theorem Makes.readT {bs : List Bl} {W H : Nat} {P : List St} {m : List Bl} (h : Makes bs W H P m) (h1 : 1 ≤ W) (h2 : W ≤ 48) (h3 : 1 ≤ H) (h4 : H ≤ 48) : readL bs W H P = some m := by
  have hl := h.len h1 h3
  have hm : W * H ≤ 48 * 48 := Nat.mul_le_mul h2 h4
  have hr := h.rd []
  rw [List.append_nil] at hr
  unfold readL
  rw [if_pos (by omega), hr]
  rfl
theorem Makes.short {bs : List Bl} {W H : Nat} {P : List St} {m : List Bl} (h : Makes bs W H P m) (h1 : 1 ≤ W) (h2 : W ≤ 48) (h3 : 1 ≤ H) (h4 : H ≤ 48) : P.length ≤ 4608 := by
  have hl := h.len h1 h3
  have hm : W * H ≤ 48 * 48 := Nat.mul_le_mul h2 h4
  omega

def PlannedPost (bs : List Bl) (W H : Nat) (w : World) (e : Ending) (w' : World) : Prop :=
  ∃ P m l g c v, (Makes bs W H P m ∧ PlanOf bs W H P ∧ v = sumV m) ∧ Boxes bs 0 0 W H P l ∧ madeBx bs l = sumA m ∧ e = .returned (.tuple #[.slice (some ⟨g, 0, none⟩) l.length c, .int .i64 v, .bool true]) ∧ Rd 5 enc5 w' (some ⟨g, 0, none⟩) l ∧ Gr w w'

end Go.Proofs.YtpnkpejnahhajaaGreat

namespace Go.Proofs.YtpnkpejnahhajaaGreat
open Go.RowKit

theorem cnt_one {f g : Nat → Bool} {k : Nat} (h : ∀ i, i ≠ k → f i = g i) : ∀ n, cnt f n ≤ cnt g n + 1
  | 0 => by simp [cnt]
  | n + 1 => by
    rw [cnt_succ, cnt_succ]
    by_cases e : n = k
    · subst e
      rw [cnt_congr (g := g) (fun i hi => h i (by omega))]
      split <;> split <;> omega
    · have := cnt_one h n
      rw [h n e]
      omega
/-- At most m bytes of a word are changed. -/
def NearW (a xs : List G) (m : Nat) : Prop := xs.length = a.length ∧ cnt (difB xs a) a.length ≤ m
theorem NearW.start (a : List G) : NearW a a 0 := ⟨rfl, by rw [cnt_same]; exact Nat.le_refl _⟩
theorem NearW.step {a xs : List G} {m k : Nat} (h : NearW a xs m) (y : G) (hk : k < a.length) : NearW a (xs.set k y) (m + 1) := by
  refine ⟨by rw [List.length_set]; exact h.1, Nat.le_trans (cnt_one (k := k) (fun i hi => ?_) _) (Nat.add_le_add_right h.2 1)⟩
  unfold difB
  rw [getD_set _ _ _ _ (by rw [h.1]; exact hk), if_neg (fun e => hi e.symm)]
theorem near_math {t : ByteArray} {q m : Nat} {bs : List G} (h : NearW (gs (encL t q)) bs m) (hm : 2 * m ≤ q) (hn : t.size + q ≤ 255) :
    decB (txt bs) q [] = true ∧ txt ((decL (txt bs) q []).take ((txt bs).size - q)) = t := by
  have hcs : (gs (encL t q)).length = t.size + q := by rw [gs_len, encL_size]
  have hsz : (txt bs).size = t.size + q := by rw [txt_size, h.1, hcs]
  have herr : cnt (errB bs (gs (encL t q)) (lostB [])) (t.size + q) ≤ m := by
    rw [← hcs]
    refine Nat.le_trans (Nat.le_of_eq (cnt_congr (fun i _ => ?_))) h.2
    unfold errB lostB; simp
  have h0 : cnt (lostB []) (t.size + q) = 0 := cnt_zero (fun i _ => rfl)
  obtain ⟨d1, d2, d3⟩ := dec_near (s := txt bs) (p := q) (is := []) (cs := gs (encL t q)) (by omega) (by rw [hcs, hsz]) (by rw [gs_enc]; exact codeL_isB _ _) (by rw [gs_txt, hsz, h0]; omega)
  refine ⟨d2, ?_⟩
  rw [d1, hsz, show t.size + q - q = t.size by omega]; exact dec_take

/-- The bytes of a plan, two a step. -/
def planG : List St → List G
  | [] => []
  | s :: r => ⟨s.1.toNat % 256, Nat.mod_lt _ (by omega)⟩ :: ⟨s.2.toNat % 256, Nat.mod_lt _ (by omega)⟩ :: planG r
theorem planG_len : ∀ P, (planG P).length = 2 * P.length
  | [] => rfl
  | s :: r => by simp only [planG, List.length_cons, planG_len r]; omega
theorem planG_app : ∀ P Q, planG (P ++ Q) = planG P ++ planG Q
  | [], Q => rfl
  | s :: r, Q => by simp only [List.cons_append, planG, planG_app r Q]
/-- All numbers of a plan are bytes. -/
def ByP (P : List St) : Prop := ∀ s ∈ P, (0 ≤ s.1 ∧ s.1 ≤ 255) ∧ 0 ≤ s.2 ∧ s.2 ≤ 255
theorem Makes.bytes {bs : List Bl} {w h : Nat} {P : List St} {m : List Bl} (k : Makes bs w h P m) : bs.length ≤ 255 → w ≤ 255 → h ≤ 255 → ByP P := by
  induction k with
  | waste w h => intro _ _ _ s hs; obtain rfl := List.mem_singleton.1 hs; simp
  | make w h i hi _ => intro _ _ _ s hs; obtain rfl := List.mem_singleton.1 hs; dsimp only; omega
  | across w h x P Q m n h1 h2 _ _ ih1 ih2 =>
    intro a b c s hs
    rcases List.mem_cons.1 hs with rfl | hs
    · dsimp only; omega
    · exact (List.mem_append.1 hs).elim (ih1 a (by omega) c s) (ih2 a (by omega) c s)
  | along w h y P Q m n h1 h2 _ _ ih1 ih2 =>
    intro a b c s hs
    rcases List.mem_cons.1 hs with rfl | hs
    · dsimp only; omega
    · exact (List.mem_append.1 hs).elim (ih1 a b (by omega) s) (ih2 a b (by omega) s)
theorem planG_at : ∀ (P : List St) (k : Nat) (s : St), P[k]? = some s → (planG P)[2 * k]? = some ⟨s.1.toNat % 256, Nat.mod_lt _ (by omega)⟩ ∧ (planG P)[2 * k + 1]? = some ⟨s.2.toNat % 256, Nat.mod_lt _ (by omega)⟩
  | [], k, s, h => by simp at h
  | x :: r, 0, s, h => by
    simp at h; subst h
    exact ⟨rfl, rfl⟩
  | x :: r, k + 1, s, h => by
    have ih := planG_at r k s (by simpa using h)
    rw [show 2 * (k + 1) = 2 * k + 1 + 1 by omega, show 2 * k + 1 + 1 + 1 = (2 * k + 1) + 1 + 1 by omega]
    simp only [planG, List.getElem?_cons_succ]
    exact ih

end Go.Proofs.YtpnkpejnahhajaaGreat

namespace Go.Proofs.YtpnkpejnahhajaaGreat
open Go.RowKit
set_option linter.unusedSimpArgs false

theorem ext_join (s : ByteArray) {a b : Nat} (h : a ≤ b) : s.extract 0 a ++ s.extract a b = s.extract 0 b := by
  rw [ByteArray.extract_append_extract]
  congr 1 <;> omega
theorem ext_size (s : ByteArray) {a b : Nat} (h : a ≤ b) (hb : b ≤ s.size) : (s.extract a b).size = b - a := by
  rw [ByteArray.size_extract]; omega
theorem ext_all (s : ByteArray) {b : Nat} (h : s.size ≤ b) : s.extract 0 b = s := by
  rw [← ByteArray.extract_zero_size (b := s), ByteArray.extract_extract]
  congr 1
  omega

set_option maxRecDepth 100000 in
set_option maxHeartbeats 16000000 in
theorem carried_any (s : ByteArray) (q : Nat) (A : Option Addr) (n c : Nat) (cs : List (Int × G)) (w : World) (hs : s.size ≤ 65536) (hq : q ≤ 12) (hn : cs.length = n) (hl : n ≤ 9223372036854775807) (hA : Chgs w A cs) :
    Calls Tryz.prog 15 #[.string s, .int .i64 (q : Int), .slice A n c] w fun e w' => e = .returned (.tuple #[.string s, .bool true]) ∧ Gr w w' := by
  obtain ⟨N, hN⟩ : ∃ N, s.size = N := ⟨_, rfl⟩
  have hsi : (s.size : Int) = (N : Int) := by omega
  have HN := Lib.hid hn
  have HA := Lib.hid hA
  have HSZ := Lib.hid hN
  have hNb : N ≤ 65536 := by omega
  have hq0 : Int.tdiv (q : Int) 2 = ((q / 2 : Nat) : Int) := by rw [Int.tdiv_eq_ediv_of_nonneg (by omega)]; omega
  obtain ⟨qh, hqh⟩ : ∃ qh, q / 2 = qh := ⟨_, rfl⟩
  rw [hqh] at hq0
  have hq1 : IntKind.i64.wrap (Int.tdiv (q : Int) 2) = (qh : Int) := by rw [hq0]; exact IntWalk.i64_in _ (by omega)
  have hq2 : 2 * qh ≤ q := by omega
  clear hn hA hqh hs hN
  go_enter Tryz.func15, Tryz.ntmps15
  go_wp2_with fail
  go_loopw [8, 9] (fun o z wr => ∃ f : Nat, f ≤ N + 40 ∧ z = .int .i64 (f : Int) ∧ o = .string (s.extract 0 f) ∧ Gr w wr) (fun _ z _ => N - (intOf z).toNat)
  case atStart => exact ⟨0, by omega, rfl, by rw [show s.extract 0 0 = ⟨#[]⟩ from by apply ByteArray.ext; simp], Gr.refl _⟩
  case round =>
    obtain ⟨f, hf, rfl, rfl, hgr⟩ := hrel
    by_cases hlt : f < N
    · obtain ⟨e1, he1⟩ : ∃ e1, min (f + 40) N = e1 := ⟨_, rfl⟩
      have hmin : min ((f : Int) + 40) (N : Int) = (e1 : Int) := by omega
      have hmin2 : (if (f : Int) + 40 ≤ (N : Int) then (f : Int) + 40 else (N : Int)) = (e1 : Int) := by split <;> omega
      have hfe : f ≤ e1 := by omega
      have heN : e1 ≤ N := by omega
      have hfi : (f : Int) < (N : Int) := by omega
      obtain ⟨t, ht⟩ : ∃ t, s.extract f e1 = t := ⟨_, rfl⟩
      have hts : t.size = e1 - f := by rw [← ht]; exact ext_size s hfe (by rw [HSZ.out]; exact heN)
      have HJ : Hid (s.extract 0 f ++ t = s.extract 0 (f + 40)) := Lib.hid (by
        rw [← ht, ext_join s hfe]
        by_cases e : f + 40 ≤ N
        · rw [show e1 = f + 40 by omega]
        · rw [ext_all s (by rw [HSZ.out]; omega), ext_all s (by rw [HSZ.out]; omega)])
      have HOS : Hid ((s.extract 0 f).size = f) := Lib.hid (by rw [ext_size s (Nat.zero_le _) (by rw [HSZ.out]; omega)]; omega)
      have ht1 : 1 ≤ t.size := by omega
      have ht2 : t.size ≤ 40 := by omega
      clear hts
      go_upto_region 6 with fail
      have HE := Lib.hid (fun W => Encode_yes t q W (okB_of ht1 (by omega) (by omega)))
      have hesz := encL_size t q
      have HM := Lib.hid (fun bs (h : NearW (gs (encL t q)) bs qh) => near_math h hq2 (by omega))
      have HM0 := Lib.hid (fun bs m (hm : m ≤ qh) (h : NearW (gs (encL t q)) bs m) => near_math h (by omega) (by omega))
      generalize encL t q = a at HE hesz HM HM0
      obtain ⟨la, hla⟩ : ∃ la, a.size = la := ⟨_, rfl⟩
      have hai : (a.size : Int) = (la : Int) := by omega
      have hla1 : 1 ≤ la := by omega
      have hla2 : la ≤ 52 := by omega
      obtain ⟨pt, hpt⟩ : ∃ pt, t.size = pt := ⟨_, rfl⟩
      have hti : (t.size : Int) = (pt : Int) := by omega
      have hw1 : IntKind.i64.wrap ((pt : Int) + (q : Int)) = (la : Int) := by rw [show (pt : Int) + (q : Int) = (la : Int) by omega]; exact IntWalk.i64_in _ (by omega)
      have HLA := Lib.hid hla
      have HPT := Lib.hid hpt
      have HLQ : Hid (la = pt + q ∧ 1 ≤ pt ∧ pt ≤ 40) := Lib.hid (by omega)
      clear hesz hla hpt ht1 ht2 ht
      go_wp2_with fail
      refine (HE.out _).mono ?_
      rintro e w2 ⟨rfl, hg2⟩
      have hgr2 := hgr.trans hg2
      have hcv := conv_bytes a w2
      have hgrow : a.size ≤ grownCap w2 a.size 0 5 := grownCap_ge w2 _ _ _
      clear HE hgr hg2
      go_wp2_with (simp only [hcv])
      obtain ⟨wa, hwa⟩ : ∃ wa, w2.alloc (.cells (bytesRow a (grownCap w2 a.size 0 5)) 5 ((bytesRow a (grownCap w2 a.size 0 5)).size, (bytesRow a (grownCap w2 a.size 0 5)).size + 1)) = wa := ⟨_, rfl⟩
      have hga : Gr w2 wa := by rw [← hwa]; exact (Gr.refl _).alloc _
      have hRa : Row wa w2.heap.size 0 (gs a) := by rw [← hwa]; exact conv_row a w2 _ hgrow
      rw [hwa]
      clear hwa hcv
      generalize grownCap w2 a.size 0 5 = cw at hgrow ⊢
      obtain ⟨D, hD⟩ : ∃ D, w2.heap.size = D := ⟨_, rfl⟩
      rw [hD] at hRa ⊢
      have hDle : w2.heap.size ≤ D := by omega
      have HGA := Lib.hid hga
      have HRA := Lib.hid hRa
      clear hD hga hRa
      go_loopw [14, 15] (fun m z wr => ∃ j : Nat, j ≤ n ∧ j ≤ qh ∧ z = .int .i64 (j : Int) ∧ m = .int .i64 (j : Int) ∧ Hid (∃ bs, NearW (gs a) bs j ∧ Row wr D 0 bs) ∧ Gr w2 wr) (fun _ z _ => n - (intOf z).toNat)
      case atStart => exact ⟨0, Nat.zero_le _, Nat.zero_le _, rfl, rfl, Lib.hid ⟨gs a, NearW.start _, HRA.out.keep ((Gr.refl _).drew)⟩, HGA.out.drew⟩
      case round =>
        obtain ⟨j, hjn, hjq, rfl, rfl, hR, hgj⟩ := hrel
        clear HGA HRA
        obtain ⟨bs, hNW, hRow⟩ := hR.out
        have HNW := Lib.hid hNW
        have HRW := Lib.hid hRow
        have HBL : Hid (bs.length = la) := Lib.hid (by rw [hNW.1, gs_len]; exact HLA.out)
        have HGW := Lib.hid (hgr2.trans hgj)
        clear hR hNW hRow
        by_cases hlt : j < n ∧ j < qh
        · obtain ⟨h1, h2⟩ := hlt
          have d1 : decide ((j : Int) < (n : Int)) = true := decide_eq_true (by omega)
          have d2 : decide ((j : Int) < (qh : Int)) = true := decide_eq_true (by omega)
          have hj1 : (j : Int) < (n : Int) := by omega
          have hj2 : (j : Int) < (qh : Int) := by omega
          have hjl : j < cs.length := by rw [HN.out]; exact h1
          obtain ⟨b, off, rfl, e0, e1'⟩ := Chgs_at (HA.out.keep HGW.out) hjl
          have hbD : b ≠ D := by
            obtain ⟨b0, o0, e00, c00, -⟩ := Chgs_at HA.out hjl
            injection e00 with e00
            injection e00 with e3 e4
            have h5 := World.block_lt_of_cell? _ _ c00
            have h6 := hgr2.size
            simp only at h5
            omega
          generalize cs.getD j (0, g0) = ch at e0 e1'
          obtain ⟨x, y⟩ := ch
          dsimp only at e0 e1'
          have HMD := Lib.hid (fun W => tmod_any (wrap64 (x + (f : Int))) la W (by omega) (by omega))
          have hK := modT_le (x := wrap64 (x + (f : Int))) (n := (la : Int)) (by omega) (by omega)
          generalize hX : wrap64 (x + (f : Int)) = X at HMD hK
          generalize modT X (la : Int) = KI at HMD hK
          obtain ⟨K, rfl⟩ : ∃ K : Nat, KI = (K : Int) := ⟨KI.toNat, by omega⟩
          have hKl : K < la := by omega
          have hKi : (K : Int) < (la : Int) := by omega
          have hKa : K < a.size := by rw [HLA.out]; exact hKl
          obtain ⟨r1, r2⟩ := HRW.out K (by rw [HBL.out]; exact hKl)
          rw [Nat.zero_add] at r1 r2
          have HNX := Lib.hid (HNW.out.step (k := K) (bs.getD K g0 + y) (by rw [gs_len]; exact hKa))
          have HRX := Lib.hid (HRW.out.put (k := K) (by rw [HBL.out]; exact hKl) (bs.getD K g0 + y))
          rw [Nat.zero_add] at HRX
          generalize bs.getD K g0 = u at r1 HNX HRX
          have hx := xor8 u y
          go_wp2_with fail
          refine (HMD.out _).mono ?_
          rintro e w3 ⟨rfl, rfl⟩
          clear HMD hX
          go_upto_region 15 with fail
          have hdr := (Gr.refl w3).drew
          have e1d := hdr.keep e1'
          have r1d := hdr.keep r1
          have r2d : w3.drew.frozen? ⟨D, K, none⟩ = false := r2
          have e1s : (w3.drew.setCell ⟨D, K, none⟩ (.int .u8 ((u + y).v : Int))).cell? ⟨b, off + j * 2 + 1, none⟩ = some (.int .u8 (y.v : Int)) := (World.cell?_of_block (Below.heap_setCell w3.drew ⟨D, K, none⟩ _ b hbD)).trans e1d
          clear r1 r2 e0 hdr
          refine wp_region_held_drew (S := (fun W' => W'.cell? ⟨b, off + j * 2 + 1, none⟩ = some (.int .u8 (y.v : Int)))) ?_ ?_ (fun hHeld => ?_)
          · kernel_rfl
          · ((try dsimp only); (first | exact hHeld | exact e1d | exact e1s))
          refine take_in (i := 0) (v := ?_) (d := (some 75)) rfl rfl ?_ ?_ ?_ ?_ ?_ ?_ ?_ ?_
          rotate_left
          · kernel_rfl
          · kernel_rfl
          · kernel_rfl
          · (intro _ _ _ hq; exact hq)
          · rfl
          · (intro _w hSw; (try dsimp only at hSw); go_simp; try with_reducible rfl)
          · assumption
          try simp only [Act.put, List.setIfInBounds_toArray, List.set_cons_zero, List.set_cons_succ]
          refine take_in (i := 1) (v := ?_) (d := (some 76)) rfl rfl ?_ ?_ ?_ ?_ ?_ ?_ ?_ ?_
          rotate_left
          · kernel_rfl
          · kernel_rfl
          · kernel_rfl
          · (intro _ _ _ hq; exact hq)
          · rfl
          · (intro _w hSw; (try dsimp only at hSw); go_simp; try with_reducible rfl)
          · assumption
          try simp only [Act.put, List.setIfInBounds_toArray, List.set_cons_zero, List.set_cons_succ]
          refine take_in (i := 2) (v := ?_) (d := (some 77)) rfl rfl ?_ ?_ ?_ ?_ ?_ ?_ ?_ ?_
          rotate_left
          · kernel_rfl
          · kernel_rfl
          · kernel_rfl
          · (intro _ _ _ hq; exact hq)
          · rfl
          · (intro _w hSw; (try dsimp only at hSw); go_simp; try with_reducible rfl)
          · assumption
          try simp only [Act.put, List.setIfInBounds_toArray, List.set_cons_zero, List.set_cons_succ]
          refine take_in (i := 3) (v := ?_) (d := (some 78)) rfl rfl ?_ ?_ ?_ ?_ ?_ ?_ ?_ ?_
          rotate_left
          · kernel_rfl
          · kernel_rfl
          · kernel_rfl
          · (intro _ _ _ hq; exact hq)
          · rfl
          · (intro _w hSw; (try dsimp only at hSw); go_simp; try with_reducible rfl)
          · assumption
          try simp only [Act.put, List.setIfInBounds_toArray, List.set_cons_zero, List.set_cons_succ]
          refine take_in (i := 4) (v := ?_) (d := (some 79)) rfl rfl ?_ ?_ ?_ ?_ ?_ ?_ ?_ ?_
          rotate_left
          · kernel_rfl
          · kernel_rfl
          · kernel_rfl
          · (intro _ _ _ hq; exact hq)
          · rfl
          · (intro _w hSw; (try dsimp only at hSw); go_simp; try with_reducible rfl)
          · assumption
          try simp only [Act.put, List.setIfInBounds_toArray, List.set_cons_zero, List.set_cons_succ]
          refine take_in (i := 6) (v := ?_) (d := (some 81)) rfl rfl ?_ ?_ ?_ ?_ ?_ ?_ ?_ ?_
          rotate_left
          · kernel_rfl
          · kernel_rfl
          · kernel_rfl
          · (intro _ _ _ hq; exact hq)
          · rfl
          · (intro _w hSw; (try dsimp only at hSw); go_simp; try with_reducible rfl)
          · assumption
          try simp only [Act.put, List.setIfInBounds_toArray, List.set_cons_zero, List.set_cons_succ]
          refine take_in (i := 7) (v := ?_) (d := (some 82)) rfl rfl ?_ ?_ ?_ ?_ ?_ ?_ ?_ ?_
          rotate_left
          · kernel_rfl
          · kernel_rfl
          · kernel_rfl
          · (intro _ _ _ hq; exact hq)
          · rfl
          · (intro _w hSw; (try dsimp only at hSw); go_simp; try with_reducible rfl)
          · assumption
          try simp only [Act.put, List.setIfInBounds_toArray, List.set_cons_zero, List.set_cons_succ]
          refine take_in (i := 8) (v := ?_) (d := (some 83)) rfl rfl ?_ ?_ ?_ ?_ ?_ ?_ ?_ ?_
          rotate_left
          · kernel_rfl
          · kernel_rfl
          · kernel_rfl
          · (intro _ _ _ hq; exact hq)
          · rfl
          · (intro _w hSw; (try dsimp only at hSw); go_simp; try with_reducible rfl)
          · assumption
          try simp only [Act.put, List.setIfInBounds_toArray, List.set_cons_zero, List.set_cons_succ]
          refine take_in (i := 9) (v := ?_) (d := (some 84)) rfl rfl ?_ ?_ ?_ ?_ ?_ ?_ ?_ ?_
          rotate_left
          · kernel_rfl
          · kernel_rfl
          · kernel_rfl
          · (intro _ _ _ hq; exact hq)
          · rfl
          · (intro _w hSw; (try dsimp only at hSw); go_simp; try with_reducible rfl)
          · assumption
          try simp only [Act.put, List.setIfInBounds_toArray, List.set_cons_zero, List.set_cons_succ]
          refine take_in (i := 10) (v := ?_) (d := (some 85)) rfl rfl ?_ ?_ ?_ ?_ ?_ ?_ ?_ ?_
          rotate_left
          · kernel_rfl
          · kernel_rfl
          · kernel_rfl
          · (intro _ _ _ hq; exact hq)
          · rfl
          · (intro _w hSw; (try dsimp only at hSw); go_simp; try with_reducible rfl)
          · assumption
          try simp only [Act.put, List.setIfInBounds_toArray, List.set_cons_zero, List.set_cons_succ]
          refine wpAnyH_ready (rs := [5]) ?_ ?_ ?_
          · kernel_rfl
          · simp
          refine (AllReadyH.cons rfl (fun K hK => ?_) AllReadyH.nil)
          go_simp
          refine hK.out _ _ ?_ (fun hHeld => ?_)
          · ((try dsimp only); (first | exact hHeld | exact e1d | exact e1s))
          clear hK K
          try simp only [Act.put, List.setIfInBounds_toArray, List.set_cons_zero, List.set_cons_succ]
          refine take_in (i := 11) (v := ?_) (d := (some 86)) rfl rfl ?_ ?_ ?_ ?_ ?_ ?_ ?_ ?_
          rotate_left
          · kernel_rfl
          · kernel_rfl
          · kernel_rfl
          · (intro _ _ _ hq; exact hq)
          · rfl
          · (intro _w hSw; (try dsimp only at hSw); go_simp; try with_reducible rfl)
          · assumption
          try simp only [Act.put, List.setIfInBounds_toArray, List.set_cons_zero, List.set_cons_succ]
          refine take_in (i := 12) (v := ?_) (d := (some 87)) rfl rfl ?_ ?_ ?_ ?_ ?_ ?_ ?_ ?_
          rotate_left
          · kernel_rfl
          · kernel_rfl
          · kernel_rfl
          · (intro _ _ _ hq; exact hq)
          · rfl
          · (intro _w hSw; (try dsimp only at hSw); go_simp; try with_reducible rfl)
          · assumption
          try simp only [Act.put, List.setIfInBounds_toArray, List.set_cons_zero, List.set_cons_succ]
          refine wpAnyH_ready (rs := [13]) ?_ ?_ ?_
          · kernel_rfl
          · simp
          refine (AllReadyH.cons rfl (fun K hK => ?_) AllReadyH.nil)
          go_simp
          refine hK.out _ _ ?_ (fun hHeld => ?_)
          · ((try dsimp only); (first | exact hHeld | exact e1d | exact e1s))
          clear hK K
          try simp only [Act.put, List.setIfInBounds_toArray, List.set_cons_zero, List.set_cons_succ]
          refine wpAnyH_done ?_ ?_ _
          · kernel_rfl
          rotate_left
          have HR9 : Hid (Row (w3.setCell ⟨D, K, none⟩ (.int .u8 ((u + y).v : Int))).drew D 0 (bs.set K (u + y))) := Lib.hid (HRX.out.keep (Gr.refl _).drew)
          have hg9 : Gr w2 (w3.setCell ⟨D, K, none⟩ (.int .u8 ((u + y).v : Int))).drew := (hgj.setCell (p := ⟨D, K, none⟩) hDle _).drew
          clear e1d r1d r2d e1s hHeld HRX HRW
          generalize (w3.setCell ⟨D, K, none⟩ (.int .u8 ((u + y).v : Int))).drew = w9 at HR9 hg9 ⊢
          go_wp2_with fail
          go_roundw
          case rel => exact ⟨j + 1, by omega, by omega, by go_num, by go_num, Lib.hid ⟨_, HNX.out, HR9.out⟩, hg9⟩
          case measure => simp [intOf]; omega
        · have hv : (¬ j < n ∧ decide ((j : Int) < (n : Int)) = false) ∨ ((j < n ∧ decide ((j : Int) < (n : Int)) = true) ∧ decide ((j : Int) < (qh : Int)) = false ∧ ¬ j < qh ∧ decide (j < qh) = false) := by
            by_cases e : j < n
            · exact Or.inr ⟨⟨e, decide_eq_true (by omega)⟩, decide_eq_false (by omega), by omega, decide_eq_false (by omega)⟩
            · exact Or.inl ⟨e, decide_eq_false (by omega)⟩
          have hbk := back_any (some ⟨D, 0, none⟩) a.size cw bs (by rw [HBL.out, HLA.out]) wr HRW.out.pts
          obtain ⟨m1, m2⟩ := HM0.out bs j hjq HNW.out
          have hbz : (txt bs).size = la := by rw [txt_size, HBL.out]
          have HD := Lib.hid (fun W => Decode_any (txt bs) q none 0 0 [] W ((okB_iff _ _).2 (by rw [hbz]; have := HLQ.out; omega)) rfl (by omega) (by intro i hi; cases hi) (Rd_nil _ _) true m1)
          rw [m2] at HD
          have hos := HOS.out
          have hts := HPT.out
          have hpt := HLQ.out
          have hno : ¬ (9223372036854775807 < f + pt) := by omega
          have hno2 : f + pt ≤ 9223372036854775807 := by omega
          clear hlt m1 m2 hbz
          rcases hv with ⟨d1, d2⟩ | ⟨⟨d1, d2⟩, d3, d4, d5⟩
          all_goals
            go_wp2_with (simp only [hbk])
            refine (HD.out _).mono ?_
            rintro e w5 ⟨rfl, hg5⟩
            dsimp only [cond]
            go_wp2_with fail
            go_roundw
            case rel => exact ⟨f + 40, by omega, by go_num, by rw [HJ.out], (hgr2.trans hgj).trans hg5⟩
            case measure => simp [intOf]; omega
    · have hall : s.extract 0 f = s := ext_all s (by rw [HSZ.out]; omega)
      rw [hall]
      have hcmp : (s.toList == s.toList) = true := by simp
      clear hall
      go_wp2_with fail
      go_ret2
      exact ⟨rfl, hgr⟩

end Go.Proofs.YtpnkpejnahhajaaGreat
