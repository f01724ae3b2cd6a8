/- Layer 2: Check.
Layer 2: holds and Check.
Layer 2: Best.
TopLaid: the best plan, read as parts.
Through the layers: sums over the parts of a plan. Plain mathematics.
Layer 4: possible is to have a schedule.
Layer 4: Fewest.
Through the layers: the blanks of a plan as jobs. Plain mathematics. -/
import Derived.Test.YtpnkpejnahhajaaGreatBu32
import Derived.Test.YtpnkpejnahhajaaGreatBu20
import Derived.Test.YtpnkpejnahhajaaGreatBu35
import Derived.Test.YtpnkpejnahhajaaGreatBu18
import Derived.Test.YtpnkpejnahhajaaGreatBu16
import Derived.Test.YtpnkpejnahhajaaGreatBu26
namespace Go.Proofs.YtpnkpejnahhajaaGreat
open Go.RowKit
set_option linter.unusedSimpArgs false

def rowB (H : Nat) (row : List Int) : Bool := decide (row.length = H + 1) && row.all numB
def formB (W H : Nat) (tb : List (List Int)) : Bool := decide (tb.length = W + 1) && tb.all (rowB H)
def boundB (bs : List Bl) (tb : List (List Int)) (W H : Nat) : Bool := (List.range (W + 1)).all fun w => (List.range (H + 1)).all fun h => decide (needT bs (at2 tb) w h ≤ at2 tb w h)
end Go.Proofs.YtpnkpejnahhajaaGreat

namespace Go.Proofs.YtpnkpejnahhajaaGreat
open Go.RowKit
set_option linter.unusedSimpArgs false

theorem Frm.len {W H : Nat} {tb : List (List Int)} (h : Frm W H tb) {i : Nat} (hi : i ≤ W) : (tb.getD i []).length = H + 1 := (h.2 i hi).1

/-- What Check answers. -/
def checkC (W H : Int) (bs : List Bl) (tb : List (List Int)) : Int :=
  if taskB W H bs = true then (if (formB W.toNat H.toNat tb && boundB bs tb W.toNat H.toNat) = true then 0 else 21) else 2

end Go.Proofs.YtpnkpejnahhajaaGreat

namespace Go.Proofs.YtpnkpejnahhajaaGreat
open Go.RowKit
set_option linter.unusedSimpArgs false

def BestPost (bs : List Bl) (W H : Nat) (w : World) (e : Ending) (w' : World) : Prop :=
  ∃ P m g c g2, e = .returned (.tuple #[.slice (some ⟨g, 0, none⟩) P.length c, .slice (some ⟨g2, 0, none⟩) (W + 1) (W + 1), .int .i64 0]) ∧ Makes bs W H P m ∧ sumV m = mst bs W H ∧ P.length ≤ c ∧ w.heap.size ≤ g ∧ w.heap.size ≤ g2 ∧
    w'.ownsRow w.heap.size 61 2 (.slice (some ⟨g, 0, none⟩) P.length c) P.length (flatE enc2 P) ∧ RowsOwn w' w.heap.size g2 (mstTb bs W H) ∧ Gr w w'

/-- As above, and the plan is the only one of its kind. -/
def BestPost1 (bs : List Bl) (W H : Nat) (w : World) (e : Ending) (w' : World) : Prop :=
  ∃ P m g c g2, e = .returned (.tuple #[.slice (some ⟨g, 0, none⟩) P.length c, .slice (some ⟨g2, 0, none⟩) (W + 1) (W + 1), .int .i64 0]) ∧ Makes bs W H P m ∧ (sumV m = mst bs W H ∧ PlanOf bs W H P) ∧ P.length ≤ c ∧ w.heap.size ≤ g ∧ w.heap.size ≤ g2 ∧
    w'.ownsRow w.heap.size 61 2 (.slice (some ⟨g, 0, none⟩) P.length c) P.length (flatE enc2 P) ∧ RowsOwn w' w.heap.size g2 (mstTb bs W H) ∧ Gr w w'

set_option maxRecDepth 100000 in
set_option maxHeartbeats 1000000 in
theorem Best_one (W H : Nat) (BA : Option Addr) (bn bc : Nat) (bs : List Bl) (w : World) (hbn : bs.length = bn) (hbl : bn ≤ 281474976710656) (hB : Tris w BA bs) (ht : taskB W H bs = true) :
    Calls Tryz.prog 14 #[.int .i64 (W : Int), .int .i64 (H : Int), .slice BA bn bc] w (BestPost1 bs W H w) := by
  obtain ⟨⟨hW1, hW2⟩, ⟨hH1, hH2⟩, h16, hbs⟩ := (taskB_iff _ _ _).1 ht
  have HT := Lib.hid (isTask_any W H BA bn bc bs w hbn hbl hB _ ht)
  have HF := Lib.hid (fun W' (g : Gr w W') => fill_any W H BA bn bc bs W' (by omega) (by omega) hbn (by omega) hbs (hB.keep g))
  have HP := Lib.hid (fun g W' (h : TFull bs W H g W') => plan_any bs W H g (by omega) (by omega) (W + H) W H W' (Nat.le_refl _) (by omega) (Nat.le_refl _) (by omega) (Nat.le_refl _) h)
  have HB := Lib.hid (fun g W' (h : TFull bs W H g W') => bound_any bs W H g W' (by omega) (by omega) h)
  clear ht hbn hB hbs h16
  go_enter Tryz.func14, Tryz.ntmps14
  go_wp2_with fail
  refine HT.out.mono ?_
  rintro e w1 ⟨rfl, hb⟩
  go_wp2_with fail
  refine (HF.out _ hb).mono ?_
  rintro e w2 ⟨g, rfl, -, hT2, hb2⟩
  have HT2 := Lib.hid hT2
  clear hT2
  go_wp2_with fail
  refine (HP.out _ _ HT2.out).mono ?_
  rintro e w3 ⟨P, m, hM, hs, g1, c1, rfl, hl, hg1, hown, hb3⟩
  have HM := Lib.hid hM
  have HS := Lib.hid hs
  have HO := Lib.hid hown
  clear hM hs hown
  go_wp2_with fail
  refine (HB.out _ _ (HT2.out.keep hb3)).mono ?_
  rintro e w4 ⟨g2, rfl, hg2, hR, hb4⟩
  have HR := Lib.hid hR
  clear hR
  go_wp2_with fail
  go_ret3
  have e1 := hb.size
  have e2 := (hb.trans hb2).size
  have e3 := ((hb.trans hb2).trans hb3).size
  refine ⟨P, m, g1, c1, g2, rfl, HM.out, HS.out, hl, by omega, by omega, owns_gr (owns_base HO.out e2) hb4, ?_, ((hb.trans hb2).trans hb3).trans hb4⟩
  obtain ⟨cs, h1, h2⟩ := HR.out
  refine ⟨cs, h1, fun i row hr => ?_⟩
  obtain ⟨b, c, h3, h4⟩ := h2 i row hr
  exact ⟨b, c, h3, owns_base h4 e3⟩

end Go.Proofs.YtpnkpejnahhajaaGreat

namespace Go.Proofs.YtpnkpejnahhajaaGreat
open Go.RowKit
set_option linter.unusedSimpArgs false

theorem Makes.readT {bs : List Bl} {W H : Nat} {P : List St} {m : List Bl} (h : Makes bs W H P m) (h1 : 1 ≤ W) (h2 : W ≤ 48) (h3 : 1 ≤ H) (h4 : H ≤ 48) : readL bs W H P = some m := by
  have hl := h.len h1 h3
  have hm : W * H ≤ 48 * 48 := Nat.mul_le_mul h2 h4
  have hr := h.rd []
  rw [List.append_nil] at hr
  unfold readL
  rw [if_pos (by omega), hr]
  rfl
theorem Makes.short {bs : List Bl} {W H : Nat} {P : List St} {m : List Bl} (h : Makes bs W H P m) (h1 : 1 ≤ W) (h2 : W ≤ 48) (h3 : 1 ≤ H) (h4 : H ≤ 48) : P.length ≤ 4608 := by
  have hl := h.len h1 h3
  have hm : W * H ≤ 48 * 48 := Nat.mul_le_mul h2 h4
  omega

def PlannedPost (bs : List Bl) (W H : Nat) (w : World) (e : Ending) (w' : World) : Prop :=
  ∃ P m l g c v, (Makes bs W H P m ∧ PlanOf bs W H P ∧ v = sumV m) ∧ Boxes bs 0 0 W H P l ∧ madeBx bs l = sumA m ∧ e = .returned (.tuple #[.slice (some ⟨g, 0, none⟩) l.length c, .int .i64 v, .bool true]) ∧ Rd 5 enc5 w' (some ⟨g, 0, none⟩) l ∧ Gr w w'

set_option maxRecDepth 100000 in
set_option maxHeartbeats 4000000 in
theorem planned_any (W H : Nat) (BA : Option Addr) (bn bc : Nat) (bs : List Bl) (w : World) (hbn : bs.length = bn) (hbl : bn ≤ 281474976710656) (hB : Tris w BA bs) (ht : taskB W H bs = true) :
    Calls Tryz.prog 12 #[.agg #[.int .i64 (W : Int), .int .i64 (H : Int), .slice BA bn bc]] w (PlannedPost bs W H w) := by
  obtain ⟨⟨hW1, hW2⟩, ⟨hH1, hH2⟩, -, -⟩ := (taskB_iff _ _ _).1 ht
  have HB := Lib.hid hB
  have HT := Lib.hid ht
  have HBN := Lib.hid hbn
  have hW1' : 1 ≤ W := by omega
  have hW2' : W ≤ 48 := by omega
  have hH1' : 1 ≤ H := by omega
  have hH2' : H ≤ 48 := by omega
  clear hB ht hbn hW1 hW2 hH1 hH2
  go_enter Tryz.func12, Tryz.ntmps12
  go_upto_region 1 with fail
  generalize hW1x : World.alloc w _ = W1
  have hg1 : Gr w W1 := by rw [← hW1x]; exact (Gr.refl w).alloc _
  have hB1 : Blk W1 w.heap.size 45 #[.int .i64 (W : Int), .int .i64 (H : Int), .slice BA bn bc] := by rw [← hW1x]; exact heap_alloc_new w _
  generalize w.heap.size = U at hB1 ⊢
  have HU := Lib.hid hB1
  clear hW1x hB1
  have u0 := HU.out.cell 0
  have u1 := HU.out.cell 1
  have u2 := HU.out.cell 2
  go_wp2_with fail
  refine (Best_one W H BA bn bc bs _ HBN.out hbl (HB.out.keep hg1) HT.out).mono ?_
  rintro e W2 ⟨P, m, g, c, g2, rfl, hM, ⟨-, hD⟩, hPc, -, -, hown, -, hg2⟩
  have HD := Lib.hid hD
  have HM := Lib.hid hM
  have HP := Lib.hid (Rd_of_owns enc2_len rfl hown)
  have hshort := hM.short hW1' hW2' hH1' hH2'
  obtain ⟨n, hn⟩ : ∃ n, P.length = n := ⟨_, rfl⟩
  rw [hn] at hPc hshort ⊢
  have HN := Lib.hid hn
  have HWL : Hid (worthL W H bs P = (sumV m, 0)) := Lib.hid (by unfold worthL; rw [if_pos HT.out, hM.readT hW1' hW2' hH1' hH2'])
  obtain ⟨l, hl1, hl2⟩ := hM.boxes 0 0
  have HBX := Lib.hid hl1
  have HMB := Lib.hid hl2
  have hg12 := hg1.trans hg2
  clear hM hD hown hn hl1 hl2 u0 u1 u2
  have u0 := (HU.out.keep hg2).cell 0
  have u1 := (HU.out.keep hg2).cell 1
  have u2 := (HU.out.keep hg2).cell 2
  go_wp2_with fail
  refine (Worth_any W H BA (some ⟨g, 0, none⟩) bn bc n c bs P _ HBN.out hbl HN.out (by omega) (HB.out.keep hg12) HP.out).mono ?_
  rintro e W3 ⟨rfl, hg3⟩
  rw [HWL.out]
  clear u0 u1 u2
  have HU3 := Lib.hid (HU.out.keep (hg2.trans hg3))
  have hg13 := hg12.trans hg3
  have HP3 := Lib.hid (HP.out.keep hg3)
  have hin := fun k0 => tboxes_any bs W3 BA (some ⟨g, 0, none⟩) bn bc n c P HBN.out HN.out (by omega) HP3.out HBX.out (by rw [HN.out]; omega) (by omega) (by omega) k0 0 [] W3 (Gr.refl _) (by simp)
  have HIN := Lib.hid hin
  clear hin hg1 hg2 hg3 hg12 HU HP
  have u0 := HU3.out.cell 0
  have u1 := HU3.out.cell 1
  have u2 := HU3.out.cell 2
  go_wp2_with fail
  refine (HIN.out 0).mono ?_
  rintro e W4 ⟨g4, c4, rfl, hc4, ho4, hg4⟩
  rw [Nat.zero_add, HN.out]
  have HO4 := Lib.hid ho4
  clear ho4 u0 u1 u2
  have hnn : ((n : Int) == (n : Int)) = true := by simp
  go_wp2_with fail
  go_ret3
  exact ⟨P, m, l, g4, c4, sumV m, ⟨HM.out, HD.out, rfl⟩, HBX.out, HMB.out, rfl, Rd_of_owns enc5_len rfl HO4.out, hg13.trans hg4⟩

end Go.Proofs.YtpnkpejnahhajaaGreat

namespace Go.Proofs.YtpnkpejnahhajaaGreat
open Go.RowKit
set_option linter.unusedSimpArgs false

theorem madeBx_take {bs : List Bl} {l : List Bx} {k : Nat} {b : Bx} (h : l[k]? = some b) : madeBx bs (l.take (k + 1)) = madeBx bs (l.take k) + (if 0 ≤ b.k then (bl bs b.k.toNat).1 * (bl bs b.k.toNat).2.1 else 0) := by
  rw [List.take_add_one, h, madeBx_app]; simp [madeBx]
theorem madeBx_bd {bs : List Bl} (hb : ∀ b ∈ bs, blB b = true) {l : List Bx} (h : ∀ b ∈ l, BxFits bs b) : 0 ≤ madeBx bs l ∧ madeBx bs l ≤ 2304 * l.length := by
  induction l with
  | nil => simp [madeBx]
  | cons b r ih =>
    have h1 := ih (fun c hc => h c (List.mem_cons_of_mem _ hc))
    have h2 : 0 ≤ (if 0 ≤ b.k then (bl bs b.k.toNat).1 * (bl bs b.k.toNat).2.1 else 0) ∧ (if 0 ≤ b.k then (bl bs b.k.toNat).1 * (bl bs b.k.toNat).2.1 else 0) ≤ 2304 := by
      rcases h b List.mem_cons_self with e | ⟨i, e, hi, -⟩
      · rw [if_neg (by omega)]; omega
      · rw [if_pos (by omega), e, Int.toNat_natCast]
        obtain ⟨⟨a1, a2⟩, ⟨a3, a4⟩, -⟩ := (blB_iff _).1 (hb _ (bl_mem hi))
        have m1 : (bl bs i).1 * (bl bs i).2.1 ≤ 48 * 48 := Int.mul_le_mul a2 a4 (by omega) (by omega)
        have m2 : 0 ≤ (bl bs i).1 * (bl bs i).2.1 := Int.mul_nonneg (by omega) (by omega)
        omega
    simp only [madeBx, List.length_cons]; omega
end Go.Proofs.YtpnkpejnahhajaaGreat

namespace Go.Proofs.YtpnkpejnahhajaaGreat
open Go.RowKit
set_option linter.unusedSimpArgs false

/-- A job with a slot has a time at which it may be worked on. -/
theorem SchedP.jobsV {B : Int} {l : List Jb} {s : List Sl} (h : SchedP B l s) (hJ : JobsP l) (hd : ∀ j ∈ l, j.2.1 ≤ 1048576) : JobsV l := fun j hj => by
  have h1 := hJ j hj
  have h2 := hd j hj
  suffices j.1 < j.2.1 by omega
  obtain ⟨i, hi, rfl⟩ := List.mem_iff_getElem.1 hj
  have hjb : jbA l i = l[i] := by unfold jbA; rw [List.getD_eq_getElem?_getD, List.getElem?_eq_getElem hi]; rfl
  have hdone := h.done i hi
  rw [hjb] at hdone
  refine Classical.byContradiction fun hc => ?_
  have hz : doneS s i = 0 := by
    unfold doneS
    rw [lsum_congr (g := fun _ => 0) _ (fun x hx => by
      split
      · rename_i e
        obtain ⟨-, -, h3, h4, h5⟩ := h.ok x hx
        have e2 : x.1.toNat = i := by omega
        rw [e2, hjb] at h4 h5
        omega
      · rfl)]
    exact lsum_zero _
  omega

/-- All work flows just if there is a schedule. -/
theorem Left.iff {B : Nat} {l : List Jb} {r' : Nat → Nat → Int} {F : Nat → Option Nat} {nx : Nat → List Nat} {cnt : Nat} (h : Left B l.length ((tms l).length - 1) l (tms l) r' F nx cnt) (hJ : JobsP l) (hd : ∀ j ∈ l, j.2.1 ≤ 1048576) (hn : l.length ≤ 32) (hB : B ≤ 8) :
    (∀ v, F v ≠ none → v = 0) ↔ ∃ s, SchedP B l s := by
  constructor
  · intro h0
    exact (h.full h0).sched hn hB
  · rintro ⟨s, hs⟩ v hv
    refine Classical.byContradiction fun h0 => ?_
    exact dual (fun j hj => (hs.jobsV hJ hd j hj).1) hs (h.refuse (hs.jobsV hJ hd) hn hv h0)

set_option maxHeartbeats 1000000 in
/-- isPossible says whether there is a schedule. -/
theorem possible_any {B n : Nat} {A : Option Addr} {c : Nat} {l : List Jb} {p : Nat} {F : Nat → Option Nat} {r' : Nat → Nat → Int} (w : World) (h : PlanAt B n A c l p F r' w) (hn : l.length = n) (hn32 : n ≤ 32) (hB : B ≤ 8) (hJ : JobsP l) (hd : ∀ j ∈ l, j.2.1 ≤ 1048576) :
    Calls Tryz.prog 27 #[.pointer (some ⟨p, 0, none⟩)] w fun e w' => ∃ b : Bool, e = .returned (.bool b) ∧ (b = true ↔ ∃ s, SchedP B l s) ∧ w' = w := by
  obtain ⟨g, m, fb, SA, sc, nx, hPR, hL, h0⟩ := h
  subst hn
  refine (isPossible_any w hPR h0).mono ?_
  rintro e w' ⟨b, he, hb, hw⟩
  exact ⟨b, he, hb.trans (hL.iff hJ hd hn32 hB), hw⟩

end Go.Proofs.YtpnkpejnahhajaaGreat

namespace Go.Proofs.YtpnkpejnahhajaaGreat
open Go.RowKit
set_option linter.unusedSimpArgs false

/-- What Fewest answers. -/
def FewP (l : List Jb) (w : World) (e : Ending) (w' : World) : Prop :=
  (okT 1 l = false ∧ e = .returned (.tuple #[.int .i64 0, .int .i64 2]) ∧ Gr w w') ∨
  (okT 1 l = true ∧ ∃ r : Nat, e = .returned (.tuple #[.int .i64 (r : Int), .int .i64 0]) ∧ Gr w w' ∧ r ≤ 8 ∧ (r = 0 → ∀ B : Nat, 1 ≤ B → B ≤ 8 → ¬ ∃ s, SchedP B l s) ∧ (1 ≤ r → (∃ s, SchedP r l s) ∧ ∀ B : Nat, 1 ≤ B → B < r → ¬ ∃ s, SchedP B l s))

theorem JobsV.due {l : List Jb} (h : JobsV l) : ∀ j ∈ l, j.2.1 ≤ 1048576 := fun j hj => (h j hj).1.2.2

set_option maxRecDepth 100000 in
set_option maxHeartbeats 8000000 in
theorem fewest_any (A : Option Addr) (n c : Nat) (l : List Jb) (w : World) (hn : l.length = n) (hb : n ≤ 281474976710656) (hp : Tris w A l) :
    Calls Tryz.prog 13 #[.slice A n c] w (FewP l w) := by
  have HIT := Lib.hid (fun r hr => isTaskB_any 1 A n c l w hn hb hp r hr)
  cases hr : okT 1 l with
  | false =>
    have HE := Lib.hid hr
    clear hr
    go_enter Tryz.func13, Tryz.ntmps13
    go_wp2_with fail
    refine (HIT.out _ HE.out).mono ?_
    rintro e w2 ⟨rfl, hg2⟩
    go_wp2_with fail
    refine bodyPost_ret (v := .tuple #[.int .i64 0, .int .i64 2]) ?_ ?_ ?_
    · simp [results, Tryz.results13, go_sem]
    · rfl
    · exact Or.inl ⟨HE.out, rfl, hg2⟩
  | true =>
    obtain ⟨-, hn32, hV⟩ := okT_v hr
    rw [hn] at hn32
    have HE := Lib.hid hr
    have HNP := Lib.hid (fun (B : Nat) W (hB : 1 ≤ B ∧ B ≤ 8) (hW : Gr w W) => (newPlan_any B A n c l W hB hn hn32 hV.p (hp.keep hW)).mono (fun e w' h => h.at_ hV.p))
    have HPO := Lib.hid (fun (B p : Nat) (F : Nat → Option Nat) (r' : Nat → Nat → Int) W (hB : B ≤ 8) (h : PlanAt B n A c l p F r' W) => possible_any W h hn hn32 hB hV.p hV.due)
    clear hr hV hp hn
    go_enter Tryz.func13, Tryz.ntmps13
    go_wp2_with fail
    refine (HIT.out _ HE.out).mono ?_
    rintro e w2 ⟨rfl, hg2⟩
    go_wp2_with fail
    go_loopw [4] (fun z wr => ∃ k : Nat, 1 ≤ k ∧ k ≤ 9 ∧ z = .int .i64 (k : Int) ∧ Hid (∀ B : Nat, 1 ≤ B → B < k → ¬ ∃ s, SchedP B l s) ∧ Gr w wr) (fun z _ => 9 - (intOf z).toNat)
    case atStart => exact ⟨1, Nat.le_refl _, by omega, rfl, Lib.hid (fun B h1 h2 => by omega), hg2⟩
    case round =>
      clear hg2
      obtain ⟨k, hk1, hk9, rfl, hno, hg⟩ := hrel
      by_cases hk : k ≤ 8
      · have hki : (k : Int) ≤ 8 := by omega
        have HNK := Lib.hid (HNP.out k _ ⟨hk1, hk⟩ hg)
        go_wp2_with fail
        refine HNK.out.mono ?_
        rintro e w3 ⟨p, F, r', rfl, hat, hg3⟩
        have HPK := Lib.hid (HPO.out k p F r' w3 hk hat)
        have hg4 := hg.trans hg3
        clear hat hg3 HNK
        go_wp2_with fail
        refine HPK.out.mono ?_
        rintro e w4 ⟨b, rfl, hb, rfl⟩
        have HB := Lib.hid hb
        clear hb HPK
        cases b with
        | true =>
          have HY : Hid (∃ s, SchedP k l s) := Lib.hid (HB.out.1 rfl)
          clear HB
          go_wp2_with fail
          try rw [Exit.noGoto_ret]
          refine bodyPost_ret (v := .tuple #[.int .i64 (k : Int), .int .i64 0]) ?_ ?_ ?_
          · simp [results, Tryz.results13, go_sem]
          · rfl
          · exact Or.inr ⟨HE.out, k, rfl, hg4, hk, fun h => by omega, fun _ => ⟨HY.out, hno.out⟩⟩
        | false =>
          have HNO : Hid (∀ B : Nat, 1 ≤ B → B < k + 1 → ¬ ∃ s, SchedP B l s) := Lib.hid (fun B h1 h2 => by
            by_cases e : B = k
            · subst e; intro hs; have := HB.out.2 hs; cases this
            · exact hno.out B h1 (by omega))
          go_wp2_with fail
          go_roundw
          case rel => exact ⟨k + 1, by omega, by omega, by go_num, HNO, hg4⟩
          case measure => simp [intOf]; omega
      · obtain rfl : k = 9 := by omega
        go_wp2_with fail
        try rw [Exit.noGoto_ret]
        refine bodyPost_ret (v := .tuple #[.int .i64 0, .int .i64 0]) ?_ ?_ ?_
        · simp [results, Tryz.results13, go_sem]
        · rfl
        exact Or.inr ⟨HE.out, 0, rfl, hg, by omega, fun _ B h1 h2 => hno.out B h1 (by omega), fun h => by omega⟩

end Go.Proofs.YtpnkpejnahhajaaGreat

namespace Go.Proofs.YtpnkpejnahhajaaGreat

def mkJ (qs : List Bl) (d : Nat) (b : Bx) : List Jb := if 0 ≤ b.k then [(0, (d : Int), (bl qs b.k.toNat).1 * (bl qs b.k.toNat).2.1)] else []
def jobsB (qs : List Bl) (d : Nat) (l : List Bx) : List Jb := l.flatMap (mkJ qs d)
def lgB (qs : List Bl) (d : Nat) (l : List Bx) : Bool := (jobsB qs d l).any fun j => decide ((d : Int) < j.2.2)
theorem jobsB_take (qs : List Bl) (d : Nat) {l : List Bx} {k : Nat} {b : Bx} (h : l[k]? = some b) : jobsB qs d (l.take (k + 1)) = jobsB qs d (l.take k) ++ mkJ qs d b := by
  unfold jobsB
  rw [List.take_add_one, h, List.flatMap_append]; simp
theorem lgB_take (qs : List Bl) (d : Nat) {l : List Bx} {k : Nat} {b : Bx} (h : l[k]? = some b) : lgB qs d (l.take (k + 1)) = (lgB qs d (l.take k) || (mkJ qs d b).any fun j => decide ((d : Int) < j.2.2)) := by
  unfold lgB
  rw [jobsB_take qs d h, List.any_append]
theorem wkS_app (a b : List Jb) : wkS (a ++ b) = wkS a + wkS b := lsum_app _ _ _
theorem wkS_jobsB (qs : List Bl) (d : Nat) : ∀ l, wkS (jobsB qs d l) = madeBx qs l
  | [] => rfl
  | b :: r => by
    have ih := wkS_jobsB qs d r
    unfold jobsB at ih ⊢
    rw [List.flatMap_cons, wkS_app, ih]
    unfold mkJ
    simp only [madeBx]
    split <;> simp [wkS, lsum]
theorem jobsB_len (qs : List Bl) (d : Nat) : ∀ l, (jobsB qs d l).length ≤ l.length
  | [] => Nat.le_refl _
  | b :: r => by
    have ih := jobsB_len qs d r
    unfold jobsB at ih ⊢
    rw [List.flatMap_cons, List.length_append, List.length_cons]
    have h1 : (mkJ qs d b).length ≤ 1 := by unfold mkJ; split <;> simp
    omega
theorem jobsB_win {qs : List Bl} (d : Nat) {l : List Bx} (hq : ∀ b ∈ qs, blB b = true) (h : ∀ b ∈ l, BxFits qs b) : WinJ d (jobsB qs d l) := by
  intro j hj
  obtain ⟨b, hb, hj⟩ := List.mem_flatMap.1 hj
  unfold mkJ at hj
  split at hj
  · next h0 =>
    obtain rfl := List.mem_singleton.1 hj
    rcases h b hb with e | ⟨i, e, hi, -⟩
    · omega
    · rw [e, Int.toNat_natCast]
      obtain ⟨⟨a1, a2⟩, ⟨a3, a4⟩, -⟩ := (blB_iff _).1 (hq _ (bl_mem hi))
      refine ⟨rfl, rfl, ?_⟩
      have m1 : 1 * 1 ≤ (bl qs i).1 * (bl qs i).2.1 := Int.mul_le_mul a1 a3 (by omega) (by omega)
      show 1 ≤ (bl qs i).1 * (bl qs i).2.1
      omega
  · cases hj
theorem jobsB_ok {qs : List Bl} {d : Nat} {l : List Bx} (hd : 1 ≤ d) (hb : d ≤ 1048576) (hq : ∀ b ∈ qs, blB b = true) (h : ∀ b ∈ l, BxFits qs b) (h32 : (jobsB qs d l).length ≤ 32) : okT 1 (jobsB qs d l) = true := by
  unfold okT
  rw [decide_eq_true (by omega : (1 : Int) ≤ 1), decide_eq_true (by omega : (1 : Int) ≤ 8), decide_eq_true h32]
  simp only [Bool.true_and, List.all_eq_true]
  intro j hj
  have hw := jobsB_win d hq h j hj
  obtain ⟨b, hbm, hj⟩ := List.mem_flatMap.1 hj
  unfold mkJ at hj
  split at hj
  · next h0 =>
    obtain rfl := List.mem_singleton.1 hj
    rcases h b hbm with e | ⟨i, e, hi, -⟩
    · omega
    · rw [e, Int.toNat_natCast] at hw ⊢
      obtain ⟨⟨a1, a2⟩, ⟨a3, a4⟩, -⟩ := (blB_iff _).1 (hq _ (bl_mem hi))
      have m1 : (bl qs i).1 * (bl qs i).2.1 ≤ 48 * 48 := Int.mul_le_mul a2 a4 (by omega) (by omega)
      unfold okJ
      refine decide_eq_true ?_
      dsimp only at hw ⊢
      omega
  · cases hj
theorem few_want {qs : List Bl} {d : Nat} {l : List Bx} {w w' : World} {e : Ending} (hd : 1 ≤ d) (hb : d ≤ 1048576) (hq : ∀ b ∈ qs, blB b = true) (h : ∀ b ∈ l, BxFits qs b) (h32 : (jobsB qs d l).length ≤ 32)
    (hf : FewP (jobsB qs d l) w e w') : e = .returned (.tuple #[.int .i64 (wantN (madeBx qs l) d (lgB qs d l)), .int .i64 0]) ∧ Gr w w' := by
  rcases hf with ⟨hf, -⟩ | ⟨-, r, rfl, hg, h8, h0, h1⟩
  · rw [jobsB_ok hd hb hq h h32] at hf; cases hf
  · refine ⟨?_, hg⟩
    rw [← wkS_jobsB qs d l, win_few (large := lgB qs d l) hd hb (jobsB_win d hq h) h32 ?_ h8 h0 h1]
    unfold lgB
    rw [List.any_eq_true]
    constructor
    · rintro ⟨j, hj, hl⟩; exact ⟨j, hj, of_decide_eq_true hl⟩
    · rintro ⟨j, hj, hl⟩; exact ⟨j, hj, decide_eq_true hl⟩

end Go.Proofs.YtpnkpejnahhajaaGreat
