/- Layer 2: what a plan is worth, and what it leaves. -/
import Derived.Test.YtobcdkjomehdkaaGreatBu27
import Derived.Test.YtobcdkjomehdkaaGreatBu26
import Derived.Test.YtobcdkjomehdkaaGreatBu0
import Derived.ProofKit
import Derived.Test.YtobcdkjomehdkaaGreatRows
import Derived.Lib.SmallJoins
import Derived.Deep.Slices
import Derived.Deep.Fields
import Derived.ChangeSame
import Derived.Test.YtobcdkjomehdkaaGreatBu1
import Derived.WideKeyPair
namespace Go.Proofs.YtobcdkjomehdkaaGreat
open Go.RowKit
set_option linter.unusedSimpArgs false
set_option maxRecDepth 100000
set_option maxHeartbeats 80000000

theorem take_bl {m : List Bl} {k : Nat} (h : k < m.length) : m.take (k + 1) = m.take k ++ [bl m k] := by
 rw [List.take_add_one, getD_of (0, 0, 0) h]; rfl
theorem sumV_take {m : List Bl} {k : Nat} (h : k < m.length) : sumV (m.take (k + 1)) = sumV (m.take k) + (bl m k).2.2 := by
 rw [take_bl h, sumV_app]; simp [sumV]
def Mades (bs m : List Bl) : Prop := m.length ≤ 8192 ∧ ∀ b ∈ m, b ∈ bs
theorem readL_made {bs : List Bl} {W H : Int} {plan : List St} {m : List Bl} (h : readL bs W H plan = some m) : Mades bs m := by
 unfold readL at h
 split at h
 ·rename_i h8
  obtain ⟨Q, hQ⟩ : ∃ Q, rdP bs W H plan = Q := ⟨_, rfl⟩
  rw [hQ] at h
  match Q, hQ, h with
  | some (m', []), hQ, h =>
    obtain rfl : m' = m := by simpa [allOf] using h
    obtain ⟨h1, h2⟩ := rdP_made bs _ _ _ _ _ _ (Nat.le_refl _) hQ
    exact ⟨by omega, h1⟩
  | some (_, _ :: _), _, h => simp [allOf] at h
  | none, _, h => simp [allOf] at h
 ·cases h
theorem Mades.take {bs m : List Bl} (h : Mades bs m) (k : Nat) : Mades bs (m.take k) :=
 ⟨Nat.le_trans (List.length_take_le' ..) h.1, fun b hb => h.2 b (List.mem_of_mem_take hb)⟩
theorem Mades.bd {bs m : List Bl} (hb : ∀ b ∈ bs, blB b = true) (h : Mades bs m) : (0 ≤ sumV m ∧ sumV m ≤ 8589934592) ∧ (0 ≤ sumA m ∧ sumA m ≤ 18874368) := by
 have h1 := sum_bd hb h.2
 have h2 := h.1
 omega
theorem Mades.at {bs m : List Bl} (hb : ∀ b ∈ bs, blB b = true) (h : Mades bs m) {k : Nat} (hk : k < m.length) : (1 ≤ (bl m k).1 ∧ (bl m k).1 ≤ 48) ∧ (1 ≤ (bl m k).2.1 ∧ (bl m k).2.1 ≤ 48) ∧ 0 ≤ (bl m k).2.2 ∧ (bl m k).2.2 ≤ 1048576 :=
 (blB_iff _).1 (hb _ (h.2 _ (bl_mem hk)))

def FollowPost (t : Bool) (R : Option (List Bl)) (w : World) (e : Ending) (w' : World) : Prop :=
 Gr w w' ∧ match t, R with
 | false, _ => e = .returned (.tuple #[.slice none 0 0, .int .i64 2])
 | true, none => e = .returned (.tuple #[.slice none 0 0, .int .i64 20])
 | true, some m => ∃ A c, e = .returned (.tuple #[.slice A m.length c, .int .i64 0]) ∧ Tris w' A m

theorem Sz_of {W H : Int} {bs : List Bl} (h : taskB W H bs = true) : Sz W H := by
 obtain ⟨h1, h2, -⟩ := (taskB_iff _ _ _).1 h
 exact ⟨h1, h2⟩

theorem follow_any (W H : Int) (BA PA : Option Addr) (bn bc n pc : Nat) (bs : List Bl) (plan : List St) (w : World) (hbn : bs.length = bn) (hbl : bn ≤ 281474976710656) (hn : plan.length = n) (hl : n ≤ 281474976710656) (hB : Tris w BA bs) (hP : Pts w PA plan) :
 Calls Tryz.prog 39 #[.int .i64 W, .int .i64 H, .slice BA bn bc, .slice PA n pc] w (FollowPost (taskB W H bs) (readL bs W H plan) w) := by
 rcases ht : taskB W H bs with _ | _
 ·have HT := Lib.hid (fun w (hB : Tris w BA bs) => isTask_any W H BA bn bc bs w hbn hbl hB _ ht)
  clear ht
  go_enter Tryz.func39, Tryz.ntmps39
  go_wp2_with fail
  refine (HT.out _ hB).mono ?_
  rintro e w1 ⟨rfl, hb⟩
  go_wp2_with fail
  go_ret2
  exact ⟨hb, rfl⟩
 ·have HT := Lib.hid (isTask_any W H BA bn bc bs w hbn hbl hB _ ht)
  have HR := Lib.hid (fun w' (h : Gr w w') => read_any W H BA PA bn bc n pc bs plan w' hbn hn hl (Sz_of ht) (hB.keep h) (hP.keep h))
  generalize readL bs W H plan = R at HR
  clear ht hB hP hbn hn
  go_enter Tryz.func39, Tryz.ntmps39
  go_wp2_with fail
  refine HT.out.mono ?_
  rintro e w1 ⟨rfl, hb⟩
  go_wp2_with fail
  refine (HR.out _ hb).mono ?_
  rcases R with _ | m
  ·rintro e w2 ⟨hb2, v, rfl⟩
   go_wp2_with fail
   go_ret2
   exact ⟨hb.trans hb2, rfl⟩
  ·rintro e w2 ⟨hb2, A, c, rfl, hT⟩
   have HTT := Lib.hid hT
   clear hT
   go_wp2_with fail
   go_ret2
   exact ⟨hb.trans hb2, A, c, rfl, HTT.out⟩

def worthL (W H : Int) (bs : List Bl) (plan : List St) : Int × Int :=
 if taskB W H bs = true then (match readL bs W H plan with
  | some m => (sumV m, 0)
  | none => (0, 20)) else (0, 2)
def restL (W H : Int) (bs : List Bl) (plan : List St) : Int × Int :=
 if taskB W H bs = true then (match readL bs W H plan with
  | some m => (W * H - sumA m, 0)
  | none => (0, 20)) else (0, 2)

theorem Worth_any (W H : Int) (BA PA : Option Addr) (bn bc n pc : Nat) (bs : List Bl) (plan : List St) (w : World) (hbn : bs.length = bn) (hbl : bn ≤ 281474976710656) (hn : plan.length = n) (hl : n ≤ 281474976710656) (hB : Tris w BA bs) (hP : Pts w PA plan) :
 Calls Tryz.prog 17 #[.int .i64 W, .int .i64 H, .slice BA bn bc, .slice PA n pc] w fun e w' => e = .returned (.tuple #[.int .i64 (worthL W H bs plan).1, .int .i64 (worthL W H bs plan).2]) ∧ Gr w w' := by
 have HF := Lib.hid (follow_any W H BA PA bn bc n pc bs plan w hbn hbl hn hl hB hP)
 have HM := Lib.hid (fun m (h : readL bs W H plan = some m) => readL_made h)
 have HV := Lib.hid (fun (h : taskB W H bs = true) => ((taskB_iff _ _ _).1 h).2.2.2)
 obtain ⟨R, hR⟩ : ∃ R, readL bs W H plan = R := ⟨_, rfl⟩
 obtain ⟨t, ht⟩ : ∃ t, taskB W H bs = t := ⟨_, rfl⟩
 obtain ⟨r, hr⟩ : ∃ r, worthL W H bs plan = r := ⟨_, rfl⟩
 rw [hR, ht] at HF
 rw [hr]
 unfold worthL at hr
 rw [hR, ht] at hr
 clear hB hP hn hbn
 rcases t with _ | _
 ·obtain rfl : r = (0, 2) := by simpa using hr.symm
  clear hr hR ht HM HV
  go_enter Tryz.func17, Tryz.ntmps17
  go_wp2_with fail
  refine HF.out.mono ?_
  rintro e w1 ⟨hb, rfl⟩
  go_wp2_with fail
  go_ret2
  exact ⟨rfl, hb⟩
 ·rcases R with _ | m
  ·obtain rfl : r = (0, 20) := by simpa using hr.symm
   clear hr hR ht HM HV
   go_enter Tryz.func17, Tryz.ntmps17
   go_wp2_with fail
   refine HF.out.mono ?_
   rintro e w1 ⟨hb, rfl⟩
   go_wp2_with fail
   go_ret2
   exact ⟨rfl, hb⟩
  ·obtain rfl : r = (sumV m, 0) := by simpa using hr.symm
   have hV := HV.out ht
   have hM := HM.out m hR
   have HVV := Lib.hid hV
   have HMM := Lib.hid hM
   have hml := hM.1
   clear hr hR ht HM HV hV hM
   go_enter Tryz.func17, Tryz.ntmps17
   go_wp2_with fail
   refine HF.out.mono ?_
   rintro e w1 ⟨hb, A, c, rfl, hT⟩
   have HT := Lib.hid hT
   obtain ⟨mn, hmn⟩ : ∃ mn, m.length = mn := ⟨_, rfl⟩
   have HN := Lib.hid hmn
   rw [hmn] at hml ⊢
   clear hT HF hmn
   go_wp2_with fail
   go_loopw [12, 28] (fun s i wr => ∃ k : Nat, k ≤ mn ∧ i = .int .i64 k ∧ s = .int .i64 (sumV (m.take k)) ∧ Gr w1 wr) (fun _ i _ => mn - (intOf i).toNat)
   case atStart => exact ⟨0, Nat.zero_le _, rfl, rfl, Gr.refl _⟩
   case round =>
    obtain ⟨k, hk, rfl, rfl, hg⟩ := hrel
    by_cases hlt : k < mn
    ·have hkl : k < m.length := by have := HN.out; omega
     obtain ⟨b, off, rfl, h0, h1, h2⟩ := Tris_at (HT.out.keep hg) hkl
     rw [bl_getD] at h0 h1 h2
     obtain ⟨-, -, v1, v2⟩ := HMM.out.at HVV.out hkl
     obtain ⟨⟨s1, s2⟩, -⟩ := (HMM.out.take k).bd HVV.out
     have HS := Lib.hid (sumV_take hkl)
     generalize sumV (m.take k) = s at s1 s2 HS ⊢
     generalize bl m k = q at h0 h1 h2 v1 v2 HS
     obtain ⟨x, y, v⟩ := q
     dsimp only at h0 h1 h2 v1 v2
     go_wp2_with fail
     go_roundw
     case rel => exact ⟨k + 1, by omega, by go_num, by rw [HS.out], by (repeat (first | exact Gr.refl _ | assumption | (refine Gr.drew ?_) | (refine Gr.drewN ?_ _) | (refine Gr.alloc ?_ _) | (refine Gr.trans ?_ (by assumption))))⟩
     case measure => simp [intOf]; omega
    ·go_wp2_with fail
     go_ret2
     obtain rfl : k = mn := by omega
     exact ⟨by rw [List.take_of_length_le (by rw [HN.out]; exact Nat.le_refl _)]; rfl, hb.trans hg⟩

set_option maxRecDepth 100000
set_option maxHeartbeats 80000000

theorem two_any (w : World) : Calls Tryz.prog 41 #[] w fun e w' => e = .returned (.bool true) ∧ Gr w w' := by
 have ha : areaL [(0, 0), (3, 0), (3, 2), (0, 2)] = 12 := by decide
 have hw : worthL 3 2 [] [(0, 0)] = (0, 0) := by decide
 go_enter Tryz.func41, Tryz.ntmps41
 go_wp2_with fail
 generalize hW1 : World.alloc w _ = W1
 have hp : Pts W1 (some ⟨w.heap.size, 0, none⟩) [(0, 0), (3, 0), (3, 2), (0, 2)] := by rw [← hW1]; exact Rd_lit enc2_len (heap_alloc_new w _) rfl
 have hg1 : Gr w W1 := by rw [← hW1]; exact (Gr.refl w).alloc _
 clear hW1
 refine (Area_yes (some ⟨w.heap.size, 0, none⟩) 4 4 [(0, 0), (3, 0), (3, 2), (0, 2)] W1 rfl (by omega) hp (by decide)).mono ?_
 rintro e W2 ⟨rfl, hg2⟩
 rw [ha]
 go_wp2_with fail
 generalize hW3 : World.alloc W2 _ = W3
 have hp3 : Pts W3 (some ⟨W2.heap.size, 0, none⟩) [(0, 0)] := by rw [← hW3]; exact Rd_lit enc2_len (heap_alloc_new W2 _) rfl
 have hg3 : Gr W2 W3 := by rw [← hW3]; exact (Gr.refl W2).alloc _
 clear hW3
 refine (Worth_any 3 2 none (some ⟨W2.heap.size, 0, none⟩) 0 0 1 1 [] [(0, 0)] W3 rfl (by omega) rfl (by omega) (Rd_nil _ _) hp3).mono ?_
 rintro e W4 ⟨rfl, hg4⟩
 rw [hw]
 go_wp2_with fail
 go_ret
 exact ⟨rfl, ((hg1.trans hg2).trans hg3).trans hg4⟩

end Go.Proofs.YtobcdkjomehdkaaGreat

namespace Go.Proofs.YtobcdkjomehdkaaGreat
open Go.RowKit Go.ChangeShapes Go.WideShapes Go.ChangeAt
set_option linter.unusedSimpArgs false
set_option maxRecDepth 100000
set_option maxHeartbeats 80000000

section
variable {H : Type} {enc : TypeId × Value → H} {P : Program}

def Readable (P : Program) (ts : List TypeId) : Prop := ∀ t ∈ ts, P.readableRec t = true ∧ t < P.types.size

theorem trodAll_gr (hl : laidOutB P = true) {W W' : World} (hg : Gr W W') {sp : Nat → Bool} : ∀ {ts : List TypeId} {vs : List Value} {ds : List (DataW H)} {ps : List MemPlace}, Readable P ts →
 DataW.TrodAll enc P W 0 (fun _ => true) true ts vs ds ps → (∀ x ∈ ps, x.block < W.heap.size ∧ sp x.block = true) → DataW.TrodAll enc P W' 0 sp true ts vs ds ps
 | [], _, _, _, _, h, _ => by
   obtain ⟨rfl, rfl, rfl⟩ := trodAll_nil h
   exact rfl
 | t :: ts, vs, ds, ps, hr, h, hp => by
   obtain ⟨v, vs', d, ds', p, q, rfl, rfl, rfl, h1, h2⟩ := trodAll_cons h
   obtain ⟨r1, r2⟩ := hr t (List.mem_cons_self ..)
   refine ⟨p, q, WideElems.Trod_stays hl r1 r2 h1 (fun x hx => ?_) (fun x hx => (hp x (List.mem_append_left _ hx)).2), ?_, rfl⟩
   ·exact Below.same hg (hp x (List.mem_append_left _ hx)).1
   ·exact trodAll_gr hl hg (fun t ht => hr t (List.mem_cons_of_mem _ ht)) h2 (fun x hx => hp x (List.mem_append_right _ hx))

theorem frozen_gr {W W' : World} (hg : Gr W W') {b o : Nat} (hb : b < W.heap.size) : W'.frozen? ⟨b, o, none⟩ = W.frozen? ⟨b, o, none⟩ :=
 Below.frozen (p := ⟨b, o, none⟩) hg hb

theorem law_post {f : Func} {s : ChangeSpec} {W W' : World} {args : Array Value} {ds gs : List (DataW H)} {before : List MemPlace} {tb : TypeId}
 (hl : laidOutB P = true) (hr : Readable P f.params.toList) (hv : s.vars = []) (hres : f.resultTypes = #[tb]) (hb : P.underlying tb = some .bool)
 (hfn : (s.fn H (ds ++ gs)).results = [.lit (.bool true)] ∧ (s.fn H (ds ++ gs)).args = ds ∧ (s.fn H (ds ++ gs)).vars = [])
 (hW : DataW.Whole enc P f.params.toList s.vars false W args.toList ds gs before) (hg : Gr W W') :
 s.post enc P f false true false false W args (.bool true) W' := by
 have hlt : ∀ p ∈ before, p.block < W.heap.size := fun p hp => hW.lt p hp
 obtain ⟨p, q, hA, hV, hpq, hz, hn⟩ := id hW
 rw [hv] at hV
 obtain ⟨rfl, rfl⟩ := trodVars_none hV
 rw [List.append_nil] at hpq
 subst hpq
 have hargs : ∀ sp : Nat → Bool, (∀ x ∈ before, sp x.block = true) → DataW.TrodAll enc P W' 0 sp true f.params.toList args.toList ds before :=
  fun sp hsp => trodAll_gr hl hg hr hA (fun x hx => ⟨hlt x hx, hsp x hx⟩)
 have hbool : ∀ (b : Nat) (sp : Nat → Bool) (hd : Bool), DataW.TrodAll enc P W' b sp hd f.resultTypes.toList ((Value.bool true).resultList f.resultTypes.size) [.lit (.bool true)] [] := fun b sp hd => by
  rw [hres]
  exact trodAll_mk1 (shut_bool hb true)
 refine ⟨ds, [], before, [], before, [], hW, ?_, ?_, ?_, ?_, ?_⟩
 ·rw [hfn.1]; exact hbool _ _ _
 ·rw [hfn.2.1]; exact hargs _ (fun x hx => by simpa using hlt x hx)
 ·rw [hfn.2.2, hv]; exact rfl
 ·exact World.keptBut_mono (fun p hp => ⟨hp, Or.inr (Or.inl hp)⟩) (Below.frame hg (· ∈ before))
 ·intro h; exact absurd h (by decide)
end

end Go.Proofs.YtobcdkjomehdkaaGreat

namespace Go.Proofs.YtobcdkjomehdkaaGreat
open Go.RowKit Go.Deep Go.Joins Go.ChangeShapes Go.WideShapes Go.ChangeAt
set_option linter.unusedSimpArgs false
set_option maxRecDepth 100000
set_option maxHeartbeats 80000000

theorem own_knob : ownKnob Tryz.prog.godebug = none := by kernel_rfl
theorem laid_out : laidOutB Tryz.prog = true := by kernel_rfl
section
variable {H : Type} {enc : TypeId × Value → H} {P : Program} {w : World} {base : Nat} {sp : Nat → Bool} {hd : Bool}
theorem trod_int {t : TypeId} (ht : P.underlying t = some (.int .i64)) {n : Nat} {v : Value} {y : DataW H × List MemPlace}
 (h : DataW.trod enc P w base sp hd n t [v] = some y) : ∃ i, v = .int .i64 i := by
 cases n with
 | zero => simp [DataW.trod] at h
 | succ n =>
   unfold DataW.trod at h
   rw [ht] at h
   split at h <;> simp_all
end
theorem cell_spot {w : World} {a : Addr} {v : Value} (h : w.cell? a = some v) : a.spot = none := by
 unfold World.cell? at h
 split at h
 ·split at h
  ·cases h
  ·rename_i hs; simpa using hs
 ·cases h

section
variable {H : Type} {enc : TypeId × Value → H} {P : Program} {w : World} {base : Nat} {hd : Bool}
theorem open_records {t e : TypeId} {fs : Array Field} {fuel : Nat} {v : Value} {y : DataW H × List MemPlace} (ht : P.underlying t = some (.slice e)) (he : P.underlying e = some (.struct fs)) (hone : oneCellFields P fs = true) (hC : P.cellsOf e = fs.size)
 (hint : ∀ (j : Nat) (f : Field), fs[j]? = some f → P.underlying f.type = some (.int .i64)) (h0 : 0 < fs.size) (h : DataW.trod enc P w base (fun _ => true) hd fuel t [v] = some y) :
 ∃ A n c, v = .slice A n c ∧ n ≤ c ∧ c ≤ maxLen ∧ (A = none → c = 0) ∧ ∃ Z : Nat → Nat → Int, ∀ i, i < c → ∀ j, j < fs.size → ∃ b off, A = some ⟨b, off, none⟩ ∧ w.cell? ⟨b, off + i * fs.size + j, none⟩ = some (.int .i64 (Z i j)) := by
 rcases open_slice ht h with ⟨hc, -⟩ | ⟨a, len, cap, m, n, D, Pl, hc, -, hl, hm, hmm, -, hi⟩
 ·obtain rfl : v = .slice none 0 0 := by simpa using hc
  exact ⟨none, 0, 0, rfl, Nat.le_refl _, Nat.zero_le _, fun _ => rfl, fun _ _ => 0, fun i hi => by omega⟩
 ·obtain rfl : v = .slice (some a) len cap := by simpa using hc
  have hmc : m = cap := by simpa using hmm
  subst hmc
  refine ⟨some a, len, m, rfl, hl, hm, (fun h => by cases h), fun i j => intOf ((w.cell? (a.add (i * fs.size + j))).getD undef), fun i him j hj => ?_⟩
  obtain ⟨cs, h1, h2⟩ := hi i him
  rw [hC] at h1
  obtain ⟨-, hlen, hat⟩ := World.cells?_some h1
  obtain ⟨xs, k, -, -, -, hxl, hf⟩ := DataW.trod_struct he h2
  obtain ⟨f, hfj⟩ : ∃ f, fs[j]? = some f := ⟨_, Array.getElem?_eq_getElem hj⟩
  obtain ⟨o1, o2⟩ := hone_of hone j f hfj
  have h3 := hf j f hfj
  rw [o1, o2, List.getElem?_eq_getElem (by omega)] at h3
  have h4 : (cs.drop j).take 1 = [cs[j]'(by omega)] := by rw [List.drop_eq_getElem_cons (by omega)]; rfl
  rw [h4] at h3
  obtain ⟨z, hz⟩ := trod_int (hint j f hfj) h3
  have h5 := hat j hj
  rw [add_add, List.getElem?_eq_getElem (by omega), hz] at h5
  have hsp : a.spot = none := by
   obtain ⟨cs0, g1, -⟩ := hi 0 (by omega)
   rw [hC] at g1
   obtain ⟨-, glen, gat⟩ := World.cells?_some g1
   have g2 := gat 0 h0
   rw [List.getElem?_eq_getElem (by omega)] at g2
   have e0 : (a.add (0 * fs.size)).add 0 = a := by rw [add_add, Nat.zero_mul, Nat.zero_add]; simp [Addr.add]
   rw [e0] at g2
   exact cell_spot g2
  obtain ⟨b, off, sp⟩ := a
  obtain rfl : sp = none := hsp
  refine ⟨b, off, rfl, ?_⟩
  have h6 := h5
  rw [Addr.add_lit] at h6
  rw [Nat.add_assoc, h6]
  show _ = some (Value.int .i64 (intOf ((w.cell? ((⟨b, off, none⟩ : Addr).add (i * fs.size + j))).getD undef)))
  rw [h5]
  rfl
end
theorem slice_one {P : Program} {w : World} {r : Reach} {b0 : Nat} {t e : TypeId} {v : Value} (ht : P.underlying t = some (.slice e)) (hv : Value.okWide P w r b0 t v) : ∃ u : Value, v.cells.toList = [u] ∧ v = u := by
 obtain ⟨a0, l0, k0, rfl⟩ := okWide_slice ht hv
 exact ⟨_, by simp [Value.cells], rfl⟩

end Go.Proofs.YtobcdkjomehdkaaGreat

namespace Go.Proofs.YtobcdkjomehdkaaGreat
open Go.RowKit
open Go.Maps (Keyed)
set_option linter.unusedSimpArgs false
set_option maxRecDepth 100000
set_option maxHeartbeats 80000000

def pairK (p : Int × Int) : Value := .agg #[.int .i64 p.1, .int .i64 p.2]
def intV (n : Int) : Value := .int .i64 n
theorem pairK_inj (a b : Int × Int) (h : pairK a = pairK b) : a = b := by
 unfold pairK at h
 injection h with h
 injection h with h
 injection h with h1 h
 injection h with h2 h
 injection h1 with _ h1
 injection h2 with _ h2
 exact Prod.ext h1 h2
theorem int_wf {a : Int} (h : -9223372036854775808 ≤ a ∧ a ≤ 9223372036854775807) : (Lit.int .i64 a).wf = true := by
 have e1 : IntKind.i64.min = -9223372036854775808 := by decide
 have e2 : IntKind.i64.max = 9223372036854775807 := by decide
 simp [Lit.wf, e1, e2]
 omega
end Go.Proofs.YtobcdkjomehdkaaGreat
