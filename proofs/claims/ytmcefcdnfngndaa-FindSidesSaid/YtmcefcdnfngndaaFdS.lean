/- Layer 7: sorted: elements in buckets by their ranks. -/
import Derived.Test.YtmcefcdnfngndaaFdC
namespace Go.Proofs.Ytmcefcdnfngndaa
open Go.RowKit Go.Shelf
set_option linter.unusedSimpArgs false

theorem len4098 : Try.prog.arrayLen 78 = 4098 := by kernel_rfl
set_option maxRecDepth 1000000 in
theorem zero_begin : Try.zeroCells78 = Array.replicate 4098 (.int .i64 0) := by kernel_rfl
/-- Where the buckets begin, in the making: counted are the first k elements. -/
def cntF (f : Nat → Nat) (o : List Nat) (k r : Nat) : Int := if r = 0 then 0 else (cntE f (o.take k) (r - 1) : Nat)
/-- Summed up to k. -/
def sumF (f : Nat → Nat) (o : List Nat) (k r : Nat) : Int := if r ≤ k then (cntB f o r : Nat) else (cntE f o (r - 1) : Nat)
/-- Behind the first k elements that were laid. -/
def begF (f : Nat → Nat) (o : List Nat) (k r : Nat) : Int := ((cntB f o r + cntE f (o.take k) r : Nat) : Int)
section
variable {f : Nat → Nat} {o : List Nat} {k : Nat}
theorem cntF_zero : cntF f o 0 = fun _ => 0 := by
  funext r; unfold cntF; split <;> simp [cntE]
theorem cntF_step (hk : k < o.length) (r : Nat) : cntF f o (k + 1) r = upF (cntF f o k) (f (o.getD k 0) + 1) (cntF f o k (f (o.getD k 0) + 1) + 1) r := by
  have hg : o.getD k 0 = o[k] := by rw [List.getD_eq_getElem?_getD, List.getElem?_eq_getElem hk]; rfl
  unfold upF cntF
  rw [List.take_succ_eq_append_getElem hk, hg]
  by_cases h0 : r = 0
  · subst h0; rw [if_pos rfl, if_neg (by omega), if_pos rfl]
  · rw [if_neg h0, cntE_snoc]
    by_cases e : r = f o[k] + 1
    · subst e; simp
    · rw [if_neg e, if_neg h0, if_neg (by omega)]; simp
theorem cntF_small (r : Nat) : 0 ≤ cntF f o k r ∧ cntF f o k r ≤ o.length := by
  unfold cntF; split
  · omega
  · have h1 := cntE_take_le f o (r - 1) k
    have h2 : cntE f o (r - 1) ≤ o.length := List.countP_le_length
    omega
theorem sumF_zero (r : Nat) : sumF f o 0 r = cntF f o o.length r := by
  unfold sumF cntF
  by_cases h : r = 0
  · subst h; simp [cntB_zero]
  · rw [if_neg (by omega), if_neg h, List.take_length]
theorem sumF_step (r : Nat) : sumF f o (k + 1) r = upF (sumF f o k) (k + 1) (sumF f o k (k + 1) + sumF f o k k) r := by
  unfold upF sumF
  by_cases e : r = k + 1
  · subst e
    rw [if_pos (Nat.le_refl _), if_pos rfl, if_neg (by omega), if_pos (Nat.le_refl _), cntB_succ]
    simp only [Nat.add_sub_cancel]; omega
  · rw [if_neg e]
    by_cases h : r ≤ k
    · rw [if_pos h, if_pos (by omega)]
    · rw [if_neg h, if_neg (by omega)]
theorem sumF_small (r : Nat) : 0 ≤ sumF f o k r ∧ sumF f o k r ≤ o.length := by
  unfold sumF; split
  · have := cntB_le f o r; omega
  · have h2 : cntE f o (r - 1) ≤ o.length := List.countP_le_length
    omega
theorem begF_zero {r : Nat} (h : r ≤ 4096) : begF f o 0 r = sumF f o 4096 r := by
  unfold begF sumF; rw [if_pos h]; simp [cntE]
theorem begF_step (hk : k < o.length) (r : Nat) : begF f o (k + 1) r = upF (begF f o k) (f (o.getD k 0)) (begF f o k (f (o.getD k 0)) + 1) r := by
  have hg : o.getD k 0 = o[k] := by rw [List.getD_eq_getElem?_getD, List.getElem?_eq_getElem hk]; rfl
  unfold upF begF
  rw [List.take_succ_eq_append_getElem hk, hg, cntE_snoc]
  by_cases e : r = f o[k]
  · subst e; simp; omega
  · rw [if_neg e, if_neg (Ne.symm e)]; simp
theorem begF_pos : begF f o k (f (o.getD k 0)) = (posB f o k : Int) := rfl
end

set_option maxRecDepth 1000000 in
set_option maxHeartbeats 16000000 in
theorem sorted_any (A : Option Addr) (n c g : Nat) (cb : Array Value) (o : List Nat) (f : Nat → Nat) (w : World) (eg : ∀ args w, (callFunc g args).run Try.prog w = .ok (.enter g args) w)
    (hn : o.length = n) (hnb : n ≤ 4097) (hp : Ints w A (nI o)) (hf : ∀ x ∈ o, f x ≤ 4096 ∧ x ≤ 4097) (hrk : ∀ W, Gr w W → ∀ x, x ∈ o → Calls Try.prog g (#[.int .i64 (x : Int)] ++ cb) W fun e w' => e = .returned (.int .i64 (f x : Int)) ∧ Gr W w') :
    Calls Try.prog 39 #[.slice A n c, .func (.func g) #[] cb] w fun e w' => ∃ G, e = .returned (.slice (some ⟨G, 0, none⟩) n n) ∧ w.heap.size ≤ G ∧ FB 3 w' G n (fun i => (((sortB f o 4097).getD i 0 : Nat) : Int)) ∧ Gr w w' := by
  have HN := Lib.hid hn
  have HP := Lib.hid hp
  have HF := Lib.hid hf
  have HRK := Lib.hid hrk
  have hlen := len4098
  clear hn hp hf hrk
  go_enter Try.func39, Try.ntmps39
  go_upto_region 2 with fail
  generalize hW1 : World.alloc w _ = w1
  obtain ⟨Z, hZ⟩ : ∃ Z, w.heap.size = Z := ⟨_, rfl⟩
  have hg1 : Gr w w1 := by rw [← hW1]; exact (Gr.refl w).alloc _
  have HB0 : Hid (FB 78 w1 Z 4098 (cntF f o 0)) := Lib.hid (by
    rw [← hW1, cntF_zero]
    refine ⟨_, Blk.new w _ _ hZ, fun i hi => ?_⟩
    rw [zero_begin]; simp [hi])
  rw [hZ]
  have HZ := Lib.hid hZ
  clear hW1 hZ
  go_wp2_with fail
  go_loopw [15] (fun z wr => ∃ k : Nat, k ≤ n ∧ z = .int .i64 (k : Int) ∧ Hid (FB 78 wr Z 4098 (cntF f o k)) ∧ Gr w wr) (fun z _ => n - (intOf z).toNat)
  case atStart => exact ⟨0, Nat.zero_le _, rfl, HB0, hg1⟩
  case round =>
    clear HB0 hg1
    obtain ⟨k, hk, rfl, hB, hgr⟩ := hrel
    by_cases hlt : k < n
    · obtain ⟨b, off, rfl, x0⟩ := Nats_at (HP.out.keep hgr) (i := k) (by rw [HN.out]; exact hlt)
      have hmem : o.getD k 0 ∈ o := getD_mem (by rw [HN.out]; exact hlt)
      have hfx := (HF.out _ hmem).1
      have HST : Hid (∀ r, cntF f o (k + 1) r = upF (cntF f o k) (f (o.getD k 0) + 1) (cntF f o k (f (o.getD k 0) + 1) + 1) r) := Lib.hid (cntF_step (by rw [HN.out]; exact hlt))
      have HC := Lib.hid (fun W (hW : Gr w W) => HRK.out W hW _ hmem)
      have hki : (k : Int) < (n : Int) := by omega
      generalize o.getD k 0 = x at x0 hfx HST HC
      generalize f x = fx at hfx HST HC
      have HC1 := Lib.hid (HC.out wr hgr)
      clear hmem HC
      go_wp2_with fail
      go_at_fn g
      refine HC1.out.mono ?_
      rintro e w2 ⟨rfl, hg2⟩
      have HB2 := Lib.hid (hB.out.keep hg2)
      have c0 := HB2.out.at (i := fx + 1) (by omega)
      have f0 := HB2.out.free (fx + 1)
      have hsm := cntF_small (f := f) (o := o) (k := k) (fx + 1)
      rw [HN.out] at hsm
      have HPUT := Lib.hid (HB2.out.put (fx + 1) (cntF f o k (fx + 1) + 1))
      have HG2 := Lib.hid (Gr.setCell (hgr.trans hg2) (p := ⟨Z, fx + 1, none⟩) (Nat.le_of_eq HZ.out) (.int .i64 (cntF f o k (fx + 1) + 1)))
      generalize cntF f o k (fx + 1) = v at c0 hsm HPUT HG2 HST
      have HPUT2 := Lib.hid (HPUT.out.congr (f' := cntF f o (k + 1)) (fun i _ => HST.out i))
      clear hB HB2 HPUT HST HC1 x0
      go_wp2_with fail
      go_roundw
      case rel => exact ⟨k + 1, by omega, by go_num, HPUT2, HG2.out⟩
      case measure => simp [intOf]; omega
    · obtain rfl : n = k := by omega
      have HB1 : Hid (FB 78 wr Z 4098 (sumF f o 0)) := Lib.hid (hB.out.congr (fun i _ => by rw [sumF_zero, HN.out]))
      clear hB hlt hk
      obtain ⟨wA, rfl⟩ : ∃ wA, wA = wr := ⟨_, rfl⟩
      go_wp2_with fail
      go_loopw [28] (fun z wr => ∃ k : Nat, k ≤ 4096 ∧ z = .int .i64 (k : Int) ∧ Hid (FB 78 wr Z 4098 (sumF f o k)) ∧ Gr w wr) (fun z _ => 4096 - (intOf z).toNat)
      case atStart => exact ⟨0, Nat.zero_le _, rfl, HB1, hgr⟩
      case round =>
        clear HB1 hgr
        obtain ⟨k, hk, rfl, hB, hgr⟩ := hrel
        by_cases hlt : k < 4096
        · have hki : (k : Int) < 4096 := by omega
          have c0 := hB.out.at (i := k) (by omega)
          have c1 := hB.out.at (i := k + 1) (by omega)
          have s0 := sumF_small (f := f) (o := o) (k := k) k
          have s1 := sumF_small (f := f) (o := o) (k := k) (k + 1)
          rw [HN.out] at s0 s1
          have HST : Hid (∀ r, sumF f o (k + 1) r = upF (sumF f o k) (k + 1) (sumF f o k (k + 1) + sumF f o k k) r) := Lib.hid sumF_step
          have f0 := hB.out.free (k + 1)
          have hgd : Gr wr wr.drew := (Gr.refl wr).drew
          have HPUT := Lib.hid ((hB.out.keep hgd).put (k + 1) (sumF f o k (k + 1) + sumF f o k k))
          have HG2 := Lib.hid (Gr.setCell (hgr.trans hgd) (p := ⟨Z, k + 1, none⟩) (Nat.le_of_eq HZ.out) (.int .i64 (sumF f o k (k + 1) + sumF f o k k)))
          generalize sumF f o k k = u at c0 s0 HPUT HG2 HST
          generalize sumF f o k (k + 1) = v at c1 s1 HPUT HG2 HST
          have HPUT2 := Lib.hid (HPUT.out.congr (f' := sumF f o (k + 1)) (fun i _ => HST.out i))
          have g1 : IntKind.i64.wrap ((k : Int) + 1) = (k : Int) + 1 := IntWalk.i64_in _ (by omega)
          have g2 : (0 : Int) ≤ (k : Int) + 1 := by omega
          have g3 : ((k : Int) + 1).toNat = k + 1 := by omega
          have g4 : IntKind.i64.wrap (v + u) = v + u := IntWalk.i64_in _ (by omega)
          have g5 : (k : Int) + 1 < 4098 := by omega
          have g6 : (k : Int) < 4098 := by omega
          clear hB HPUT HST hgd
          go_upto_region 10 with fail
          go_still_tail 9, (by kernel_rfl)
          change wpList _ _ _ _ _ wr.drew
          have c1d : wr.drew.cell? ⟨Z, k + 1, none⟩ = some (.int .i64 v) := c1
          have f0d : wr.drew.frozen? ⟨Z, k + 1, none⟩ = false := f0
          generalize wr.drew = wd at c1d f0d HPUT2 HG2 ⊢
          clear c0 c1 f0 g1 g2 g3 g4
          go_wp2_with fail
          go_roundw
          case rel => exact ⟨k + 1, by omega, by go_num, HPUT2, HG2.out⟩
          case measure => simp [intOf]; omega
        · obtain rfl : k = 4096 := by omega
          have HB2 : Hid (FB 78 wr Z 4097 (begF f o 0)) := Lib.hid (by
            obtain ⟨cs, h1, h2⟩ := hB.out
            exact ⟨cs, h1, fun i hi => by rw [h2 i (by omega), begF_zero (by omega)]⟩)
          have HZL : Hid (Z < wr.heap.size) := Lib.hid hB.out.lt
          have hki : ¬ (4096 : Int) < 4096 := by omega
          have hmk := fun W => mk_icF n (by omega) W
          clear hB hlt hk
          go_upto_region 13 with fail
          clear hmk
          generalize hW2 : World.alloc wr _ = w2
          have hg2 : Gr wr w2 := by rw [← hW2]; exact (Gr.refl wr).alloc _
          obtain ⟨R, hR⟩ : ∃ R, wr.heap.size = R := ⟨_, rfl⟩
          have HR0 : Hid (FB 3 w2 R n (fun _ => 0)) := Lib.hid (by rw [← hW2]; exact FB.made wr n hR)
          have HB3 := Lib.hid (HB2.out.keep hg2)
          have HRZ : Hid (Z ≠ R) := Lib.hid (by have := HZL.out; omega)
          have HRW : Hid (w.heap.size ≤ R) := Lib.hid (by have := hgr.size; omega)
          have hgr2 := hgr.trans hg2
          rw [hR]
          clear hW2 hR hg2 HB2 HZL hgr
          go_wp2_with fail
          go_loopw [46] (fun z wr => ∃ (k : Nat) (Rf : Nat → Int), k ≤ n ∧ z = .int .i64 (k : Int) ∧ Hid (FB 78 wr Z 4097 (begF f o k)) ∧ Hid (FB 3 wr R n Rf) ∧ Hid (∀ t, t < k → Rf (posB f o t) = ((o.getD t 0 : Nat) : Int)) ∧ Gr w wr) (fun z _ => n - (intOf z).toNat)
          case atStart => exact ⟨0, _, Nat.zero_le _, rfl, HB3, HR0, Lib.hid (fun t ht => by omega), hgr2⟩
          case round =>
            clear HB3 HR0 hgr2
            obtain ⟨k, Rf, hk, rfl, hB, hR, hI, hgr⟩ := hrel
            by_cases hlt : k < n
            · obtain ⟨b, off, rfl, x0⟩ := Nats_at (HP.out.keep hgr) (i := k) (by rw [HN.out]; exact hlt)
              have hmem : o.getD k 0 ∈ o := getD_mem (by rw [HN.out]; exact hlt)
              have hfx := (HF.out _ hmem).1
              have hx5 := (HF.out _ hmem).2
              have HST : Hid (∀ r, begF f o (k + 1) r = upF (begF f o k) (f (o.getD k 0)) (begF f o k (f (o.getD k 0)) + 1) r) := Lib.hid (begF_step (by rw [HN.out]; exact hlt))
              have hpos := posB_lt f o (t := k) (by rw [HN.out]; exact hlt)
              rw [HN.out] at hpos
              have HPE : Hid (begF f o k (f (o.getD k 0)) = (posB f o k : Int)) := Lib.hid begF_pos
              have HI2 : Hid (∀ t, t < k + 1 → upF Rf (posB f o k) ((o.getD k 0 : Nat) : Int) (posB f o t) = ((o.getD t 0 : Nat) : Int)) := Lib.hid (fun t ht => by
                by_cases e : posB f o t = posB f o k
                · rw [e, upF_at]
                  have h1 := posB_at f o 4097 (fun x hx => by have := (HF.out x hx).1; omega) (t := t) (by rw [HN.out]; omega)
                  have h2 := posB_at f o 4097 (fun x hx => by have := (HF.out x hx).1; omega) (t := k) (by rw [HN.out]; omega)
                  rw [e, h2] at h1
                  exact_mod_cast Option.some.inj h1
                · rw [upF_ne _ _ e]
                  exact hI.out t (by
                    rcases Nat.lt_or_ge t k with c | c
                    · exact c
                    · obtain rfl : t = k := by omega
                      exact absurd rfl e))
              have HC := Lib.hid (fun W (hW : Gr w W) => HRK.out W hW _ hmem)
              have hki : (k : Int) < (n : Int) := by omega
              generalize o.getD k 0 = x at x0 hfx hx5 HST HPE HI2 HC
              generalize f x = fx at hfx HST HPE HC
              generalize posB f o k = pk at hpos HPE HI2
              have HC1 := Lib.hid (HC.out wr hgr)
              clear hmem HC hI
              go_wp2_with fail
              go_at_fn g
              refine HC1.out.mono ?_
              rintro e w2 ⟨rfl, hg2⟩
              have HB2 := Lib.hid (hB.out.keep hg2)
              have HR2 := Lib.hid (hR.out.keep hg2)
              have c0 := HB2.out.at (i := fx) (by omega)
              rw [HPE.out] at c0
              have f0 := HB2.out.free fx
              have r0 := HR2.out.at (i := pk) hpos
              have r1 := HR2.out.free pk
              have hpk : (pk : Int) < (n : Int) := by omega
              have HRP := Lib.hid ((HR2.out.put pk (x : Int)).other (p := ⟨Z, fx, none⟩) (Ne.symm HRZ.out) (.int .i64 ((pk : Int) + 1)))
              have HBP : Hid (FB 78 ((w2.setCell ⟨R, pk, none⟩ (.int .i64 (x : Int))).setCell ⟨Z, fx, none⟩ (.int .i64 ((pk : Int) + 1))) Z 4097 (begF f o (k + 1))) := Lib.hid (((HB2.out.other (p := ⟨R, pk, none⟩) HRZ.out (.int .i64 (x : Int))).put fx ((pk : Int) + 1)).congr (fun i _ => by rw [HST.out, HPE.out]))
              have HG2 := Lib.hid (Gr.setCell (Gr.setCell (hgr.trans hg2) (p := ⟨R, pk, none⟩) HRW.out (.int .i64 (x : Int))) (p := ⟨Z, fx, none⟩) (Nat.le_of_eq HZ.out) (.int .i64 ((pk : Int) + 1)))
              have c2 : (w2.setCell ⟨R, pk, none⟩ (.int .i64 (x : Int))).cell? ⟨Z, fx, none⟩ = some (.int .i64 (pk : Int)) := cell_other c0 HRZ.out
              generalize Rf pk = rp at r0
              clear hB hR HB2 HR2 HST HC1 x0 HPE
              go_wp2_with fail
              go_roundw
              case rel => exact ⟨k + 1, _, by omega, by go_num, HBP, HRP, HI2, HG2.out⟩
              case measure => simp [intOf]; omega
            · obtain rfl : n = k := by omega
              have HX : Hid (FB 3 wr R n (fun i => (((sortB f o 4097).getD i 0 : Nat) : Int))) := Lib.hid (hR.out.congr (fun i hi => by
                have hall := cntB_all f o 4097 (fun x hx => by have := (HF.out x hx).1; omega)
                obtain ⟨t, h1, h2, h3⟩ := sortB_at f o 4097 i (by rw [hall, HN.out]; exact hi)
                have h4 := hI.out t (by rw [← HN.out]; exact h1)
                rw [h2] at h4
                rw [h4, List.getD_eq_getElem?_getD, h3]; rfl))
              clear hB hR hI
              go_wp2_with fail
              go_ret
              exact ⟨R, rfl, HRW.out, HX.out, hgr⟩

end Go.Proofs.Ytmcefcdnfngndaa
