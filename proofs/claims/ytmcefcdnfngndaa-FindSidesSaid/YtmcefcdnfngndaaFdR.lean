/- Layer 7: ranksOf: numbers in the order of pairs. -/
import Derived.Test.YtmcefcdnfngndaaFdS
namespace Go.Proofs.Ytmcefcdnfngndaa
open Go.RowKit Go.Shelf
set_option linter.unusedSimpArgs false

theorem eq_two (a b c d : Int) (w : World) : (Op.equalIn 10000 63 (.agg #[.int .i64 a, .int .i64 b]) (.agg #[.int .i64 c, .int .i64 d])).run Try.prog w = .ok (a == c && b == d) w := by
  have u3 := Try.underlying3
  have a3 := Try.isAgg3
  have z3 := Try.sizeOf3
  rw [show (10000 : Nat) = 9999 + 1 from rfl, Op.equalIn]
  simp only [Sem.run_bind, run_underlying Try.underlying63, Result.andThen_ok]
  simp only [Std.Legacy.Range.forIn_eq_forIn_range', Std.Legacy.Range.size, Nat.sub_zero, Nat.add_sub_cancel, Nat.div_one, List.range'_succ, List.range'_zero, List.forIn_cons, List.forIn_nil]
  go_simp
  by_cases h1 : a = c <;> by_cases h2 : b = d <;> simp [h1, h2]

set_option maxRecDepth 1000000 in
set_option maxHeartbeats 16000000 in
theorem ranksOf_any (A : Option Addr) (n c g : Nat) (cb : Array Value) (o : List Nat) (P : Nat → Nat × Nat) (w : World) (eg : ∀ args w, (callFunc g args).run Try.prog w = .ok (.enter g args) w)
    (hn : o.length = n) (hnb : n ≤ 4096) (hp : Ints w A (nI o)) (hnd : o.Nodup) (hlt : ∀ x ∈ o, x < n) (hall : ∀ x, x < n → x ∈ o) (hP : ∀ W, Gr w W → ∀ x, x ∈ o → Calls Try.prog g (#[.int .i64 (x : Int)] ++ cb) W fun e w' => e = .returned (.agg #[.int .i64 ((P x).1 : Int), .int .i64 ((P x).2 : Int)]) ∧ Gr W w') :
    Calls Try.prog 42 #[.slice A n c, .func (.func g) #[] cb] w fun e w' => ∃ G, e = .returned (.slice (some ⟨G, 0, none⟩) n n) ∧ w.heap.size ≤ G ∧ FB 3 w' G n (fun i => ((rkN P o (o.idxOf i) : Nat) : Int)) ∧ Gr w w' := by
  have HN := Lib.hid hn
  have HP := Lib.hid hp
  have HND := Lib.hid hnd
  have HLT := Lib.hid hlt
  have HMEM := Lib.hid hall
  have HPC := Lib.hid hP
  have hmk := fun W => mk_icF n (by omega) W
  clear hn hp hnd hlt hP hall
  go_enter Try.func42, Try.ntmps42
  go_upto_region 2 with fail
  clear hmk
  generalize hW1 : World.alloc w _ = w1
  obtain ⟨R, hR⟩ : ∃ R, w.heap.size = R := ⟨_, rfl⟩
  have hg1 : Gr w w1 := by rw [← hW1]; exact (Gr.refl w).alloc _
  have HR0 : Hid (FB 3 w1 R n (fun _ => 0)) := Lib.hid (by rw [← hW1]; exact FB.made w n hR)
  have HRW : Hid (w.heap.size ≤ R) := Lib.hid (Nat.le_of_eq hR)
  rw [hR]
  clear hW1 hR
  go_wp2_with fail
  go_loopw [6, 14] (fun q z wr => ∃ (k rk : Nat) (Rf : Nat → Int), k ≤ n ∧ z = .int .i64 (k : Int) ∧ q = .int .i64 (rk : Int) ∧ rk ≤ 4096 ∧ Hid (if k = 0 then rk = 0 else rk = rkN P o (k - 1)) ∧ Hid (FB 3 wr R n Rf) ∧ Hid (∀ t, t < k → Rf (o.getD t 0) = ((rkN P o t : Nat) : Int)) ∧ Gr w wr) (fun _ z _ => n - (intOf z).toNat)
  case atStart => exact ⟨0, 0, _, Nat.zero_le _, rfl, rfl, by omega, Lib.hid (by simp), HR0, Lib.hid (fun t ht => by omega), hg1⟩
  case round =>
    clear HR0 hg1
    obtain ⟨k, rk, Rf, hk, rfl, rfl, hrk, hK, hF, hI, hgr⟩ := hrel
    by_cases hlt : k < n
    · obtain ⟨b, off, rfl, x0⟩ := Nats_at (HP.out.keep hgr) (i := k) (by rw [HN.out]; exact hlt)
      have hmem : o.getD k 0 ∈ o := getD_mem (by rw [HN.out]; exact hlt)
      have hxn := HLT.out _ hmem
      have HNX : Hid (∀ v : Nat, v = rkN P o k → ∀ t, t < k + 1 → upF Rf (o.getD k 0) (v : Int) (o.getD t 0) = ((rkN P o t : Nat) : Int)) := Lib.hid (fun v hv t ht => by
        by_cases e : t = k
        · rw [e, upF_at, hv]
        · have hne : o.getD t 0 ≠ o.getD k 0 := fun h => by
            have a1 : t < o.length := by rw [HN.out]; omega
            have a2 : k < o.length := by rw [HN.out]; omega
            rw [List.getD_eq_getElem?_getD, List.getD_eq_getElem?_getD, List.getElem?_eq_getElem a1, List.getElem?_eq_getElem a2] at h
            exact e ((List.getElem_inj HND.out).1 h)
          rw [upF_ne _ _ hne]
          exact hI.out t (by omega))
      have HC := Lib.hid (fun W (hW : Gr w W) => HPC.out W hW _ hmem)
      have hki : (k : Int) < (n : Int) := by omega
      have HXX : Hid (o.getD k 0 ∈ o) := Lib.hid hmem
      have HSTP : Hid (∀ v : Nat, (k = 0 ∧ v = 1 ∨ 0 < k ∧ (P (o.getD k 0) = P (o.getD (k - 1) 0) ∧ v = rk ∨ P (o.getD k 0) ≠ P (o.getD (k - 1) 0) ∧ v = rk + 1)) → v = rkN P o k) := Lib.hid (fun v hv => by
        have hKo := hK.out
        rcases hv with ⟨a, b⟩ | ⟨a, b⟩
        · rw [a, b]; rfl
        · rw [if_neg (by omega)] at hKo
          obtain ⟨j, rfl⟩ : ∃ j, k = j + 1 := ⟨k - 1, by omega⟩
          simp only [Nat.add_sub_cancel] at hKo b
          simp only [rkN]
          rcases b with ⟨b, c⟩ | ⟨b, c⟩
          · rw [if_pos b]; omega
          · rw [if_neg b]; omega)
      have HBD : Hid (rkN P o k ≤ k + 1) := Lib.hid (rkN_bd P o k).2
      have HKK := hK
      clear hmem hK
      rcases Nat.eq_zero_or_pos k with h0 | h0
      · have kz : ((k : Int) == 0) = true := beq_iff_eq.2 (by omega)
        have HR0 : Hid (rk + 1 = rkN P o k) := Lib.hid (by
          have h3 := HSTP.out 1 (Or.inl ⟨h0, rfl⟩)
          have h4 := HKK.out
          rw [if_pos h0] at h4
          omega)
        have HI2 := Lib.hid (HNX.out (rk + 1) HR0.out)
        have hrk2 : rk + 1 ≤ 4096 := by have := HR0.out; have := HBD.out; omega
        generalize o.getD k 0 = x at x0 hxn HI2
        have r0 := hF.out.at hxn
        have r1 := hF.out.free x
        have hxi : (x : Int) < (n : Int) := by omega
        clear HNX HC hI HSTP HBD HXX h0
        go_upto_region 6 with fail
        go_quiet (fail)
        have hgd := (Gr.refl wr).drewN nq
        have hgr2 := hgr.trans hgd
        have r02 := hgd.keep r0
        have HF2 := Lib.hid (hF.out.keep hgd)
        have r12 := HF2.out.free x
        have HFP := Lib.hid (HF2.out.put x ((rk + 1 : Nat) : Int))
        have HG2 := Lib.hid (Gr.setCell hgr2 (p := ⟨R, x, none⟩) HRW.out (.int .i64 ((rk + 1 : Nat) : Int)))
        generalize wr.drewN nq = w2 at r02 r12 HFP HG2 ⊢
        clear r0 r1 hgd hgr2 HF2 x0 hF
        have e1 : ((rk + 1 : Nat) : Int) = (rk : Int) + 1 := by omega
        rw [e1] at HFP HG2
        go_wp2_with fail
        go_roundw
        case rel => exact ⟨k + 1, rk + 1, _, by omega, by go_num, by go_num, hrk2, Lib.hid (by rw [if_neg (by omega)]; exact HR0.out), HFP, Lib.hid (by rw [← e1]; exact HI2.out), HG2.out⟩
        case measure => simp [intOf]; omega
      · have kz : ((k : Int) == 0) = false := beq_eq_false_iff_ne.2 (by omega)
        have hk1 : k - 1 < n := by omega
        obtain ⟨b', off', e', y0⟩ := Nats_at (HP.out.keep hgr) (i := k - 1) (by rw [HN.out]; exact hk1)
        cases e'
        have hmy : o.getD (k - 1) 0 ∈ o := getD_mem (by rw [HN.out]; exact hk1)
        have HCY := Lib.hid (fun W (hW : Gr wr W) => HPC.out W (hgr.trans hW) _ hmy)
        have HCX := Lib.hid (fun W (hW : Gr wr W) => HC.out W (hgr.trans hW))
        have HK0 := Lib.hid h0
        have HV : Hid (∀ v : Nat, (P (o.getD k 0) = P (o.getD (k - 1) 0) → v = rk) → (P (o.getD k 0) ≠ P (o.getD (k - 1) 0) → v = rk + 1) → v = rkN P o k) := Lib.hid (fun v h1 h2 => HSTP.out v (Or.inr ⟨h0, by
          by_cases e : P (o.getD k 0) = P (o.getD (k - 1) 0)
          · exact Or.inl ⟨e, h1 e⟩
          · exact Or.inr ⟨e, h2 e⟩⟩))
        generalize P (o.getD k 0) = px at HCX HV
        generalize P (o.getD (k - 1) 0) = py at HCY HV
        obtain ⟨p1, p2⟩ := px
        obtain ⟨q1, q2⟩ := py
        dsimp only at HCX HCY
        generalize o.getD (k - 1) 0 = y at y0 HCY
        generalize o.getD k 0 = x at x0 hxn HNX HCX
        have r0 := hF.out.at hxn
        have hxi : (x : Int) < (n : Int) := by omega
        have g1 : IntKind.i64.wrap ((k : Int) - 1) = (k : Int) - 1 := IntWalk.i64_in _ (by omega)
        have g2 : (0 : Int) ≤ (k : Int) - 1 := by omega
        have g2' : (1 : Int) ≤ (k : Int) := by omega
        have g3 : ((k : Int) - 1).toNat = k - 1 := by omega
        have g4 : (k : Int) - 1 < (n : Int) := by omega
        clear hmy HC hI HSTP HKK HXX h0
        go_upto_region 6 with fail
        have hdr : Gr wr wr.drew := (Gr.refl wr).drew
        have HEQ := fun w => eq_two (p1 : Int) (p2 : Int) (q1 : Int) (q2 : Int) w
        obtain ⟨tb, htb⟩ : ∃ tb, ((p1 : Int) == (q1 : Int) && (p2 : Int) == (q2 : Int)) = tb := ⟨_, rfl⟩
        rw [htb] at HEQ
        have HTB := Lib.hid htb
        clear htb
        refine wp_region_held_drew (S := (fun W' => Gr wr W' ∧ W'.cell? ⟨b, off + (k - 1), none⟩ = some (.int .i64 (y : Int)))) ?_ ?_ (fun hHeld => ?_)
        · kernel_rfl
        · ((try dsimp only); (first | exact hHeld | exact ⟨hdr, hdr.keep y0⟩ | exact ⟨HGC.out, HGC.out.keep y0⟩))
        refine take_in (i := 0) (v := ?_) (d := (some 19)) rfl rfl ?_ ?_ ?_ ?_ ?_ ?_ ?_ ?_
        rotate_left
        · kernel_rfl
        · kernel_rfl
        · kernel_rfl
        · (intro _ _ _ hq; exact hq)
        · rfl
        · (intro _w hSw; (try dsimp only at hSw); go_simp; try with_reducible rfl)
        · assumption
        try simp only [Act.put, List.setIfInBounds_toArray, List.set_cons_zero, List.set_cons_succ]
        refine take_in (i := 1) (v := ?_) (d := (some 20)) rfl rfl ?_ ?_ ?_ ?_ ?_ ?_ ?_ ?_
        rotate_left
        · kernel_rfl
        · kernel_rfl
        · kernel_rfl
        · (intro _ _ _ hq; exact hq)
        · rfl
        · (intro _w hSw; (try dsimp only at hSw); go_simp; try with_reducible rfl)
        · assumption
        try simp only [Act.put, List.setIfInBounds_toArray, List.set_cons_zero, List.set_cons_succ]
        refine take_in (i := 2) (v := ?_) (d := (some 21)) rfl rfl ?_ ?_ ?_ ?_ ?_ ?_ ?_ ?_
        rotate_left
        · kernel_rfl
        · kernel_rfl
        · kernel_rfl
        · (intro _ _ _ hq; exact hq)
        · rfl
        · (intro _w hSw; (try dsimp only at hSw); go_simp; try with_reducible rfl)
        · assumption
        try simp only [Act.put, List.setIfInBounds_toArray, List.set_cons_zero, List.set_cons_succ]
        refine take_in (i := 3) (v := ?_) (d := (some 22)) rfl rfl ?_ ?_ ?_ ?_ ?_ ?_ ?_ ?_
        rotate_left
        · kernel_rfl
        · kernel_rfl
        · kernel_rfl
        · (intro _ _ _ hq; exact hq)
        · rfl
        · (intro _w hSw; (try dsimp only at hSw); go_simp; try with_reducible rfl)
        · assumption
        try simp only [Act.put, List.setIfInBounds_toArray, List.set_cons_zero, List.set_cons_succ]
        refine take_in (i := 4) (v := ?_) (d := (some 23)) rfl rfl ?_ ?_ ?_ ?_ ?_ ?_ ?_ ?_
        rotate_left
        · kernel_rfl
        · kernel_rfl
        · kernel_rfl
        · (intro _ _ _ hq; exact hq)
        · rfl
        · (intro _w hSw; (try dsimp only at hSw); go_simp; try with_reducible rfl)
        · assumption
        try simp only [Act.put, List.setIfInBounds_toArray, List.set_cons_zero, List.set_cons_succ]
        refine take_in (i := 6) (v := ?_) (d := (some 25)) rfl rfl ?_ ?_ ?_ ?_ ?_ ?_ ?_ ?_
        rotate_left
        · kernel_rfl
        · kernel_rfl
        · kernel_rfl
        · (intro _ _ _ hq; exact hq)
        · rfl
        · (intro _w hSw; (try dsimp only at hSw); go_simp; try with_reducible rfl)
        · assumption
        try simp only [Act.put, List.setIfInBounds_toArray, List.set_cons_zero, List.set_cons_succ]
        refine take_in (i := 7) (v := ?_) (d := (some 26)) rfl rfl ?_ ?_ ?_ ?_ ?_ ?_ ?_ ?_
        rotate_left
        · kernel_rfl
        · kernel_rfl
        · kernel_rfl
        · (intro _ _ _ hq; exact hq)
        · rfl
        · (intro _w hSw; (try dsimp only at hSw); go_simp; try with_reducible rfl)
        · assumption
        try simp only [Act.put, List.setIfInBounds_toArray, List.set_cons_zero, List.set_cons_succ]
        refine take_in (i := 8) (v := ?_) (d := (some 27)) rfl rfl ?_ ?_ ?_ ?_ ?_ ?_ ?_ ?_
        rotate_left
        · kernel_rfl
        · kernel_rfl
        · kernel_rfl
        · (intro _ _ _ hq; exact hq)
        · rfl
        · (intro _w hSw; (try dsimp only at hSw); go_simp; try with_reducible rfl)
        · assumption
        try simp only [Act.put, List.setIfInBounds_toArray, List.set_cons_zero, List.set_cons_succ]
        refine take_in (i := 9) (v := ?_) (d := (some 28)) rfl rfl ?_ ?_ ?_ ?_ ?_ ?_ ?_ ?_
        rotate_left
        · kernel_rfl
        · kernel_rfl
        · kernel_rfl
        · (intro _ _ _ hq; exact hq)
        · rfl
        · (intro _w hSw; (try dsimp only at hSw); go_simp; try with_reducible rfl)
        · assumption
        try simp only [Act.put, List.setIfInBounds_toArray, List.set_cons_zero, List.set_cons_succ]
        refine take_in (i := 10) (v := ?_) (d := (some 29)) rfl rfl ?_ ?_ ?_ ?_ ?_ ?_ ?_ ?_
        rotate_left
        · kernel_rfl
        · kernel_rfl
        · kernel_rfl
        · (intro _ _ _ hq; exact hq)
        · rfl
        · (intro _w hSw; (try dsimp only at hSw); go_simp; try with_reducible rfl)
        · assumption
        try simp only [Act.put, List.setIfInBounds_toArray, List.set_cons_zero, List.set_cons_succ]
        refine take_in (i := 11) (v := ?_) (d := (some 30)) rfl rfl ?_ ?_ ?_ ?_ ?_ ?_ ?_ ?_
        rotate_left
        · kernel_rfl
        · kernel_rfl
        · kernel_rfl
        · (intro _ _ _ hq; exact hq)
        · rfl
        · (intro _w hSw; (try dsimp only at hSw); go_simp; try with_reducible rfl)
        · assumption
        try simp only [Act.put, List.setIfInBounds_toArray, List.set_cons_zero, List.set_cons_succ]
        refine wpAnyH_ready (rs := [5]) ?_ ?_ ?_
        · kernel_rfl
        · simp
        refine (AllReadyH.cons rfl (fun K hK => ?_) AllReadyH.nil)
        go_simp
        first | (go_at_fn g; ((with_reducible refine (HCX.out _ hHeld.1).mono ?_)); rintro e wx ⟨rfl, hgx⟩; have HGC := Lib.hid (hHeld.1.trans hgx); clear hgx) | (go_at_fn g; ((with_reducible refine (HCY.out _ hHeld.1).mono ?_)); rintro e wy ⟨rfl, hgy⟩; have HGC := Lib.hid (hHeld.1.trans hgy); clear hgy)
        refine hK.out _ _ ?_ (fun hHeld => ?_)
        · ((try dsimp only); (first | exact hHeld | exact ⟨hdr, hdr.keep y0⟩ | exact ⟨HGC.out, HGC.out.keep y0⟩))
        clear hK K
        try simp only [Act.put, List.setIfInBounds_toArray, List.set_cons_zero, List.set_cons_succ]
        refine wpAnyH_ready (rs := [12]) ?_ ?_ ?_
        · kernel_rfl
        · simp
        refine (AllReadyH.cons rfl (fun K hK => ?_) AllReadyH.nil)
        go_simp
        first | (go_at_fn g; ((with_reducible refine (HCX.out _ hHeld.1).mono ?_)); rintro e wx ⟨rfl, hgx⟩; have HGC := Lib.hid (hHeld.1.trans hgx); clear hgx) | (go_at_fn g; ((with_reducible refine (HCY.out _ hHeld.1).mono ?_)); rintro e wy ⟨rfl, hgy⟩; have HGC := Lib.hid (hHeld.1.trans hgy); clear hgy)
        refine hK.out _ _ ?_ (fun hHeld => ?_)
        · ((try dsimp only); (first | exact hHeld | exact ⟨hdr, hdr.keep y0⟩ | exact ⟨HGC.out, HGC.out.keep y0⟩))
        clear hK K
        try simp only [Act.put, List.setIfInBounds_toArray, List.set_cons_zero, List.set_cons_succ]
        refine take_in (i := 13) (v := ?_) (d := (some 32)) rfl rfl ?_ ?_ ?_ ?_ ?_ ?_ ?_ ?_
        rotate_left
        · kernel_rfl
        · kernel_rfl
        · kernel_rfl
        · (intro _ _ _ hq; exact hq)
        · rfl
        · (intro _w hSw; (try dsimp only at hSw); go_simp; try with_reducible rfl)
        · assumption
        try simp only [Act.put, List.setIfInBounds_toArray, List.set_cons_zero, List.set_cons_succ]
        refine take_in (i := 14) (v := ?_) (d := (some 33)) rfl rfl ?_ ?_ ?_ ?_ ?_ ?_ ?_ ?_
        rotate_left
        · kernel_rfl
        · kernel_rfl
        · kernel_rfl
        · (intro _ _ _ hq; exact hq)
        · rfl
        · (intro _w hSw; (try dsimp only at hSw); go_simp; try with_reducible rfl)
        · assumption
        try simp only [Act.put, List.setIfInBounds_toArray, List.set_cons_zero, List.set_cons_succ]
        refine wpAnyH_done ?_ ?_ _
        · kernel_rfl
        rotate_left
        all_goals
          have hgr2 := hgr.trans HGC.out
          have HF2 := Lib.hid (hF.out.keep HGC.out)
          clear HEQ hHeld HCX HCY g1 g2 g2' g3 g4 y0 x0 hdr hF r0
          have r02 := HF2.out.at hxn
          have r12 := HF2.out.free x
          cases tb with
          | true =>
            have HRK : Hid (rk = rkN P o k) := Lib.hid (HV.out rk (fun _ => rfl) (fun h => by
              have h2 := HTB.out
              simp only [Bool.and_eq_true, beq_iff_eq] at h2
              exact absurd (Prod.ext (by show p1 = q1; omega) (by show p2 = q2; omega)) h))
            have HI2 := Lib.hid (HNX.out rk HRK.out)
            have HFP := Lib.hid (HF2.out.put x (rk : Int))
            have HG2 := Lib.hid (Gr.setCell hgr2 (p := ⟨R, x, none⟩) HRW.out (.int .i64 (rk : Int)))
            clear HF2 HNX HV HTB HGC
            go_wp2_with fail
            go_roundw
            case rel => exact ⟨k + 1, rk, _, by omega, by go_num, rfl, hrk, Lib.hid (by rw [if_neg (by omega)]; exact HRK.out), HFP, HI2, HG2.out⟩
            case measure => simp [intOf]; omega
          | false =>
            have HRK : Hid (rk + 1 = rkN P o k) := Lib.hid (HV.out (rk + 1) (fun h => by
              have h2 := HTB.out
              have h3 : p1 = q1 ∧ p2 = q2 := by injection h with a b; exact ⟨a, b⟩
              rw [h3.1, h3.2] at h2
              simp at h2) (fun _ => rfl))
            have hrk2 : rk + 1 ≤ 4096 := by have := HRK.out; have := HBD.out; omega
            have HI2 := Lib.hid (HNX.out (rk + 1) HRK.out)
            have e1 : ((rk + 1 : Nat) : Int) = (rk : Int) + 1 := by omega
            have HFP := Lib.hid (HF2.out.put x ((rk : Int) + 1))
            have HG2 := Lib.hid (Gr.setCell hgr2 (p := ⟨R, x, none⟩) HRW.out (.int .i64 ((rk : Int) + 1)))
            clear HF2 HNX HV HTB HGC
            go_wp2_with fail
            go_roundw
            case rel => exact ⟨k + 1, rk + 1, _, by omega, by go_num, by go_num, hrk2, Lib.hid (by rw [if_neg (by omega)]; exact HRK.out), HFP, Lib.hid (by rw [← e1]; exact HI2.out), HG2.out⟩
            case measure => simp [intOf]; omega
    · obtain rfl : n = k := by omega
      have HX : Hid (FB 3 wr R n (fun i => ((rkN P o (o.idxOf i) : Nat) : Int))) := Lib.hid (hF.out.congr (fun i hi => by
        have hm := HMEM.out i hi
        have hlt2 := List.idxOf_lt_length_of_mem hm
        have h4 := hI.out (o.idxOf i) (by rw [← HN.out]; exact hlt2)
        have h5 : o.getD (o.idxOf i) 0 = i := by
          rw [List.getD_eq_getElem?_getD, List.getElem?_eq_getElem hlt2]; simp
        rw [h5] at h4
        exact h4.symm))
      clear hF hI hK
      go_wp2_with fail
      go_ret
      exact ⟨R, rfl, HRW.out, HX.out, hgr⟩

end Go.Proofs.Ytmcefcdnfngndaa
