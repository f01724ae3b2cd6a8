/- Layer 2: the reference's reading of plans: two pieces. -/
import Derived.Test.YtcojionipffanabCRef2
namespace Go.Proofs.Ytcojionipffanab
open Go.RowKit
set_option linter.unusedSimpArgs false

def RUpto (d : Nat) (w0 : World) (BA PA : Option Addr) (bn bc pc : Nat) (bs : List Bl) (plan : List St) : Prop :=
  ∀ (W H : Int) (k : Nat) (w : World), Sz W H → k ≤ plan.length → plan.length - k ≤ d → Gr w0 w →
    Calls Try.prog 37 #[.int .i64 W, .int .i64 H, .slice BA bn bc, .slice PA plan.length pc, .int .i64 (k : Int)] w (CutPost plan (rdP bs W H (plan.drop k)) k w)

set_option maxRecDepth 100000 in
set_option maxHeartbeats 2000000 in
theorem rtwo_any (d : Nat) (w0 : World) (BA PA : Option Addr) (bn bc pc : Nat) (bs : List Bl) (plan : List St) (hl : plan.length ≤ 8192) (hbs : ∀ b ∈ bs, blB b = true) (ih : RUpto d w0 BA PA bn bc pc bs plan) (W1 H1 W2 H2 : Int) (k : Nat) (w : World) (hZ1 : Sz W1 H1) (hZ2 : Sz W2 H2) (hk : k < plan.length) (hd : plan.length - k ≤ d + 1) (hg : Gr w0 w) :
    Calls Try.prog 57 #[.int .i64 W1, .int .i64 H1, .int .i64 W2, .int .i64 H2, .slice BA bn bc, .slice PA plan.length pc, .int .i64 ((k : Int) + 1)] w (CutPost plan (two2 (rdP bs W1 H1 (plan.drop (k + 1))) (rdP bs W2 H2)) k w) := by
  have h1 := fun w' (g : Gr w w') => ih W1 H1 (k + 1) w' hZ1 hk (by omega) (hg.trans g)
  have HM : Hid (∀ m r, rdP bs W1 H1 (plan.drop (k + 1)) = some (m, r) → (∀ b ∈ m, b ∈ bs) ∧ m.length + r.length ≤ plan.length - (k + 1)) := Lib.hid (fun m r e => by
    have := rdP_made bs _ _ _ _ _ _ (Nat.le_refl _) e
    rw [List.length_drop] at this
    exact this)
  have HM2 : Hid (∀ r1 m r, rdP bs W2 H2 r1 = some (m, r) → (∀ b ∈ m, b ∈ bs) ∧ m.length + r.length ≤ r1.length) := Lib.hid (fun r1 m r e => rdP_made bs _ _ _ _ _ _ (Nat.le_refl _) e)
  have HA := Lib.hid h1
  have IH := Lib.hid ih
  have HBS := Lib.hid hbs
  have HG := Lib.hid hg
  obtain ⟨Q, hQ⟩ : ∃ Q, rdP bs W1 H1 (plan.drop (k + 1)) = Q := ⟨_, rfl⟩
  rw [hQ] at HA HM ⊢
  have HKK : Hid (((k : Int) + 1) = ((k + 1 : Nat) : Int)) := Lib.hid (by omega)
  obtain ⟨n, hn⟩ : ∃ n, plan.length = n := ⟨_, rfl⟩
  have HN := Lib.hid hn
  rw [hn] at hl hk hd HM HA ⊢
  rw [← HKK.out] at HA
  clear h1 ih hbs hg hQ hn
  rcases Q with _ | ⟨m1, r1⟩
  · go_enter Try.func57, Try.ntmps57
    go_wp2_with fail
    refine (HA.out _ ((Gr.refl w).alloc _)).mono ?_
    rintro e w1 ⟨a, b, c, bad, rfl, hok, hb⟩
    obtain rfl : bad = true := hok
    have hB1 : Blk (w1.alloc (.cells #[.int .i64 a, .int .i64 b, .int .i64 c, .bool true] 76)) w.heap.size 76 #[.int .i64 0, .int .i64 0, .int .i64 0, .bool false] := Blk.alloc (Blk.keep (Blk.new w _ _ rfl) hb) _
    obtain ⟨⟨z0, z1, z2, z3⟩, y0, y1, y2, y3⟩ := cut_old hB1
    obtain ⟨u0, u1, u2, u3⟩ := cut_put hB1 rfl (.int .i64 a) (.int .i64 b) (.int .i64 c) (.bool true)
    have HGG := Lib.hid ((((((Gr.refl w).alloc _).trans hb).alloc (.cells #[.int .i64 a, .int .i64 b, .int .i64 c, .bool true] 76)).put4 (Nat.le_refl _) (.int .i64 a) (.int .i64 b) (.int .i64 c) (.bool true)))
    have HU := Lib.hid (And.intro u0 (And.intro u1 (And.intro u2 u3)))
    clear hB1 hb u0 u1 u2 u3
    go_wp2_with fail
    obtain ⟨u0, u1, u2, u3⟩ := HU.out
    refine bodyPost_ret (v := .agg #[.int .i64 a, .int .i64 b, .int .i64 c, .bool true]) ?_ rfl ⟨_, _, _, _, rfl, rfl, HGG.out⟩
    simp [results, Try.results57, go_sem, u0, u1, u2, u3]
  · obtain ⟨hm1, hml1⟩ := HM.out m1 r1 rfl
    have s1 := sum_bd HBS.out hm1
    have HM1 := Lib.hid hm1
    clear hm1
    go_enter Try.func57, Try.ntmps57
    go_wp2_with fail
    refine (HA.out _ ((Gr.refl w).alloc _)).mono ?_
    rintro e w1 ⟨a, b, c, bad, rfl, hok, hb⟩
    obtain ⟨rfl, rfl, rfl, k1, hr1, hk1, hk2, rfl⟩ := hok
    rw [HN.out] at hk2
    have hgw : Gr w w1 := ((Gr.refl w).alloc _).trans hb
    have hr1l : r1.length = n - k1 := by rw [hr1, List.length_drop, HN.out]
    have h2 := fun w' (g : Gr w w') => IH.out W2 H2 k1 w' hZ2 (by rw [HN.out]; omega) (by rw [HN.out]; omega) (HG.out.trans g)
    rw [← hr1, HN.out] at h2
    have HR1 := Lib.hid hr1
    obtain ⟨a, ha⟩ : ∃ a : Int, (k1 : Int) - ((k + 1 : Nat) : Int) = a := ⟨_, rfl⟩
    rw [ha]
    have e1 : (k1 : Int) = (k : Int) + 1 + a := by omega
    rw [e1] at h2
    have HB2 := Lib.hid h2
    obtain ⟨Q2, hQ2⟩ : ∃ Q2, rdP bs W2 H2 r1 = Q2 := ⟨_, rfl⟩
    have HT : Hid (two2 (some (m1, r1)) (rdP bs W2 H2) = andMade m1 Q2) := Lib.hid (by rw [two2_of, hQ2])
    rw [HT.out]
    have hm2 := HM2.out r1
    rw [hQ2] at HB2 hm2
    have HMM2 := Lib.hid hm2
    have hal : 1 ≤ a ∧ a ≤ 8192 := by omega
    have hak : (k : Int) + 1 + a ≤ 8192 := by omega
    have HE1 := Lib.hid e1
    obtain ⟨b, hbv⟩ : ∃ b, sumV m1 = b := ⟨_, rfl⟩
    obtain ⟨c, hcv⟩ : ∃ c, sumA m1 = c := ⟨_, rfl⟩
    rw [hbv, hcv] at s1 ⊢
    have hB1 : Blk (w1.alloc (.cells #[.int .i64 a, .int .i64 b, .int .i64 c, .bool false] 76)) w.heap.size 76 #[.int .i64 0, .int .i64 0, .int .i64 0, .bool false] := Blk.alloc (Blk.keep (Blk.new w _ _ rfl) hb) _
    have hg1 : Gr w (w1.alloc (.cells #[.int .i64 a, .int .i64 b, .int .i64 c, .bool false] 76)) := hgw.alloc _
    have hC1 : Blk (w1.alloc (.cells #[.int .i64 a, .int .i64 b, .int .i64 c, .bool false] 76)) w1.heap.size 76 #[.int .i64 a, .int .i64 b, .int .i64 c, .bool false] := Blk.new _ _ _ rfl
    have HBV := Lib.hid hbv
    have HCV := Lib.hid hcv
    have hml : m1.length ≤ 8192 := by omega
    have s1' : (0 ≤ b ∧ b ≤ 8589934592) ∧ 0 ≤ c ∧ c ≤ 18874368 := by omega
    clear ha e1 h2 hQ2 hm2 hr1 hb hgw hbv hcv s1
    go_wp2_with fail
    refine (HB2.out _ hg1).mono ?_
    rintro e w2 ⟨a2, b2, c2, bad2, rfl, hok2, hb2⟩
    have HOK := Lib.hid hok2
    have hB2 := (hB1.keep hb2).alloc (.cells #[.int .i64 a2, .int .i64 b2, .int .i64 c2, .bool bad2] 76)
    have hC2 := (hC1.keep hb2).alloc (.cells #[.int .i64 a2, .int .i64 b2, .int .i64 c2, .bool bad2] 76)
    obtain ⟨⟨z0, z1, z2, z3⟩, y0, y1, y2, y3⟩ := cut_old hB2
    obtain ⟨⟨x0, x1, x2, x3⟩, -⟩ := cut_old hC2
    have HUU := Lib.hid (fun v0 v1 v2 v3 => cut_put hB2 rfl v0 v1 v2 v3)
    have HGG := Lib.hid (fun v0 v1 v2 v3 => ((hg1.trans hb2).alloc (.cells #[.int .i64 a2, .int .i64 b2, .int .i64 c2, .bool bad2] 76)).put4 (Nat.le_refl _) v0 v1 v2 v3)
    clear hB1 hC1 hok2 hg1 hb2 hB2 hC2
    rcases Q2 with _ | ⟨m2, r2⟩
    · obtain rfl : bad2 = true := HOK.out
      go_wp2_with fail
      obtain ⟨u0, u1, u2, u3⟩ := HUU.out (.int .i64 (wrap64 (1 + a + a2))) (.int .i64 (wrap64 (b + b2))) (.int .i64 (wrap64 (c + c2))) (.bool true)
      rw [HT.out]
      refine bodyPost_ret (v := .agg #[.int .i64 (wrap64 (1 + a + a2)), .int .i64 (wrap64 (b + b2)), .int .i64 (wrap64 (c + c2)), .bool true]) ?_ rfl ⟨_, _, _, _, rfl, rfl, HGG.out _ _ _ _⟩
      simp [results, Try.results57, go_sem, u0, u1, u2, u3]
    · obtain ⟨rfl, q2, q3, k2, hr2, hk3, hk4, q4⟩ := HOK.out
      rw [HN.out] at hk4
      obtain ⟨hmm, hmml⟩ := HMM2.out m2 r2 rfl
      have s2 := sum_bd HBS.out hmm
      have HR2 := Lib.hid hr2
      have Q2' := Lib.hid q2
      have Q3' := Lib.hid q3
      have Q4' := Lib.hid q4
      have hmml2 : m2.length ≤ 8192 := by omega
      rw [← q2, ← q3] at s2
      have s2' : (0 ≤ b2 ∧ b2 ≤ 8589934592) ∧ 0 ≤ c2 ∧ c2 ≤ 18874368 := by omega
      have hal2 : 1 ≤ a2 ∧ a2 ≤ 8192 := by omega
      clear q2 q3 q4 hr2 hmm s2
      go_wp2_with fail
      obtain ⟨u0, u1, u2, u3⟩ := HUU.out (.int .i64 (1 + a + a2)) (.int .i64 (b + b2)) (.int .i64 (c + c2)) (.bool false)
      rw [HT.out]
      refine bodyPost_ret (v := .agg #[.int .i64 (1 + a + a2), .int .i64 (b + b2), .int .i64 (c + c2), .bool false]) ?_ rfl ⟨_, _, _, _, rfl, ⟨rfl, by rw [sumV_app, HBV.out, Q2'.out], by rw [sumA_app, HCV.out, Q3'.out], k2, HR2.out, by omega, by rw [HN.out]; exact hk4, ?_⟩, HGG.out _ _ _ _⟩
      · simp [results, Try.results57, go_sem, u0, u1, u2, u3]
      · have e5 := Q4'.out
        have e6 := HE1.out
        omega

end Go.Proofs.Ytcojionipffanab
