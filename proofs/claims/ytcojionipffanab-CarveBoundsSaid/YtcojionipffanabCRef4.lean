/- Layer 2: the reference's reading of plans, whole. -/
import Derived.Test.YtcojionipffanabCRef3
namespace Go.Proofs.Ytcojionipffanab
open Go.RowKit
set_option linter.unusedSimpArgs false

set_option maxRecDepth 100000 in
set_option maxHeartbeats 2000000 in
theorem rread_across (d : Nat) (w0 : World) (BA PA : Option Addr) (bn bc pc : Nat) (bs : List Bl) (plan : List St) (hl : plan.length ≤ 8192) (hbs : ∀ b ∈ bs, blB b = true) (ih : RUpto d w0 BA PA bn bc pc bs plan) (hP : Pts w0 PA plan) (W H : Int) (k : Nat) (w : World) (hZ : Sz W H) (hk : k < plan.length) (hd : plan.length - k ≤ d + 1) (hg : Gr w0 w)
    (arg : Int) (hs : plan.getD k (0, 0) = (2, arg)) (h1 : 1 ≤ arg) (h2 : arg < W) :
    Calls Try.prog 37 #[.int .i64 W, .int .i64 H, .slice BA bn bc, .slice PA plan.length pc, .int .i64 (k : Int)] w (CutPost plan (rdP bs W H (plan.drop k)) k w) := by
  obtain ⟨g, off, rfl, s1, s2⟩ := Pts_at (hP.keep hg) hk
  rw [hs] at s1 s2
  obtain ⟨⟨hW1, hW2⟩, hH1, hH2⟩ := id hZ
  have q1 : (w.alloc (.cells #[.int .i64 0, .int .i64 0, .int .i64 0, .bool false] 76)).cell? ⟨g, off + k * 2, none⟩ = some (.int .i64 2) := alloc_old s1
  have q2 : (w.alloc (.cells #[.int .i64 0, .int .i64 0, .int .i64 0, .bool false] 76)).cell? ⟨g, off + k * 2 + 1, none⟩ = some (.int .i64 arg) := alloc_old s2
  have hR : Hid (rdP bs W H (plan.drop k) = two2 (rdP bs (arg) (H) (plan.drop (k + 1))) (rdP bs (W - arg) (H))) := Lib.hid (by
    rw [drop_cons2 hk, hs, rdP_cons]
    simp [h1, h2])
  rw [hR.out]
  have HT := Lib.hid (fun w' (g' : Gr w w') => rtwo_any d w0 BA (some ⟨g, off, none⟩) bn bc pc bs plan hl hbs ih (arg) (H) (W - arg) (H) k w' ⟨⟨h1, by omega⟩, hH1, hH2⟩ ⟨⟨by omega, by omega⟩, hH1, hH2⟩ hk hd (hg.trans g'))
  generalize hN : plan.length = n at HT hl hk hd ⊢
  generalize two2 (rdP bs (arg) (H) (plan.drop (k + 1))) (rdP bs (W - arg) (H)) = R at HT ⊢
  have HN := Lib.hid hN
  clear hs hP ih hbs hN
  have hbase : Blk (w.alloc (.cells #[.int .i64 0, .int .i64 0, .int .i64 0, .bool false] 76)) w.heap.size 76 #[.int .i64 0, .int .i64 0, .int .i64 0, .bool false] := Blk.new _ _ _ rfl
  have HB := Lib.hid hbase
  clear hbase
  go_enter Try.func37, Try.ntmps37
  go_wp2_with fail
  generalize hWa : World.alloc (World.alloc w _) _ = Wa
  have hga : Gr w Wa := by rw [← hWa]; exact ((Gr.refl w).alloc _).alloc _
  have hB1 : Blk Wa w.heap.size 76 #[.int .i64 0, .int .i64 0, .int .i64 0, .bool false] := by rw [← hWa]; exact HB.out.alloc _
  clear hWa
  refine (HT.out _ hga).mono ?_
  rintro e w2 ⟨a, b, c, bad, rfl, hok, hb⟩
  have hB2 := hB1.keep hb
  obtain ⟨⟨z0, z1, z2, z3⟩, y0, y1, y2, y3⟩ := cut_old hB2
  obtain ⟨u0, u1, u2, u3⟩ := cut_put hB2 rfl (.int .i64 a) (.int .i64 b) (.int .i64 c) (.bool bad)
  have HG := Lib.hid ((hga.trans hb).put4 (Nat.le_refl _) (.int .i64 a) (.int .i64 b) (.int .i64 c) (.bool bad))
  have HU := Lib.hid (And.intro u0 (And.intro u1 (And.intro u2 u3)))
  have HOK := Lib.hid hok
  clear hB1 hB2 u0 u1 u2 u3 hb hga hok
  go_wp2_with fail
  obtain ⟨u0, u1, u2, u3⟩ := HU.out
  refine bodyPost_ret (v := .agg #[.int .i64 a, .int .i64 b, .int .i64 c, .bool bad]) ?_ rfl ⟨_, _, _, _, rfl, HOK.out, HG.out⟩
  simp [results, Try.results37, go_sem, u0, u1, u2, u3]

set_option maxRecDepth 100000 in
set_option maxHeartbeats 2000000 in
theorem rread_along (d : Nat) (w0 : World) (BA PA : Option Addr) (bn bc pc : Nat) (bs : List Bl) (plan : List St) (hl : plan.length ≤ 8192) (hbs : ∀ b ∈ bs, blB b = true) (ih : RUpto d w0 BA PA bn bc pc bs plan) (hP : Pts w0 PA plan) (W H : Int) (k : Nat) (w : World) (hZ : Sz W H) (hk : k < plan.length) (hd : plan.length - k ≤ d + 1) (hg : Gr w0 w)
    (arg : Int) (hs : plan.getD k (0, 0) = (3, arg)) (h1 : 1 ≤ arg) (h2 : arg < H) :
    Calls Try.prog 37 #[.int .i64 W, .int .i64 H, .slice BA bn bc, .slice PA plan.length pc, .int .i64 (k : Int)] w (CutPost plan (rdP bs W H (plan.drop k)) k w) := by
  obtain ⟨g, off, rfl, s1, s2⟩ := Pts_at (hP.keep hg) hk
  rw [hs] at s1 s2
  obtain ⟨⟨hW1, hW2⟩, hH1, hH2⟩ := id hZ
  have q1 : (w.alloc (.cells #[.int .i64 0, .int .i64 0, .int .i64 0, .bool false] 76)).cell? ⟨g, off + k * 2, none⟩ = some (.int .i64 3) := alloc_old s1
  have q2 : (w.alloc (.cells #[.int .i64 0, .int .i64 0, .int .i64 0, .bool false] 76)).cell? ⟨g, off + k * 2 + 1, none⟩ = some (.int .i64 arg) := alloc_old s2
  have hR : Hid (rdP bs W H (plan.drop k) = two2 (rdP bs (W) (arg) (plan.drop (k + 1))) (rdP bs (W) (H - arg))) := Lib.hid (by
    rw [drop_cons2 hk, hs, rdP_cons]
    simp [h1, h2])
  rw [hR.out]
  have HT := Lib.hid (fun w' (g' : Gr w w') => rtwo_any d w0 BA (some ⟨g, off, none⟩) bn bc pc bs plan hl hbs ih (W) (arg) (W) (H - arg) k w' ⟨⟨hW1, hW2⟩, h1, by omega⟩ ⟨⟨hW1, hW2⟩, by omega, by omega⟩ hk hd (hg.trans g'))
  generalize hN : plan.length = n at HT hl hk hd ⊢
  generalize two2 (rdP bs (W) (arg) (plan.drop (k + 1))) (rdP bs (W) (H - arg)) = R at HT ⊢
  have HN := Lib.hid hN
  clear hs hP ih hbs hN
  have hbase : Blk (w.alloc (.cells #[.int .i64 0, .int .i64 0, .int .i64 0, .bool false] 76)) w.heap.size 76 #[.int .i64 0, .int .i64 0, .int .i64 0, .bool false] := Blk.new _ _ _ rfl
  have HB := Lib.hid hbase
  clear hbase
  go_enter Try.func37, Try.ntmps37
  go_wp2_with fail
  generalize hWa : World.alloc (World.alloc w _) _ = Wa
  have hga : Gr w Wa := by rw [← hWa]; exact ((Gr.refl w).alloc _).alloc _
  have hB1 : Blk Wa w.heap.size 76 #[.int .i64 0, .int .i64 0, .int .i64 0, .bool false] := by rw [← hWa]; exact HB.out.alloc _
  clear hWa
  refine (HT.out _ hga).mono ?_
  rintro e w2 ⟨a, b, c, bad, rfl, hok, hb⟩
  have hB2 := hB1.keep hb
  obtain ⟨⟨z0, z1, z2, z3⟩, y0, y1, y2, y3⟩ := cut_old hB2
  obtain ⟨u0, u1, u2, u3⟩ := cut_put hB2 rfl (.int .i64 a) (.int .i64 b) (.int .i64 c) (.bool bad)
  have HG := Lib.hid ((hga.trans hb).put4 (Nat.le_refl _) (.int .i64 a) (.int .i64 b) (.int .i64 c) (.bool bad))
  have HU := Lib.hid (And.intro u0 (And.intro u1 (And.intro u2 u3)))
  have HOK := Lib.hid hok
  clear hB1 hB2 u0 u1 u2 u3 hb hga hok
  go_wp2_with fail
  obtain ⟨u0, u1, u2, u3⟩ := HU.out
  refine bodyPost_ret (v := .agg #[.int .i64 a, .int .i64 b, .int .i64 c, .bool bad]) ?_ rfl ⟨_, _, _, _, rfl, HOK.out, HG.out⟩
  simp [results, Try.results37, go_sem, u0, u1, u2, u3]

theorem rread_all (w0 : World) (BA PA : Option Addr) (bn bc pc : Nat) (bs : List Bl) (plan : List St) (hl : plan.length ≤ 8192) (hbn : bs.length = bn) (hbs : ∀ b ∈ bs, blB b = true) (hB : Tris w0 BA bs) (hP : Pts w0 PA plan) : ∀ d, RUpto d w0 BA PA bn bc pc bs plan := by
  intro d
  induction d with
  | zero =>
    intro W H k w hZ hk hd hg
    obtain rfl : k = plan.length := by omega
    exact rread_end W H BA PA bn bc _ pc bs plan w rfl
  | succ d ih =>
    intro W H k w hZ hk hd hg
    by_cases he : k = plan.length
    · subst he
      exact rread_end W H BA PA bn bc _ pc bs plan w rfl
    · have hk' : k < plan.length := by omega
      obtain ⟨⟨kd, arg⟩, hs⟩ : ∃ s, plan.getD k (0, 0) = s := ⟨_, rfl⟩
      by_cases h0 : kd = 0
      · subst h0; exact rread_waste W H BA PA bn bc _ pc k bs plan w rfl (hP.keep hg) hk' arg hs
      · by_cases h1 : kd = 1
        · subst h1; exact rread_make W H BA PA bn bc _ pc k bs plan w rfl hbn hbs (hB.keep hg) (hP.keep hg) hk' arg hs
        · by_cases h2 : kd = 2 ∧ 1 ≤ arg ∧ arg < W
          · obtain ⟨rfl, h3, h4⟩ := h2
            exact rread_across d w0 BA PA bn bc pc bs plan hl hbs ih hP W H k w hZ hk' hd hg arg hs h3 h4
          · by_cases h5 : kd = 3 ∧ 1 ≤ arg ∧ arg < H
            · obtain ⟨rfl, h3, h4⟩ := h5
              exact rread_along d w0 BA PA bn bc pc bs plan hl hbs ih hP W H k w hZ hk' hd hg arg hs h3 h4
            · exact rread_other W H BA PA bn bc _ pc k bs plan w rfl (hP.keep hg) hk' kd arg hs h0 h1 h2 h5

/-- The three answers of Read. -/
def ReadL (R : Option (List Bl)) : Int × Int × Bool :=
  match R with
  | some m => (sumV m, sumA m, true)
  | none => (0, 0, false)

set_option maxRecDepth 100000 in
set_option maxHeartbeats 1000000 in
theorem Read_any (W H : Int) (BA PA : Option Addr) (bn bc n pc : Nat) (bs : List Bl) (plan : List St) (w : World) (hbn : bs.length = bn) (hn : plan.length = n) (hl : n ≤ 281474976710656) (hbs : ∀ b ∈ bs, blB b = true) (hZ : Sz W H) (hB : Tris w BA bs) (hP : Pts w PA plan) :
    Calls Try.prog 19 #[.int .i64 W, .int .i64 H, .slice BA bn bc, .slice PA n pc] w fun e w' => e = .returned (.tuple #[.int .i64 (ReadL (readL bs W H plan)).1, .int .i64 (ReadL (readL bs W H plan)).2.1, .bool (ReadL (readL bs W H plan)).2.2]) ∧ Gr w w' := by
  by_cases h8 : n ≤ 8192
  · subst hn
    have HC := Lib.hid (rread_all w BA PA bn bc pc bs plan h8 hbn hbs hB hP plan.length W H 0 w hZ (Nat.zero_le _) (by omega) (Gr.refl w))
    obtain ⟨Q, hQ⟩ : ∃ Q, rdP bs W H plan = Q := ⟨_, rfl⟩
    rw [List.drop_zero, hQ] at HC
    have HR : Hid (readL bs W H plan = allOf Q) := Lib.hid (by unfold readL; rw [if_pos h8, hQ])
    rw [HR.out]
    clear hQ hB hP hZ hbn hbs HR
    generalize hN : plan.length = n at HC h8 ⊢
    have HN := Lib.hid hN
    clear hN
    go_enter Try.func19, Try.ntmps19
    go_wp2_with fail
    refine HC.out.mono ?_
    clear HC
    rcases Q with _ | ⟨m, r⟩
    · rintro e w1 ⟨a, b, c, bad, rfl, hok, hb⟩
      obtain rfl : bad = true := hok
      go_wp2_with fail
      go_ret3
      exact ⟨rfl, by (repeat (first | exact Gr.refl _ | assumption | (refine Gr.drew ?_) | (refine Gr.drewN ?_ _) | (refine Gr.alloc ?_ _) | (refine Gr.trans ?_ (by assumption))))⟩
    · rintro e w1 ⟨a, b, c, bad, rfl, ⟨rfl, rfl, rfl, k', hr, hk1, hk2, rfl⟩, hb⟩
      rw [HN.out] at hk2
      by_cases hkn : k' = n
      · have hr0 : r = [] := by rw [hr, List.drop_of_length_le (by rw [HN.out]; omega)]
        have HR0 := Lib.hid hr0
        have hsub : ((k' : Int) - ((0 : Nat) : Int)) = (n : Int) := by omega
        rw [hsub]
        have HBB := Lib.hid hb
        clear hr0 hr hkn hsub hb
        go_wp2_with fail
        go_quiet (fail)
        go_wp2_with fail
        go_ret3
        rw [HR0.out]
        exact ⟨rfl, (HBB.out.alloc _).drewN _⟩
      · have hr0 : allOf (some (m, r)) = none := by
          have h1 := congrArg List.length hr
          rw [List.length_drop, HN.out] at h1
          match r, h1 with
          | [], h1 => simp at h1; omega
          | _ :: _, _ => rfl
        have HR0 := Lib.hid hr0
        obtain ⟨z, hz⟩ : ∃ z : Int, (k' : Int) - ((0 : Nat) : Int) = z := ⟨_, rfl⟩
        have hne : (z != (n : Int)) = true := by simp; omega
        rw [hz]
        have HBB := Lib.hid hb
        clear hr0 hr hkn hz hb
        go_wp2_with fail
        go_ret3
        rw [HR0.out]
        exact ⟨rfl, HBB.out.alloc _⟩
  · have hR : Hid (readL bs W H plan = none) := Lib.hid (by unfold readL; rw [if_neg (by omega)])
    rw [hR.out]
    clear hbn hn hZ hB hP hbs
    go_enter Try.func19, Try.ntmps19
    go_wp2_with fail
    go_ret3
    exact ⟨rfl, Gr.refl _⟩

end Go.Proofs.Ytcojionipffanab
