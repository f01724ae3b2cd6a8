/- Layer 4: the law BenchOnce as a walk. -/
import Derived.Test.YtngcgienhdifaaaBnAwake
namespace Go.Proofs.Ytngcgienhdifaaa
open Go.RowKit
set_option linter.unusedSimpArgs false

set_option maxRecDepth 100000 in
set_option maxHeartbeats 16000000 in
theorem lawOnce_any (B : Int) (A : Option Addr) (n c : Nat) (l : List Jb) (p : Bool) (C : Option Addr) (m cc : Nat) (s : List Sl) (JA : Option Addr) (m1 c1 : Nat) (J : List Int) (SA : Option Addr) (m2 c2 : Nat) (S : List (Int × Int)) (w : World)
    (hn : l.length = n) (hl : n ≤ 9223372036854775807) (_hc : n ≤ c) (_h0 : A = none → c = 0) (hp : Tris w A l)
    (hm : s.length = m) (hml : m ≤ 9223372036854775807) (hmc : m ≤ cc) (hC : C = none → cc = 0) (hs : Rd 4 enc4 w C s)
    (hm1 : J.length = m1) (hl1 : m1 ≤ 9223372036854775807) (hc1 : m1 ≤ c1) (hC1 : JA = none → c1 = 0) (hJ : Ints w JA J)
    (hm2 : S.length = m2) (hl2 : m2 ≤ 9223372036854775807) (hc2 : m2 ≤ c2) (hC2 : SA = none → c2 = 0) (hS : Pts w SA S) :
    Calls Try.prog 7 #[.int .i64 B, .slice A n c, .agg #[.bool p, .slice C m cc, .slice JA m1 c1, .slice SA m2 c2]] w fun e w' => e = .returned (.bool true) ∧ Gr w w' := by
  obtain ⟨k, hk⟩ : ∃ k, (tmL4 14 l).length = k := ⟨_, rfl⟩
  have HTM := Lib.hid (fun W (hW : Gr w W) => tame_any B 14 (by omega) A n c l W k hk hn hl (hp.keep hW))
  have hT : okT (tmB B) (tmL4 14 l) = true := tm_task (B := B) (by omega)
  obtain ⟨hB, hn32, hV⟩ := okT_v hT
  generalize tmL4 14 l = L at hk HTM hT hn32 hV
  generalize tmB B = N at HTM hT hB
  obtain ⟨k0, hk0⟩ : ∃ k, (s.take 4097).length = k := ⟨_, rfl⟩
  obtain ⟨k1, hk1⟩ : ∃ k, (J.take 33).length = k := ⟨_, rfl⟩
  obtain ⟨k2, hk2⟩ : ∃ k, (S.take 4097).length = k := ⟨_, rfl⟩
  have HAN := Lib.hid (fun W (hW : Gr w W) => answer4_any p C m cc s JA m1 c1 J SA m2 c2 S W hm hml hmc hC (hs.keep hW) hm1 hl1 hc1 hC1 (hJ.keep hW) hm2 hl2 hc2 hC2 (hS.keep hW) k0 hk0 k1 hk1 k2 hk2)
  generalize s.take 4097 = s' at HAN hk0
  generalize J.take 33 = J' at HAN hk1
  generalize S.take 4097 = S' at HAN hk2
  have HK := Lib.hid hk
  have HT := Lib.hid hT
  have HV := Lib.hid hV
  rw [hk] at hn32
  have HPL := Lib.hid (fun (A' : Option Addr) (c' : Nat) W (h : Tris W A' L) => plan_ok N A' k c' L W hk hT h)
  have HCH := Lib.hid (fun (A' : Option Addr) (c' : Nat) q C m cc s JA m1 c1 J SA m2 c2 S W (h : Tris W A' L) (hR : AnsR W C m cc s JA m1 J SA m2 S) => check_any N A' k c' L q C m cc s JA m1 c1 J SA m2 c2 S W hk (by omega) h hR)
  have HPO := Lib.hid (fun p s J S (h : RightP N L p s J S) => RightP.poss hB.1 hV h)
  clear hn hl hp hk hT hV hm hml hmc hC hs hm1 hl1 hc1 hC1 hJ hm2 hl2 hc2 hC2 hS hk0 hk1 hk2
  go_enter Try.func7, Try.ntmps7
  go_upto_region 1 with fail
  generalize hW0 : World.alloc w _ = w0
  have hg0 : Gr w w0 := by rw [← hW0]; exact (Gr.refl w).alloc _
  have hX : Blk w0 w.heap.size 28 #[.bool p, .slice C m cc, .slice JA m1 c1, .slice SA m2 c2] := by rw [← hW0]; exact heap_alloc_new w _
  generalize w.heap.size = X at hX ⊢
  have HX := Lib.hid hX
  have HTM0 := Lib.hid (HTM.out w0 hg0)
  clear hW0 hX HTM
  go_wp2_with fail
  refine HTM0.out.mono ?_
  rintro e w1 ⟨A', c', rfl, hT1, -, -, hg1⟩
  have HT1 := Lib.hid hT1
  have HX1 := Lib.hid (HX.out.keep hg1)
  have HP1 := Lib.hid (HPL.out A' c' w1 hT1)
  have hgr1 := hg0.trans hg1
  clear hT1 HTM0 hg0 hg1 HX HPL
  go_wp2_with fail
  refine HP1.out.mono ?_
  rintro e w2 ⟨px, Cx, mx, ccx, sx, JAx, m1x, c1x, Jx, SAx, m2x, c2x, Sx, rfl, hR, hRT, -, hg2⟩
  have HR2 := Lib.hid hR
  have HRT := Lib.hid hRT
  have HPP := Lib.hid (HPO.out px sx Jx Sx hRT)
  have HT2 := Lib.hid (HT1.out.keep hg2)
  have HX2 := Lib.hid (HX1.out.keep hg2)
  have hgr2 := hgr1.trans hg2
  clear hR hRT hg2 hgr1 HP1 HT1 HX1
  go_upto_region 3 with fail
  generalize hW3 : World.alloc w2 _ = w3
  have hg3 : Gr w2 w3 := by rw [← hW3]; exact (Gr.refl w2).alloc _
  have hZ : Blk w3 w2.heap.size 28 #[.bool px, .slice Cx mx ccx, .slice JAx m1x c1x, .slice SAx m2x c2x] := by rw [← hW3]; exact heap_alloc_new w2 _
  generalize w2.heap.size = Z at hZ ⊢
  have HZ := Lib.hid hZ
  have HT3 := Lib.hid (HT2.out.keep hg3)
  have HX3 := Lib.hid (HX2.out.keep hg3)
  have HR3 := Lib.hid (HR2.out.keep hg3)
  have hgr3 := hgr2.trans hg3
  have x0 := HX3.out.cell 0
  have x1 := HX3.out.cell 1
  have x2 := HX3.out.cell 2
  have x3 := HX3.out.cell 3
  have HAN3 := Lib.hid (HAN.out w3 hgr3)
  clear hW3 hZ hg3 hgr2 HT2 HX2 HR2 HAN
  go_wp2_with fail
  refine HAN3.out.mono ?_
  rintro e w4 ⟨C', cc', JA', c1', SA', c2', rfl, hRy, -, hg4⟩
  have HRY := Lib.hid hRy
  have HT4 := Lib.hid (HT3.out.keep hg4)
  have HZ4 := Lib.hid (HZ.out.keep hg4)
  have HR4 := Lib.hid (HR3.out.keep hg4)
  have hgr4 := hgr3.trans hg4
  clear hRy hg4 hgr3 HAN3 HT3 HZ HR3 x0 x1 x2 x3 HX3
  go_upto_region 6 with fail
  generalize hW5 : World.alloc w4 _ = w5
  have hg5 : Gr w4 w5 := by rw [← hW5]; exact (Gr.refl w4).alloc _
  have hY : Blk w5 w4.heap.size 28 #[.bool p, .slice C' k0 cc', .slice JA' k1 c1', .slice SA' k2 c2'] := by rw [← hW5]; exact heap_alloc_new w4 _
  have hXle : Z < w4.heap.size := HZ4.out.lt
  have hwle : w.heap.size ≤ w4.heap.size := hgr4.size
  generalize w4.heap.size = Y at hY hXle hwle ⊢
  have HY := Lib.hid hY
  have HT5 := Lib.hid (HT4.out.keep hg5)
  have HZ5 := Lib.hid (HZ4.out.keep hg5)
  have HR5 := Lib.hid (HR4.out.keep hg5)
  have HRY5 := Lib.hid (HRY.out.keep hg5)
  have hgr5 := hgr4.trans hg5
  have z0 := HZ5.out.cell 0
  have y0 := HY.out.cell 0
  have y1 := HY.out.cell 1
  have y2 := HY.out.cell 2
  have y3 := HY.out.cell 3
  have f0 := HY.out.free 0
  have f1 := HY.out.free 1
  have f2 := HY.out.free 2
  have f3 := HY.out.free 3
  have hne : Z ≠ Y := by omega
  clear hW5 hY hg5 hgr4 HT4 HZ4 HR4 HRY
  -- what is stored into the copy keeps all lists
  have HKEEP : Hid (∀ (w6 : World), Gb Y w5 w6 → Tris w6 A' L ∧ AnsR w6 Cx mx ccx sx JAx m1x Jx SAx m2x Sx ∧ Rd 4 enc4 w6 C' s' ∧ Ints w6 JA' J' ∧ Pts w6 SA' S' ∧ Blk w6 Z 28 #[.bool px, .slice Cx mx ccx, .slice JAx m1x c1x, .slice SAx m2x c2x] ∧ Gr w w6) := Lib.hid (fun w6 hG =>
    ⟨HT5.out.ans (fun x v h => by simp [enc3] at h; rcases h with rfl | rfl | rfl <;> exact ⟨_, rfl⟩) HY.out (noint4 _ _ _ _ _ _ _ _ _ _) hG,
      ⟨HR5.out.hm, HR5.out.hmb, HR5.out.hC, HR5.out.hsp, HR5.out.hs.ans enc4_int HY.out (noint4 _ _ _ _ _ _ _ _ _ _) hG, HR5.out.hm1, HR5.out.hb1, HR5.out.hJ.ans enc1_int HY.out (noint4 _ _ _ _ _ _ _ _ _ _) hG, HR5.out.hm2, HR5.out.hb2, HR5.out.hS.ans enc2_int HY.out (noint4 _ _ _ _ _ _ _ _ _ _) hG⟩,
      HRY5.out.hs.ans enc4_int HY.out (noint4 _ _ _ _ _ _ _ _ _ _) hG, HRY5.out.hJ.ans enc1_int HY.out (noint4 _ _ _ _ _ _ _ _ _ _) hG, HRY5.out.hS.ans enc2_int HY.out (noint4 _ _ _ _ _ _ _ _ _ _) hG,
      (hG.block Z HZ5.out.lt (fun e => hne (by injection e))).trans HZ5.out, hG.gr hgr5 hwle⟩)
  cases px with
  | false =>
    have hYN := ((HY.out.put 0 (.bool true)).put 2 (.slice none 0 0)).put 3 (.slice none 0 0)
    have hGN := (((Gb.of (Gr.refl w5) Y).put 0 (.bool true)).put 2 (.slice none 0 0)).put 3 (.slice none 0 0)
    have HYN := Lib.hid hYN
    have HGN := Lib.hid hGN
    clear hYN hGN hne
    go_upto_region 11 with fail
    generalize World.setCell (World.setCell (World.setCell w5 _ _) _ _) _ _ = w6 at HYN HGN ⊢
    obtain ⟨e1, e2, e3, e4, e5, e6, e7⟩ := HKEEP.out w6 HGN.out
    have HT6 := Lib.hid e1
    have HR6 := Lib.hid e2
    have HZ6 := Lib.hid e6
    have hRY6 : AnsR w6 C' k0 cc' s' none 0 [] none 0 [] := ⟨HRY5.out.hm, HRY5.out.hmb, HRY5.out.hC, HRY5.out.hsp, e3, rfl, by omega, Rd_nil _ _, rfl, by omega, Rd_nil _ _⟩
    have HC1 := Lib.hid (HCH.out A' c' true C' k0 cc' s' none 0 0 [] none 0 0 [] w6 e1 hRY6)
    have q0 := HYN.out.cell 0
    have q1 := HYN.out.cell 1
    have q2 := HYN.out.cell 2
    have q3 := HYN.out.cell 3
    simp at q0 q1 q2 q3
    clear e1 e2 e3 e4 e5 e6 hRY6 HKEEP z0 y0 y1 y2 y3 f0 f1 f2 f3 hgr5
    go_wp2_with fail
    refine HC1.out.mono ?_
    rintro e w7 ⟨r, rfl, hg7, -, -, hr⟩
    obtain rfl : r = 10 := hr HT.out (fun h => by
      have := HPP.out.2 ⟨_, (RightP.yes.1 h).2.2⟩
      cases this)
    have HT7 := Lib.hid (HT6.out.keep hg7)
    have HZ7 := Lib.hid (HZ6.out.keep hg7)
    have HC2 := Lib.hid (HCH.out A' c' false Cx mx ccx sx JAx m1x c1x Jx SAx m2x c2x Sx w7 HT7.out (HR6.out.keep hg7))
    have hgr7 := e7.trans hg7
    have z0 := HZ7.out.cell 0
    have z1 := HZ7.out.cell 1
    have z2 := HZ7.out.cell 2
    have z3 := HZ7.out.cell 3
    clear q0 q1 q2 q3 hr hg7 e7 HC1 HCH
    go_wp2_with fail
    refine HC2.out.mono ?_
    rintro e w8 ⟨r, rfl, hg8, -, hr, -⟩
    obtain rfl : r = 0 := hr HT.out HRT.out
    clear hr HC2 z0 z1 z2 z3
    go_wp2_with fail
    refine (bawake_any _).mono ?_
    rintro e w9 ⟨rfl, hg9⟩
    go_wp2_with fail
    go_ret
    exact ⟨rfl, (hgr7.trans hg8).trans hg9⟩
  | true =>
    have hYN := (HY.out.put 0 (.bool false)).put 1 (.slice none 0 0)
    have hGN := ((Gb.of (Gr.refl w5) Y).put 0 (.bool false)).put 1 (.slice none 0 0)
    have HYN := Lib.hid hYN
    have HGN := Lib.hid hGN
    clear hYN hGN hne
    go_upto_region 11 with fail
    generalize World.setCell (World.setCell w5 _ _) _ _ = w6 at HYN HGN ⊢
    obtain ⟨e1, e2, e3, e4, e5, e6, e7⟩ := HKEEP.out w6 HGN.out
    have HT6 := Lib.hid e1
    have HR6 := Lib.hid e2
    have HZ6 := Lib.hid e6
    have hRY6 : AnsR w6 none 0 0 [] JA' k1 J' SA' k2 S' := ⟨rfl, by omega, fun _ => ⟨rfl, rfl⟩, fun a h => (by cases h), Rd_nil _ _, HRY5.out.hm1, HRY5.out.hb1, e4, HRY5.out.hm2, HRY5.out.hb2, e5⟩
    have HC1 := Lib.hid (HCH.out A' c' false none 0 0 [] JA' k1 c1' J' SA' k2 c2' S' w6 e1 hRY6)
    have q0 := HYN.out.cell 0
    have q1 := HYN.out.cell 1
    have q2 := HYN.out.cell 2
    have q3 := HYN.out.cell 3
    simp at q0 q1 q2 q3
    clear e1 e2 e3 e4 e5 e6 hRY6 HKEEP z0 y0 y1 y2 y3 f0 f1 f2 f3 hgr5
    go_wp2_with fail
    refine HC1.out.mono ?_
    rintro e w7 ⟨r, rfl, hg7, -, -, hr⟩
    obtain rfl : r = 10 := hr HT.out (fun h => by
      obtain ⟨N', rfl⟩ : ∃ N' : Nat, N = N' := ⟨N.toNat, by omega⟩
      obtain ⟨t, ht⟩ := HPP.out.1 (by trivial)
      exact dual HV.out.three ht (RightP.no.1 h).2)
    have HT7 := Lib.hid (HT6.out.keep hg7)
    have HZ7 := Lib.hid (HZ6.out.keep hg7)
    have HC2 := Lib.hid (HCH.out A' c' true Cx mx ccx sx JAx m1x c1x Jx SAx m2x c2x Sx w7 HT7.out (HR6.out.keep hg7))
    have hgr7 := e7.trans hg7
    have z0 := HZ7.out.cell 0
    have z1 := HZ7.out.cell 1
    have z2 := HZ7.out.cell 2
    have z3 := HZ7.out.cell 3
    clear q0 q1 q2 q3 hr hg7 e7 HC1 HCH
    go_wp2_with fail
    refine HC2.out.mono ?_
    rintro e w8 ⟨r, rfl, hg8, -, hr, -⟩
    obtain rfl : r = 0 := hr HT.out HRT.out
    clear hr HC2 z0 z1 z2 z3
    go_wp2_with fail
    refine (bawake_any _).mono ?_
    rintro e w9 ⟨rfl, hg9⟩
    go_wp2_with fail
    go_ret
    exact ⟨rfl, (hgr7.trans hg8).trans hg9⟩

end Go.Proofs.Ytngcgienhdifaaa
