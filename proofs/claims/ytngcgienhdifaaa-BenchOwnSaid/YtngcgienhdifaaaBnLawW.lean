/- Layer 4: the law BenchOwn as a walk. -/
import Derived.Test.YtngcgienhdifaaaBnAwake
namespace Go.Proofs.Ytngcgienhdifaaa
open Go.RowKit
set_option linter.unusedSimpArgs false

/-- A list whose cells may be written: new, apart from block Z. -/
def WrL (b0 Z : Nat) (w : World) (A : Option Addr) (n : Nat) : Prop := 0 < n → ∃ g, A = some ⟨g, 0, none⟩ ∧ b0 ≤ g ∧ g ≠ Z ∧ Un w g ∧ ∀ o, o < n → ∃ v, w.cell? ⟨g, o, none⟩ = some v
theorem WrL.put {b0 Z n : Nat} {w : World} {A : Option Addr} (h : WrL b0 Z w A n) (p : Addr) (u : Value) : WrL b0 Z (w.setCell p u) A n := fun hn => by
  obtain ⟨g, e, h1, h2, h3, h4⟩ := h hn
  refine ⟨g, e, h1, h2, h3.put p u, fun o ho => ?_⟩
  obtain ⟨v, hv⟩ := h4 o ho
  by_cases hp : p = ⟨g, o, none⟩
  · subst hp
    exact ⟨u, World.cell?_setCell_same _ _ _ (by rw [hv])⟩
  · exact ⟨v, by rw [World.cell?_setCell_other _ _ _ _ hp]; exact hv⟩
theorem WrL.of {α : Type} {enc : α → List Value} {s : Nat} (hk : ∀ x, (enc x).length = s) (hs : 0 < s) {b0 k c Z n : Nat} {w w' : World} {A : Option Addr} {xs : List α} (hn : xs.length = k) (hnk : n = k * s) (hr : Rd s enc w A xs) (hf : Fresh b0 w A k c) (hZ : w.heap.size = Z) (hg : Gr w w') : WrL b0 Z w' A n := fun h0 => by
  rcases hf with ⟨_, h, _⟩ | ⟨g, e, h1, h2, h3⟩
  · subst h; omega
  · refine ⟨g, e, h1, by have := h3.2; omega, h3.keep hg, fun o ho => ?_⟩
    subst e
    subst hnk
    have hlt : o < (flatE enc xs).length := by rw [flatE_len hk, hn]; exact ho
    have := flatE_cells hk hs hr o _ (List.getElem?_eq_getElem hlt)
    rw [Nat.zero_add] at this
    exact ⟨_, hg.keep this⟩

set_option maxRecDepth 100000 in
set_option maxHeartbeats 16000000 in
theorem lawOwn_any (B : Int) (A : Option Addr) (n c : Nat) (l : List Jb) (w : World) (hn : l.length = n) (hl : n ≤ 9223372036854775807) (_hc : n ≤ c) (_h0 : A = none → c = 0) (hp : Tris w A l) :
    Calls Try.prog 12 #[.int .i64 B, .slice A n c] w fun e w' => e = .returned (.bool true) ∧ Gr w w' := by
  obtain ⟨k, hk⟩ : ∃ k, (tmL4 10 l).length = k := ⟨_, rfl⟩
  have HTM := Lib.hid (tame_any B 10 (by omega) A n c l w k hk hn hl hp)
  have hT : okT (tmB B) (tmL4 10 l) = true := tm_task (B := B) (by omega)
  have hk10 : k ≤ 10 := by rw [← hk]; unfold tmL4; rw [List.length_map, List.length_take]; omega
  obtain ⟨hB, hn32, hV⟩ := okT_v hT
  generalize tmL4 10 l = L at hk HTM hT hn32 hV
  generalize tmB B = N at HTM hT hB
  rw [hk] at hn32
  have hcut : cutJ 10 L = L := by unfold cutJ; rw [if_neg (by omega), List.take_of_length_le (by omega)]
  have HJB := Lib.hid (fun (A' : Option Addr) (c' : Nat) W (hc : k ≤ c') (h0 : A' = none → c' = 0) (h : Tris W A' L) => jobs_any 10 (by omega) A' k c' L W k (by rw [hcut]; exact hk) hk (by omega) hc h0 h)
  rw [hcut] at HJB
  have HK := Lib.hid hk
  have HT := Lib.hid hT
  have HV := Lib.hid hV
  have HPL := Lib.hid (fun (A' : Option Addr) (c' : Nat) W (h : Tris W A' L) => plan_ok N A' k c' L W hk hT h)
  have HRG := Lib.hid (fun (A' : Option Addr) (c' : Nat) q C m cc s JA m1 c1 J SA m2 c2 S W (h : Tris W A' L) (hR : AnsR W C m cc s JA m1 J SA m2 S) => rRight_any N hB A' k c' L q C m cc s JA m1 c1 J SA m2 c2 S W hk hn32 hV h hR)
  have HPO := Lib.hid (fun p s J S (h : RightP N L p s J S) => RightP.poss hB.1 hV h)
  clear hcut hn hl hp hk hT hV
  go_enter Try.func12, Try.ntmps12
  go_wp2_with fail
  refine HTM.out.mono ?_
  rintro e w1 ⟨A', c', rfl, hT1, h01, hkc, hg1⟩
  have HT1 := Lib.hid hT1
  have HJ1 := Lib.hid (HJB.out A' c' w1 hkc h01 hT1)
  clear hT1 HTM HJB
  go_wp2_with fail
  refine HJ1.out.mono ?_
  rintro e w2 ⟨A2, c2', rfl, hcp⟩
  have HT2 := Lib.hid (HT1.out.keep hcp.gr)
  have HC2 := Lib.hid hcp.rd
  have hgr2 := hg1.trans hcp.gr
  have HP2 := Lib.hid (HPL.out A' c' w2 HT2.out)
  clear hcp HJ1 HT1 hg1
  go_wp2_with fail
  refine HP2.out.mono ?_
  rintro e w3 ⟨p, C, m, cc, s, JA, m1, c1, J, SA, m2, c2, S, rfl, hR, hRT, ⟨hf1, hf2, hf3⟩, hg3⟩
  have HPP := Lib.hid (HPO.out p s J S hRT)
  go_upto_region 4 with fail
  generalize hW4 : World.alloc w3 _ = w4
  have hg4 : Gr w3 w4 := by rw [← hW4]; exact (Gr.refl w3).alloc _
  have hZ : Blk w4 w3.heap.size 28 #[.bool p, .slice C m cc, .slice JA m1 c1, .slice SA m2 c2] := by rw [← hW4]; exact heap_alloc_new w3 _
  have hw1 : WrL w2.heap.size w3.heap.size w4 C (m * 4) := WrL.of enc4_len (by omega) hR.hm rfl hR.hs hf1 rfl hg4
  have hw2 : WrL w2.heap.size w3.heap.size w4 JA m1 := WrL.of enc1_len (by omega) hR.hm1 (by omega) hR.hJ hf2 rfl hg4
  have hw3 : WrL w2.heap.size w3.heap.size w4 SA (m2 * 2) := WrL.of enc2_len (by omega) hR.hm2 rfl hR.hS hf3 rfl hg4
  have hmb := hR.hmb
  have hb1 := hR.hb1
  have hb2 := hR.hb2
  generalize w3.heap.size = Z at hZ hw1 hw2 hw3 ⊢
  have hg24 := hg3.trans hg4
  have HZ := Lib.hid hZ
  have HW1 := Lib.hid hw1
  have HW2 := Lib.hid hw2
  have HW3 := Lib.hid hw3
  clear hW4 hZ hg4 hg3 hR hRT hf1 hf2 hf3 hw1 hw2 hw3 HP2
  -- what is kept while the answer's lists are written over
  obtain ⟨INV, hINV⟩ : ∃ INV : World → Prop, INV = fun W => Blk W Z 28 #[.bool p, .slice C m cc, .slice JA m1 c1, .slice SA m2 c2] ∧ WrL w2.heap.size Z W C (m * 4) ∧ WrL w2.heap.size Z W JA m1 ∧ WrL w2.heap.size Z W SA (m2 * 2) ∧ Gr w2 W := ⟨_, rfl⟩
  have HI0 : Hid (INV w4) := Lib.hid (by rw [hINV]; exact ⟨HZ.out, HW1.out, HW2.out, HW3.out, hg24⟩)
  have HIE : Hid (∀ W, INV W → Blk W Z 28 #[.bool p, .slice C m cc, .slice JA m1 c1, .slice SA m2 c2] ∧ WrL w2.heap.size Z W C (m * 4) ∧ WrL w2.heap.size Z W JA m1 ∧ WrL w2.heap.size Z W SA (m2 * 2) ∧ Gr w2 W) := Lib.hid (fun W h => by rw [hINV] at h; exact h)
  have HIP : Hid (∀ W g o u, INV W → w2.heap.size ≤ g → g ≠ Z → INV (W.setCell ⟨g, o, none⟩ u)) := Lib.hid (fun W g o u h hg hz => by
    rw [hINV] at h ⊢
    obtain ⟨h1, h2, h3, h4, h5⟩ := h
    exact ⟨h1.other (p := ⟨g, o, none⟩) (fun e => hz e.symm) u, h2.put _ _, h3.put _ _, h4.put _ _, h5.setCell hg u⟩)
  clear hINV HZ HW1 HW2 HW3 hg24
  go_wp2_with fail
  go_loopw [10] (fun z wr => ∃ i : Nat, i ≤ m ∧ z = .int .i64 (i : Int) ∧ Hid (INV wr)) (fun z _ => m - (intOf z).toNat)
  case atStart => exact ⟨0, Nat.zero_le _, rfl, HI0⟩
  case round =>
    obtain ⟨i, him, rfl, hI⟩ := hrel
    obtain ⟨hz, hw1, -, -, -⟩ := HIE.out _ hI.out
    have z1 := hz.cell 1
    by_cases hlt : i < m
    · have hii : (i : Int) < (m : Int) := by omega
      have hi0 : (0 : Int) ≤ (i : Int) := by omega
      obtain ⟨g, rfl, hg0, hgz, hun, hcs⟩ := hw1 (by omega)
      obtain ⟨v0, y0⟩ := hcs (i * 4) (by omega)
      obtain ⟨v1, y1⟩ := hcs (i * 4 + 1) (by omega)
      obtain ⟨v2, y2⟩ := hcs (i * 4 + 2) (by omega)
      obtain ⟨v3, y3⟩ := hcs (i * 4 + 3) (by omega)
      have f0 := hun.1 (i * 4)
      have f1 := hun.1 (i * 4 + 1)
      have f2 := hun.1 (i * 4 + 2)
      have f3 := hun.1 (i * 4 + 3)
      have HN := Lib.hid (HIP.out _ g (i * 4 + 3) (.int .i64 0) (HIP.out _ g (i * 4 + 2) (.int .i64 0) (HIP.out _ g (i * 4 + 1) (.int .i64 0) (HIP.out _ g (i * 4) (.int .i64 (-1)) hI.out hg0 hgz) hg0 hgz) hg0 hgz) hg0 hgz)
      clear hz hw1 hcs hun hI
      go_wp2_with fail
      go_roundw
      case rel => exact ⟨i + 1, by omega, by go_num, HN⟩
      case measure => simp [intOf]; omega
    · obtain rfl : m = i := by omega
      clear hlt hw1 hz
      go_wp2_with fail
      go_loopw [11] (fun z wr => ∃ i : Nat, i ≤ m2 ∧ z = .int .i64 (i : Int) ∧ Hid (INV wr)) (fun z _ => m2 - (intOf z).toNat)
      case atStart => exact ⟨0, Nat.zero_le _, rfl, hI⟩
      case round =>
        clear hI z1
        obtain ⟨i, him, rfl, hI⟩ := hrel
        obtain ⟨hz, -, -, hw3, -⟩ := HIE.out _ hI.out
        have z3 := hz.cell 3
        by_cases hlt : i < m2
        · have hii : (i : Int) < (m2 : Int) := by omega
          have hi0 : (0 : Int) ≤ (i : Int) := by omega
          obtain ⟨g, rfl, hg0, hgz, hun, hcs⟩ := hw3 (by omega)
          obtain ⟨v0, y0⟩ := hcs (i * 2) (by omega)
          obtain ⟨v1, y1⟩ := hcs (i * 2 + 1) (by omega)
          have f0 := hun.1 (i * 2)
          have f1 := hun.1 (i * 2 + 1)
          have HN := Lib.hid (HIP.out _ g (i * 2 + 1) (.int .i64 (-1)) (HIP.out _ g (i * 2) (.int .i64 (-1)) hI.out hg0 hgz) hg0 hgz)
          clear hz hw3 hcs hun hI
          go_wp2_with fail
          go_roundw
          case rel => exact ⟨i + 1, by omega, by go_num, HN⟩
          case measure => simp [intOf]; omega
        · obtain rfl : m2 = i := by omega
          clear hlt hw3 hz
          go_wp2_with fail
          go_loopw [12] (fun z wr => ∃ i : Nat, i ≤ m1 ∧ z = .int .i64 (i : Int) ∧ Hid (INV wr)) (fun z _ => m1 - (intOf z).toNat)
          case atStart => exact ⟨0, Nat.zero_le _, rfl, hI⟩
          case round =>
            clear hI z3
            obtain ⟨i, him, rfl, hI⟩ := hrel
            obtain ⟨hz, -, hw2, -, hgw⟩ := HIE.out _ hI.out
            have z2 := hz.cell 2
            by_cases hlt : i < m1
            · have hii : (i : Int) < (m1 : Int) := by omega
              have hi0 : (0 : Int) ≤ (i : Int) := by omega
              obtain ⟨g, rfl, hg0, hgz, hun, hcs⟩ := hw2 (by omega)
              obtain ⟨v0, y0⟩ := hcs i (by omega)
              have f0 := hun.1 i
              have HN := Lib.hid (HIP.out _ g i (.int .i64 (-1)) hI.out hg0 hgz)
              clear hz hw2 hcs hun hI
              go_wp2_with fail
              go_roundw
              case rel => exact ⟨i + 1, by omega, by go_num, HN⟩
              case measure => simp [intOf]; omega
            · obtain rfl : m1 = i := by omega
              have HZ5 := Lib.hid hz
              have HT5 := Lib.hid (HT2.out.keep hgw)
              have HC5 := Lib.hid (HC2.out.keep hgw)
              have hgr5 := hgr2.trans hgw
              have HP5 := Lib.hid (HPL.out A' c' wr HT5.out)
              clear hlt hw2 hz hI hgw hgr2 HT2 HC2 HPL HIE HIP
              rename World => w5
              go_wp2_with fail
              refine HP5.out.mono ?_
              rintro e w6 ⟨p', C', m', cc', s', JA', m1', c1', J', SA', m2', c2q, S', rfl, hR', hRT', -, hg6⟩
              have hpp : p = p' := by
                have h1 := HPP.out
                have h2 := HPO.out p' s' J' S' hRT'
                rw [Bool.eq_iff_iff]
                exact h1.trans h2.symm
              subst hpp
              have HR6 := Lib.hid hR'
              have HRT6 := Lib.hid hRT'
              clear hR' hRT' HP5 HPO z2
              go_upto_region 17 with fail
              generalize hW7 : World.alloc w6 _ = w7
              have hg67 : Gr w6 w7 := by rw [← hW7]; exact (Gr.refl w6).alloc _
              have hY : Blk w7 w6.heap.size 28 #[.bool p, .slice C' m' cc', .slice JA' m1' c1', .slice SA' m2' c2q] := by rw [← hW7]; exact heap_alloc_new w6 _
              generalize w6.heap.size = Y at hY ⊢
              have hg57 := hg6.trans hg67
              have HY7 := Lib.hid hY
              have HZ7 := Lib.hid (HZ5.out.keep hg57)
              have HT7 := Lib.hid (HT5.out.keep hg57)
              have HC7 := Lib.hid (HC5.out.keep hg57)
              have HR7 := Lib.hid (HR6.out.keep hg67)
              have hgr7 := hgr5.trans hg57
              clear hW7 hY hg6 hg67 hg57 HZ5 HT5 HC5 HR6 hgr5
              go_wp2_with fail
              go_loopw [15] (fun z wr => ∃ i : Nat, i ≤ k ∧ z = .int .i64 (i : Int) ∧ Gr w7 wr) (fun z _ => k - (intOf z).toNat)
              case atStart => exact ⟨0, Nat.zero_le _, rfl, Gr.refl _⟩
              case round =>
                obtain ⟨i, hik, rfl, hgq⟩ := hrel
                by_cases hlt : i < k
                · have hii : (i : Int) < (k : Int) := by omega
                  have hi0 : (0 : Int) ≤ (i : Int) := by omega
                  have hil : i < L.length := by rw [HK.out]; exact hlt
                  obtain ⟨b, off, rfl, x0, x1, x2⟩ := Tris_at (HT7.out.keep hgq) (i := i) hil
                  obtain ⟨b', off', rfl, y0, y1, y2⟩ := Tris_at (HC7.out.keep hgq) (i := i) hil
                  generalize L.getD i (0, 0, 0) = jb at x0 x1 x2 y0 y1 y2
                  obtain ⟨ja, jd, jw⟩ := jb
                  dsimp only at x0 x1 x2 y0 y1 y2
                  clear hil
                  go_upto_region 20 with fail
                  go_quiet (fail)
                  go_wp2_with fail
                  go_roundw
                  case rel => exact ⟨i + 1, by omega, by go_num, hgq.drewN _⟩
                  case measure => simp [intOf]; omega
                · obtain rfl : k = i := by omega
                  have hY := HY7.out.keep hgq
                  have hZ := HZ7.out.keep hgq
                  have z0 := hZ.cell 0
                  have y0 := hY.cell 0
                  have y1 := hY.cell 1
                  have y2 := hY.cell 2
                  have y3 := hY.cell 3
                  have HRG8 := Lib.hid (HRG.out A2 c2' p C' m' cc' s' JA' m1' c1' J' SA' m2' c2q S' wr (HC7.out.keep hgq) (HR7.out.keep hgq))
                  have hgr8 := hgr7.trans hgq
                  clear hY hZ hgq hlt HRG HPP
                  cases p
                  all_goals
                    go_wp2_with fail
                    refine HRG8.out.mono ?_
                    rintro e w8 ⟨r, rfl, hr, hg8⟩
                    obtain rfl : r = true := hr.2 HRT6.out
                    clear hr HRG8 z0 y0 y1 y2 y3
                    go_wp2_with fail
                    refine (bawake_any _).mono ?_
                    rintro e w9 ⟨rfl, hg9⟩
                    go_wp2_with fail
                    go_ret
                    exact ⟨rfl, (hgr8.trans hg8).trans hg9⟩

end Go.Proofs.Ytngcgienhdifaaa
