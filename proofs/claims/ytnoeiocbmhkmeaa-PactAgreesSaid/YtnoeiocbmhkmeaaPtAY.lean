/- Layer 5: the law Agrees. -/
import Derived.Test.YtnoeiocbmhkmeaaPvM
import Derived.Test.YtnoeiocbmhkmeaaPtAX
import Derived.Test.YtnoeiocbmhkmeaaPtOp
import Derived.Deep.CutRange
namespace Go.Proofs.Ytnoeiocbmhkmeaa
open Go.RowKit
set_option linter.unusedSimpArgs false

theorem AcOk.keep {w w' : World} {a : Ac} (h : AcOk w a) (hg : Gr w w') : AcOk w' a := ⟨h.ik, h.is, h.ino, ⟨h.parts.le, h.parts.max, h.parts.nil, h.parts.len, h.parts.rd.keep hg, h.parts.small⟩⟩
def oN (N : Nx) (t r : Int) : Int := outA (atN (nzN N) t r)
theorem outA_two {a : At} (h : outA a = 2) : a.kp = true := by
  unfold outA at h
  repeat' split at h
  all_goals first
    | assumption
    | cases h
theorem outA_three {a : At} (h : outA a = 3) : a.dr = true := by
  unfold outA at h
  repeat' split at h
  all_goals first
    | assumption
    | cases h
theorem WasSt.at {w0 W : World} {B Y p : Nat} {vs : List Value} {ls : List (List Int)} {N : Nx} (h : WasSt w0 B Y p vs ls N W) {s g n c : Nat} {l : List Int} (hv : vs[s]? = some (.slice (some ⟨g, 0, none⟩) n c)) (hl : ls[s]? = some l) {j : Nat} {x : Int} (hj : l[j]? = some x) :
    W.cell? ⟨g, j, none⟩ = some (.int .i64 x) ∧ W.frozen? ⟨g, j, none⟩ = false := by
  have hrow := h.row s _ l hv hl
  have hln : n = l.length := by
    rcases hrow.2 with ⟨h2, -⟩ | ⟨g', cap', cur, h2, -⟩
    · cases h2
    · injection h2
  subst hln
  have h1 : Rd 1 enc1 W (some ⟨g, 0, none⟩) l := Rd_of_owns enc1p_len rfl hrow
  obtain ⟨b, off, e, hc⟩ := h1 j x hj
  injection e with e
  injection e with e1 e2
  subst e1 e2
  refine ⟨by simpa using hc 0 _ rfl, ?_⟩
  rcases hrow.2 with ⟨h2, -⟩ | ⟨g', cap', cur, h2, -, h4, -⟩
  · cases h2
  · injection h2 with h2
    injection h2 with h2
    injection h2 with h2
    subst h2
    have hb : Blk W g 3 cur := h4
    exact hb.free j
theorem WasSt.cellY {w0 W : World} {B Y p : Nat} {vs : List Value} {ls : List (List Int)} {N : Nx} (h : WasSt w0 B Y p vs ls N W) {s : Nat} {v : Value} (hv : vs[s]? = some v) : W.cell? ⟨Y, s, none⟩ = some v ∧ W.frozen? ⟨Y, s, none⟩ = false := by
  refine ⟨?_, h.blk.free s⟩
  rw [h.blk.cell s]
  simpa using hv
/-- The slice of a list. -/
theorem WasSt.shape {w0 W : World} {B Y p : Nat} {vs : List Value} {ls : List (List Int)} {N : Nx} (h : WasSt w0 B Y p vs ls N W) {s : Nat} {l : List Int} (hs : s < 5) (hl : ls[s]? = some l) : ∃ v A c, vs[s]? = some v ∧ v = .slice A l.length c ∧ l.length ≤ c ∧ (0 < l.length → ∃ g, A = some ⟨g, 0, none⟩) := by
  obtain ⟨v, l', hv, hl'⟩ := h.two hs
  rw [hl] at hl'
  injection hl' with hl'
  subst hl'
  have hrow := h.row s v l hv hl
  obtain ⟨A, c, rfl, hc, -, -⟩ := own_row enc1p_len rfl hrow
  refine ⟨_, A, c, hv, rfl, hc, fun h0 => ?_⟩
  obtain ⟨g, c', e, -⟩ := owns_shape hrow h0
  injection e with e
  exact ⟨g, e⟩
theorem getElem?_set_same {l : List Value} {s : Nat} {v u : Value} (h : l[s]? = some u) : (l.set s v)[s]? = some v := by
  rw [List.getElem?_set, if_pos rfl, if_pos (List.getElem?_eq_some_iff.1 h).1]

set_option maxRecDepth 100000 in
set_option maxHeartbeats 80000000 in
theorem lawAgrees_any (A : Option Addr) (n c : Nat) (l : List Int) (AA : Option Addr) (an ac : Nat) (acts : List Ac) (w : World) (hn : l.length = n) (hl : n ≤ 9223372036854775807) (hp : Ints w A l) (han : acts.length = an) (_hac : an ≤ ac) (_ham : ac ≤ 9223372036854775807) (har : Rd 4 encA w AA acts) (hok : ∀ a ∈ acts, AcOk w a) :
    Calls Try.prog 5 #[.slice A n c, .slice AA an ac] w fun e w' => e = .returned (.bool true) ∧ Gr w w' := by
  have HTA := Lib.hid (tame5_any A n c l w hn hl hp)
  have HAW := Lib.hid (fun W => awake5_any W)
  have HAN := Lib.hid han
  have HAR := Lib.hid har
  have HOK := Lib.hid hok
  obtain ⟨i0, hi, hz0, hz1, hz2⟩ := info_parts Try.infoPtI
  have HI := Lib.hid (And.intro hi (And.intro hz0 (And.intro hz1 hz2)))
  clear hn hl hp han har hok hi hz0 hz1 hz2
  go_enter Try.func5, Try.ntmps5
  go_wp2_with fail
  refine HTA.out.mono ?_
  rintro e w1 ⟨tl, k, A1, c1, rfl, hlen, hk1, hk5, hval, hrow, hg1⟩
  have hst : okStocks tl = true := (okStocks_iff tl).2 ⟨by omega, by omega, hval⟩
  have HLT := Lib.hid hlen
  have hrd : Ints w1 A1 tl := Rd_of_rows enc1p_len hlen hrow
  have HST := Lib.hid hst
  have HRD := Lib.hid hrd
  clear hlen hval hrow hst hrd
  go_wp2_with fail
  refine (New_any A1 k c1 tl w1 HLT.out (by omega) HRD.out).mono ?_
  rintro e w2 (⟨hno, -⟩ | ⟨-, N, rfl, hnet, hnl, hml, hbg, hg2⟩)
  · rw [HST.out] at hno; cases hno
  have hnz := newN_of hnl hml hbg
  obtain ⟨B, hB⟩ : ∃ B, w1.heap.size = B := ⟨_, rfl⟩
  rw [hB] at hnet
  obtain ⟨p, hpp⟩ : ∃ p, N.p = p := ⟨_, rfl⟩
  have HBW : Hid (w.heap.size ≤ B) := Lib.hid (by rw [← hB]; exact hg1.size)
  have HG0 : Hid (Good (nzN N)) := Lib.hid (by rw [hnz]; exact newN_good HST.out)
  have hlen2 : N.sites.length = k := by rw [← nz_len, hnz, newN_len, HLT.out]
  have HSI := Lib.hid (Sites_any hnet)
  rw [hlen2] at HSI
  rw [hpp] at HSI ⊢
  have HN2 := Lib.hid hnet
  have HPP := Lib.hid hpp
  have HBG := Lib.hid hbg
  have HLN := Lib.hid hlen2
  have HG2 := Lib.hid (hg1.trans hg2)
  have hkk : ((k : Int) != (k : Int)) = false := by simp
  clear hnet hnl hml hbg hg2 hnz hg1 hlen2 HRD hB hpp
  go_wp2_with fail
  refine HSI.out.mono ?_
  rintro e w3 ⟨rfl, rfl⟩
  go_upto_region 7 with fail
  generalize hW : World.alloc w3 _ = w4
  obtain ⟨Y, hY⟩ : ∃ Y, w3.heap.size = Y := ⟨_, rfl⟩
  rw [hY]
  have HS0 : Hid (WasSt w B Y p [.slice none 0 0, .slice none 0 0, .slice none 0 0, .slice none 0 0, .slice none 0 0] (lsE (oN N) k 0) N w4) := Lib.hid (by
    have hgA : Gr w3 w4 := by rw [← hW]; exact (Gr.refl _).alloc _
    have hb : Blk w4 Y 57 #[.slice none 0 0, .slice none 0 0, .slice none 0 0, .slice none 0 0, .slice none 0 0] := by rw [← hW]; exact Blk.new w3 _ _ hY
    rw [lsE_zero]
    have hz : ∀ {s : Nat} {v : Value}, [Value.slice none 0 0, .slice none 0 0, .slice none 0 0, .slice none 0 0, .slice none 0 0][s]? = some v → v = .slice none 0 0 := fun {s v} h => by
      have := List.mem_of_getElem? h
      simpa using this
    refine ⟨HN2.out.keep hgA, HPP.out, hb, ⟨rfl, rfl⟩, fun s v l h1 h2 => ?_, fun s r v u _ h1 _ => Or.inl (by rw [hz h1]; rfl), fun g hg => ⟨fun e => ?_, fun v hv e => ?_⟩, HG2.out.trans hgA, by rw [← hY]; exact HG2.out.size⟩
    · obtain rfl := hz h1
      have h3 : l = [] := by
        have := List.mem_of_getElem? h2
        simpa using this
      subst h3
      exact World.ownsRow_nil _ _ _ _
    · have := (HN2.out.own g hg).2
      omega
    · have h3 : v = .slice none 0 0 := by simpa using hv
      subst h3
      cases e)
  clear hW hY HN2
  go_wp2_with fail
  go_loopw [8, 10] (fun y z wr => ∃ (i T : Nat) (N : Nx) (vs : List Value), i ≤ an ∧ z = .int .i64 (i : Int) ∧ y = .int .i64 (T : Int) ∧ Hid (N.begun = (T : Int) ∧ N.sites.length = k) ∧ Hid (WasSt w B Y p vs (lsE (oN N) k T) N wr) ∧ Hid (Good (nzN N))) (fun _ z _ => an - (intOf z).toNat)
  case atStart => exact ⟨0, 0, N, _, Nat.zero_le _, rfl, rfl, Lib.hid ⟨HBG.out, HLN.out⟩, HS0, HG0⟩
  case round =>
    obtain ⟨i, T, M, vs, hi, rfl, rfl, hT, hS, hG⟩ := hrel
    clear HS0 HG0 HSI hkk HBG HLN HPP HG2
    by_cases hlt : i < an ∧ i < 100
    · have hlt1 := hlt.1
      have hlt2 := hlt.2
      have hii : (i : Int) < (an : Int) := by omega
      have hi12 : (i : Int) < 100 := by omega
      have hi00 : (0 : Int) ≤ (i : Int) := by omega
      have hxi : acts[i]? = some (acts[i]'(by rw [HAN.out]; exact hlt1)) := List.getElem?_eq_getElem _
      generalize acts[i]'_ = a at hxi
      have hao := HOK.out a (List.mem_of_getElem? hxi)
      obtain ⟨b, off, rfl, hcell⟩ := (HAR.out.keep hS.out.gr) i a hxi
      have x0 : wr.cell? ⟨b, off + i * 4, none⟩ = some (.int .i64 a.kd) := hcell 0 _ rfl
      have x1 : wr.cell? ⟨b, off + i * 4 + 1, none⟩ = some (.int .i64 a.st) := hcell 1 _ rfl
      have x2 : wr.cell? ⟨b, off + i * 4 + 2, none⟩ = some (.int .i64 a.nn) := hcell 2 _ rfl
      have x3 : wr.cell? ⟨b, off + i * 4 + 3, none⟩ = some (.slice a.A a.n a.c) := hcell 3 _ rfl
      have HAC := Lib.hid (act_any a wr hS.out.net hG.out (hao.keep hS.out.gr))
      rw [hS.out.p5, hT.out.1] at HAC
      generalize a.bs.take 9 = ps at HAC
      clear hxi hcell hao hlt
      go_wp2_with fail
      refine HAC.out.mono ?_
      rintro e w5 ⟨N', rfl, hact, hto⟩
      have HS5 := Lib.hid (hS.out.to HBW.out hto)
      have HG5 := Lib.hid (hact.good hG.out)
      have hlen := hact.len
      rw [nz_len, nz_len] at hlen
      have hbb : N'.begun = ((nzN N').begun) := rfl
      have hbb2 : (nzN M).begun = (T : Int) := hT.out.1
      have hb8 := HG5.out.1.beg
      obtain ⟨T', hT'⟩ : ∃ T' : Nat, N'.begun = (T' : Int) := ⟨N'.begun.toNat, by omega⟩
      have HTT : Hid (T ≤ T' ∧ T' ≤ T + 1) := Lib.hid (by omega)
      have HKN : Hid (N'.begun = (T' : Int) ∧ N'.sites.length = k) := Lib.hid ⟨hT', by rw [hlen.1]; exact hT.out.2⟩
      have HOM : Hid (∀ t r, outM (oN M t r) (oN N' t r)) := Lib.hid (fun t r => hact.out hG.out t r)
      have HSU := Lib.hid (sum_any w5 HS5.out.net HG5.out.1)
      rw [HS5.out.p5] at HSU
      have hsr := (sumS_rng HG5.out.1 N'.sites.length (Nat.le_refl _)).1
      generalize sumS N' N'.sites.length = sm at HSU hsr
      have hs0 : ¬ (sm < 0) := by omega
      have hT256 : (T' : Int) ≤ 256 := by omega
      rw [hT']
      clear hact hto hlen hbb hbb2 hb8 hT' hS hG x0 x1 x2 x3 HAC hT hii hi12 hi00
      go_wp2_with fail
      refine HSU.out.mono ?_
      rintro e w6 ⟨rfl, rfl⟩
      have HSF : Hid (WasSt w B Y p vs (lsF (oN M) (oN N') k T T' 1 0) N' w6) := Lib.hid (by rw [lsF_start HTT.out.1]; exact HS5.out)
      generalize oN M = oM at HSF HOM
      clear HS5 HSU
      go_wp2_with fail
      go_loopw [11] (fun z wr => ∃ (t : Nat) (vs : List Value), t ≤ T' ∧ z = .int .i64 ((t + 1 : Nat) : Int) ∧ Hid (WasSt w B Y p vs (lsF oM (oN N') k T T' (t + 1) 0) N' wr)) (fun z _ => T' + 1 - (intOf z).toNat)
      case atStart => exact ⟨0, vs, Nat.zero_le _, rfl, HSF⟩
      case round =>
        obtain ⟨t, vs, htT, rfl, hS⟩ := hrel
        clear HSF
        by_cases htl : t < T'
        · obtain ⟨X, hX⟩ : ∃ X : Int, ((t + 1 : Nat) : Int) = X := ⟨_, rfl⟩
          rw [hX]
          have hX1 : X ≤ (T' : Int) := by omega
          have HX := Lib.hid hX
          go_wp2_with fail
          go_loopw [12, 13, 14] (fun y1 y2 z wr => ∃ (s : Nat) (b1 b2 : Bool) (vs : List Value), s ≤ k ∧ y1 = .bool b1 ∧ y2 = .bool b2 ∧ z = .int .i64 (s : Int) ∧ Hid (WasSt w B Y p vs (lsF oM (oN N') k T T' (t + 1) s) N' wr) ∧ Hid ((b1 = true → ∃ r, (atN (nzN N') X r).kp = true) ∧ (b2 = true → ∃ r, (atN (nzN N') X r).dr = true))) (fun _ _ z _ => k - (intOf z).toNat)
          case atStart => exact ⟨0, false, false, vs, Nat.zero_le _, rfl, rfl, rfl, hS, Lib.hid ⟨fun h => (by cases h), fun h => (by cases h)⟩⟩
          case round =>
            obtain ⟨s, b1, b2, vs, hsk, rfl, rfl, rfl, hS, hF⟩ := hrel
            by_cases hs : s < k
            · have hsi : (s : Int) < (k : Int) := by omega
              have hs5 : (s : Int) < 5 := by omega
              have hs00 : (0 : Int) ≤ (s : Int) := by omega
              have hX64 : I64 X := by unfold I64; omega
              have HOU := Lib.hid (Outcome_any hS.out.net (s : Int) X hX64)
              have hoe : outN N' (s : Int) X = oN N' X s := out_at ⟨by omega, by rw [HKN.out.2]; exact hsi⟩ X
              rw [hS.out.p5, hoe] at HOU
              have hom := HOM.out X s
              have hyr := outA_rng (atN (nzN N') X s)
              have HK2 : Hid (oN N' X s = 2 → ∃ r, (atN (nzN N') X r).kp = true) := Lib.hid (fun h => ⟨_, outA_two h⟩)
              have HK3 : Hid (oN N' X s = 3 → ∃ r, (atN (nzN N') X r).dr = true) := Lib.hid (fun h => ⟨_, outA_three h⟩)
              have HLO : Hid (t + 1 ≤ T → lsF oM (oN N') k T T' (t + 1) (s + 1) = (lsF oM (oN N') k T T' (t + 1) s).set s ((wasF oM (oN N') T T' (t + 1) s s).set t (oN N' X s))) := Lib.hid (fun h => by
                have := lsF_old (o := oM) (o' := oN N') (s := s) (tx := t + 1) hs hk5 HTT.out.1 HTT.out.2 (by omega) h
                rw [HX.out] at this
                exact this)
              have HLW : Hid (T < t + 1 → lsF oM (oN N') k T T' (t + 1) (s + 1) = (lsF oM (oN N') k T T' (t + 1) s).set s ((wasF oM (oN N') T T' (t + 1) s s ++ [0]).set t (oN N' X s))) := Lib.hid (fun h => by
                have h1 := HTT.out
                have := lsF_new (o := oM) (o' := oN N') (s := s) (T := T) (T' := T') (tx := t + 1) hs hk5 (by omega) (by omega)
                rw [HX.out] at this
                exact this)
              have HGT : Hid (t + 1 ≤ T → (wasF oM (oN N') T T' (t + 1) s s)[t]? = some (oM X s)) := Lib.hid (fun h => by
                have := wasF_get (o := oM) (o' := oN N') (T := T) (T' := T') (tx := t + 1) (s := s) (by omega) (by omega) h
                rw [HX.out] at this
                exact this)
              have hle := wasF_len (o := oM) (o' := oN N') (T := T) (T' := T') (tx := t + 1) (s := s) (by omega)
              have hla := lsF_at (o := oM) (o' := oN N') (T := T) (T' := T') (tx := t + 1) hs hk5
              obtain ⟨lsN, hlsN⟩ : ∃ q, lsF oM (oN N') k T T' (t + 1) (s + 1) = q := ⟨_, rfl⟩
              rw [hlsN] at HLO HLW
              have HLN := Lib.hid hlsN
              clear hlsN
              generalize lsF oM (oN N') k T T' (t + 1) s = ls at *
              generalize wasF oM (oN N') T T' (t + 1) s s = lw at *
              have hyr : 0 ≤ oN N' X s ∧ oN N' X s ≤ 3 := hyr
              generalize oN N' X s = y at *
              generalize oM X s = x0 at *
              have HLE := Lib.hid hle
              have HLA := Lib.hid hla
              have HXX : Hid (X = (t : Int) + 1) := Lib.hid (by have := HX.out; omega)
              have hXw : IntKind.i64.wrap (X - 1) = (t : Int) := by rw [HXX.out, show (t : Int) + 1 - 1 = (t : Int) by omega]; exact IntWalk.i64_in _ (by omega)
              have hXs : X - 1 = (t : Int) := by have := HXX.out; omega
              have ht0 : (0 : Int) ≤ (t : Int) := by omega
              clear hle hla hoe
              go_wp2_with fail
              refine HOU.out.mono ?_
              rintro e w7 ⟨rfl, hg7⟩
              have HS7 := Lib.hid (hS.out.keep hg7)
              clear hg7 hS HOU
              obtain ⟨v, Av, cv, hv, hve, hvc, hvA⟩ := HS7.out.shape (by omega) HLA.out
              rw [HLE.out] at hve hvc hvA
              obtain ⟨hcY, hfY⟩ := HS7.out.cellY hv
              subst hve
              have HV := Lib.hid hv
              have HB1 : Hid (b1 = true ∨ (b1 = false ∧ y = 2 ∧ (y == 2) = true) ∨ (b1 = false ∧ y ≠ 2 ∧ (y == 2) = false)) := Lib.hid (by
                cases b1
                · by_cases h2 : y = 2
                  · exact Or.inr (Or.inl ⟨rfl, h2, by simp [h2]⟩)
                  · exact Or.inr (Or.inr ⟨rfl, h2, by simp [h2]⟩)
                · exact Or.inl rfl)
              have HB2 : Hid (b2 = true ∨ (b2 = false ∧ y = 3 ∧ (y == 3) = true) ∨ (b2 = false ∧ y ≠ 3 ∧ (y == 3) = false)) := Lib.hid (by
                cases b2
                · by_cases h2 : y = 3
                  · exact Or.inr (Or.inl ⟨rfl, h2, by simp [h2]⟩)
                  · exact Or.inr (Or.inr ⟨rfl, h2, by simp [h2]⟩)
                · exact Or.inl rfl)
              have hy0 : ¬ (y < 0) := by omega
              have hy3 : ¬ (3 < y) := by omega
              clear hv
              go_upto_region 21 with fail
              go_cut [12] from 61 to 141 (fun v1 wx => ∃ b, v1 = .bool b ∧ Hid (b = true → ∃ r, (atN (nzN N') X r).kp = true) ∧ wx = w7)
              case first =>
                rcases HB1.out with rfl | ⟨rfl, hb1, e2⟩ | ⟨rfl, hb1, e2⟩
                · go_wp2_with fail
                  go_meet
                  exact ⟨true, rfl, Lib.hid (fun _ => by first | exact hF.out.1 trivial | exact hF.out.1 rfl), rfl⟩
                · have HKK := Lib.hid (HK2.out hb1)
                  clear hb1
                  go_wp2_with fail
                  go_meet
                  exact ⟨true, by first | rfl | simp, Lib.hid (fun _ => HKK.out), rfl⟩
                · clear hb1
                  go_wp2_with fail
                  go_meet
                  exact ⟨false, by first | rfl | simp, Lib.hid (fun h => (by cases h)), rfl⟩
              case rest =>
                obtain ⟨b1', rfl, HF1, rfl⟩ := hcut
                rename World => w7
                clear HB1
                go_upto_region 22 with fail
                go_cut [13] from 61 to 141 (fun v1 wx => ∃ b, v1 = .bool b ∧ Hid (b = true → ∃ r, (atN (nzN N') X r).dr = true) ∧ wx = w7)
                case first =>
                  rcases HB2.out with rfl | ⟨rfl, hb1, e2⟩ | ⟨rfl, hb1, e2⟩
                  · go_wp2_with fail
                    go_meet
                    exact ⟨true, rfl, Lib.hid (fun _ => by first | exact hF.out.2 trivial | exact hF.out.2 rfl), rfl⟩
                  · have HKK := Lib.hid (HK3.out hb1)
                    clear hb1
                    go_wp2_with fail
                    go_meet
                    exact ⟨true, by first | rfl | simp, Lib.hid (fun _ => HKK.out), rfl⟩
                  · clear hb1
                    go_wp2_with fail
                    go_meet
                    exact ⟨false, by first | rfl | simp, Lib.hid (fun h => (by cases h)), rfl⟩
                case rest =>
                  obtain ⟨b2', rfl, HF2, rfl⟩ := hcut
                  rename World => w7
                  clear HB2
                  by_cases hold : t + 1 ≤ T
                  · have hXT : ¬ ((T : Int) < X) := by have := HXX.out; omega
                    obtain ⟨g, rfl⟩ := hvA (by omega)
                    obtain ⟨hcg, hfg⟩ := HS7.out.at HV.out HLA.out (HGT.out hold)
                    have HSP : Hid (WasSt w B Y p vs lsN N' (w7.setCell ⟨g, t, none⟩ (.int .i64 y))) := Lib.hid (by
                      rw [HLO.out hold]
                      exact HS7.out.put HV.out HLA.out t y)
                    have htT2 : (t : Int) < (T : Int) := by omega
                    generalize hgx : x0 = x at hcg hom
                    clear hold hvA hgx
                    by_cases hx1 : 1 < x
                    · have hyx := hom.1 hx1
                      subst hyx
                      have e4 : (y != y) = false := by simp
                      have e5 : (y == 1) = false := by first | (simp; done) | (simp; omega)
                      go_wp2_with fail
                      go_roundw
                      case rel => exact ⟨s + 1, _, _, _, by omega, rfl, rfl, by go_num, Lib.hid (by rw [HLN.out]; exact HSP.out), Lib.hid ⟨HF1.out, HF2.out⟩⟩
                      case measure => simp [intOf]; omega
                    · by_cases hx2 : x = 1
                      · have hy9 := hom.2 hx2
                        have e4 : (y == 0) = false := by simpa using hy9
                        subst hx2
                        go_wp2_with fail
                        go_roundw
                        case rel => exact ⟨s + 1, _, _, _, by omega, rfl, rfl, by go_num, Lib.hid (by rw [HLN.out]; exact HSP.out), Lib.hid ⟨HF1.out, HF2.out⟩⟩
                        case measure => simp [intOf]; omega
                      · have e5 : (x == 1) = false := by simpa using hx2
                        go_wp2_with fail
                        go_roundw
                        case rel => exact ⟨s + 1, _, _, _, by omega, rfl, rfl, by go_num, Lib.hid (by rw [HLN.out]; exact HSP.out), Lib.hid ⟨HF1.out, HF2.out⟩⟩
                        case measure => simp [intOf]; omega
                  · have hXT : (T : Int) < X := by have := HXX.out; omega
                    have htT0 : t = T := by have := HTT.out; omega
                    subst htT0
                    obtain ⟨hi, hz0, hz1, hz2⟩ := HI.out
                    have HRW := Lib.hid (HS7.out.row s _ _ HV.out HLA.out)
                    rw [HLE.out] at HRW
                    have HBS : Hid (w.heap.size ≤ w7.heap.size) := Lib.hid HS7.out.gr.size
                    go_upto_region 24 with fail
                    go_wp2_with (at_builtin; refine wpList_append_own_at _ rfl _ _ 22 rfl w.heap.size 3 i0 _ 1 8 Try.underlying22 hi hz0 hz1 hz2 rfl (by decide) _ _ _ rfl (HRW.out.alloc _) ⟨w7.heap.size, 0, none⟩ 1 1 (enc1 0) rfl rfl ?q1 ?q2 ?q3 ?q4 ?q5 ?_)
                    case q1 => intro j u hu; rw [Addr.add_lit]; exact alloc_new rfl (by rw [Nat.zero_add]; simpa [enc1] using hu)
                    case q2 => exact fun u hu => enc1p_one _ u hu
                    case q3 => unfold maxLen; omega
                    case q4 => omega
                    case q5 => have := HBS.out; simp; omega
                    intro v' w10 hown' hgrow hnv hfr
                    have HS8 := Lib.hid (HS7.out.keep ((Gr.refl w7).alloc (.cells #[.int .i64 0] 3)))
                    have hrow' : w10.ownsRow w.heap.size 3 1 v' (lw ++ [0]).length (flatE enc1 (lw ++ [0])) := by
                      rw [List.length_append, HLE.out, flatE_app]
                      simpa [flatE] using hown'
                    have HS9 := Lib.hid (HS8.out.grow HV.out HLA.out hrow' hgrow (hfr.imp id (fun h => ⟨w7.heap.size + 1, by simp, h⟩)))
                    obtain ⟨g, cg, rfl, -⟩ := owns_shape hown' (by omega)
                    have hYb := HS8.out.blk.grown hgrow (HS8.out.blk.apart (HS8.out.row s _ _ HV.out HLA.out) (by decide))
                    have hYc : w10.cell? ⟨Y, s, none⟩ = vs[s]? := by rw [hYb.cell s]; simp
                    have hYf : w10.frozen? ⟨Y, s, none⟩ = false := hYb.free s
                    rw [HV.out] at hYc
                    clear hown' hgrow hnv hfr hrow' hcY hfY hi hz0 hz1 hz2 hvA hYb
                    go_upto_region 25 with fail
                    generalize World.setCell _ _ _ = w11 at HS9 ⊢
                    clear hYc hYf
                    have HV9 : Hid ((vs.set s (.slice (some ⟨g, 0, none⟩) (t + 1) cg))[s]? = some (.slice (some ⟨g, 0, none⟩) (t + 1) cg)) := Lib.hid (getElem?_set_same HV.out)
                    have HLA9 : Hid ((ls.set s (lw ++ [0]))[s]? = some (lw ++ [0])) := Lib.hid (by
                      rw [List.getElem?_set, if_pos rfl, if_pos (List.getElem?_eq_some_iff.1 HLA.out).1])
                    have hlw : (lw ++ [0])[t]? = some (0 : Int) := by
                      rw [List.getElem?_append_right (by rw [HLE.out]; exact Nat.le_refl _), HLE.out, Nat.sub_self]; rfl
                    obtain ⟨hcg, hfg⟩ := HS9.out.at HV9.out HLA9.out hlw
                    obtain ⟨hcY, hfY⟩ := HS9.out.cellY HV9.out
                    have HSP : Hid (WasSt w B Y p (vs.set s (.slice (some ⟨g, 0, none⟩) (t + 1) cg)) lsN N' (w11.setCell ⟨g, t, none⟩ (.int .i64 y))) := Lib.hid (by
                      rw [HLW.out (by omega)]
                      have := HS9.out.put HV9.out HLA9.out t y
                      rw [List.set_set] at this
                      exact this)
                    have htT2 : (t : Int) < ((t + 1 : Nat) : Int) := by omega
                    have htT3 : (t : Int) < (t : Int) + 1 := by omega
                    clear hlw hom
                    go_wp2_with fail
                    go_roundw
                    case rel => exact ⟨s + 1, _, _, _, by omega, rfl, rfl, by go_num, Lib.hid (by rw [HLN.out]; exact HSP.out), Lib.hid ⟨HF1.out, HF2.out⟩⟩
                    case measure => simp [intOf]; omega
            · obtain rfl : s = k := by omega
              have HSN : Hid (∀ vs W, WasSt w B Y p vs (lsF oM (oN N') s T T' (t + 1) s) N' W → WasSt w B Y p vs (lsF oM (oN N') s T T' (t + 1 + 1) 0) N' W) := Lib.hid (fun vs W h => by rw [← lsF_next]; exact h)
              have HSQ := Lib.hid (HSN.out _ _ hS.out)
              have HSAFE : Hid (b1 = true → b2 = true → False) := Lib.hid (fun h1 h2 => by
                obtain ⟨r, hr⟩ := hF.out.1 h1
                obtain ⟨q, hq⟩ := hF.out.2 h2
                have h3 := HX.out
                have h4 : (nzN N').begun = (T' : Int) := HKN.out.1
                exact HG5.out.safe (t := X) (by omega) (by omega) hr hq)
              have HXP : Hid (X + 1 = ((t + 1 + 1 : Nat) : Int)) := Lib.hid (by have := HX.out; omega)
              have HXQ : Hid (IntKind.i64.wrap (X + 1) = ((t + 1 + 1 : Nat) : Int)) := Lib.hid (by rw [HXP.out]; exact IntWalk.i64_in _ (by omega))
              clear hS HSN
              cases b1 with
              | false =>
                go_wp2_with fail
                go_roundw
                case rel => exact ⟨t + 1, vs, by omega, by first | rfl | (rw [HXQ.out]) | (rw [HXP.out]) | go_num, HSQ⟩
                case measure => have := HX.out; simp [intOf]; omega
              | true =>
                cases b2 with
                | true => exact (HSAFE.out rfl rfl).elim
                | false =>
                  go_wp2_with fail
                  go_roundw
                  case rel => exact ⟨t + 1, vs, by omega, by first | rfl | (rw [HXQ.out]) | (rw [HXP.out]) | go_num, HSQ⟩
                  case measure => have := HX.out; simp [intOf]; omega
        · obtain rfl : t = T' := by omega
          have HSE : Hid (WasSt w B Y p vs (lsE (oN N') k t) N' wr) := Lib.hid (by have h := hS.out; rw [lsF_end] at h; exact h)
          have hX1 : ¬ (((t + 1 : Nat) : Int) ≤ (t : Int)) := by omega
          clear hS
          go_wp2_with fail
          go_roundw
          case rel => exact ⟨i + 1, t, N', vs, by omega, by go_num, rfl, HKN, HSE, HG5⟩
          case measure => simp [intOf]; omega
    · have hex : (i < an ∧ ¬ i < 100) ∨ i = an := by omega
      have HGR := Lib.hid hS.out.gr
      rcases hex with ⟨hi1, hi2⟩ | hi1
      all_goals
        first
        | (have hii : (i : Int) < (an : Int) := by omega
           have hi12 : ¬ (i : Int) < 100 := by omega)
        | (have hii : ¬ (i : Int) < (an : Int) := by omega)
        clear hlt hi1
        go_wp2_with fail
        refine (HAW.out _).mono ?_
        rintro e w9 ⟨rfl, hg9⟩
        have HF := Lib.hid (HGR.out.trans hg9)
        clear hg9
        go_wp2_with fail
        go_ret
        exact ⟨rfl, HF.out⟩

end Go.Proofs.Ytnoeiocbmhkmeaa
