/- Layer 3: the reference's solve. -/
import Derived.Test.YtbkbgcapkhelhaaLGauss
import Derived.Test.YtbkbgcapkhelhaaLRefD
import Derived.Test.YtbkbgcapkhelhaaLMend
import Derived.Deep.CutBlock
import Derived.Deep.CutRange
import Derived.Deep.RegionLaw
import Derived.Deep.AppendLies
namespace Go.Proofs.Ytbkbgcapkhelhaa
open Go.RowKit
set_option linter.unusedSimpArgs false

/-- A table of rows: block g holds the rows' slices. -/
structure Tb (w : World) (g : Nat) (A : Option Addr) (R : List (List G)) (n1 : Nat) : Prop where
  adr : 0 < R.length → A = some ⟨g, 0, none⟩
  row : ∀ i, i < R.length → ∃ B c, w.cell? ⟨g, i, none⟩ = some (.slice B n1 c) ∧ w.frozen? ⟨g, i, none⟩ = false ∧ Ints w B (gints (R.getD i [])) ∧ (R.getD i []).length = n1 ∧ ∀ b o, B = some ⟨b, o, none⟩ → b ≠ g
theorem Tb.keep {w w' : World} {g : Nat} {A : Option Addr} {R : List (List G)} {n1 : Nat} (h : Tb w g A R n1) (hg : Gr w w') : Tb w' g A R n1 :=
  ⟨h.adr, fun i hi => by
    obtain ⟨B, c, h1, h2, h3, h4, h5⟩ := h.row i hi
    exact ⟨B, c, hg.keep h1, (frozen_gr hg (World.block_lt_of_cell? w _ h1)).trans h2, h3.keep hg, h4, h5⟩⟩
theorem Tb.put {w : World} {g : Nat} {A : Option Addr} {R : List (List G)} {n1 : Nat} (h : Tb w g A R n1) {k : Nat} (hk : k < R.length) {B : Option Addr} {c : Nat} {r : List G} (hr : Ints w B (gints r)) (hl : r.length = n1) (hb : ∀ b o, B = some ⟨b, o, none⟩ → b ≠ g) :
    Tb (w.setCell ⟨g, k, none⟩ (.slice B n1 c)) g A (R.set k r) n1 := by
  have hgb : Gb g w (w.setCell ⟨g, k, none⟩ (.slice B n1 c)) := (Gb.refl g w).put k _
  refine ⟨fun h0 => h.adr (by rwa [List.length_set] at h0), fun i hi => ?_⟩
  rw [List.length_set] at hi
  obtain ⟨B0, c0, h1, h2, h3, h4, h5⟩ := h.row i hi
  rw [getD_setL hk]
  by_cases e : k = i
  · subst e
    rw [if_pos rfl]
    exact ⟨B, c, by rw [World.cell?_setCell_same _ _ _ (by rw [h1])], by rw [frozen_put]; exact h2, hr.gbo hgb hb, hl, hb⟩
  · rw [if_neg e]
    exact ⟨B0, c0, by rw [World.cell?_setCell_other _ _ _ _ (fun h => e (by injection h))]; exact h1, by rw [frozen_put]; exact h2, h3.gbo hgb h5, h4, h5⟩
theorem rowZ_zero {r own : List G} {m : Nat} (h1 : r.length = m) (h2 : own.length = m) : rowZ g0 r own = r :=
  list_eq_getD (by rw [rowZ_len h1 h2, h1]) (fun j hj => by rw [rowZ_len h1 h2] at hj; rw [rowZ_at h1 h2 hj, gzero_mul, gadd_zero])
theorem set_same {R : List (List G)} {i : Nat} (hi : i < R.length) : R.set i (R.getD i []) = R := by
  refine List.ext_getElem? (fun j => ?_)
  rw [List.getElem?_set]
  by_cases e : i = j
  · subst e; rw [if_pos rfl, if_pos hi, List.getD_eq_getElem?_getD, List.getElem?_eq_getElem hi]; rfl
  · rw [if_neg e]
theorem rowM_take (r : List G) (k : G) (j : Nat) (h : j < r.length) : (rowM r k).take (j + 1) = (rowM r k).take j ++ [r.getD j g0 * k] := by
  unfold rowM; rw [List.take_add_one, List.getElem?_map, getD_of g0 h]; rfl
theorem rowZ_take {f : G} {r own : List G} {m : Nat} (h1 : r.length = m) (h2 : own.length = m) (j : Nat) (h : j < m) : (rowZ f r own).take (j + 1) = (rowZ f r own).take j ++ [r.getD j g0 + f * own.getD j g0] := by
  rw [List.take_add_one, getD_of g0 (by rw [rowZ_len h1 h2]; exact h), Option.toList_some, rowZ_at h1 h2 h]

/-- The right sides of the first k rows. -/
def outL (R : List (List G)) (n k : Nat) : List G := (List.range k).map fun i => (R.getD i []).getD n g0
theorem outL_len (R : List (List G)) (n k : Nat) : (outL R n k).length = k := by simp [outL]
theorem outL_snoc (R : List (List G)) (n k : Nat) : outL R n (k + 1) = outL R n k ++ [(R.getD k []).getD n g0] := by simp [outL, List.range_succ]
theorem outL_at {R : List (List G)} {n k i : Nat} (h : i < k) : (outL R n k).getD i g0 = (R.getD i []).getD n g0 := by
  unfold outL
  rw [List.getD_eq_getElem?_getD, List.getElem?_map, List.getElem?_range h]
  rfl
def SolvePost (R0 : List (List G)) (n g : Nat) (w : World) (e : Ending) (w' : World) : Prop :=
  ∃ (B : Option Addr) (k c : Nat) (xs : List G) (b : Bool), e = .returned (.tuple #[.slice B k c, .bool b]) ∧ Gb g w w' ∧
    (b = true → k = n ∧ xs.length = n ∧ Ints w' B (gints xs) ∧ ∀ x, SatF R0 n x → TrivF R0 n → ∀ i, i < n → xs.getD i g0 = x i) ∧ (b = false → ∀ x, SatF R0 n x → TrivF R0 n → False)
theorem solve_no {R0 : List (List G)} {n g : Nat} {w w' : World} (hg : Gb g w w') (h : ∀ x, SatF R0 n x → TrivF R0 n → False) : SolvePost R0 n g w (.returned (.tuple #[.slice none 0 0, .bool false])) w' :=
  ⟨none, 0, 0, [], false, rfl, hg, (fun e => by cases e), fun _ => h⟩
def colZ (R : List (List G)) (c lo hi : Nat) : Prop := ∀ a, lo ≤ a → a < hi → (R.getD a []).getD c g0 = g0
def PivS (R : List (List G)) (c m : Nat) (v : Value) : Prop := (v = .int .i64 (-1) ∧ colZ R c c m) ∨ ∃ a : Nat, v = .int .i64 (a : Int) ∧ c ≤ a ∧ a < m ∧ (R.getD a []).getD c g0 ≠ g0
def PivI (R : List (List G)) (c m i : Nat) (v : Value) : Prop := (v = .int .i64 (-1) ∧ colZ R c c i) ∨ ∃ a : Nat, v = .int .i64 (a : Int) ∧ i = a + 1 ∧ c ≤ a ∧ a < m ∧ (R.getD a []).getD c g0 ≠ g0

set_option maxRecDepth 100000 in
set_option maxHeartbeats 20000000 in
theorem solve_any (A : Option Addr) (m cap n g : Nat) (R0 : List (List G)) (w : World) (hm : R0.length = m) (hml : m ≤ 64) (hnl : n ≤ 64) (hW : Wid R0 n) (hT : Tb w g A R0 (n + 1)) :
    Calls Try.prog 49 #[.slice A m cap, .int .i64 (n : Int)] w (SolvePost R0 n g w) := by
  obtain ⟨i0, hi0, hz0, hz1, hz2⟩ := info_parts Try.infoInt
  have HM := Lib.hid hm
  have HW := Lib.hid hW
  have HT0 := Lib.hid hT
  clear hm hW hT
  go_enter Try.func49, Try.ntmps49
  go_wp2_with fail
  go_loopw [6] (fun z wr => ∃ (c : Nat) (R : List (List G)), c ≤ n ∧ z = .int .i64 c ∧ Hid (Reach R0 c R) ∧ Hid (Tb wr g A R (n + 1)) ∧ Hid (Gb g w wr)) (fun z _ => n - (intOf z).toNat)
  case atStart => exact ⟨0, R0, Nat.zero_le _, rfl, Lib.hid Reach.zero, HT0, Lib.hid (Gb.refl _ _)⟩
  case round =>
    obtain ⟨c, R, hc, rfl, HRE, HT, hG⟩ := hrel
    have HRL : Hid (R.length = m) := Lib.hid (HRE.out.len.1.trans HM.out)
    have HWR := Lib.hid (HRE.out.wid HW.out)
    by_cases hlt : c < n
    · go_upto_block 2 with fail
      go_cut [7, 8] from 25 to 43 (fun v _v8 wx => wr = wx ∧ Hid (PivS R c m v))
      case first =>
        go_wp2_with fail
        go_loop [7, 8] (fun v z => ∃ i : Nat, c ≤ i ∧ i ≤ m + c ∧ z = .int .i64 i ∧ Hid (PivI R c m i v)) (fun _ z => m - (intOf z).toNat)
        case atStart => exact ⟨c, Nat.le_refl _, by omega, rfl, Lib.hid (Or.inl ⟨rfl, fun a h1 h2 => by omega⟩)⟩
        case round =>
          obtain ⟨i, hci, him, rfl, HP⟩ := hrel
          by_cases hltm : i < m
          · rcases HP.out with ⟨rfl, hz⟩ | ⟨a, rfl, rfl, h1, h2, h3⟩
            · have HZ := Lib.hid hz
              have hiR : i < R.length := by rw [HRL.out]; exact hltm
              obtain rfl := HT.out.adr (by omega)
              obtain ⟨B, cB, c1, -, hI, hl, -⟩ := HT.out.row i hiR
              obtain ⟨b, o, rfl, d1⟩ := Ints_at hI (i := c) (by rw [gints_len, hl]; omega)
              rw [gints_at (by rw [hl]; omega)] at d1
              have HSS : Hid ((R.getD i []).getD c g0 = g0 → PivI R c m (i + 1) (.int .i64 (-1))) := Lib.hid (fun e => Or.inl ⟨rfl, fun a h1 h2 => by
                by_cases ea : a = i
                · rw [ea]; exact e
                · exact HZ.out a h1 (by omega)⟩)
              have HSP : Hid ((R.getD i []).getD c g0 ≠ g0 → PivI R c m (i + 1) (.int .i64 (i : Int))) := Lib.hid (fun e => Or.inr ⟨i, rfl, rfl, hci, hltm, e⟩)
              generalize (R.getD i []).getD c g0 = y at d1 HSS HSP
              have ht := g_nz_test y
              have hcn : (c : Int) < (n : Int) + 1 := by omega
              clear hz hI hl
              by_cases hy : y = g0
              · rw [decide_eq_true hy] at ht
                have HS2 := Lib.hid (HSS.out hy)
                clear hy
                go_wp2_with fail
                go_round
                case rel => exact ⟨i + 1, by omega, by omega, by go_num, HS2⟩
                case measure => simp [intOf] <;> omega
              · rw [decide_eq_false hy] at ht
                have HS2 := Lib.hid (HSP.out hy)
                clear hy
                go_wp2_with fail
                go_round
                case rel => exact ⟨i + 1, by omega, by omega, by go_num, HS2⟩
                case measure => simp [intOf] <;> omega
            · have ha0 : ¬ ((a : Int) < 0) := by omega
              have HV : Hid (PivS R c m (.int .i64 (a : Int))) := Lib.hid (Or.inr ⟨a, rfl, h1, h2, h3⟩)
              clear h3 HP
              go_wp2_with fail
              go_meet
              exact ⟨rfl, HV⟩
          · have hltm' : ¬ ((i : Int) < (m : Int)) := by omega
            have HV : Hid (PivS R c m u7) := Lib.hid (by
              rcases HP.out with ⟨e, hz⟩ | ⟨a, e, _, h1, h2, h3⟩
              · exact Or.inl ⟨e, fun a h1 h2 => hz a h1 (by omega)⟩
              · exact Or.inr ⟨a, e, h1, h2, h3⟩)
            clear HP
            go_wp2_with fail
            go_meet
            exact ⟨rfl, HV⟩
      case rest =>
        obtain ⟨rfl, HPV⟩ := hcut
        rcases HPV.out with ⟨rfl, hz⟩ | ⟨a, rfl, h1, h2, h3⟩
        · have HNO : Hid (∀ x, SatF R0 n x → TrivF R0 n → False) := Lib.hid (fun x hs ht => by
            obtain ⟨a1, a2, a3⟩ := HRE.out.keeps HW.out (by omega) hs ht
            exact stuck hlt a3 (fun a h1 h2 => hz a h1 (by rw [← HRL.out]; exact h2)) a2)
          clear hz HPV
          go_wp2_with fail
          try rw [Exit.noGoto_ret]
          go_ret2
          exact solve_no hG.out HNO.out
        · have haR : a < R.length := by rw [HRL.out]; exact h2
          have hcR : c < R.length := by omega
          have ha0 : ¬ ((a : Int) < 0) := by omega
          obtain rfl := HT.out.adr (by omega)
          obtain ⟨Ba, ca, ea, fa, hIa, hla, hna⟩ := HT.out.row a haR
          obtain ⟨Bc, cc, ec, fc, hIc, hlc, hnc⟩ := HT.out.row c hcR
          obtain ⟨ba, oa, rfl, d1⟩ := Ints_at hIa (i := c) (by rw [gints_len, hla]; omega)
          rw [gints_at (by rw [hla]; omega)] at d1
          have HNA : Hid (ba ≠ g) := Lib.hid (hna ba oa rfl)
          have HLA := Lib.hid hla
          have d1' := cell_other (g := g) (i := a) (u := .slice Bc (n + 1) cc) d1 HNA.out
          have HIA := Lib.hid (hIa.gbo ((Gb.refl g wr).put a (.slice Bc (n + 1) cc)) hna)
          have HT1 := Lib.hid (HT.out.put (k := a) (c := cc) haR hIc hlc hnc)
          have HG1 := Lib.hid (hG.out.put a (.slice Bc (n + 1) cc))
          have HIV := Lib.hid (fun W => rInverse_any _ h3 W)
          have HNX : Hid (Reach R0 (c + 1) (stepR R c a)) := Lib.hid (Reach.step HRE.out h1 haR h3)
          have HOW : Hid (rowM (R.getD a []) (ginv ((R.getD a []).getD c g0)) = ownR R c a) := Lib.hid rfl
          generalize (R.getD a []).getD c g0 = pv at d1 d1' HIV HOW
          have hgl : g < wr.heap.size := World.block_lt_of_cell? wr _ ea
          have hcn : (c : Int) < (n : Int) + 1 := by omega
          clear h3 hIa hIc hla hlc hna hnc HPV
          go_wp2_with fail
          refine (HIV.out _).mono ?_
          rintro e w1 ⟨rfl, rfl⟩
          obtain ⟨w1, hw1⟩ : ∃ w1, wr.setCell ⟨g, a, none⟩ (.slice Bc (n + 1) cc) = w1 := ⟨_, rfl⟩
          have hgl1 : g < w1.heap.size := by rw [← hw1]; simpa [World.setCell] using hgl
          rw [hw1] at HIA HT1 HG1 ⊢
          generalize ginv pv = iv at HOW ⊢
          generalize R.getD a [] = ra at HIA HOW HLA
          have HOL : Hid ((rowM ra iv).length = n + 1) := Lib.hid (by unfold rowM; rw [List.length_map]; exact HLA.out)
          clear hw1 d1 d1' ea ec fa fc hgl HIV
          go_upto_block 4 with fail
          go_cut [10, 12] from 62 to 75 (fun v _v12 wx => ∃ Bo co, v = .slice Bo (n + 1) co ∧ Hid (Ints wx Bo (gints (rowM ra iv))) ∧ Hid (∀ b o, Bo = some ⟨b, o, none⟩ → w1.heap.size ≤ b) ∧ Hid (Gr w1 wx))
          case first =>
            go_wp2_with fail
            go_loopw [10, 12] (fun v z wy => ∃ k : Nat, k ≤ n + 1 ∧ z = .int .i64 k ∧ Hid (wy.ownsRow w1.heap.size 3 1 v k (flatE enc1 (gints ((rowM ra iv).take k)))) ∧ Hid (Gr w1 wy)) (fun _ z _ => n + 1 - (intOf z).toNat)
            case atStart => exact ⟨0, Nat.zero_le _, rfl, Lib.hid (World.ownsRow_nil _ _ _ _), Lib.hid (Gr.refl _)⟩
            case round =>
              obtain ⟨k, hk, rfl, hown, hg⟩ := hrel
              by_cases hlt2 : k < n + 1
              · have hlt2' : (k : Int) ≤ (n : Int) := by omega
                have hlt2b : (k : Int) < (n : Int) + 1 := by omega
                obtain ⟨b', o', e', d2⟩ := Ints_at (HIA.out.keep hg.out) (i := k) (by rw [gints_len, HLA.out]; exact hlt2)
                obtain ⟨rfl, rfl⟩ : ba = b' ∧ oa = o' := by simpa using e'
                rw [gints_at (by rw [HLA.out]; exact hlt2)] at d2
                have HTK := Lib.hid (rowM_take ra iv k (by rw [HLA.out]; exact hlt2))
                generalize ra.getD k g0 = x at d2 HTK
                have HMU := Lib.hid (fun W => rMul_g x iv W)
                have hown2 := hown
                have hsz := hg.out.size
                generalize x * iv = y at HTK HMU
                clear e'
                go_wp2_with fail
                refine (HMU.out _).mono ?_
                rintro e w4 ⟨rfl, rfl⟩
                go_wp2_with (at_builtin; refine wpList_append_own _ rfl _ _ 34 rfl w1.heap.size 3 i0 _ 1 8 Try.underlying34 hi0 hz0 hz1 hz2 rfl (by decide) _ _ _ rfl (hown2.out.alloc _) ⟨w4.heap.size, 0, none⟩ 1 1 [.int .i64 (y.v : Int)] rfl rfl ?a1 ?a2 ?a3 ?a4 ?a5 ?_)
                case a1 =>
                  intro t u ht
                  rw [Addr.add_lit]
                  exact alloc_new rfl (by rw [Nat.zero_add]; simpa using ht)
                case a2 => intro u hu; obtain rfl := List.mem_singleton.1 hu; rfl
                case a3 => unfold maxLen; omega
                case a4 => omega
                case a5 => simp; omega
                intro v' w5 hown' hgrow _
                have hga : Gr w1 (w4.alloc _) := hg.out.alloc (.cells #[.int .i64 (y.v : Int)] 3)
                have hgb : Gr w1 w5 := Below.grown hga hgrow hga.size (fun t ht => (hown2.out.lt t ht).1)
                have HO2 := Lib.hid hown'
                clear hown' hgrow hga
                go_wp2_with fail
                go_roundw
                case rel => exact ⟨k + 1, by omega, by go_num, Lib.hid (by
                  rw [HTK.out, gints_snoc, flat_snoc1]
                  exact HO2.out), Lib.hid hgb⟩
                case measure => simp [intOf]; omega
              · have hkn : k = n + 1 := by omega
                have hlt2' : ¬ ((k : Int) ≤ (n : Int)) := by omega
                rw [hkn, List.take_of_length_le (by rw [HOL.out]; exact Nat.le_refl _)] at hown
                obtain ⟨Bo, co, hv, hrd, hnew⟩ := own_row2 (k := 1) (fun _ => rfl) (by rw [gints_len, HOL.out]) hown.out
                have HRD := Lib.hid hrd
                have HNW := Lib.hid hnew
                subst hv
                clear hown hrd hkn hnew
                go_wp2_with fail
                go_meet
                exact ⟨Bo, co, rfl, HRD, HNW, hg⟩
          case rest =>
            obtain ⟨Bo, co, rfl, HRO, HNO, hgx⟩ := hcut
            have HTx := Lib.hid (HT1.out.keep hgx.out)
            obtain ⟨B1, c1', e1, f1, -, -, -⟩ := HTx.out.row c (by rw [List.length_set]; exact hcR)
            have HNO' : Hid (∀ b o, Bo = some ⟨b, o, none⟩ → b ≠ g) := Lib.hid (fun b o e => by have := HNO.out b o e; omega)
            have HT2 : Hid (Tb (wc.setCell ⟨g, c, none⟩ (.slice Bo (n + 1) co)) g (some ⟨g, 0, none⟩) (swapR R c a) (n + 1)) := Lib.hid (by
              have h := HTx.out.put (k := c) (c := co) (by rw [List.length_set]; exact hcR) HRO.out HOL.out HNO'.out
              rw [HOW.out] at h
              exact h)
            have HO2 : Hid (Ints (wc.setCell ⟨g, c, none⟩ (.slice Bo (n + 1) co)) Bo (gints (ownR R c a))) := Lib.hid (by rw [← HOW.out]; exact HRO.out.gbo ((Gb.refl g wc).put c _) HNO'.out)
            have HG2 := Lib.hid ((HG1.out.trans (Gb.of hgx.out g)).put c (.slice Bo (n + 1) co))
            have HOL2 : Hid ((ownR R c a).length = n + 1) := Lib.hid (by rw [← HOW.out]; exact HOL.out)
            have HSTP : Hid (stepR R c a = elimT c (ownR R c a) (swapR R c a) m) := Lib.hid (by unfold stepR; rw [HRL.out])
            have HSWL : Hid ((swapR R c a).length = m) := Lib.hid (by rw [swapR_len]; exact HRL.out)
            have hcm : c < m := by omega
            generalize ownR R c a = own at HO2 HOL2 HSTP
            generalize swapR R c a = R2 at HT2 HSTP HSWL
            clear HTx HRO HNO HIA HT1 HG1 HOW HOL hgx
            go_wp2_with fail
            generalize wc.setCell ⟨g, c, none⟩ (.slice Bo (n + 1) co) = w2 at HT2 HO2 HG2 ⊢
            clear e1 f1
            go_loopw [13] (fun z wy => ∃ i : Nat, i ≤ m ∧ z = .int .i64 i ∧ Hid (Tb wy g (some ⟨g, 0, none⟩) (elimT c own R2 i) (n + 1)) ∧ Hid (Gb g w2 wy)) (fun z _ => m - (intOf z).toNat)
            case atStart => exact ⟨0, Nat.zero_le _, rfl, HT2, Lib.hid (Gb.refl _ _)⟩
            case round =>
              obtain ⟨i, hi, rfl, hTi, hGi⟩ := hrel
              rename World => wi
              by_cases hlti : i < m
              · have HSE : Hid (elimT c own R2 (i + 1) = (elimT c own R2 i).set i (elimR c own i ((elimT c own R2 i).getD i []))) := Lib.hid rfl
                have HRil : Hid ((elimT c own R2 i).length = m) := Lib.hid (by rw [elimT_len]; exact HSWL.out)
                generalize elimT c own R2 i = Ri at hTi HSE HRil
                have hiR : i < Ri.length := by rw [HRil.out]; exact hlti
                have HSAME := Lib.hid (set_same hiR)
                obtain ⟨Bi, ci, ei, fi, hIi, hli, hni⟩ := hTi.out.row i hiR
                obtain ⟨bi, oi, rfl, d1⟩ := Ints_at hIi (i := c) (by rw [gints_len, hli]; omega)
                rw [gints_at (by rw [hli]; omega)] at d1
                have HLI := Lib.hid hli
                have HII := Lib.hid hIi
                have HOI := Lib.hid (HO2.out.gbo hGi.out HNO'.out)
                have HEQ : Hid (i = c → elimT c own R2 (i + 1) = Ri) := Lib.hid (fun e => by rw [HSE.out]; unfold elimR; rw [if_pos e]; exact HSAME.out)
                have HEZ : Hid (i ≠ c → (Ri.getD i []).getD c g0 = g0 → elimT c own R2 (i + 1) = Ri) := Lib.hid (fun e hz => by rw [HSE.out]; unfold elimR; rw [if_neg e, hz, rowZ_zero hli HOL2.out]; exact HSAME.out)
                have HEN : Hid (i ≠ c → elimT c own R2 (i + 1) = Ri.set i (rowZ ((Ri.getD i []).getD c g0) (Ri.getD i []) own)) := Lib.hid (fun e => by rw [HSE.out]; unfold elimR; rw [if_neg e])
                generalize Ri.getD i [] = r at d1 HLI HII HEZ HEN
                generalize r.getD c g0 = f at d1 HEZ HEN
                clear hIi hli HSE HSAME
                by_cases hic : i = c
                · have ht : ((i : Int) == (c : Int)) = true := by rw [beq_iff_eq]; omega
                  have HEQ2 := Lib.hid (HEQ.out hic)
                  clear hic
                  go_wp2_with fail
                  go_roundw
                  case rel => exact ⟨i + 1, by omega, by go_num, by rw [HEQ2.out]; exact hTi, hGi⟩
                  case measure => simp [intOf] <;> omega
                · have ht : ((i : Int) == (c : Int)) = false := by rw [beq_eq_false_iff_ne]; omega
                  have hz := g_zero_test f
                  by_cases hf : f = g0
                  · rw [decide_eq_true hf] at hz
                    have HEQ2 := Lib.hid (HEZ.out hic hf)
                    clear hic hf
                    go_wp2_with fail
                    go_roundw
                    case rel => exact ⟨i + 1, by omega, by go_num, by rw [HEQ2.out]; exact hTi, hGi⟩
                    case measure => simp [intOf] <;> omega
                  · rw [decide_eq_false hf] at hz
                    have HEQ2 := Lib.hid (HEN.out hic)
                    have HZL : Hid ((rowZ f r own).length = n + 1) := Lib.hid (rowZ_len HLI.out HOL2.out)
                    have HTKs : Hid (∀ k, k < n + 1 → (rowZ f r own).take (k + 1) = (rowZ f r own).take k ++ [r.getD k g0 + f * own.getD k g0]) := Lib.hid (fun k hk => rowZ_take HLI.out HOL2.out k hk)
                    generalize rowZ f r own = zr at HEQ2 HZL HTKs
                    have hgi : g < wi.heap.size := World.block_lt_of_cell? wi _ ei
                    clear hic hf HEQ HEZ HEN
                    go_upto_block 8 with fail
                    go_cut [15, 16] from 100 to 121 (fun v _v16 wx => ∃ Bl cl, v = .slice Bl (n + 1) cl ∧ Hid (Ints wx Bl (gints zr)) ∧ Hid (∀ b o, Bl = some ⟨b, o, none⟩ → wi.heap.size ≤ b) ∧ Hid (Gr wi wx))
                    case first =>
                      clear hTi hGi d1
                      go_wp2_with fail
                      go_loopw [15, 16] (fun v z wz => ∃ k : Nat, k ≤ n + 1 ∧ z = .int .i64 k ∧ Hid (wz.ownsRow wi.heap.size 3 1 v k (flatE enc1 (gints (zr.take k)))) ∧ Hid (Gr wi wz)) (fun _ z _ => n + 1 - (intOf z).toNat)
                      case atStart => exact ⟨0, Nat.zero_le _, rfl, Lib.hid (World.ownsRow_nil _ _ _ _), Lib.hid (Gr.refl _)⟩
                      case round =>
                        obtain ⟨k, hk, rfl, hown, hg⟩ := hrel
                        by_cases hltk : k < n + 1
                        · have hltk' : (k : Int) ≤ (n : Int) := by omega
                          have hltk2 : (k : Int) < (n : Int) + 1 := by omega
                          have ek := hg.out.keep ei
                          obtain ⟨b', o', e', d1⟩ := Ints_at (HII.out.keep hg.out) (i := k) (by rw [gints_len, HLI.out]; exact hltk)
                          obtain ⟨rfl, rfl⟩ : bi = b' ∧ oi = o' := by simpa using e'
                          obtain ⟨bo, oo, rfl, d2⟩ := Ints_at (HOI.out.keep hg.out) (i := k) (by rw [gints_len, HOL2.out]; exact hltk)
                          rw [gints_at (by rw [HLI.out]; exact hltk)] at d1
                          rw [gints_at (by rw [HOL2.out]; exact hltk)] at d2
                          have HTK := Lib.hid (HTKs.out k hltk)
                          generalize r.getD k g0 = x at d1 HTK
                          generalize own.getD k g0 = y at d2 HTK
                          have HMU := Lib.hid (fun W => rMul_g f y W)
                          have hx := i64_xor_gg x (f * y)
                          generalize f * y = fy at HTK HMU hx
                          have hsz := hg.out.size
                          clear e'
                          go_wp2_with fail
                          go_region_law (first | (go_simp; go_at_call 15; refine (HMU.out _).mono ?_; rintro e w4 ⟨rfl, rfl⟩) | (refine step_append_lies _ (by rfl) (.tmp 105) (.tmp 120) 34 (by rfl) wi.heap.size 3 i0 _ 1 8 Try.underlying34 hi0 hz0 hz1 hz2 rfl (by decide) u15 k (flatE enc1 (gints (zr.take k))) (by rfl) (owns_gr hown.out ((Gr.refl _).drew.alloc _)) ⟨wr.drew.heap.size, 0, none⟩ 1 1 [.int .i64 ((x + fy).v : Int)] (by rfl) rfl (World.news_of_block (heap_alloc_new _ _)) (by intro u hu; obtain rfl := List.mem_singleton.1 hu; rfl) (by decide) (by unfold maxLen; omega) (by omega) (by simp; omega) _ rfl ?_; intro g' cap' w5 hown' hgrow _ _))
                          all_goals
                            have hgn : Gr wi w5 := Below.grown (hg.out.trans ((Gr.refl _).drew.alloc _)) hgrow (by simp; omega) (fun t ht => (hown.out.lt t ht).1)
                            have hon : w5.ownsRow wi.heap.size 3 1 (.slice (some ⟨g', 0, none⟩) (k + 1) cap') (k + 1) (flatE enc1 (gints (zr.take (k + 1)))) := by
                              rw [HTK.out, gints_snoc, flat_snoc1]; exact hown'
                            have HGN := Lib.hid hgn
                            have HON := Lib.hid hon
                            clear hgn hon hown' hgrow
                            go_wp2_with fail
                            go_roundw
                            case rel => exact ⟨k + 1, by omega, by go_num, HON, HGN⟩
                            case measure => simp [intOf]; omega
                        · have hkn : k = n + 1 := by omega
                          have hltk' : ¬ ((k : Int) ≤ (n : Int)) := by omega
                          rw [hkn, List.take_of_length_le (by rw [HZL.out]; exact Nat.le_refl _)] at hown
                          obtain ⟨Bl, cl, hv, hrd, hnew⟩ := own_row2 (k := 1) (fun _ => rfl) (by rw [gints_len, HZL.out]) hown.out
                          have HRD := Lib.hid hrd
                          have HNW := Lib.hid hnew
                          subst hv
                          clear hown hrd hkn hnew
                          go_wp2_with fail
                          go_meet
                          exact ⟨Bl, cl, rfl, HRD, HNW, hg⟩
                    case rest =>
                      obtain ⟨Bl, cl, rfl, HRL2, HNL, hgx⟩ := hcut
                      have ex := hgx.out.keep ei
                      have fx := (frozen_gr hgx.out hgi).trans fi
                      have HTn : Hid (Tb (wc.setCell ⟨g, i, none⟩ (.slice Bl (n + 1) cl)) g (some ⟨g, 0, none⟩) (elimT c own R2 (i + 1)) (n + 1)) := Lib.hid (by
                        rw [HEQ2.out]
                        exact (hTi.out.keep hgx.out).put (k := i) (c := cl) hiR HRL2.out HZL.out (fun b o e => by have := HNL.out b o e; omega))
                      have HGn := Lib.hid ((hGi.out.trans (Gb.of hgx.out g)).put i (.slice Bl (n + 1) cl))
                      clear HRL2 HNL hgx
                      go_wp2_with fail
                      go_roundw
                      case rel => exact ⟨i + 1, by omega, by go_num, HTn, HGn⟩
                      case measure => simp [intOf] <;> omega
              · have him : i = m := by omega
                have hlti' : ¬ ((i : Int) < (m : Int)) := by omega
                rw [him, ← HSTP.out] at hTi
                clear him
                go_wp2_with fail
                go_roundw
                case rel => exact ⟨c + 1, stepR R c a, by omega, by go_num, HNX, hTi, Lib.hid (HG2.out.trans hGi.out)⟩
                case measure => simp [intOf] <;> omega
    · have hcn : c = n := by omega
      have hlt' : ¬ ((c : Int) < (n : Int)) := by omega
      have HRN : Hid (Reach R0 n R) := Lib.hid (by rw [← hcn]; exact HRE.out)
      have HNM : Hid (n ≤ m) := Lib.hid (by rw [← HM.out]; exact HRN.out.len.2)
      have HSOL : Hid (∀ x, SatF R0 n x → TrivF R0 n → ∀ i, i < R.length → (R.getD i []).getD n g0 = if i < n then x i else g0) := Lib.hid (fun x hs ht => by
        obtain ⟨a1, -, a3⟩ := HRN.out.keeps HW.out (Nat.le_refl _) hs ht
        exact read_off a1 a3)
      clear hcn
      rename World => wi
      go_wp2_with fail
      go_loopw [17, 18] (fun v z wy => ∃ i k : Nat, i ≤ m ∧ k ≤ 64 ∧ z = .int .i64 i ∧ Hid (k = min i n) ∧ Hid (wy.ownsRow wi.heap.size 3 1 v k (flatE enc1 (gints (outL R n k)))) ∧ Hid (Gr wi wy)) (fun _ z _ => m - (intOf z).toNat)
      case atStart => exact ⟨0, 0, Nat.zero_le _, by omega, rfl, Lib.hid (by omega), Lib.hid (World.ownsRow_nil _ _ _ _), Lib.hid (Gr.refl _)⟩
      case round =>
        obtain ⟨i, k, hi, hk64, rfl, HK, hown, hg⟩ := hrel
        by_cases hlti : i < m
        · have hiR : i < R.length := by rw [HRL.out]; exact hlti
          obtain rfl := HT.out.adr (by omega)
          obtain ⟨Bi, ci, ei, -, hIi, hli, -⟩ := HT.out.row i hiR
          obtain ⟨bi, oi, rfl, d1⟩ := Ints_at hIi (i := n) (by rw [gints_len, hli]; omega)
          rw [gints_at (by rw [hli]; omega)] at d1
          have ek := hg.out.keep ei
          have dk := hg.out.keep d1
          have HS1 := Lib.hid (outL_snoc R n i)
          have HXY := Lib.hid (fun x hs ht => HSOL.out x hs ht i hiR)
          generalize (R.getD i []).getD n g0 = y at dk HS1 HXY d1
          have hsz := hg.out.size
          clear hIi hli ei d1
          by_cases hin : i < n
          · have hki : k = i := by have := HK.out; omega
            subst hki
            have HS2 := HS1
            have hown2 := hown
            have hnn : (n : Int) < (n : Int) + 1 := by omega
            go_wp2_with (at_builtin; refine wpList_append_own _ rfl _ _ 34 rfl wi.heap.size 3 i0 _ 1 8 Try.underlying34 hi0 hz0 hz1 hz2 rfl (by decide) _ _ _ rfl (hown2.out.alloc _) ⟨wr.heap.size, 0, none⟩ 1 1 [.int .i64 (y.v : Int)] rfl rfl ?a1 ?a2 ?a3 ?a4 ?a5 ?_)
            case a1 =>
              intro t u ht
              rw [Addr.add_lit]
              exact alloc_new rfl (by rw [Nat.zero_add]; simpa using ht)
            case a2 => intro u hu; obtain rfl := List.mem_singleton.1 hu; rfl
            case a3 => unfold maxLen; omega
            case a4 => omega
            case a5 => simp; omega
            intro v' w5 hown' hgrow _
            have hga : Gr wi (wr.alloc _) := hg.out.alloc (.cells #[.int .i64 (y.v : Int)] 3)
            have hgb : Gr wi w5 := Below.grown hga hgrow hga.size (fun t ht => (hown2.out.lt t ht).1)
            have HO2 := Lib.hid hown'
            clear hown' hgrow hga
            go_wp2_with fail
            go_roundw
            case rel => exact ⟨k + 1, k + 1, by omega, by omega, by go_num, Lib.hid (by omega), Lib.hid (by
              rw [HS2.out, gints_snoc, flat_snoc1]
              exact HO2.out), Lib.hid hgb⟩
            case measure => simp [intOf]; omega
          · have hin' : ¬ ((i : Int) < (n : Int)) := by omega
            have hnn : (n : Int) < (n : Int) + 1 := by omega
            have ht := g_nz_test y
            by_cases hy : y = g0
            · rw [decide_eq_true hy] at ht
              clear hy HXY
              go_wp2_with fail
              go_roundw
              case rel => exact ⟨i + 1, k, by omega, hk64, by go_num, Lib.hid (by have := HK.out; omega), hown, hg⟩
              case measure => simp [intOf]; omega
            · have HNO : Hid (∀ x, SatF R0 n x → TrivF R0 n → False) := Lib.hid (fun x hs ht => by
                have h := HXY.out x hs ht
                rw [if_neg hin] at h
                exact hy h)
              rw [decide_eq_false hy] at ht
              clear hy HXY
              go_wp2_with fail
              try rw [Exit.noGoto_ret]
              go_ret2
              exact solve_no (hG.out.trans (Gb.of hg.out g)) HNO.out
        · have him : i = m := by omega
          have hlti' : ¬ ((i : Int) < (m : Int)) := by omega
          have hkn : k = n := by have := HK.out; have := HNM.out; omega
          rw [hkn] at hown
          obtain ⟨Bl, cl, hv, hrd, -⟩ := own_row2 (k := 1) (fun _ => rfl) (by rw [gints_len, outL_len]) hown.out
          have HRD := Lib.hid hrd
          subst hv
          clear hown hrd hkn him
          go_wp2_with fail
          try rw [Exit.noGoto_ret]
          go_ret2
          exact ⟨Bl, n, cl, outL R n n, true, rfl, hG.out.trans (Gb.of hg.out g), fun _ => ⟨rfl, outL_len _ _ _, HRD.out, fun x hs ht i hi => by
            rw [outL_at hi]
            have h := HSOL.out x hs ht i (by rw [HRL.out]; have := HNM.out; omega)
            rw [if_pos hi] at h
            exact h⟩, fun e => by cases e⟩
end Go.Proofs.Ytbkbgcapkhelhaa
