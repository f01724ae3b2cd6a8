/- Layer 5: whether a change is possible. -/
import Derived.Test.YtnoeiocbmhkmeaaPtS
namespace Go.Proofs.Ytnoeiocbmhkmeaa
open Go.RowKit
set_option linter.unusedSimpArgs false

/-- What a promise adds: its change, if that has the same sign. -/
def addP (c : Int) (e : Int × (Int × Int)) : Int := if decide (e.2.2 < 0) = decide (c < 0) then e.2.2 else 0
def sumP (c : Int) : List (Int × (Int × Int)) → Int
  | [] => 0
  | e :: r => addP c e + sumP c r
theorem sumP_erase (c : Int) : ∀ (l : List (Int × (Int × Int))) (i : Nat) (e : Int × (Int × Int)), l[i]? = some e → sumP c (l.eraseIdx i) = sumP c l - addP c e
  | [], i, e, h => by simp at h
  | x :: r, 0, e, h => by
    simp at h; subst h
    simp only [List.eraseIdx_cons_zero, sumP]; omega
  | x :: r, i + 1, e, h => by
    have ih := sumP_erase c r i e (by simpa using h)
    simp only [List.eraseIdx_cons_succ, sumP, ih]; omega
/-- Changes of promises that a stock can bear. -/
def PrB (l : List (Int × (Int × Int))) : Prop := l.length ≤ 4096 ∧ ∀ e ∈ l, -1099511627776 ≤ e.2.2 ∧ e.2.2 ≤ 1099511627776
theorem sumP_bd (c : Int) : ∀ (l : List (Int × (Int × Int))), (∀ e ∈ l, -1099511627776 ≤ e.2.2 ∧ e.2.2 ≤ 1099511627776) → -1099511627776 * (l.length : Int) ≤ sumP c l ∧ sumP c l ≤ 1099511627776 * (l.length : Int)
  | [], _ => by simp [sumP]
  | x :: r, h => by
    have ih := sumP_bd c r (fun e he => h e (List.mem_cons_of_mem _ he))
    have h1 := h x List.mem_cons_self
    have h2 : -1099511627776 ≤ addP c x ∧ addP c x ≤ 1099511627776 := by unfold addP; split <;> omega
    simp only [sumP, List.length_cons]
    omega
/-- Can the site promise this change? -/
def posS (s : Sx) (c : Int) : Bool := decide (0 ≤ s.stock + c + sumP c s.prom) && decide (s.stock + c + sumP c s.prom ≤ 1099511627776)
theorem box2q {w W : World} {t : TypeId} {a b : Value} (hW : w.alloc (.cells #[a, b] t) = W) : Gr w W ∧ W.cell? ⟨w.heap.size, 0, none⟩ = some a ∧ W.cell? ⟨w.heap.size, 1, none⟩ = some b := by
  subst hW
  exact ⟨(Gr.refl _).alloc _, alloc_new rfl rfl, alloc_new rfl rfl⟩

set_option maxRecDepth 100000 in
set_option maxHeartbeats 8000000 in
theorem possible5_any {B : Nat} {s : Sx} (c : Int) (w : World) (h : Its B w (siteIt s)) (hs : 0 ≤ s.stock ∧ s.stock ≤ 1099511627776) (hc : -1099511627776 ≤ c ∧ c ≤ 1099511627776) (hb : PrB s.prom) :
    Calls Try.prog 80 #[.pointer (some ⟨s.p, 0, none⟩), .int .i64 c] w fun e w' => e = .returned (.bool (posS s c)) ∧ Gr w w' := by
  obtain ⟨-, c1, -, c3, -, -, -, -⟩ := h.sCells
  have HM := Lib.hid h.sProm
  have HB := Lib.hid hb
  have HSB := Lib.hid (sumP_bd c s.prom hb.2)
  have hlen := hb.1
  have HP : Hid (posS s c = (decide (0 ≤ s.stock + c + sumP c s.prom) && decide (s.stock + c + sumP c s.prom ≤ 1099511627776))) := Lib.hid rfl
  obtain ⟨r, hr⟩ : ∃ r, posS s c = r := ⟨_, rfl⟩
  rw [hr] at HP ⊢
  clear h hb hr
  generalize s.stock = st at *
  generalize s.prom = l at *
  generalize s.mp = g at *
  go_enter Try.func80, Try.ntmps80
  go_wp2_with (first | (at_range; refine step_range rfl _ _ rfl HM.out _ Try.underlying77 rfl ?_; intro w0 hrg0 hg0 hs0) | fail)
  have HRG := Lib.hid hrg0
  obtain ⟨R, hR⟩ : ∃ R, w.heap.size = R := ⟨_, rfl⟩
  rw [hR] at HRG ⊢
  have HRR := Lib.hid hR
  have HT0 : Hid (st + c + sumP c l - sumP c l = st + c) := Lib.hid (by omega)
  clear hrg0 hs0 hR c1 c3
  simp only [Act.put, List.setIfInBounds_toArray, List.set_cons_zero, List.set_cons_succ]
  go_loopw [5] (fun q wr => ∃ todo, q = .int .i64 (st + c + sumP c l - sumP c todo) ∧ Hid (∀ e ∈ todo, e ∈ l) ∧ todo.length ≤ 4096 ∧ Hid (Rng Try.prog 3 intK promV wr g R l todo) ∧ Gr w wr) (fun _ wr => wr.rangeLeft g R)
  case atStart => exact ⟨l, by rw [HT0.out], Lib.hid (fun e he => he), hlen, HRG, hg0⟩
  case round =>
    obtain ⟨todo, rfl, hin, htl, hrg, hgr⟩ := hrel
    clear HRG hg0
    have hsb := HSB.out
    have htb := sumP_bd c todo (fun e he => HB.out.2 e (hin.out e he))
    go_wp2_with (first | (at_next; refine step_next rfl _ rfl rfl hrg.out ?_ ?_) | fail)
    · intro h0
      subst h0
      have HF : Hid (st + c + sumP c l - sumP c [] = st + c + sumP c l) := Lib.hid (by simp [sumP])
      rw [HF.out]
      clear htb
      generalize st + c + sumP c l = tot at *
      by_cases h1 : 0 ≤ tot
      · go_wp2_with fail
        go_ret
        refine ⟨ret_bool ?_, hgr⟩
        rw [HP.out]
        first | rfl | (rw [decide_eq_true h1]; rfl)
      · go_wp2_with fail
        go_ret
        refine ⟨ret_bool ?_, hgr⟩
        rw [HP.out, decide_eq_false (by omega)]; rfl
    · intro i a b1 b2 w1 hp hpl hrg1 hg1 hs1 hen
      dsimp only [promV, intK] at hen ⊢
      have hgr1 : Gr w w1 := Gb.gr hgr hg1 (by have := HRR.out; omega)
      have HRG1 := Lib.hid hrg1
      have HLE := Lib.hid hrg.out.left
      have hbe := HB.out.2 _ hpl
      dsimp only at hbe
      have HSE := Lib.hid (sumP_erase c todo i _ hp)
      have HAD : Hid (addP c (a, (b1, b2)) = if decide (b2 < 0) = decide (c < 0) then b2 else 0) := Lib.hid rfl
      have hlen2 : (todo.eraseIdx i).length < todo.length := by
        have := (List.getElem?_eq_some_iff.1 hp).1
        rw [List.length_eraseIdx_of_lt this]; omega
      have HIN2 : Hid (∀ e ∈ todo.eraseIdx i, e ∈ l) := Lib.hid (fun e he => hin.out e (List.mem_of_mem_eraseIdx he))
      clear hgr hg1 hrg hrg1 hp
      obtain ⟨ac, hac⟩ : ∃ ac, st + c + sumP c l - sumP c todo = ac := ⟨_, rfl⟩
      have hacb : -36028797018963968 ≤ ac ∧ ac ≤ 36028797018963968 := by omega
      rw [hac]
      have HAC := Lib.hid hac
      clear hac hsb htb
      go_upto_region 5 with fail
      generalize hW : World.alloc w1 _ = w2
      obtain ⟨hgW, k0, k1⟩ := box2q hW
      rw [hs1] at k0 k1
      generalize wr.heap.size = U at k0 k1 ⊢
      have hgr2 := hgr1.trans hgW
      have HRG2 := Lib.hid (HRG1.out.keep hgW)
      clear hW hs1 hen hgr1 HRG1 hgW
      have w1e : IntKind.i64.wrap (ac + b2) = ac + b2 := IntWalk.i64_in _ (by omega)
      have hsg : (b2 < 0 ∧ c < 0) ∨ (b2 < 0 ∧ ¬ c < 0) ∨ (¬ b2 < 0 ∧ c < 0) ∨ (¬ b2 < 0 ∧ ¬ c < 0) := by omega
      rcases hsg with ⟨e1, e2⟩ | ⟨e1, e2⟩ | ⟨e1, e2⟩ | ⟨e1, e2⟩
      all_goals
        have d1 : decide (b2 < 0) = decide (b2 < 0) := rfl
        first
        | (have d2 : decide (b2 < 0) = true := decide_eq_true e1; have d3 : decide (c < 0) = true := decide_eq_true e2)
        | (have d2 : decide (b2 < 0) = true := decide_eq_true e1; have d3 : decide (c < 0) = false := decide_eq_false e2)
        | (have d2 : decide (b2 < 0) = false := decide_eq_false e1; have d3 : decide (c < 0) = true := decide_eq_true e2)
        | (have d2 : decide (b2 < 0) = false := decide_eq_false e1; have d3 : decide (c < 0) = false := decide_eq_false e2)
        have HD := Lib.hid (And.intro d2 d3)
        clear d1
        go_wp2_with fail
        go_roundw
        case rel => exact ⟨todo.eraseIdx i, by rw [HSE.out, HAD.out, HD.out.1, HD.out.2]; (have := HAC.out); simp; omega, HIN2, by omega, HRG2, hgr2⟩
        case measure => rw [HRG2.out.left, HLE.out]; exact hlen2

end Go.Proofs.Ytnoeiocbmhkmeaa
