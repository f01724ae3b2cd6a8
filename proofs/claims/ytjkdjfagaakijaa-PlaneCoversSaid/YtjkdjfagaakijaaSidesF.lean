/- sidesFit: do the counted sides fit? -/
import Derived.Test.YtjkdjfagaakijaaCovM
import Derived.Test.YtjkdjfagaakijaaPairK
import Derived.Test.YtjkdjfagaakijaaCross
import Derived.Test.YtjkdjfagaakijaaHeld
import Derived.Test.YtjkdjfagaakijaaLine
import Derived.Laws.IdiomRangeMap
import Derived.Deep.CutRange
namespace Go.Proofs.Ytjkdjfagaakijaa
open Go.RowKit
set_option linter.unusedSimpArgs false

abbrev CMp (w : World) (g : Nat) (l : List ((Int × Int) × Int)) : Prop := Mp Try.prog 79 pairK intV w g l
theorem zero_int (w : World) : (zeroValue 3).run Try.prog w = .ok (.int .i64 0) w := by kernel_rfl
/-- A look-up. -/
theorem CMp.look {w : World} {g : Nat} {l : List ((Int × Int) × Int)} (h : CMp w g l) {n : Nat} {S : List (Int × Int)} (hc : CInv n l S) (hn : n ≤ 1048576) {a b : Int} (ha : 0 ≤ a ∧ a < n) (hb : 0 ≤ b ∧ b < n) :
    (Instr.lookup 78 (.map (some g)) (.agg #[.int .i64 a, .int .i64 b]) false).run Try.prog w = .ok (.int .i64 (cntI S a b)) w := by
  obtain ⟨kl, hk⟩ := pair_key (p := (a, b)) (by dsimp only; omega) (by dsimp only; omega)
  have h1 := Mp.look h pairK_inj pair_keyed Try.underlying78 (zero_int w) false hk
  have h2 : ((mget l (a, b)).map intV).getD (.int .i64 0) = .int .i64 (cntI S a b) := by
    have := hc.cnt (a, b)
    unfold cntI
    rw [← this]
    cases mget l (a, b) <;> rfl
  rw [h2] at h1
  exact h1
theorem cntI_bd (S : List (Int × Int)) (a b : Int) : 0 ≤ cntI S a b ∧ cntI S a b ≤ S.length := by
  unfold cntI
  have := List.count_le_length (a := (a, b)) (l := S)
  omega

theorem mem_erase_or {α : Type} : ∀ {l : List α} {i : Nat} {p q : α}, l[i]? = some p → q ∈ l → q = p ∨ q ∈ l.eraseIdx i
  | [], _, _, _, h, _ => by simp at h
  | a :: r, 0, p, q, h, hq => by
    simp at h
    subst h
    rcases List.mem_cons.1 hq with h | h
    · exact Or.inl h
    · exact Or.inr (by simpa using h)
  | a :: r, i + 1, p, q, h, hq => by
    simp at h
    rcases List.mem_cons.1 hq with h' | h'
    · exact Or.inr (by simp [h'])
    · rcases mem_erase_or h h' with h | h
      · exact Or.inl h
      · exact Or.inr (by simp [h])

set_option maxRecDepth 100000 in
set_option maxHeartbeats 4000000 in
theorem sidesFit_any (g n : Nat) (l : List ((Int × Int) × Int)) (S : List (Int × Int)) (w : World) (hn : 3 ≤ n) (hl : n ≤ 512) (hm : CMp w g l) (hc : CInv n l S) :
    Calls Try.prog 65 #[.map (some g), .int .i64 n] w (BoolPost (FitP n (cntI S)) w) := by
  have HM := Lib.hid hm
  have HC := Lib.hid hc
  have HF := Lib.hid (sides_fit hn hc hm.apart)
  clear hm hc
  go_enter Try.func65, Try.ntmps65
  go_wp2_with fail
  go_loopw [11] (fun i wr => ∃ k : Nat, k ≤ n ∧ i = .int .i64 k ∧ Hid (∀ i : Nat, i < k → cntI S i ((i + 1) % n : Nat) = 1 ∧ cntI S ((i + 1) % n : Nat) i = 0) ∧ w = wr) (fun i _ => n - (intOf i).toNat)
  case atStart => exact ⟨0, by omega, rfl, Lib.hid (fun i h => by omega), rfl⟩
  case round =>
    obtain ⟨k, hk, rfl, hok, rfl⟩ := hrel
    by_cases hlt : k < n
    · obtain ⟨m, hmm⟩ : ∃ m, (k + 1) % n = m := ⟨_, rfl⟩
      have hmn : m < n := by rw [← hmm]; exact Nat.mod_lt _ (by omega)
      have et : ((k : Int) + 1).tmod (n : Int) = (m : Int) := by rw [Int.tmod_eq_emod_of_nonneg (by omega), ← hmm]; push_cast; rfl
      have l1 := HM.out.look HC.out (by omega) (a := k) (b := m) (by omega) (by omega)
      have l2 := HM.out.look HC.out (by omega) (a := m) (b := k) (by omega) (by omega)
      obtain ⟨c1, hc1⟩ : ∃ c, cntI S k m = c := ⟨_, rfl⟩
      obtain ⟨c2, hc2⟩ : ∃ c, cntI S m k = c := ⟨_, rfl⟩
      rw [hc1] at l1
      rw [hc2] at l2
      have HMM := Lib.hid hmm
      have H1 := Lib.hid hc1
      have H2 := Lib.hid hc2
      clear hmm hc1 hc2
      have hltI : (k : Int) < (n : Int) := by omega
      by_cases e1 : c1 = 1
      · subst e1
        by_cases e2 : c2 = 0
        · subst e2
          go_wp2_with fail
          go_roundw
          case rel => exact ⟨k + 1, by omega, by go_num, Lib.hid (fun i hi => by
            rcases Nat.lt_succ_iff_lt_or_eq.1 hi with h | rfl
            · exact hok.out i h
            · rw [HMM.out]; exact ⟨H1.out, H2.out⟩), by trivial⟩
          case measure => simp [intOf]; omega
        · have ne2 : (c2 != 0) = true := by simpa using e2
          go_wp2_with fail
          go_ret
          refine ⟨false, rfl, ⟨fun h => absurd h (by decide), fun h => ?_⟩, Gr.refl _⟩
          have h3 := ((HF.out.2 h).1 k hlt).2
          rw [HMM.out, H2.out] at h3
          exact absurd h3 e2
      · have ne1 : (c1 != 1) = true := by simpa using e1
        go_wp2_with fail
        go_ret
        refine ⟨false, rfl, ⟨fun h => absurd h (by decide), fun h => ?_⟩, Gr.refl _⟩
        have h3 := ((HF.out.2 h).1 k hlt).1
        rw [HMM.out, H1.out] at h3
        exact absurd h3 e1
    · obtain rfl : k = n := by omega
      have hlt' : ¬ ((k : Int) < (k : Int)) := by omega
      clear hlt
      go_wp2_with (first | (at_range; refine step_range rfl _ _ rfl HM.out _ Try.underlying78 rfl ?_; intro w0 hrg0 hg0 hs0) | fail)
      have HRG := Lib.hid hrg0
      have hok2 : Hid (∀ q ∈ l, q ∈ l ∨ (q.1.2 ≠ (q.1.1 + 1) % k → cntI S q.1.2 q.1.1 = q.2)) := Lib.hid (fun q hq => Or.inl hq)
      obtain ⟨R, hR⟩ : ∃ R, w.heap.size = R := ⟨_, rfl⟩
      rw [hR] at HRG ⊢
      have HRR := Lib.hid hR
      clear hR
      clear hrg0 hs0 hlt' hk
      go_loopw [] (fun wr => ∃ todo, Hid (Rng Try.prog 79 pairK intV wr g R l todo) ∧ Hid (∀ q ∈ l, q ∈ todo ∨ (q.1.2 ≠ (q.1.1 + 1) % k → cntI S q.1.2 q.1.1 = q.2)) ∧ Gr w wr) (fun wr => wr.rangeLeft g R)
      case atStart => exact ⟨l, HRG, hok2, hg0⟩
      case round =>
        obtain ⟨todo, hrg, hdo, hgr⟩ := hrel
        clear HRG hok2 hg0
        go_wp2_with (first | (at_next; refine step_next rfl _ rfl rfl hrg.out ?_ ?_) | fail)
        · intro h0
          subst h0
          go_wp2_with fail
          go_ret
          refine ⟨true, rfl, ⟨fun _ => HF.out.1 ⟨hok.out, fun q hq => ?_⟩, fun _ => rfl⟩, hgr⟩
          rcases hdo.out q hq with h | h
          · cases h
          · exact h
        · intro i a b v w1 hp hpl hrg1 hg1 hs1 hen
          obtain ⟨ha, hb⟩ := HC.out.rng _ hpl
          dsimp only at ha hb
          obtain ⟨a, rfl⟩ : ∃ a' : Nat, a = a' := ⟨a.toNat, by omega⟩
          obtain ⟨b, rfl⟩ : ∃ b' : Nat, b = b' := ⟨b.toNat, by omega⟩
          dsimp only [pairK, intV] at hen ⊢
          have hgr1 : Gr w w1 := Gb.gr hgr hg1 (by have := HRR.out; omega)
          have HRG1 := Lib.hid hrg1
          have HLE := Lib.hid hrg.out.left
          clear hgr hg1 hrg hrg1
          go_upto_region 11 with fail
          generalize hW : World.alloc w1 _ = w2
          obtain ⟨hgW, k0, k1⟩ := box2h hW
          rw [hs1] at k0 k1
          generalize wr.heap.size = B at k0 k1 ⊢
          have hgr2 := hgr1.trans hgW
          have HRG2 := Lib.hid (HRG1.out.keep hgW)
          clear hW hs1 hen hgr1 HRG1 hgW
          obtain ⟨m, hmm⟩ : ∃ m, (a + 1) % k = m := ⟨_, rfl⟩
          have et : ((a : Int) + 1).tmod (k : Int) = (m : Int) := by rw [Int.tmod_eq_emod_of_nonneg (by omega), ← hmm]; push_cast; rfl
          have ew : IntKind.i64.wrap ((a : Int) + 1) = (a : Int) + 1 := IntWalk.i64_in _ (by omega)
          have hk0 : ¬ k = 0 := by omega
          obtain ⟨q, hq⟩ : ∃ q, ((b : Int) == (m : Int)) = q := ⟨_, rfl⟩
          obtain ⟨c, hc⟩ : ∃ c, cntI S b a = c := ⟨_, rfl⟩
          have HMM := Lib.hid hmm
          have H1 := Lib.hid hc
          clear hmm hc
          refine wp_region_held_drew (S := (fun W' => Gr w2 W' ∧ W'.cell? ⟨B, 0, none⟩ = some (.int .i64 a) ∧ W'.cell? ⟨B, 1, none⟩ = some (.int .i64 b))) ?_ ?_ (fun hHeld => ?_)
          · kernel_rfl
          · ((try dsimp only); ((try go_split_ands); (repeat' apply And.intro) <;> (repeat (first | assumption | (exact Gr.refl _) | (refine Gr.drew ?_) | (refine Gr.alloc ?_ _) | (refine alloc_old ?_) | (refine Gr.keep (by assumption) ?_) | (refine Gr.trans ?_ (by assumption))))))
          refine take_in (i := 0) (v := ?_) (d := (some 40)) rfl rfl ?_ ?_ ?_ ?_ ?_ ?_ ?_ ?_
          rotate_left
          · kernel_rfl
          · kernel_rfl
          · kernel_rfl
          · (intro _ _ _ hq; exact hq)
          · rfl
          · (intro _w hSw; (try dsimp only at hSw); go_simp; try with_reducible rfl)
          · assumption
          try simp only [Act.put, List.setIfInBounds_toArray, List.set_cons_zero, List.set_cons_succ]
          refine take_in (i := 1) (v := ?_) (d := (some 41)) rfl rfl ?_ ?_ ?_ ?_ ?_ ?_ ?_ ?_
          rotate_left
          · kernel_rfl
          · kernel_rfl
          · kernel_rfl
          · (intro _ _ _ hq; exact hq)
          · rfl
          · (intro _w hSw; (try dsimp only at hSw); go_simp; try with_reducible rfl)
          · assumption
          try simp only [Act.put, List.setIfInBounds_toArray, List.set_cons_zero, List.set_cons_succ]
          refine take_in (i := 2) (v := ?_) (d := (some 42)) rfl rfl ?_ ?_ ?_ ?_ ?_ ?_ ?_ ?_
          rotate_left
          · kernel_rfl
          · kernel_rfl
          · kernel_rfl
          · (intro _ _ _ hq; exact hq)
          · rfl
          · (intro _w hSw; (try dsimp only at hSw); go_simp; try with_reducible rfl)
          · assumption
          try simp only [Act.put, List.setIfInBounds_toArray, List.set_cons_zero, List.set_cons_succ]
          refine take_in (i := 3) (v := ?_) (d := (some 43)) rfl rfl ?_ ?_ ?_ ?_ ?_ ?_ ?_ ?_
          rotate_left
          · kernel_rfl
          · kernel_rfl
          · kernel_rfl
          · (intro _ _ _ hq; exact hq)
          · rfl
          · (intro _w hSw; (try dsimp only at hSw); go_simp; try with_reducible rfl)
          · assumption
          try simp only [Act.put, List.setIfInBounds_toArray, List.set_cons_zero, List.set_cons_succ]
          refine take_in (i := 4) (v := ?_) (d := (some 44)) rfl rfl ?_ ?_ ?_ ?_ ?_ ?_ ?_ ?_
          rotate_left
          · kernel_rfl
          · kernel_rfl
          · kernel_rfl
          · (intro _ _ _ hq; exact hq)
          · rfl
          · (intro _w hSw; (try dsimp only at hSw); go_simp; try with_reducible rfl)
          · assumption
          try simp only [Act.put, List.setIfInBounds_toArray, List.set_cons_zero, List.set_cons_succ]
          refine take_in (i := 5) (v := ?_) (d := (some 45)) rfl rfl ?_ ?_ ?_ ?_ ?_ ?_ ?_ ?_
          rotate_left
          · kernel_rfl
          · kernel_rfl
          · kernel_rfl
          · (intro _ _ _ hq; exact hq)
          · rfl
          · (intro _w hSw; (try dsimp only at hSw); go_simp; try with_reducible rfl)
          · assumption
          try simp only [Act.put, List.setIfInBounds_toArray, List.set_cons_zero, List.set_cons_succ]
          refine take_in (i := 6) (v := ?_) (d := (some 46)) rfl rfl ?_ ?_ ?_ ?_ ?_ ?_ ?_ ?_
          rotate_left
          · kernel_rfl
          · kernel_rfl
          · kernel_rfl
          · (intro _ _ _ hq; exact hq)
          · rfl
          · (intro _w hSw; (try dsimp only at hSw); go_simp; try with_reducible rfl)
          · assumption
          try simp only [Act.put, List.setIfInBounds_toArray, List.set_cons_zero, List.set_cons_succ]
          refine take_in (i := 7) (v := ?_) (d := (some 47)) rfl rfl ?_ ?_ ?_ ?_ ?_ ?_ ?_ ?_
          rotate_left
          · kernel_rfl
          · kernel_rfl
          · kernel_rfl
          · (intro _ _ _ hq; exact hq)
          · rfl
          · (intro _w hSw; (try dsimp only at hSw); go_simp; try with_reducible rfl)
          · assumption
          try simp only [Act.put, List.setIfInBounds_toArray, List.set_cons_zero, List.set_cons_succ]
          refine take_in (i := 8) (v := ?_) (d := (some 9)) rfl rfl ?_ ?_ ?_ ?_ ?_ ?_ ?_ ?_
          rotate_left
          · kernel_rfl
          · kernel_rfl
          · kernel_rfl
          · (intro _ _ _ hq; exact hq)
          · rfl
          · (intro _w hSw; (try dsimp only at hSw); go_simp; try with_reducible rfl)
          · assumption
          try simp only [Act.put, List.setIfInBounds_toArray, List.set_cons_zero, List.set_cons_succ]
          refine wpAnyH_done ?_ ?_ _
          · kernel_rfl
          rotate_left
          obtain ⟨hB, k0', k1'⟩ := hHeld
          clear k0 k1 et ew hk0
          have HQ := Lib.hid hq
          clear hq
          have HRG3 := Lib.hid (HRG2.out.keep hB)
          have hgr3 := hgr2.trans hB
          generalize World.drew w2 = w3 at *
          have hrev := CMp.look (show CMp w3 g l from HRG3.out.map) HC.out (by omega) hb ha
          rw [H1.out] at hrev
          clear hB hgr2 HRG2
          have hnext : Hid (((b : Int) ≠ ((a : Int) + 1) % k → cntI S b a = v) → ∀ q ∈ l, q ∈ todo.eraseIdx i ∨ (q.1.2 ≠ (q.1.1 + 1) % k → cntI S q.1.2 q.1.1 = q.2)) := Lib.hid (fun hv q hq => by
            rcases hdo.out q hq with h | h
            · rcases mem_erase_or hp h with rfl | h
              · exact Or.inr hv
              · exact Or.inl h
            · exact Or.inr h)
          have hmi : ((a : Int) + 1) % (k : Int) = (m : Int) := by rw [← HMM.out]; push_cast; rfl
          have HMI := Lib.hid hmi
          have HDO := Lib.hid hdo
          clear hmi hdo
          have hlen : (todo.eraseIdx i).length < todo.length := by
            have := (List.getElem?_eq_some_iff.1 hp).1
            rw [List.length_eraseIdx_of_lt this]; omega
          cases q with
          | true =>
            go_wp2_with fail
            go_roundw
            case rel => exact ⟨todo.eraseIdx i, HRG3, Lib.hid (hnext.out (fun hne => absurd (by rw [HMI.out]; simpa using HQ.out) hne)), hgr3⟩
            case measure =>
              rw [HRG3.out.left, HLE.out]; exact hlen
          | false =>
            by_cases hcv : c = v
            · have hcvb : (c != v) = false := by simpa using hcv
              go_wp2_with fail
              go_roundw
              case rel => exact ⟨todo.eraseIdx i, HRG3, Lib.hid (hnext.out (fun _ => H1.out.trans hcv)), hgr3⟩
              case measure =>
                rw [HRG3.out.left, HLE.out]; exact hlen
            · have hcvb : (c != v) = true := by simpa using hcv
              go_wp2_with fail
              go_ret
              refine ⟨false, rfl, ⟨fun h => absurd h (by decide), fun h => ?_⟩, hgr3⟩
              have h3 := (HF.out.2 h).2 _ hpl (by
                dsimp only
                rw [HMI.out]
                simpa using HQ.out)
              dsimp only at h3
              exact absurd (H1.out.symm.trans h3) hcv

end Go.Proofs.Ytjkdjfagaakijaa
