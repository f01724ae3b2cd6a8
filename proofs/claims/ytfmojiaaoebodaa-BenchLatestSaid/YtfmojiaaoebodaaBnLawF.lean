/- Layer 4: the laws BenchFewest and BenchLatest as walks.
Layer 4: the law BenchPlans as a walk. -/
import Derived.Test.YtfmojiaaoebodaaBnAwake
import Derived.Test.YtfmojiaaoebodaaBnRPs
namespace Go.Proofs.Ytfmojiaaoebodaa
open Go.RowKit
set_option linter.unusedSimpArgs false

/-- The least number of benches is one. -/
theorem few_one {l : List Jb} {r q : Nat} (hr8 : r ≤ 8) (hq8 : q ≤ 8) (hr0 : r = 0 → ∀ B : Nat, 1 ≤ B → B ≤ 8 → ¬ Poss B l) (hr1 : 1 ≤ r → Poss r l ∧ ∀ B : Nat, 1 ≤ B → B < r → ¬ Poss B l)
    (hq0 : q = 0 → ∀ B : Nat, 1 ≤ B → B ≤ 8 → ¬ Poss B l) (hq1 : 1 ≤ q → Poss q l ∧ ∀ B : Nat, 1 ≤ B → B < q → ¬ Poss B l) : r = q := by
  rcases Nat.eq_zero_or_pos r with a | a
  · rcases Nat.eq_zero_or_pos q with b | b
    · omega
    · exact absurd (hq1 b).1 (hr0 a q b hq8)
  · rcases Nat.eq_zero_or_pos q with b | b
    · exact absurd (hr1 a).1 (hq0 b r a hr8)
    · rcases Nat.lt_trichotomy r q with c | c | c
      · exact absurd (hr1 a).1 ((hq1 b).2 r a c)
      · exact c
      · exact absurd (hq1 b).1 ((hr1 a).2 q b c)
theorem fewest_same {l : List Jb} {n c : Nat} {A : Option Addr} {w : World} (hn : l.length = n) (hT : okT 1 l = true) (hp : Tris w A l) : Calls Try.prog 14 #[.slice A n c] w (FewQ l w) := by
  obtain ⟨-, hn32, hV⟩ := okT_v hT
  exact rFewest_of A n c l w fun B W h1 h2 hg => rPossible_any B n c A l W hn (by omega) ⟨h1, h2⟩ hV (hp.keep hg)

set_option maxRecDepth 100000 in
set_option maxHeartbeats 8000000 in
theorem lawFewest_any (A : Option Addr) (n c : Nat) (l : List Jb) (w : World) (hn : l.length = n) (hl : n ≤ 9223372036854775807) (hc : n ≤ c) (h0 : A = none → c = 0) (hp : Tris w A l) :
    Calls Try.prog 4 #[.slice A n c] w fun e w' => e = .returned (.bool true) ∧ Gr w w' := by
  obtain ⟨k, hk⟩ : ∃ k, (cutJ 12 l).length = k := ⟨_, rfl⟩
  have hk33 : k ≤ 33 := by rw [← hk]; unfold cutJ; split <;> rw [List.length_take] <;> omega
  have HJB := Lib.hid (jobs_any 12 (by omega) A n c l w k hk hn hl hc h0 hp)
  generalize cutJ 12 l = L at hk HJB
  have HTK := Lib.hid (fun (A' : Option Addr) (c' : Nat) W (h : Tris W A' L) r hr => rTask_any4 1 A' k c' L W hk (by omega) h r hr)
  have HFW := Lib.hid (fun (A' : Option Addr) (c' : Nat) W (h : Tris W A' L) => fewest_any A' k c' L W hk (by omega) h)
  have HRF := Lib.hid (fun (hT : okT 1 L = true) (A' : Option Addr) (c' : Nat) W (h : Tris W A' L) => fewest_same (c := c') hk hT h)
  clear hn hl hc h0 hp hk
  go_enter Try.func4, Try.ntmps4
  go_wp2_with fail
  refine HJB.out.mono ?_
  rintro e w1 ⟨A', c', rfl, hcp⟩
  have HT1 := Lib.hid hcp.rd
  have hg1 := hcp.gr
  have HF1 := Lib.hid (HFW.out A' c' w1 hcp.rd)
  clear hcp HJB HFW
  go_wp2_with fail
  refine HF1.out.mono ?_
  intro e w2 hf
  rcases hf with ⟨hT, rfl, hg2⟩ | ⟨hT, r, rfl, hg2, hr8, hr0, hr1⟩
  · have HT2 := Lib.hid (HTK.out A' c' w2 (HT1.out.keep hg2) false hT)
    have hgr := hg1.trans hg2
    clear hT HRF HTK HF1
    go_wp2_with fail
    refine HT2.out.mono ?_
    rintro e w3 ⟨rfl, hg3⟩
    go_wp2_with fail
    refine (bawake_any _).mono ?_
    rintro e w4 ⟨rfl, hg4⟩
    go_wp2_with fail
    go_ret
    exact ⟨rfl, (hgr.trans hg3).trans hg4⟩
  · have HT2 := Lib.hid (HTK.out A' c' w2 (HT1.out.keep hg2) true hT)
    have HR2 := Lib.hid (fun W (hW : Gr w2 W) => HRF.out hT A' c' W (HT1.out.keep (hg2.trans hW)))
    have hgr := hg1.trans hg2
    have HR0 := Lib.hid hr0
    have HR1 := Lib.hid hr1
    clear hT HRF HTK HF1 hr0 hr1 hg1 hg2
    go_wp2_with fail
    refine HT2.out.mono ?_
    rintro e w3 ⟨rfl, hg3⟩
    have HR3 := Lib.hid (HR2.out w3 hg3)
    clear HR2 HT2
    go_wp2_with fail
    refine HR3.out.mono ?_
    rintro e w4 ⟨q, rfl, hg4, hq8, hq0, hq1⟩
    have e1 : r = q := few_one hr8 hq8 HR0.out HR1.out hq0 hq1
    subst e1
    clear hq0 hq1 HR3
    go_wp2_with fail
    refine (bawake_any _).mono ?_
    rintro e w5 ⟨rfl, hg5⟩
    go_wp2_with fail
    go_ret
    exact ⟨rfl, ((hgr.trans hg3).trans hg4).trans hg5⟩

/-- Jobs that can be done when they are ready later are still valid. -/
theorem doneS_pos : ∀ (s : List Sl) (j : Int), 1 ≤ doneS s j → ∃ x ∈ s, x.1 = j
  | [], j, h => by simp [doneS, lsum] at h
  | x :: s, j, h => by
    by_cases e : x.1 = j
    · exact ⟨x, List.mem_cons_self, e⟩
    · have h2 : doneS (x :: s) j = doneS s j := by simp [doneS, lsum, e]
      rw [h2] at h
      obtain ⟨y, hy, e2⟩ := doneS_pos s j h
      exact ⟨y, List.mem_cons_of_mem _ hy, e2⟩
theorem can_still {B : Int} {l : List Jb} {d : Int} (hV : JobsV l) (h : Poss B (l.map (lateJ d))) : stillL d l = true := by
  obtain ⟨s, hs⟩ := h
  unfold stillL
  rw [List.all_eq_true]
  intro j hj
  obtain ⟨i, hi, rfl⟩ := List.mem_iff_getElem.1 hj
  have hm : jbA (l.map (lateJ d)) i = lateJ d l[i] := by
    unfold jbA
    rw [List.getD_eq_getElem?_getD, List.getElem?_map, List.getElem?_eq_getElem hi]; rfl
  have h1 := hs.done i (by rw [List.length_map]; exact hi)
  rw [hm] at h1
  have h2 := (hV _ hj).2.1
  obtain ⟨x, hx, ex⟩ := doneS_pos s i (by rw [h1]; exact h2)
  obtain ⟨-, -, h5, h6, h7⟩ := hs.ok x hx
  have hxi : x.1.toNat = i := by omega
  rw [hxi, hm] at h6 h7
  have h8 : l[i].1 + d < l[i].2.1 := by
    have a1 : (lateJ d l[i]).1 = l[i].1 + d := rfl
    have a2 : (lateJ d l[i]).2.1 = l[i].2.1 := rfl
    omega
  simpa using h8
theorem still_v {l : List Jb} {d : Int} (hV : JobsV l) (hd : 0 ≤ d) (h : stillL d l = true) : JobsV (l.map (lateJ d)) := fun j hj => by
  obtain ⟨x, hx, rfl⟩ := List.mem_map.1 hj
  unfold stillL at h
  have h1 := List.all_eq_true.1 h x hx
  have h2 : x.1 + d < x.2.1 := by simpa using h1
  have h3 := hV x hx
  show (0 ≤ x.1 + d ∧ x.1 + d < x.2.1 ∧ x.2.1 ≤ 1048576) ∧ 1 ≤ x.2.2 ∧ x.2.2 ≤ 1048576
  omega

set_option maxRecDepth 100000 in
set_option maxHeartbeats 8000000 in
theorem lawLatest_any (B : Int) (A : Option Addr) (n c : Nat) (l : List Jb) (w : World) (hn : l.length = n) (hl : n ≤ 9223372036854775807) (hc : n ≤ c) (h0 : A = none → c = 0) (hp : Tris w A l) :
    Calls Try.prog 5 #[.int .i64 B, .slice A n c] w fun e w' => e = .returned (.bool true) ∧ Gr w w' := by
  obtain ⟨k, hk⟩ : ∃ k, (cutJ 12 l).length = k := ⟨_, rfl⟩
  have hk33 : k ≤ 33 := by rw [← hk]; unfold cutJ; split <;> rw [List.length_take] <;> omega
  have HJB := Lib.hid (jobs_any 12 (by omega) A n c l w k hk hn hl hc h0 hp)
  generalize cutJ 12 l = L at hk HJB
  have HTK := Lib.hid (fun (A' : Option Addr) (c' : Nat) W (h : Tris W A' L) r hr => rTask_any4 B A' k c' L W hk (by omega) h r hr)
  have HLT := Lib.hid (fun (A' : Option Addr) (c' : Nat) W (hA : RowA A' k) (h : Tris W A' L) => latest_any B A' k c' L W hA hk (by omega) h)
  have HK := Lib.hid hk
  clear hn hl hc h0 hp hk
  go_enter Try.func5, Try.ntmps5
  go_wp2_with fail
  refine HJB.out.mono ?_
  rintro e w1 ⟨A', c', rfl, hcp⟩
  have HT1 := Lib.hid hcp.rd
  have hg1 := hcp.gr
  have hrow : RowA A' k := by
    cases A' with
    | none => exact Or.inr ⟨rfl, (hcp.nil rfl).1⟩
    | some a =>
      obtain ⟨b, off, sp⟩ := a
      have : sp = none := hcp.spot _ rfl
      subst this
      exact Or.inl ⟨b, off, rfl⟩
  have HL1 := Lib.hid (HLT.out A' c' w1 hrow hcp.rd)
  clear hcp HJB HLT hrow
  go_wp2_with fail
  refine HL1.out.mono ?_
  intro e w2 hf
  rcases hf with ⟨hT, rfl, hg2⟩ | ⟨hT, i, rfl, hi, hc0, hc1, hg2⟩
  · have HT2 := Lib.hid (HTK.out A' c' w2 (HT1.out.keep hg2) false hT)
    have hgr := hg1.trans hg2
    clear hT HTK HL1
    go_wp2_with fail
    refine HT2.out.mono ?_
    rintro e w3 ⟨rfl, hg3⟩
    go_wp2_with fail
    refine (bawake_any _).mono ?_
    rintro e w4 ⟨rfl, hg4⟩
    go_wp2_with fail
    go_ret
    exact ⟨rfl, (hgr.trans hg3).trans hg4⟩
  · have HT2 := Lib.hid (HTK.out A' c' w2 (HT1.out.keep hg2) true hT)
    obtain ⟨hB, hn32, hV⟩ := okT_v hT
    obtain ⟨N, rfl⟩ : ∃ N : Nat, B = N := ⟨B.toNat, by omega⟩
    rw [Int.toNat_natCast] at hc0 hc1
    have hgr := hg1.trans hg2
    have HTR := Lib.hid (HT1.out.keep hg2)
    have HC0 : Hid (i = 0 ∨ Poss N (L.map (lateJ ((i : Int) - 1)))) := Lib.hid hc0
    have HC1 : Hid (i = 1048577 ∨ ¬ Poss N (L.map (lateJ (i : Int)))) := Lib.hid hc1
    have HV := Lib.hid hV
    rw [HK.out] at hn32
    have HLA := Lib.hid (fun (d : Int) W (hd : 0 ≤ d ∧ d ≤ 1048577) (hW : Gr w2 W) => rLater_any A' k c' L d W HK.out hn32 hV hd (HTR.out.keep hW))
    have HPO := Lib.hid (fun (d : Int) (A2 : Option Addr) (c2 : Nat) W (hd : 0 ≤ d) (hs : stillL d L = true) (h : Tris W A2 (L.map (lateJ d))) => rPossible_any N k c2 A2 (L.map (lateJ d)) W (by rw [List.length_map]; exact HK.out) hn32 ⟨by omega, by omega⟩ (still_v hV hd hs) h)
    clear hT HTK HL1 hc0 hc1 hg1 hg2 hV HT1
    have t1 : ¬ (i : Int) - 1 < -1 := by omega
    have t2 : ¬ (1048576 : Int) < (i : Int) - 1 := by omega
    go_wp2_with fail
    refine HT2.out.mono ?_
    rintro e w3 ⟨rfl, hg3⟩
    clear HT2
    by_cases hk0 : k = 0
    · obtain rfl : i = 1048577 := by
        rcases HC1.out with h | h
        · exact h
        · exfalso
          have : L = [] := List.eq_nil_of_length_eq_zero (by rw [HK.out]; exact hk0)
          rw [this] at h
          exact h (poss_nil _)
      have kz : ((k : Int) == 0) = true := by rw [hk0]; rfl
      clear HLA HPO HC0 HC1 hk0
      go_wp2_with fail
      refine (bawake_any _).mono ?_
      rintro e w4 ⟨rfl, hg4⟩
      go_wp2_with fail
      go_ret
      exact ⟨rfl, (hgr.trans hg3).trans hg4⟩
    · have kz : ((k : Int) == 0) = false := beq_eq_false_iff_ne.2 (by omega)
      have HEND : Hid (stillL (i : Int) L = true → ¬ Poss N (L.map (lateJ (i : Int)))) := Lib.hid (fun h => by
        rcases HC1.out with e | e
        · exfalso
          subst e
          unfold stillL at h
          have hm : L.getD 0 (0, 0, 0) ∈ L := List.mem_of_getElem? (getD_of (0, 0, 0) (by rw [HK.out]; omega))
          have h1 := List.all_eq_true.1 h _ hm
          have h2 := (HV.out _ hm).1
          have h3 : (L.getD 0 (0, 0, 0)).1 + ((1048577 : Nat) : Int) < (L.getD 0 (0, 0, 0)).2.1 := by simpa using h1
          omega
        · exact e)
      rcases Nat.eq_zero_or_pos i with hi0 | hi0
      · subst hi0
        have HL0 := Lib.hid (HLA.out 0 w3 ⟨by omega, by omega⟩ hg3)
        clear hk0 t1 t2 HC0 HC1
        go_wp2_with fail
        refine HL0.out.mono ?_
        rintro e w4 ⟨A2, c2, rfl, hT4, -, -, hg4⟩
        have HL1 := Lib.hid (HLA.out 0 w4 ⟨by omega, by omega⟩ (hg3.trans hg4))
        have hgr4 := (hgr.trans hg3).trans hg4
        clear hT4 HL0 HLA
        go_wp2_with fail
        refine HL1.out.mono ?_
        rintro e w5 ⟨A3, c3, rfl, hT5, -, -, hg5⟩
        have HT5 := Lib.hid hT5
        have hgr5 := hgr4.trans hg5
        clear hT5 HL1 hg5 hgr4 hg4 hg3
        cases hs : stillL 0 L with
        | false =>
          clear HPO HEND hs
          go_wp2_with fail
          refine (bawake_any _).mono ?_
          rintro e w6 ⟨rfl, hg6⟩
          go_wp2_with fail
          go_ret
          exact ⟨rfl, hgr5.trans hg6⟩
        | true =>
          have HP5 := Lib.hid (HPO.out 0 A3 c3 w5 (by omega) hs HT5.out)
          have HNP : Hid (¬ Poss N (L.map (lateJ 0))) := Lib.hid (HEND.out hs)
          clear HPO HEND hs
          go_wp2_with fail
          refine HP5.out.mono ?_
          rintro e w6 ⟨r, rfl, hr, hg6⟩
          obtain rfl : r = false := by
            cases r with
            | false => rfl
            | true => exact absurd (hr.1 rfl) HNP.out
          clear hr HP5
          go_wp2_with fail
          refine (bawake_any _).mono ?_
          rintro e w7 ⟨rfl, hg7⟩
          go_wp2_with fail
          go_ret
          exact ⟨rfl, (hgr5.trans hg6).trans hg7⟩
      · have HPD : Hid (Poss N (L.map (lateJ ((i : Int) - 1)))) := Lib.hid (by
          rcases HC0.out with e | e
          · omega
          · exact e)
        have HST : Hid (stillL ((i : Int) - 1) L = true) := Lib.hid (can_still HV.out HPD.out)
        have HL0 := Lib.hid (HLA.out ((i : Int) - 1) w3 ⟨by omega, by omega⟩ hg3)
        have m1 : max ((i : Int) - 1) 0 = (i : Int) - 1 := by omega
        have m2 : (if ((i : Int) - 1) < 0 then (0 : Int) else (i : Int) - 1) = (i : Int) - 1 := if_neg (by omega)
        have t3 : 0 ≤ (i : Int) - 1 := by omega
        have t4 : decide (0 ≤ (i : Int) - 1) = true := by simpa using t3
        clear hk0 HC0 HC1
        go_wp2_with fail
        refine HL0.out.mono ?_
        rintro e w4 ⟨A2, c2, rfl, hT4, -, -, hg4⟩
        rw [HST.out]
        have HP4 := Lib.hid (HPO.out ((i : Int) - 1) A2 c2 w4 t3 HST.out hT4)
        have HL1 := Lib.hid (fun W (hW : Gr w4 W) => HLA.out (i : Int) W ⟨by omega, by omega⟩ ((hg3.trans hg4).trans hW))
        have hgr4 := (hgr.trans hg3).trans hg4
        clear hT4 HL0 HLA
        go_wp2_with fail
        refine HP4.out.mono ?_
        rintro e w5 ⟨r, rfl, hr, hg5⟩
        obtain rfl : r = true := hr.2 HPD.out
        have HL5 := Lib.hid (HL1.out w5 hg5)
        have hgr5 := hgr4.trans hg5
        have w1e : IntKind.i64.wrap ((i : Int) - 1 + 1) = (i : Int) := by rw [show (i : Int) - 1 + 1 = i by omega]; exact IntWalk.i64_in _ (by omega)
        have w2e : (i : Int) - 1 + 1 = i := by omega
        clear hr HP4 HL1 hg5 hgr4 m1 m2
        go_wp2_with fail
        refine HL5.out.mono ?_
        rintro e w6 ⟨A3, c3, rfl, hT6, -, -, hg6⟩
        have HT6 := Lib.hid hT6
        have hgr6 := hgr5.trans hg6
        clear hT6 HL5 hg6 hgr5 w1e w2e t1 t2 t3 t4
        cases hs : stillL (i : Int) L with
        | false =>
          clear HPO HEND hs
          go_wp2_with fail
          refine (bawake_any _).mono ?_
          rintro e w7 ⟨rfl, hg7⟩
          go_wp2_with fail
          go_ret
          exact ⟨rfl, hgr6.trans hg7⟩
        | true =>
          have HP6 := Lib.hid (HPO.out (i : Int) A3 c3 w6 (by omega) hs HT6.out)
          have HNP := Lib.hid (HEND.out hs)
          clear HPO HEND hs
          go_wp2_with fail
          refine HP6.out.mono ?_
          rintro e w7 ⟨r, rfl, hr, hg7⟩
          obtain rfl : r = false := by
            cases r with
            | false => rfl
            | true => exact absurd (hr.1 rfl) HNP.out
          clear hr HP6
          go_wp2_with fail
          refine (bawake_any _).mono ?_
          rintro e w8 ⟨rfl, hg8⟩
          go_wp2_with fail
          go_ret
          exact ⟨rfl, (hgr6.trans hg7).trans hg8⟩

end Go.Proofs.Ytfmojiaaoebodaa

namespace Go.Proofs.Ytfmojiaaoebodaa
open Go.RowKit
set_option linter.unusedSimpArgs false

set_option maxRecDepth 100000 in
set_option maxHeartbeats 16000000 in
theorem lawPlans_any (B : Int) (A : Option Addr) (n c : Nat) (l : List Jb) (w : World) (hn : l.length = n) (hl : n ≤ 9223372036854775807) (hc : n ≤ c) (h0 : A = none → c = 0) (hp : Tris w A l) :
    Calls Try.prog 3 #[.int .i64 B, .slice A n c] w fun e w' => e = .returned (.bool true) ∧ Gr w w' := by
  obtain ⟨k, hk⟩ : ∃ k, (cutJ 16 l).length = k := ⟨_, rfl⟩
  have hk33 : k ≤ 33 := by rw [← hk]; unfold cutJ; split <;> rw [List.length_take] <;> omega
  have HJB := Lib.hid (jobs_any 16 (by omega) A n c l w k hk hn hl hc h0 hp)
  generalize cutJ 16 l = L at hk HJB
  have HTK := Lib.hid (fun (A' : Option Addr) (c' : Nat) W (h : Tris W A' L) r hr => rTask_any4 B A' k c' L W hk (by omega) h r hr)
  have HPN := Lib.hid (fun (A' : Option Addr) (c' : Nat) W (h : Tris W A' L) => plan_any B A' k c' L W hk (by omega) h)
  have HPY := Lib.hid (fun (A' : Option Addr) (c' : Nat) W hT (h : Tris W A' L) => plan_ok B A' k c' L W hk hT h)
  have HCH := Lib.hid (fun (A' : Option Addr) (c' : Nat) q C m cc s JA m1 c1 J SA m2 c2 S W (h : Tris W A' L) (hR : AnsR W C m cc s JA m1 J SA m2 S) => check_any B A' k c' L q C m cc s JA m1 c1 J SA m2 c2 S W hk (by omega) h hR)
  have HRT := Lib.hid (fun (hT : okT B L = true) (A' : Option Addr) (c' : Nat) q C m cc s JA m1 c1 J SA m2 c2 S W (h : Tris W A' L) (hR : AnsR W C m cc s JA m1 J SA m2 S) => by
    obtain ⟨hB, hn32, hV⟩ := okT_v hT
    exact rRight_any B hB A' k c' L q C m cc s JA m1 c1 J SA m2 c2 S W hk (by omega) hV h hR)
  have HPO := Lib.hid (fun (hT : okT B L = true) (A' : Option Addr) (c' : Nat) W (h : Tris W A' L) => (by
    obtain ⟨hB, hn32, hV⟩ := okT_v hT
    obtain ⟨N, rfl⟩ : ∃ N : Nat, B = N := ⟨B.toNat, by omega⟩
    exact rPossible_any N k c' A' L W hk (by omega) ⟨by omega, by omega⟩ hV h : Calls Try.prog 12 #[.int .i64 B, .slice A' k c'] W (BoolP (Poss B L) W)))
  clear hn hl hc h0 hp hk
  go_enter Try.func3, Try.ntmps3
  go_wp2_with fail
  refine HJB.out.mono ?_
  rintro e w1 ⟨A', c', rfl, hcp⟩
  have HT1 := Lib.hid hcp.rd
  have hg1 := hcp.gr
  clear hcp HJB
  cases hok : okT B L with
  | false =>
    have HP1 := Lib.hid (HPN.out A' c' w1 HT1.out)
    have HOK := Lib.hid hok
    clear hok HPN HPY HRT HPO
    go_wp2_with fail
    refine HP1.out.mono ?_
    intro e w2 hf
    rcases hf with ⟨-, rfl, hg2⟩ | ⟨h, -⟩
    · have HT2 := Lib.hid (HT1.out.keep hg2)
      have hgr := hg1.trans hg2
      clear HP1 hg1 hg2 HT1
      go_upto_region 3 with fail
      generalize hW3 : World.alloc w2 _ = w3
      have hg3 : Gr w2 w3 := by rw [← hW3]; exact (Gr.refl w2).alloc _
      have hZ : Blk w3 w2.heap.size 28 #[.bool false, .slice none 0 0, .slice none 0 0, .slice none 0 0] := by rw [← hW3]; exact heap_alloc_new w2 _
      generalize w2.heap.size = Z at hZ ⊢
      have HZ := Lib.hid hZ
      have hgr3 := hgr.trans hg3
      have HT3 := Lib.hid (HT2.out.keep hg3)
      have HTK3 := Lib.hid (HTK.out A' c' w3 HT3.out false HOK.out)
      clear hW3 hZ HTK hg3 HT2
      go_wp2_with fail
      refine HTK3.out.mono ?_
      rintro e w4 ⟨rfl, hg4⟩
      have HT4 := Lib.hid (HT3.out.keep hg4)
      have z0 := (HZ.out.keep hg4).cell 0
      have z1 := (HZ.out.keep hg4).cell 1
      have z2 := (HZ.out.keep hg4).cell 2
      have z3 := (HZ.out.keep hg4).cell 3
      have HC4 := Lib.hid (HCH.out A' c' false none 0 0 [] none 0 0 [] none 0 0 [] w4 HT4.out ⟨rfl, by omega, fun _ => ⟨rfl, rfl⟩, fun a h => (by cases h), Rd_nil _ _, rfl, by omega, Rd_nil _ _, rfl, by omega, Rd_nil _ _⟩)
      have hgr4 := hgr3.trans hg4
      clear HTK3 HCH hg4 hgr3 HT3
      go_wp2_with fail
      refine HC4.out.mono ?_
      rintro e w5 ⟨r, rfl, hg5, hr, -, -⟩
      obtain rfl : r = 2 := hr HOK.out
      clear hr HC4 z0 z1 z2 z3
      go_wp2_with fail
      refine (bawake_any _).mono ?_
      rintro e w6 ⟨rfl, hg6⟩
      go_wp2_with fail
      go_ret
      exact ⟨rfl, (hgr4.trans hg5).trans hg6⟩
    · rw [HOK.out] at h; cases h
  | true =>
    have HP1 := Lib.hid (HPY.out A' c' w1 hok HT1.out)
    have HOK := Lib.hid hok
    have HRT2 := Lib.hid (HRT.out hok)
    have HPO2 := Lib.hid (HPO.out hok)
    have HPP := Lib.hid (fun p s J S (h : RightP B L p s J S) => by
      obtain ⟨hB, hn32, hV⟩ := okT_v hok
      exact RightP.poss hB.1 hV h)
    clear hok HPN HPY HRT HPO
    go_wp2_with fail
    refine HP1.out.mono ?_
    rintro e w2 ⟨p, C, m, cc, s, JA, m1, c1, J, SA, m2, c2, S, rfl, hR, hRP, -, hg2⟩
    have HR2 := Lib.hid hR
    have HRP := Lib.hid hRP
    have HPS := Lib.hid (HPP.out p s J S hRP)
    have HT2 := Lib.hid (HT1.out.keep hg2)
    have hgr := hg1.trans hg2
    clear HP1 hg1 hg2 HT1 hR hRP HPP
    go_upto_region 3 with fail
    generalize hW3 : World.alloc w2 _ = w3
    have hg3 : Gr w2 w3 := by rw [← hW3]; exact (Gr.refl w2).alloc _
    have hZ : Blk w3 w2.heap.size 28 #[.bool p, .slice C m cc, .slice JA m1 c1, .slice SA m2 c2] := by rw [← hW3]; exact heap_alloc_new w2 _
    generalize w2.heap.size = Z at hZ ⊢
    have HZ := Lib.hid hZ
    have hgr3 := hgr.trans hg3
    have HT3 := Lib.hid (HT2.out.keep hg3)
    have HR3 := Lib.hid (HR2.out.keep hg3)
    have HTK3 := Lib.hid (HTK.out A' c' w3 HT3.out true HOK.out)
    clear hW3 hZ HTK hg3 HT2 HR2
    go_wp2_with fail
    refine HTK3.out.mono ?_
    rintro e w4 ⟨rfl, hg4⟩
    have KS : Hid (∀ W', Gr w4 W' → Gr w4 W' ∧ W'.cell? ⟨Z, 0, none⟩ = some (.bool p) ∧ W'.cell? ⟨Z, 1, none⟩ = some (.slice C m cc) ∧ W'.cell? ⟨Z, 2, none⟩ = some (.slice JA m1 c1) ∧ W'.cell? ⟨Z, 3, none⟩ = some (.slice SA m2 c2)) := Lib.hid (fun W' hg => ⟨hg, (HZ.out.keep (hg4.trans hg)).cell 0, (HZ.out.keep (hg4.trans hg)).cell 1, (HZ.out.keep (hg4.trans hg)).cell 2, (HZ.out.keep (hg4.trans hg)).cell 3⟩)
    have HT4 := Lib.hid (HT3.out.keep hg4)
    have HR4 := Lib.hid (HR3.out.keep hg4)
    have hgr4 := hgr3.trans hg4
    have HRG := Lib.hid (fun W (hW : Gr w4 W) => HRT2.out A' c' p C m cc s JA m1 c1 J SA m2 c2 S W (HT4.out.keep hW) (HR4.out.keep hW))
    have HPG := Lib.hid (fun W (hW : Gr w4 W) => HPO2.out A' c' W (HT4.out.keep hW))
    have HCG := Lib.hid (fun W (hW : Gr w4 W) => HCH.out A' c' p C m cc s JA m1 c1 J SA m2 c2 S W (HT4.out.keep hW) (HR4.out.keep hW))
    have hpp : (p == p) = true := beq_self_eq_true p
    clear HTK3 HCH hg4 hgr3 HT3 HRT2 HPO2
    go_upto_region 5 with fail
    refine wp_region_held_drew (S := (fun W' => Gr w4 W' ∧ W'.cell? ⟨Z, 0, none⟩ = some (.bool p) ∧ W'.cell? ⟨Z, 1, none⟩ = some (.slice C m cc) ∧ W'.cell? ⟨Z, 2, none⟩ = some (.slice JA m1 c1) ∧ W'.cell? ⟨Z, 3, none⟩ = some (.slice SA m2 c2))) ?_ ?_ (fun hHeld => ?_)
    · kernel_rfl
    · ((try dsimp only); (first | exact hHeld | exact KS.out _ (Gr.refl w4).drew | exact KS.out _ HGD.out | exact KS.out _ HGC.out | exact KS.out _ HGB.out | exact KS.out _ HGA.out))
    refine take_in (i := 0) (v := ?_) (d := (some 55)) rfl rfl ?_ ?_ ?_ ?_ ?_ ?_ ?_ ?_
    rotate_left
    · kernel_rfl
    · kernel_rfl
    · kernel_rfl
    · (intro _ _ _ hq; exact hq)
    · rfl
    · (intro _w hSw; (try dsimp only at hSw); go_simp; try with_reducible rfl)
    · assumption
    try simp only [Act.put, List.setIfInBounds_toArray, List.set_cons_zero, List.set_cons_succ]
    refine take_in (i := 1) (v := ?_) (d := (some 56)) rfl rfl ?_ ?_ ?_ ?_ ?_ ?_ ?_ ?_
    rotate_left
    · kernel_rfl
    · kernel_rfl
    · kernel_rfl
    · (intro _ _ _ hq; exact hq)
    · rfl
    · (intro _w hSw; (try dsimp only at hSw); go_simp; try with_reducible rfl)
    · assumption
    try simp only [Act.put, List.setIfInBounds_toArray, List.set_cons_zero, List.set_cons_succ]
    refine take_in (i := 2) (v := ?_) (d := (some 57)) rfl rfl ?_ ?_ ?_ ?_ ?_ ?_ ?_ ?_
    rotate_left
    · kernel_rfl
    · kernel_rfl
    · kernel_rfl
    · (intro _ _ _ hq; exact hq)
    · rfl
    · (intro _w hSw; (try dsimp only at hSw); go_simp; try with_reducible rfl)
    · assumption
    try simp only [Act.put, List.setIfInBounds_toArray, List.set_cons_zero, List.set_cons_succ]
    refine take_in (i := 3) (v := ?_) (d := (some 58)) rfl rfl ?_ ?_ ?_ ?_ ?_ ?_ ?_ ?_
    rotate_left
    · kernel_rfl
    · kernel_rfl
    · kernel_rfl
    · (intro _ _ _ hq; exact hq)
    · rfl
    · (intro _w hSw; (try dsimp only at hSw); go_simp; try with_reducible rfl)
    · assumption
    try simp only [Act.put, List.setIfInBounds_toArray, List.set_cons_zero, List.set_cons_succ]
    refine take_in (i := 4) (v := ?_) (d := (some 59)) rfl rfl ?_ ?_ ?_ ?_ ?_ ?_ ?_ ?_
    rotate_left
    · kernel_rfl
    · kernel_rfl
    · kernel_rfl
    · (intro _ _ _ hq; exact hq)
    · rfl
    · (intro _w hSw; (try dsimp only at hSw); go_simp; try with_reducible rfl)
    · assumption
    try simp only [Act.put, List.setIfInBounds_toArray, List.set_cons_zero, List.set_cons_succ]
    refine take_in (i := 5) (v := ?_) (d := (some 60)) rfl rfl ?_ ?_ ?_ ?_ ?_ ?_ ?_ ?_
    rotate_left
    · kernel_rfl
    · kernel_rfl
    · kernel_rfl
    · (intro _ _ _ hq; exact hq)
    · rfl
    · (intro _w hSw; (try dsimp only at hSw); go_simp; try with_reducible rfl)
    · assumption
    try simp only [Act.put, List.setIfInBounds_toArray, List.set_cons_zero, List.set_cons_succ]
    refine wpAnyH_ready (rs := [6]) ?_ ?_ ?_
    · kernel_rfl
    · simp
    refine (AllReadyH.cons rfl (fun K hK => ?_) AllReadyH.nil)
    go_simp
    first | (go_at_call 11; (with_reducible refine (HRG.out _ hHeld.1).mono ?_); rintro e w5 ⟨r, rfl, hr, hg5⟩; obtain rfl : r = true := hr.2 HRP.out; have HGA := Lib.hid (hHeld.1.trans hg5); clear hr hg5) | (go_at_call 12; (with_reducible refine (HPG.out _ hHeld.1).mono ?_); rintro e w6 ⟨r, rfl, hr, hg6⟩; obtain rfl : r = p := Bool.eq_iff_iff.2 (hr.trans HPS.out.symm); have HGB := Lib.hid (hHeld.1.trans hg6); clear hr hg6) | (go_at_call 9; (with_reducible refine (HCG.out _ hHeld.1).mono ?_); rintro e w7 ⟨r, rfl, hg7, -, hr, -⟩; obtain rfl : r = 0 := hr HOK.out HRP.out; have HGC := Lib.hid (hHeld.1.trans hg7); clear hr hg7) | (go_at_call 10; (with_reducible refine (bawake_any _).mono ?_); rintro e w8 ⟨rfl, hg8⟩; have HGD := Lib.hid (hHeld.1.trans hg8); clear hg8)
    refine hK.out _ _ ?_ (fun hHeld => ?_)
    · ((try dsimp only); (first | exact hHeld | exact KS.out _ (Gr.refl w4).drew | exact KS.out _ HGD.out | exact KS.out _ HGC.out | exact KS.out _ HGB.out | exact KS.out _ HGA.out))
    clear hK K
    try simp only [Act.put, List.setIfInBounds_toArray, List.set_cons_zero, List.set_cons_succ]
    refine take_in (i := 7) (v := ?_) (d := (some 62)) rfl rfl ?_ ?_ ?_ ?_ ?_ ?_ ?_ ?_
    rotate_left
    · kernel_rfl
    · kernel_rfl
    · kernel_rfl
    · (intro _ _ _ hq; exact hq)
    · rfl
    · (intro _w hSw; (try dsimp only at hSw); go_simp; try with_reducible rfl)
    · assumption
    try simp only [Act.put, List.setIfInBounds_toArray, List.set_cons_zero, List.set_cons_succ]
    refine take_in (i := 8) (v := ?_) (d := (some 63)) rfl rfl ?_ ?_ ?_ ?_ ?_ ?_ ?_ ?_
    rotate_left
    · kernel_rfl
    · kernel_rfl
    · kernel_rfl
    · (intro _ _ _ hq; exact hq)
    · rfl
    · (intro _w hSw; (try dsimp only at hSw); go_simp; try with_reducible rfl)
    · assumption
    try simp only [Act.put, List.setIfInBounds_toArray, List.set_cons_zero, List.set_cons_succ]
    refine take_in (i := 9) (v := ?_) (d := (some 64)) rfl rfl ?_ ?_ ?_ ?_ ?_ ?_ ?_ ?_
    rotate_left
    · kernel_rfl
    · kernel_rfl
    · kernel_rfl
    · (intro _ _ _ hq; exact hq)
    · rfl
    · (intro _w hSw; (try dsimp only at hSw); go_simp; try with_reducible rfl)
    · assumption
    try simp only [Act.put, List.setIfInBounds_toArray, List.set_cons_zero, List.set_cons_succ]
    refine take_in (i := 10) (v := ?_) (d := (some 65)) rfl rfl ?_ ?_ ?_ ?_ ?_ ?_ ?_ ?_
    rotate_left
    · kernel_rfl
    · kernel_rfl
    · kernel_rfl
    · (intro _ _ _ hq; exact hq)
    · rfl
    · (intro _w hSw; (try dsimp only at hSw); go_simp; try with_reducible rfl)
    · assumption
    try simp only [Act.put, List.setIfInBounds_toArray, List.set_cons_zero, List.set_cons_succ]
    refine take_in (i := 11) (v := ?_) (d := (some 66)) rfl rfl ?_ ?_ ?_ ?_ ?_ ?_ ?_ ?_
    rotate_left
    · kernel_rfl
    · kernel_rfl
    · kernel_rfl
    · (intro _ _ _ hq; exact hq)
    · rfl
    · (intro _w hSw; (try dsimp only at hSw); go_simp; try with_reducible rfl)
    · assumption
    try simp only [Act.put, List.setIfInBounds_toArray, List.set_cons_zero, List.set_cons_succ]
    refine take_in (i := 12) (v := ?_) (d := (some 67)) rfl rfl ?_ ?_ ?_ ?_ ?_ ?_ ?_ ?_
    rotate_left
    · kernel_rfl
    · kernel_rfl
    · kernel_rfl
    · (intro _ _ _ hq; exact hq)
    · rfl
    · (intro _w hSw; (try dsimp only at hSw); go_simp; try with_reducible rfl)
    · assumption
    try simp only [Act.put, List.setIfInBounds_toArray, List.set_cons_zero, List.set_cons_succ]
    refine wpAnyH_ready (rs := [13]) ?_ ?_ ?_
    · kernel_rfl
    · simp
    refine (AllReadyH.cons rfl (fun K hK => ?_) AllReadyH.nil)
    go_simp
    first | (go_at_call 11; (with_reducible refine (HRG.out _ hHeld.1).mono ?_); rintro e w5 ⟨r, rfl, hr, hg5⟩; obtain rfl : r = true := hr.2 HRP.out; have HGA := Lib.hid (hHeld.1.trans hg5); clear hr hg5) | (go_at_call 12; (with_reducible refine (HPG.out _ hHeld.1).mono ?_); rintro e w6 ⟨r, rfl, hr, hg6⟩; obtain rfl : r = p := Bool.eq_iff_iff.2 (hr.trans HPS.out.symm); have HGB := Lib.hid (hHeld.1.trans hg6); clear hr hg6) | (go_at_call 9; (with_reducible refine (HCG.out _ hHeld.1).mono ?_); rintro e w7 ⟨r, rfl, hg7, -, hr, -⟩; obtain rfl : r = 0 := hr HOK.out HRP.out; have HGC := Lib.hid (hHeld.1.trans hg7); clear hr hg7) | (go_at_call 10; (with_reducible refine (bawake_any _).mono ?_); rintro e w8 ⟨rfl, hg8⟩; have HGD := Lib.hid (hHeld.1.trans hg8); clear hg8)
    refine hK.out _ _ ?_ (fun hHeld => ?_)
    · ((try dsimp only); (first | exact hHeld | exact KS.out _ (Gr.refl w4).drew | exact KS.out _ HGD.out | exact KS.out _ HGC.out | exact KS.out _ HGB.out | exact KS.out _ HGA.out))
    clear hK K
    try simp only [Act.put, List.setIfInBounds_toArray, List.set_cons_zero, List.set_cons_succ]
    refine take_in (i := 14) (v := ?_) (d := (some 69)) rfl rfl ?_ ?_ ?_ ?_ ?_ ?_ ?_ ?_
    rotate_left
    · kernel_rfl
    · kernel_rfl
    · kernel_rfl
    · (intro _ _ _ hq; exact hq)
    · rfl
    · (intro _w hSw; (try dsimp only at hSw); go_simp; try with_reducible rfl)
    · assumption
    try simp only [Act.put, List.setIfInBounds_toArray, List.set_cons_zero, List.set_cons_succ]
    refine take_in (i := 15) (v := ?_) (d := (some 70)) rfl rfl ?_ ?_ ?_ ?_ ?_ ?_ ?_ ?_
    rotate_left
    · kernel_rfl
    · kernel_rfl
    · kernel_rfl
    · (intro _ _ _ hq; exact hq)
    · rfl
    · (intro _w hSw; (try dsimp only at hSw); go_simp; try with_reducible rfl)
    · assumption
    try simp only [Act.put, List.setIfInBounds_toArray, List.set_cons_zero, List.set_cons_succ]
    refine take_in (i := 16) (v := ?_) (d := (some 71)) rfl rfl ?_ ?_ ?_ ?_ ?_ ?_ ?_ ?_
    rotate_left
    · kernel_rfl
    · kernel_rfl
    · kernel_rfl
    · (intro _ _ _ hq; exact hq)
    · rfl
    · (intro _w hSw; (try dsimp only at hSw); go_simp; try with_reducible rfl)
    · assumption
    try simp only [Act.put, List.setIfInBounds_toArray, List.set_cons_zero, List.set_cons_succ]
    refine take_in (i := 17) (v := ?_) (d := (some 72)) rfl rfl ?_ ?_ ?_ ?_ ?_ ?_ ?_ ?_
    rotate_left
    · kernel_rfl
    · kernel_rfl
    · kernel_rfl
    · (intro _ _ _ hq; exact hq)
    · rfl
    · (intro _w hSw; (try dsimp only at hSw); go_simp; try with_reducible rfl)
    · assumption
    try simp only [Act.put, List.setIfInBounds_toArray, List.set_cons_zero, List.set_cons_succ]
    refine take_in (i := 18) (v := ?_) (d := (some 73)) rfl rfl ?_ ?_ ?_ ?_ ?_ ?_ ?_ ?_
    rotate_left
    · kernel_rfl
    · kernel_rfl
    · kernel_rfl
    · (intro _ _ _ hq; exact hq)
    · rfl
    · (intro _w hSw; (try dsimp only at hSw); go_simp; try with_reducible rfl)
    · assumption
    try simp only [Act.put, List.setIfInBounds_toArray, List.set_cons_zero, List.set_cons_succ]
    refine take_in (i := 19) (v := ?_) (d := (some 74)) rfl rfl ?_ ?_ ?_ ?_ ?_ ?_ ?_ ?_
    rotate_left
    · kernel_rfl
    · kernel_rfl
    · kernel_rfl
    · (intro _ _ _ hq; exact hq)
    · rfl
    · (intro _w hSw; (try dsimp only at hSw); go_simp; try with_reducible rfl)
    · assumption
    try simp only [Act.put, List.setIfInBounds_toArray, List.set_cons_zero, List.set_cons_succ]
    refine wpAnyH_ready (rs := [20]) ?_ ?_ ?_
    · kernel_rfl
    · simp
    refine (AllReadyH.cons rfl (fun K hK => ?_) AllReadyH.nil)
    go_simp
    first | (go_at_call 11; (with_reducible refine (HRG.out _ hHeld.1).mono ?_); rintro e w5 ⟨r, rfl, hr, hg5⟩; obtain rfl : r = true := hr.2 HRP.out; have HGA := Lib.hid (hHeld.1.trans hg5); clear hr hg5) | (go_at_call 12; (with_reducible refine (HPG.out _ hHeld.1).mono ?_); rintro e w6 ⟨r, rfl, hr, hg6⟩; obtain rfl : r = p := Bool.eq_iff_iff.2 (hr.trans HPS.out.symm); have HGB := Lib.hid (hHeld.1.trans hg6); clear hr hg6) | (go_at_call 9; (with_reducible refine (HCG.out _ hHeld.1).mono ?_); rintro e w7 ⟨r, rfl, hg7, -, hr, -⟩; obtain rfl : r = 0 := hr HOK.out HRP.out; have HGC := Lib.hid (hHeld.1.trans hg7); clear hr hg7) | (go_at_call 10; (with_reducible refine (bawake_any _).mono ?_); rintro e w8 ⟨rfl, hg8⟩; have HGD := Lib.hid (hHeld.1.trans hg8); clear hg8)
    refine hK.out _ _ ?_ (fun hHeld => ?_)
    · ((try dsimp only); (first | exact hHeld | exact KS.out _ (Gr.refl w4).drew | exact KS.out _ HGD.out | exact KS.out _ HGC.out | exact KS.out _ HGB.out | exact KS.out _ HGA.out))
    clear hK K
    try simp only [Act.put, List.setIfInBounds_toArray, List.set_cons_zero, List.set_cons_succ]
    refine take_in (i := 21) (v := ?_) (d := (some 76)) rfl rfl ?_ ?_ ?_ ?_ ?_ ?_ ?_ ?_
    rotate_left
    · kernel_rfl
    · kernel_rfl
    · kernel_rfl
    · (intro _ _ _ hq; exact hq)
    · rfl
    · (intro _w hSw; (try dsimp only at hSw); go_simp; try with_reducible rfl)
    · assumption
    try simp only [Act.put, List.setIfInBounds_toArray, List.set_cons_zero, List.set_cons_succ]
    refine take_in (i := 22) (v := ?_) (d := (some 77)) rfl rfl ?_ ?_ ?_ ?_ ?_ ?_ ?_ ?_
    rotate_left
    · kernel_rfl
    · kernel_rfl
    · kernel_rfl
    · (intro _ _ _ hq; exact hq)
    · rfl
    · (intro _w hSw; (try dsimp only at hSw); go_simp; try with_reducible rfl)
    · assumption
    try simp only [Act.put, List.setIfInBounds_toArray, List.set_cons_zero, List.set_cons_succ]
    refine take_in (i := 23) (v := ?_) (d := (some 78)) rfl rfl ?_ ?_ ?_ ?_ ?_ ?_ ?_ ?_
    rotate_left
    · kernel_rfl
    · kernel_rfl
    · kernel_rfl
    · (intro _ _ _ hq; exact hq)
    · rfl
    · (intro _w hSw; (try dsimp only at hSw); go_simp; try with_reducible rfl)
    · assumption
    try simp only [Act.put, List.setIfInBounds_toArray, List.set_cons_zero, List.set_cons_succ]
    refine wpAnyH_ready (rs := [24]) ?_ ?_ ?_
    · kernel_rfl
    · simp
    refine (AllReadyH.cons rfl (fun K hK => ?_) AllReadyH.nil)
    go_simp
    first | (go_at_call 11; (with_reducible refine (HRG.out _ hHeld.1).mono ?_); rintro e w5 ⟨r, rfl, hr, hg5⟩; obtain rfl : r = true := hr.2 HRP.out; have HGA := Lib.hid (hHeld.1.trans hg5); clear hr hg5) | (go_at_call 12; (with_reducible refine (HPG.out _ hHeld.1).mono ?_); rintro e w6 ⟨r, rfl, hr, hg6⟩; obtain rfl : r = p := Bool.eq_iff_iff.2 (hr.trans HPS.out.symm); have HGB := Lib.hid (hHeld.1.trans hg6); clear hr hg6) | (go_at_call 9; (with_reducible refine (HCG.out _ hHeld.1).mono ?_); rintro e w7 ⟨r, rfl, hg7, -, hr, -⟩; obtain rfl : r = 0 := hr HOK.out HRP.out; have HGC := Lib.hid (hHeld.1.trans hg7); clear hr hg7) | (go_at_call 10; (with_reducible refine (bawake_any _).mono ?_); rintro e w8 ⟨rfl, hg8⟩; have HGD := Lib.hid (hHeld.1.trans hg8); clear hg8)
    refine hK.out _ _ ?_ (fun hHeld => ?_)
    · ((try dsimp only); (first | exact hHeld | exact KS.out _ (Gr.refl w4).drew | exact KS.out _ HGD.out | exact KS.out _ HGC.out | exact KS.out _ HGB.out | exact KS.out _ HGA.out))
    clear hK K
    try simp only [Act.put, List.setIfInBounds_toArray, List.set_cons_zero, List.set_cons_succ]
    refine take_in (i := 25) (v := ?_) (d := (some 80)) rfl rfl ?_ ?_ ?_ ?_ ?_ ?_ ?_ ?_
    rotate_left
    · kernel_rfl
    · kernel_rfl
    · kernel_rfl
    · (intro _ _ _ hq; exact hq)
    · rfl
    · (intro _w hSw; (try dsimp only at hSw); go_simp; try with_reducible rfl)
    · assumption
    try simp only [Act.put, List.setIfInBounds_toArray, List.set_cons_zero, List.set_cons_succ]
    refine take_in (i := 26) (v := ?_) (d := (some 4)) rfl rfl ?_ ?_ ?_ ?_ ?_ ?_ ?_ ?_
    rotate_left
    · kernel_rfl
    · kernel_rfl
    · kernel_rfl
    · (intro _ _ _ hq; exact hq)
    · rfl
    · (intro _w hSw; (try dsimp only at hSw); go_simp; try with_reducible rfl)
    · assumption
    try simp only [Act.put, List.setIfInBounds_toArray, List.set_cons_zero, List.set_cons_succ]
    refine wpAnyH_done ?_ ?_ _
    · kernel_rfl
    rotate_left
    all_goals
      go_wp2_with fail
      go_ret
      exact ⟨rfl, hgr4.trans HGD.out⟩

end Go.Proofs.Ytfmojiaaoebodaa
