/- Layer 3: a damaged word compared with another one. -/
import Derived.Test.YtbkbgcapkhelhaaLSus
import Derived.Test.YtbkbgcapkhelhaaLZero
namespace Go.Proofs.Ytbkbgcapkhelhaa
open Go.RowKit
set_option linter.unusedSimpArgs false

def cnt (f : Nat → Bool) (j : Nat) : Nat := ((List.range j).filter f).length
theorem cnt_le (f : Nat → Bool) (j : Nat) : cnt f j ≤ j := by
  unfold cnt; have := List.length_filter_le f (List.range j); simpa using this
theorem cnt_succ (f : Nat → Bool) (j : Nat) : cnt f (j + 1) = cnt f j + if f j then 1 else 0 := by
  unfold cnt
  rw [List.range_succ, List.filter_append, List.length_append]
  congr 1
  cases h : f j <;> simp [List.filter_cons, h]
def difB (ws os : List G) (i : Nat) : Bool := !decide (os.getD i g0 = ws.getD i g0)
def errB (ws os : List G) (L : Nat → Bool) (i : Nat) : Bool := difB ws os i && !L i
theorem g_ne_test (a b : G) : (((a.v : Nat) : Int) != ((b.v : Nat) : Int)) = !decide (a = b) := by
  rw [Bool.eq_iff_iff]
  simp only [bne_iff_ne, ne_eq, Bool.not_eq_true', decide_eq_false_iff_not]
  constructor
  · intro h e; exact h (by rw [e])
  · intro h e; exact h (G.eq (by omega))
def cmpB (n p k : Nat) (ws os : List G) (L : Nat → Bool) : Bool := decide (2 * cnt (errB ws os L) n + k ≤ p) && (synL os p).all (fun x => decide (x = g0))

set_option maxRecDepth 100000 in
set_option maxHeartbeats 4000000 in
theorem compare_any {D T : Nat} {Aw As : Option Addr} {n wc p sc : Nat} {ws ss : List G} {L : Nat → Bool} {k : Nat} (A : Option Addr) (c : Nat) (os : List G) (w : World) (h : Dmg w D T Aw As n wc p sc ws ss L k) (ho : os.length = n) (hA : Byts w A os) :
    Calls Try.prog 46 #[.pointer (some ⟨D, 0, none⟩), .slice A n c] w fun e w' => e = .returned (.tuple #[.int .i64 (cnt (difB ws os) n : Int), .bool (cmpB n p k ws os L)]) ∧ Gr w w' := by
  have HD := Lib.hid h
  have HO := Lib.hid ho
  have HA := Lib.hid hA
  have hn2 := h.n2
  have hp2 := h.p2
  have hk2 := h.k2
  have c0 := h.c0
  have c1 := h.c1
  have c2 := h.c2
  have c4 := h.c4
  clear h ho hA
  go_enter Try.func46, Try.ntmps46
  go_wp2_with fail
  go_loopw [4, 6, 12] (fun a b z wr => ∃ j : Nat, j ≤ n ∧ z = .int .i64 j ∧ a = .int .i64 (cnt (difB ws os) j : Int) ∧ b = .int .i64 (cnt (errB ws os L) j : Int) ∧ wr = w) (fun _ _ z _ => n - (intOf z).toNat)
  case atStart => exact ⟨0, Nat.zero_le _, rfl, rfl, rfl, rfl⟩
  case round =>
    obtain ⟨j, hj, rfl, rfl, rfl, rfl⟩ := hrel
    by_cases hlt : j < n
    · obtain ⟨b, o, rfl, d0⟩ := Byts_at HA.out (i := j) (by rw [HO.out]; exact hlt)
      obtain ⟨b', o', rfl, d1⟩ := Byts_at HD.out.word (i := j) (by rw [HD.out.wl]; exact hlt)
      have c3 := HD.out.c3 j (by omega)
      have h1 := Lib.hid (cnt_succ (difB ws os) j)
      have h2 := Lib.hid (cnt_succ (errB ws os L) j)
      have ht := g_ne_test (os.getD j g0) (ws.getD j g0)
      have hb1 := cnt_le (difB ws os) j
      have hb2 := cnt_le (errB ws os L) j
      have hdb : Hid (difB ws os j = !decide (os.getD j g0 = ws.getD j g0)) := Lib.hid rfl
      have heb : Hid (errB ws os L j = (difB ws os j && !L j)) := Lib.hid rfl
      generalize os.getD j g0 = x at d0 ht hdb
      generalize ws.getD j g0 = y at d1 ht hdb
      generalize hcd : cnt (difB ws os) j = cd at h1 hb1 ⊢
      generalize hce : cnt (errB ws os L) j = ce at h2 hb2 ⊢
      clear hcd hce
      have hj0 : (0 : Int) ≤ (j : Int) := by omega
      have hj1 : (j : Int) < 255 := by omega
      have hj2 : j < 255 := by omega
      generalize hl : L j = l at c3 heb
      clear hl
      rcases hd : decide (x = y) with _ | _
      · rw [hd] at ht hdb
        have hdt : Hid (difB ws os j = true) := Lib.hid (by rw [hdb.out]; rfl)
        clear hd
        cases l with
        | true =>
          have het : Hid (errB ws os L j = false) := Lib.hid (by rw [heb.out, hdt.out]; rfl)
          go_wp2_with fail
          go_roundw
          case rel => exact ⟨j + 1, by omega, by go_num, by rw [h1.out, hdt.out]; go_num, by rw [h2.out, het.out]; rfl, by trivial⟩
          case measure => simp [intOf]; omega
        | false =>
          have het : Hid (errB ws os L j = true) := Lib.hid (by rw [heb.out, hdt.out]; rfl)
          go_wp2_with fail
          go_roundw
          case rel => exact ⟨j + 1, by omega, by go_num, by rw [h1.out, hdt.out]; go_num, by rw [h2.out, het.out]; go_num, by trivial⟩
          case measure => simp [intOf]; omega
      · rw [hd] at ht hdb
        have hdt : Hid (difB ws os j = false) := Lib.hid (by rw [hdb.out]; rfl)
        have het : Hid (errB ws os L j = false) := Lib.hid (by rw [heb.out, hdt.out]; rfl)
        clear hd
        go_wp2_with fail
        go_roundw
        case rel => exact ⟨j + 1, by omega, by go_num, by rw [h1.out, hdt.out]; rfl, by rw [h2.out, het.out]; rfl, by trivial⟩
        case measure => simp [intOf]; omega
    · have hjn : j = n := by omega
      have hlt' : ¬ ((j : Int) < (n : Int)) := by omega
      have HJ := Lib.hid hjn
      have hb2 := cnt_le (errB ws os L) j
      have HC : Hid (cmpB n p k ws os L = (decide ((2 : Int) * (cnt (errB ws os L) j : Int) + (k : Int) ≤ (p : Int)) && (synL os p).all (fun x => decide (x = g0)))) := Lib.hid (by
        unfold cmpB; rw [hjn]; congr 1
        rw [decide_eq_decide]; omega)
      have HF : Hid (cnt (difB ws os) n = cnt (difB ws os) j) := Lib.hid (by rw [hjn])
      generalize cnt (errB ws os L) j = ce at hb2 HC ⊢
      generalize cnt (difB ws os) j = cd at HF ⊢
      clear hjn
      rcases ht : decide ((2 : Int) * (ce : Int) + (k : Int) ≤ (p : Int)) with _ | _
      · rw [ht] at HC
        go_wp2_with fail
        go_ret2
        exact ⟨by rw [HF.out, HC.out]; rfl, Gr.refl _⟩
      · rw [ht] at HC
        rcases hz : (synL os p).all (fun x => decide (x = g0)) with _ | _
        all_goals
          rw [hz] at HC
          have HZ := Lib.hid hz
          clear hz
          go_wp2_with fail
          refine (values_any T A n c os p _ HD.out.tabs HO.out (by omega) (by omega) HA.out).mono ?_
          rintro e w1 ⟨g1, rfl, hg1', hB, hg1⟩
          go_wp2_with fail
          refine (areZero_any (some ⟨g1, 0, none⟩) p p (synL os p) w1 (synL_len _ _) (by omega) hB.row.pts _ HZ.out).mono ?_
          rintro e w2 ⟨rfl, rfl⟩
          go_wp2_with fail
          go_ret2
          exact ⟨by rw [HF.out, HC.out]; rfl, hg1⟩
end Go.Proofs.Ytbkbgcapkhelhaa
