/- Layer 2: what a plan is worth, and what it leaves.
Layer 2: tables of numbers; the least that a bound's number may be. -/
import Derived.Test.YtpnkpejnahhajaaGreatBc17
import Derived.Test.YtpnkpejnahhajaaGreatBc14
import Derived.Test.YtpnkpejnahhajaaGreatBc0
namespace Go.Proofs.YtpnkpejnahhajaaGreat
open Go.RowKit
set_option linter.unusedSimpArgs false

theorem take_bl {m : List Bl} {k : Nat} (h : k < m.length) : m.take (k + 1) = m.take k ++ [bl m k] := by
  rw [List.take_add_one, getD_of (0, 0, 0) h]; rfl
theorem sumV_take {m : List Bl} {k : Nat} (h : k < m.length) : sumV (m.take (k + 1)) = sumV (m.take k) + (bl m k).2.2 := by
  rw [take_bl h, sumV_app]; simp [sumV]
/-- What is made by a right plan for a task. -/
def Mades (bs m : List Bl) : Prop := m.length ≤ 8192 ∧ ∀ b ∈ m, b ∈ bs
theorem readL_made {bs : List Bl} {W H : Int} {plan : List St} {m : List Bl} (h : readL bs W H plan = some m) : Mades bs m := by
  unfold readL at h
  split at h
  · rename_i h8
    obtain ⟨Q, hQ⟩ : ∃ Q, rdP bs W H plan = Q := ⟨_, rfl⟩
    rw [hQ] at h
    match Q, hQ, h with
    | some (m', []), hQ, h =>
      obtain rfl : m' = m := by simpa [allOf] using h
      obtain ⟨h1, h2⟩ := rdP_made bs _ _ _ _ _ _ (Nat.le_refl _) hQ
      exact ⟨by omega, h1⟩
    | some (_, _ :: _), _, h => simp [allOf] at h
    | none, _, h => simp [allOf] at h
  · cases h
theorem Mades.take {bs m : List Bl} (h : Mades bs m) (k : Nat) : Mades bs (m.take k) :=
  ⟨Nat.le_trans (List.length_take_le' ..) h.1, fun b hb => h.2 b (List.mem_of_mem_take hb)⟩
theorem Mades.bd {bs m : List Bl} (hb : ∀ b ∈ bs, blB b = true) (h : Mades bs m) : (0 ≤ sumV m ∧ sumV m ≤ 8589934592) ∧ (0 ≤ sumA m ∧ sumA m ≤ 18874368) := by
  have h1 := sum_bd hb h.2
  have h2 := h.1
  omega
theorem Mades.at {bs m : List Bl} (hb : ∀ b ∈ bs, blB b = true) (h : Mades bs m) {k : Nat} (hk : k < m.length) : (1 ≤ (bl m k).1 ∧ (bl m k).1 ≤ 48) ∧ (1 ≤ (bl m k).2.1 ∧ (bl m k).2.1 ≤ 48) ∧ 0 ≤ (bl m k).2.2 ∧ (bl m k).2.2 ≤ 1048576 :=
  (blB_iff _).1 (hb _ (h.2 _ (bl_mem hk)))

/-- What follow answers. -/
def FollowPost (t : Bool) (R : Option (List Bl)) (w : World) (e : Ending) (w' : World) : Prop :=
  Gr w w' ∧ match t, R with
  | false, _ => e = .returned (.tuple #[.slice none 0 0, .int .i64 2])
  | true, none => e = .returned (.tuple #[.slice none 0 0, .int .i64 20])
  | true, some m => ∃ A c, e = .returned (.tuple #[.slice A m.length c, .int .i64 0]) ∧ Tris w' A m

theorem Sz_of {W H : Int} {bs : List Bl} (h : taskB W H bs = true) : Sz W H := by
  obtain ⟨h1, h2, -⟩ := (taskB_iff _ _ _).1 h
  exact ⟨h1, h2⟩

set_option maxRecDepth 100000 in
set_option maxHeartbeats 1000000 in
theorem follow_any (W H : Int) (BA PA : Option Addr) (bn bc n pc : Nat) (bs : List Bl) (plan : List St) (w : World) (hbn : bs.length = bn) (hbl : bn ≤ 281474976710656) (hn : plan.length = n) (hl : n ≤ 281474976710656) (hB : Tris w BA bs) (hP : Pts w PA plan) :
    Calls Tryz.prog 33 #[.int .i64 W, .int .i64 H, .slice BA bn bc, .slice PA n pc] w (FollowPost (taskB W H bs) (readL bs W H plan) w) := by
  rcases ht : taskB W H bs with _ | _
  · have HT := Lib.hid (fun w (hB : Tris w BA bs) => isTask_any W H BA bn bc bs w hbn hbl hB _ ht)
    clear ht
    go_enter Tryz.func33, Tryz.ntmps33
    go_wp2_with fail
    refine (HT.out _ hB).mono ?_
    rintro e w1 ⟨rfl, hb⟩
    go_wp2_with fail
    go_ret2
    exact ⟨hb, rfl⟩
  · have HT := Lib.hid (isTask_any W H BA bn bc bs w hbn hbl hB _ ht)
    have HR := Lib.hid (fun w' (h : Gr w w') => read_any W H BA PA bn bc n pc bs plan w' hbn hn hl (Sz_of ht) (hB.keep h) (hP.keep h))
    generalize readL bs W H plan = R at HR
    clear ht hB hP hbn hn
    go_enter Tryz.func33, Tryz.ntmps33
    go_wp2_with fail
    refine HT.out.mono ?_
    rintro e w1 ⟨rfl, hb⟩
    go_wp2_with fail
    refine (HR.out _ hb).mono ?_
    rcases R with _ | m
    · rintro e w2 ⟨hb2, v, rfl⟩
      go_wp2_with fail
      go_ret2
      exact ⟨hb.trans hb2, rfl⟩
    · rintro e w2 ⟨hb2, A, c, rfl, hT⟩
      have HTT := Lib.hid hT
      clear hT
      go_wp2_with fail
      go_ret2
      exact ⟨hb.trans hb2, A, c, rfl, HTT.out⟩

/-- The two numbers that Worth (f = sumV) answers. -/
def worthL (W H : Int) (bs : List Bl) (plan : List St) : Int × Int :=
  if taskB W H bs = true then (match readL bs W H plan with
    | some m => (sumV m, 0)
    | none => (0, 20)) else (0, 2)
def restL (W H : Int) (bs : List Bl) (plan : List St) : Int × Int :=
  if taskB W H bs = true then (match readL bs W H plan with
    | some m => (W * H - sumA m, 0)
    | none => (0, 20)) else (0, 2)

set_option maxRecDepth 100000 in
set_option maxHeartbeats 1000000 in
theorem Worth_any (W H : Int) (BA PA : Option Addr) (bn bc n pc : Nat) (bs : List Bl) (plan : List St) (w : World) (hbn : bs.length = bn) (hbl : bn ≤ 281474976710656) (hn : plan.length = n) (hl : n ≤ 281474976710656) (hB : Tris w BA bs) (hP : Pts w PA plan) :
    Calls Tryz.prog 16 #[.int .i64 W, .int .i64 H, .slice BA bn bc, .slice PA n pc] w fun e w' => e = .returned (.tuple #[.int .i64 (worthL W H bs plan).1, .int .i64 (worthL W H bs plan).2]) ∧ Gr w w' := by
  have HF := Lib.hid (follow_any W H BA PA bn bc n pc bs plan w hbn hbl hn hl hB hP)
  have HM := Lib.hid (fun m (h : readL bs W H plan = some m) => readL_made h)
  have HV := Lib.hid (fun (h : taskB W H bs = true) => ((taskB_iff _ _ _).1 h).2.2.2)
  obtain ⟨R, hR⟩ : ∃ R, readL bs W H plan = R := ⟨_, rfl⟩
  obtain ⟨t, ht⟩ : ∃ t, taskB W H bs = t := ⟨_, rfl⟩
  obtain ⟨r, hr⟩ : ∃ r, worthL W H bs plan = r := ⟨_, rfl⟩
  rw [hR, ht] at HF
  rw [hr]
  unfold worthL at hr
  rw [hR, ht] at hr
  clear hB hP hn hbn
  rcases t with _ | _
  · obtain rfl : r = (0, 2) := by simpa using hr.symm
    clear hr hR ht HM HV
    go_enter Tryz.func16, Tryz.ntmps16
    go_wp2_with fail
    refine HF.out.mono ?_
    rintro e w1 ⟨hb, rfl⟩
    go_wp2_with fail
    go_ret2
    exact ⟨rfl, hb⟩
  · rcases R with _ | m
    · obtain rfl : r = (0, 20) := by simpa using hr.symm
      clear hr hR ht HM HV
      go_enter Tryz.func16, Tryz.ntmps16
      go_wp2_with fail
      refine HF.out.mono ?_
      rintro e w1 ⟨hb, rfl⟩
      go_wp2_with fail
      go_ret2
      exact ⟨rfl, hb⟩
    · obtain rfl : r = (sumV m, 0) := by simpa using hr.symm
      have hV := HV.out ht
      have hM := HM.out m hR
      have HVV := Lib.hid hV
      have HMM := Lib.hid hM
      have hml := hM.1
      clear hr hR ht HM HV hV hM
      go_enter Tryz.func16, Tryz.ntmps16
      go_wp2_with fail
      refine HF.out.mono ?_
      rintro e w1 ⟨hb, A, c, rfl, hT⟩
      have HT := Lib.hid hT
      obtain ⟨mn, hmn⟩ : ∃ mn, m.length = mn := ⟨_, rfl⟩
      have HN := Lib.hid hmn
      rw [hmn] at hml ⊢
      clear hT HF hmn
      go_wp2_with fail
      go_loopw [12, 28] (fun s i wr => ∃ k : Nat, k ≤ mn ∧ i = .int .i64 k ∧ s = .int .i64 (sumV (m.take k)) ∧ Gr w1 wr) (fun _ i _ => mn - (intOf i).toNat)
      case atStart => exact ⟨0, Nat.zero_le _, rfl, rfl, Gr.refl _⟩
      case round =>
        obtain ⟨k, hk, rfl, rfl, hg⟩ := hrel
        by_cases hlt : k < mn
        · have hkl : k < m.length := by have := HN.out; omega
          obtain ⟨b, off, rfl, h0, h1, h2⟩ := Tris_at (HT.out.keep hg) hkl
          rw [bl_getD] at h0 h1 h2
          obtain ⟨-, -, v1, v2⟩ := HMM.out.at HVV.out hkl
          obtain ⟨⟨s1, s2⟩, -⟩ := (HMM.out.take k).bd HVV.out
          have HS := Lib.hid (sumV_take hkl)
          generalize sumV (m.take k) = s at s1 s2 HS ⊢
          generalize bl m k = q at h0 h1 h2 v1 v2 HS
          obtain ⟨x, y, v⟩ := q
          dsimp only at h0 h1 h2 v1 v2
          go_wp2_with fail
          go_roundw
          case rel => exact ⟨k + 1, by omega, by go_num, by rw [HS.out], by (repeat (first | exact Gr.refl _ | assumption | (refine Gr.drew ?_) | (refine Gr.drewN ?_ _) | (refine Gr.alloc ?_ _) | (refine Gr.trans ?_ (by assumption))))⟩
          case measure => simp [intOf]; omega
        · go_wp2_with fail
          go_ret2
          obtain rfl : k = mn := by omega
          exact ⟨by rw [List.take_of_length_le (by rw [HN.out]; exact Nat.le_refl _)]; rfl, hb.trans hg⟩

end Go.Proofs.YtpnkpejnahhajaaGreat

namespace Go.Proofs.YtpnkpejnahhajaaGreat
open Go.RowKit
set_option linter.unusedSimpArgs false

/-- A slice of slices of numbers reads as a table. -/
def RdRows (w : World) (A : Option Addr) (tb : List (List Int)) : Prop :=
  ∀ i row, tb[i]? = some row → ∃ b off Ai ci, A = some ⟨b, off, none⟩ ∧ w.cell? ⟨b, off + i, none⟩ = some (.slice Ai row.length ci) ∧ Ints w Ai row
theorem RdRows.keep {w w' : World} {A : Option Addr} {tb : List (List Int)} (h : RdRows w A tb) (hg : Gr w w') : RdRows w' A tb := fun i row hr => by
  obtain ⟨b, off, Ai, ci, e, hc, hI⟩ := h i row hr
  exact ⟨b, off, Ai, ci, e, hg.keep hc, hI.keep hg⟩
def at2 (tb : List (List Int)) (w h : Nat) : Int := (tb.getD w []).getD h 0
def numB (n : Int) : Bool := decide (0 ≤ n) && decide (n ≤ 1099511627776)
/-- The right lengths, and numbers that are small. -/
def Frm (W H : Nat) (tb : List (List Int)) : Prop := tb.length = W + 1 ∧ ∀ w, w ≤ W → (tb.getD w []).length = H + 1 ∧ ∀ h, h ≤ H → 0 ≤ at2 tb w h ∧ at2 tb w h ≤ 1099511627776
theorem RdRows.at {w : World} {A : Option Addr} {tb : List (List Int)} {W H : Nat} (h : RdRows w A tb) (hF : Frm W H tb) {i k : Nat} (hi : i ≤ W) (hk : k ≤ H) :
    ∃ b off b' off' c', A = some ⟨b, off, none⟩ ∧ w.cell? ⟨b, off + i, none⟩ = some (.slice (some ⟨b', off', none⟩) (H + 1) c') ∧ w.cell? ⟨b', off' + k, none⟩ = some (.int .i64 (at2 tb i k)) := by
  obtain ⟨h1, h2⟩ := hF
  obtain ⟨h3, -⟩ := h2 i hi
  obtain ⟨b, off, Ai, ci, e, hc, hI⟩ := h i _ (getD_of [] (by omega : i < tb.length))
  obtain ⟨b', off', e', hc'⟩ := Ints_at hI (i := k) (by omega)
  subst e'
  rw [h3] at hc
  exact ⟨b, off, b', off', ci, e, hc, hc'⟩
theorem RdRows.row {w : World} {A : Option Addr} {tb : List (List Int)} {W H : Nat} (h : RdRows w A tb) (hF : Frm W H tb) {b off b' off' c' : Nat} {i : Nat} (hi : i ≤ W) (hA : A = some ⟨b, off, none⟩) (hc : w.cell? ⟨b, off + i, none⟩ = some (.slice (some ⟨b', off', none⟩) (H + 1) c')) {k : Nat} (hk : k ≤ H) :
    w.cell? ⟨b', off' + k, none⟩ = some (.int .i64 (at2 tb i k)) := by
  obtain ⟨b2, off2, b3, off3, c3, e, h1, h2⟩ := h.at hF hi hk
  rw [hA] at e
  obtain ⟨rfl, rfl⟩ : b = b2 ∧ off = off2 := by simpa using e
  rw [hc] at h1
  obtain ⟨⟨rfl, rfl⟩, -⟩ : (b' = b3 ∧ off' = off3) ∧ c' = c3 := by simpa using h1
  exact h2

theorem cutT_end {f : Nat → Int} {s k : Nat} (h1 : 1 ≤ k) (h2 : 2 * (k - 1) ≤ s) (h3 : s < 2 * k) : cutT f s k = cutT f s s := by
  by_cases e : k ≤ s
  · exact cutT_half f s k e h3
  · obtain rfl : k = 1 := by omega
    have hs : s = 0 := by omega
    subst hs; rfl
theorem blT_bd {bs : List Bl} (hb : ∀ b ∈ bs, blB b = true) (w h : Int) (k : Nat) (hk : k ≤ bs.length) : 0 ≤ blT bs w h k ∧ blT bs w h k ≤ 1048576 :=
  ⟨blT_nonneg bs w h k, blT_le bs w h (by omega) k (fun i hi _ => ((blB_iff _).1 (hb _ (bl_mem (by omega)))).2.2.2)⟩
end Go.Proofs.YtpnkpejnahhajaaGreat
