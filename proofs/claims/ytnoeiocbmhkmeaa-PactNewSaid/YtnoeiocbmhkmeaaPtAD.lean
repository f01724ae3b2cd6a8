/- Layer 5: is a net settled? -/
import Derived.Test.YtnoeiocbmhkmeaaPtAC
namespace Go.Proofs.Ytnoeiocbmhkmeaa
open Go.RowKit
set_option linter.unusedSimpArgs false

def settledN (N : Nx) : Bool := N.mail.isEmpty && N.sites.all setS
set_option maxRecDepth 100000 in
set_option maxHeartbeats 4000000 in
theorem Settled_any {B : Nat} {w : World} {N : Nx} (h : NetR B w N) (h0 : 1 ≤ N.sites.length) : Calls Try.prog 21 #[.pointer (some ⟨N.p, 0, none⟩)] w fun e w' => e = .returned (.bool (settledN N)) ∧ w' = w := by
  have HU := Lib.hid (usable_any h)
  rw [decide_eq_true (show 0 < N.sites.length by omega)] at HU
  have n0 := h.blk.cell 0
  have n1 := h.blk.cell 1
  obtain ⟨A, c, e1, hr⟩ := h.arr
  obtain ⟨A1, c1, e2, -⟩ := h.box
  simp only [List.getElem?_toArray, List.getElem?_cons_succ, List.getElem?_cons_zero] at n0 n1
  rw [e1] at n0
  rw [e2] at n1
  have hfew := h.few
  have HSI := Lib.hid (fun (i : Nat) s (hs : N.sites[i]? = some s) => setS_any w (h.siteIts hs))
  have HSP := Lib.hid (fun (i : Nat) s (hs : N.sites[i]? = some s) => h.spot5 hs)
  have HAL := Lib.hid (show settledN N = (N.mail.isEmpty && N.sites.all setS) from rfl)
  obtain ⟨r, hr'⟩ : ∃ r, settledN N = r := ⟨_, rfl⟩
  rw [hr'] at HAL ⊢
  have HE := Lib.hid e1
  clear hr' hr e2 e1 h
  cases hm : N.mail with
  | cons x l =>
    rw [hm] at n1 HAL
    have hpos : (0 : Int) < ((x :: l).length : Int) := by simp
    have HF : Hid (false = r) := Lib.hid (by rw [HAL.out]; rfl)
    generalize (x :: l).length = q1 at n1 hpos
    clear hm
    go_enter Try.func21, Try.ntmps21
    go_wp2_with fail
    refine HU.out.mono ?_
    rintro e w1 ⟨rfl, rfl⟩
    go_wp2_with fail
    go_ret
    exact ⟨ret_bool (by rw [← HF.out]), rfl⟩
  | nil =>
    rw [hm] at n1 HAL
    have HF : Hid (N.sites.all setS = r) := Lib.hid (by rw [HAL.out]; rfl)
    clear hm HAL
    obtain ⟨n, hn⟩ : ∃ n, N.sites.length = n := ⟨_, rfl⟩
    rw [hn] at n0 h0 hfew
    have HN := Lib.hid hn
    clear hn
    obtain ⟨q1, hq1⟩ : ∃ q1, ([] : List Ml).length = q1 := ⟨_, rfl⟩
    rw [hq1] at n1
    have hnp : ¬ (0 : Int) < (q1 : Int) := by simp at hq1; omega
    have hdb : decide ((0 : Int) < (q1 : Int)) = false := decide_eq_false hnp
    have hdc : decide (0 < q1) = false := decide_eq_false (by omega)
    clear hq1
    go_enter Try.func21, Try.ntmps21
    go_wp2_with fail
    refine HU.out.mono ?_
    rintro e w1 ⟨rfl, rfl⟩
    go_wp2_with fail
    go_loopw [21] (fun z wr => ∃ i : Nat, i ≤ n ∧ z = .int .i64 (i : Int) ∧ Hid (∀ s ∈ N.sites.take i, setS s = true) ∧ wr = w1) (fun z _ => n - (intOf z).toNat)
    case atStart => exact ⟨0, Nat.zero_le _, rfl, Lib.hid (fun s hs => by simp at hs), rfl⟩
    case round =>
      obtain ⟨i, hi, rfl, hall, rfl⟩ := hrel
      by_cases hlt : i < n
      · have hsi : N.sites[i]? = some (N.sites[i]'(by rw [HN.out]; exact hlt)) := List.getElem?_eq_getElem _
        generalize N.sites[i]'_ = s at hsi
        obtain ⟨b, off, c2, e3, hc⟩ := HSP.out i s hsi
        rw [HE.out] at e3
        injection e3 with e3 _ e4
        subst e3
        subst e4
        have HI := Lib.hid (HSI.out i s hsi)
        have hki : (i : Int) < (n : Int) := by omega
        have HSI2 := Lib.hid hsi
        clear hsi
        cases hv : setS s with
        | true =>
          rw [hv] at HI
          have HALL : Hid (∀ s ∈ N.sites.take (i + 1), setS s = true) := Lib.hid (fun y hy => by
            rw [List.take_add_one, HSI2.out, Option.toList_some, List.mem_append, List.mem_singleton] at hy
            rcases hy with hy | rfl
            · exact hall.out y hy
            · exact hv)
          clear hv
          go_wp2_with fail
          refine HI.out.mono ?_
          rintro e w2 ⟨rfl, rfl⟩
          go_wp2_with fail
          go_roundw
          case rel => exact ⟨i + 1, by omega, by go_num, HALL, by first | rfl | trivial⟩
          case measure => simp [intOf]; omega
        | false =>
          rw [hv] at HI
          have HFF : Hid (false = r) := Lib.hid (by
            rw [← HF.out]
            symm
            rw [Bool.eq_false_iff]
            intro ha
            have := List.all_eq_true.1 ha s (List.mem_of_getElem? HSI2.out)
            rw [hv] at this; cases this)
          clear hv
          go_wp2_with fail
          refine HI.out.mono ?_
          rintro e w2 ⟨rfl, rfl⟩
          go_wp2_with fail
          go_ret
          exact ⟨ret_bool (by rw [← HFF.out]), rfl⟩
      · obtain rfl : i = n := by omega
        have HFF : Hid (true = r) := Lib.hid (by
          rw [← HF.out]
          symm
          rw [List.all_eq_true]
          intro s hs
          exact hall.out s (by rw [List.take_of_length_le (by rw [HN.out]; exact Nat.le_refl _)]; exact hs))
        go_wp2_with fail
        go_ret
        exact ⟨ret_bool (by rw [← HFF.out]), rfl⟩

end Go.Proofs.Ytnoeiocbmhkmeaa
