/- Layer 5: a site's stock; is it down. -/
import Derived.Test.YtnoeiocbmhkmeaaPtM
namespace Go.Proofs.Ytnoeiocbmhkmeaa
open Go.RowKit
set_option linter.unusedSimpArgs false

theorem NetR.spot5 {B : Nat} {w : World} {N : Nx} (h : NetR B w N) {k : Nat} {s : Sx} (hs : N.sites[k]? = some s) :
    ∃ b off c, N.sv = .slice (some ⟨b, off, none⟩) N.sites.length c ∧ w.cell? ⟨b, off + k, none⟩ = some (.pointer (some ⟨s.p, 0, none⟩)) := by
  obtain ⟨A, c, e, hr⟩ := h.arr
  obtain ⟨b, off, rfl, hc⟩ := hr k s.p (by rw [List.getElem?_map, hs]; rfl)
  have h1 := hc 0 _ rfl
  rw [Nat.mul_one, Nat.add_zero] at h1
  exact ⟨b, off, c, e, h1⟩
theorem refS_cases (N : Nx) (i : Int) : (refS N i = 1) ∨ (refS N i = 3) ∨ (refS N i = 0 ∧ ∃ (k : Nat) (s : Sx), i = (k : Int) ∧ N.sites[k]? = some s ∧ k < N.sites.length) := by
  unfold refS
  split
  · exact Or.inl rfl
  · split
    · exact Or.inr (Or.inl rfl)
    · refine Or.inr (Or.inr ⟨rfl, i.toNat, N.sites[i.toNat]'(by omega), by omega, List.getElem?_eq_getElem _, by omega⟩)
/-- What a call that needs a site that is up answers first. -/
def refD (N : Nx) (i : Int) : Int := if refS N i ≠ 0 then refS N i else if (N.sites[i.toNat]?.map (·.up)).getD true then 0 else 7
def stockN (N : Nx) (i : Int) : Int := if refS N i ≠ 0 then 0 else (N.sites[i.toNat]?.map (·.stock)).getD 0

set_option maxRecDepth 100000 in
theorem refDown_nil (i : Int) (w : World) : Calls Try.prog 40 #[.pointer none, .int .i64 i] w fun e w' => e = .returned (.int .i64 1) ∧ w' = w := by
  go_enter Try.func40, Try.ntmps40
  go_wp2_with fail
  refine (refSite_nil _ _).mono ?_
  rintro e w1 ⟨rfl, rfl⟩
  go_wp2_with fail
  go_ret
  exact ⟨rfl, rfl⟩
set_option maxRecDepth 100000 in
theorem Stock_nil (i : Int) (w : World) : Calls Try.prog 14 #[.pointer none, .int .i64 i] w fun e w' => e = .returned (.tuple #[.int .i64 0, .int .i64 1]) ∧ w' = w := by
  go_enter Try.func14, Try.ntmps14
  go_wp2_with fail
  refine (refSite_nil _ _).mono ?_
  rintro e w1 ⟨rfl, rfl⟩
  go_wp2_with fail
  refine bodyPost_ret (v := .tuple #[.int .i64 0, .int .i64 1]) ?_ ?_ ?_
  · simp [results, Try.results14, go_sem]
  · rfl
  · exact ⟨rfl, rfl⟩
set_option maxRecDepth 100000 in
set_option maxHeartbeats 1000000 in
theorem refDown_any {B : Nat} {w : World} {N : Nx} (h : NetR B w N) (i : Int) : Calls Try.prog 40 #[.pointer (some ⟨N.p, 0, none⟩), .int .i64 i] w fun e w' => e = .returned (.int .i64 (refD N i)) ∧ w' = w := by
  have HU := Lib.hid (refSite_any h i)
  obtain ⟨r, hr⟩ : ∃ r, refD N i = r := ⟨_, rfl⟩
  rw [hr]
  unfold refD at hr
  rcases refS_cases N i with h1 | h1 | ⟨h1, k, s, rfl, hk, hkn⟩
  · rw [h1] at HU hr
    have HR := Lib.hid hr
    clear hr h h1
    go_enter Try.func40, Try.ntmps40
    go_wp2_with fail
    refine HU.out.mono ?_
    rintro e w1 ⟨rfl, rfl⟩
    go_wp2_with fail
    go_ret
    exact ⟨ret_int (by rw [← HR.out]; rfl), rfl⟩
  · rw [h1] at HU hr
    have HR := Lib.hid hr
    clear hr h h1
    go_enter Try.func40, Try.ntmps40
    go_wp2_with fail
    refine HU.out.mono ?_
    rintro e w1 ⟨rfl, rfl⟩
    go_wp2_with fail
    go_ret
    exact ⟨ret_int (by rw [← HR.out]; rfl), rfl⟩
  · rw [h1] at HU hr
    have n0 := h.blk.cell 0
    obtain ⟨b, off, c, e, hc⟩ := h.spot5 hk
    simp only [List.getElem?_toArray, List.getElem?_cons_zero] at n0
    rw [e] at n0
    have hu : w.cell? ⟨s.p, 2, none⟩ = some (.bool s.up) := (h.site (List.mem_of_getElem? hk)).cell 2
    rw [if_neg (by simp), show ((k : Int)).toNat = k from rfl, hk] at hr
    simp only [Option.map_some, Option.getD_some] at hr
    have hki : (k : Int) < (N.sites.length : Int) := by omega
    have hk0 : (0 : Int) ≤ (k : Int) := by omega
    generalize N.sites.length = n at n0 hki hkn
    clear h h1 e hk
    cases hup : s.up with
    | true =>
      rw [hup] at hu
      have HR : Hid ((0 : Int) = r) := Lib.hid (by simpa [hup] using hr)
      clear hr hup
      go_enter Try.func40, Try.ntmps40
      go_wp2_with fail
      refine HU.out.mono ?_
      rintro e w1 ⟨rfl, rfl⟩
      go_wp2_with fail
      go_ret
      exact ⟨ret_int (by rw [← HR.out]), rfl⟩
    | false =>
      rw [hup] at hu
      have HR : Hid ((7 : Int) = r) := Lib.hid (by simpa [hup] using hr)
      clear hr hup
      go_enter Try.func40, Try.ntmps40
      go_wp2_with fail
      refine HU.out.mono ?_
      rintro e w1 ⟨rfl, rfl⟩
      go_wp2_with fail
      go_ret
      exact ⟨ret_int (by rw [← HR.out]), rfl⟩
set_option maxRecDepth 100000 in
set_option maxHeartbeats 1000000 in
theorem Stock_any {B : Nat} {w : World} {N : Nx} (h : NetR B w N) (i : Int) : Calls Try.prog 14 #[.pointer (some ⟨N.p, 0, none⟩), .int .i64 i] w fun e w' => e = .returned (.tuple #[.int .i64 (stockN N i), .int .i64 (refS N i)]) ∧ w' = w := by
  have HU := Lib.hid (refSite_any h i)
  obtain ⟨r, hr⟩ : ∃ r, stockN N i = r := ⟨_, rfl⟩
  rw [hr]
  unfold stockN at hr
  rcases refS_cases N i with h1 | h1 | ⟨h1, k, s, rfl, hk, hkn⟩
  · rw [h1] at HU hr ⊢
    obtain rfl : 0 = r := by rw [← hr]; rfl
    clear hr h h1
    go_enter Try.func14, Try.ntmps14
    go_wp2_with fail
    refine HU.out.mono ?_
    rintro e w1 ⟨rfl, rfl⟩
    go_wp2_with fail
    refine bodyPost_ret (v := .tuple #[.int .i64 0, .int .i64 1]) ?_ ?_ ?_
    · simp [results, Try.results14, go_sem]
    · rfl
    · exact ⟨rfl, rfl⟩
  · rw [h1] at HU hr ⊢
    obtain rfl : 0 = r := by rw [← hr]; rfl
    clear hr h h1
    go_enter Try.func14, Try.ntmps14
    go_wp2_with fail
    refine HU.out.mono ?_
    rintro e w1 ⟨rfl, rfl⟩
    go_wp2_with fail
    refine bodyPost_ret (v := .tuple #[.int .i64 0, .int .i64 3]) ?_ ?_ ?_
    · simp [results, Try.results14, go_sem]
    · rfl
    · exact ⟨rfl, rfl⟩
  · rw [h1] at HU hr ⊢
    have n0 := h.blk.cell 0
    obtain ⟨b, off, c, e, hc⟩ := h.spot5 hk
    simp only [List.getElem?_toArray, List.getElem?_cons_zero] at n0
    rw [e] at n0
    have hu : w.cell? ⟨s.p, 1, none⟩ = some (.int .i64 s.stock) := (h.site (List.mem_of_getElem? hk)).cell 1
    rw [if_neg (by simp), show ((k : Int)).toNat = k from rfl, hk] at hr
    simp only [Option.map_some, Option.getD_some] at hr
    rw [hr] at hu
    have hki : (k : Int) < (N.sites.length : Int) := by omega
    have hk0 : (0 : Int) ≤ (k : Int) := by omega
    generalize N.sites.length = n at n0 hki hkn
    clear h h1 e hk hr
    go_enter Try.func14, Try.ntmps14
    go_wp2_with fail
    refine HU.out.mono ?_
    rintro e w1 ⟨rfl, rfl⟩
    go_wp2_with fail
    refine bodyPost_ret (v := .tuple #[.int .i64 r, .int .i64 0]) ?_ ?_ ?_
    · simp [results, Try.results14, go_sem]
    · rfl
    · exact ⟨rfl, rfl⟩

end Go.Proofs.Ytnoeiocbmhkmeaa
