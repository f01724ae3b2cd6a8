/- Layer 5: the small calls of a net. -/
import Derived.Test.YtnoeiocbmhkmeaaPtR
namespace Go.Proofs.Ytnoeiocbmhkmeaa
open Go.RowKit
set_option linter.unusedSimpArgs false

section
variable {B : Nat} {w : World} {N : Nx}
theorem NetR.blk (h : NetR B w N) : Blk w N.p 43 #[N.sv, N.lv, .int .i64 N.begun] := h.its.at (g := N.p) (D := .cells _ _) (by unfold netIt; exact List.mem_cons_self)
theorem NetR.arr (h : NetR B w N) : ∃ A c, N.sv = .slice A N.sites.length c ∧ Rd 1 encP w A (N.sites.map (·.p)) := by
  obtain ⟨A, c, e, -, hr, -⟩ := own_row encP_len (xs := N.sites.map (·.p)) (by simp) h.sites
  exact ⟨A, c, e, hr⟩
theorem NetR.box (h : NetR B w N) : ∃ A c, N.lv = .slice A N.mail.length c ∧ Rd 5 enc5m w A N.mail := by
  obtain ⟨A, c, e, -, hr, -⟩ := own_row enc5m_len rfl h.mail
  exact ⟨A, c, e, hr⟩
theorem NetR.keep {w' : World} (h : NetR B w N) (hg : Gr w w') : NetR B w' N :=
  ⟨h.its.keep hg, owns_gr h.sites hg, owns_gr h.mail hg, h.spot, h.away, Nat.le_trans h.le hg.size⟩
theorem NetR.few (h : NetR B w N) : N.sites.length ≤ 9223372036854775807 := by
  rcases h.sites.2 with ⟨-, e⟩ | ⟨g, cap, cur, e, -, -, h1, h2, -⟩
  · omega
  · unfold maxLen at h2; omega
theorem NetR.few2 (h : NetR B w N) : N.mail.length ≤ 9223372036854775807 := by
  rcases h.mail.2 with ⟨-, e⟩ | ⟨g, cap, cur, e, -, -, h1, h2, -⟩
  · omega
  · unfold maxLen at h2; omega
theorem mem_site {N : Nx} {s : Sx} (hs : s ∈ N.sites) {it : Nat × Ds} (hi : it ∈ siteIt s) : it ∈ netIt N := by
  unfold netIt
  exact List.mem_cons_of_mem _ (List.mem_flatMap.2 ⟨s, hs, hi⟩)
theorem NetR.site (h : NetR B w N) {s : Sx} (hs : s ∈ N.sites) : Blk w s.p 81 (siteCs s) := h.its.at (D := .cells _ _) (mem_site hs (by simp [siteIt]))
/-- What a call that names a site answers first. -/
def refS (N : Nx) (i : Int) : Int := if N.sites.length = 0 then 1 else if i < 0 ∨ (N.sites.length : Int) ≤ i then 3 else 0
def refL (N : Nx) (i : Int) : Int := if N.sites.length = 0 then 1 else if i < 0 ∨ (N.mail.length : Int) ≤ i then 3 else 0
end

set_option maxRecDepth 100000 in
theorem Sites_nil (w : World) : Calls Try.prog 17 #[.pointer none] w fun e w' => e = .returned (.int .i64 0) ∧ w' = w := by
  go_enter Try.func17, Try.ntmps17
  go_wp2_with fail
  go_ret
  exact ⟨rfl, rfl⟩
set_option maxRecDepth 100000 in
theorem Sites_any {B : Nat} {w : World} {N : Nx} (h : NetR B w N) : Calls Try.prog 17 #[.pointer (some ⟨N.p, 0, none⟩)] w fun e w' => e = .returned (.int .i64 (N.sites.length : Int)) ∧ w' = w := by
  have n0 := h.blk.cell 0
  obtain ⟨A, c, e, -⟩ := h.arr
  simp only [List.getElem?_toArray, List.getElem?_cons_zero] at n0
  rw [e] at n0
  clear e h
  go_enter Try.func17, Try.ntmps17
  go_wp2_with fail
  go_ret
  exact ⟨rfl, rfl⟩
set_option maxRecDepth 100000 in
theorem usable_nil (w : World) : Calls Try.prog 46 #[.pointer none] w fun e w' => e = .returned (.bool false) ∧ w' = w := by
  go_enter Try.func46, Try.ntmps46
  go_wp2_with fail
  refine (Sites_nil _).mono ?_
  rintro e w1 ⟨rfl, rfl⟩
  go_wp2_with fail
  go_ret
  exact ⟨rfl, rfl⟩
set_option maxRecDepth 100000 in
theorem usable_any {B : Nat} {w : World} {N : Nx} (h : NetR B w N) : Calls Try.prog 46 #[.pointer (some ⟨N.p, 0, none⟩)] w fun e w' => e = .returned (.bool (decide (0 < N.sites.length))) ∧ w' = w := by
  have HS := Lib.hid (Sites_any h)
  have hf := h.few
  clear h
  generalize N.sites.length = n at HS hf ⊢
  go_enter Try.func46, Try.ntmps46
  go_wp2_with fail
  refine HS.out.mono ?_
  rintro e w1 ⟨rfl, rfl⟩
  go_wp2_with fail
  go_ret
  exact ⟨rfl, rfl⟩
set_option maxRecDepth 100000 in
theorem refSite_nil (i : Int) (w : World) : Calls Try.prog 39 #[.pointer none, .int .i64 i] w fun e w' => e = .returned (.int .i64 1) ∧ w' = w := by
  go_enter Try.func39, Try.ntmps39
  go_wp2_with fail
  refine (usable_nil _).mono ?_
  rintro e w1 ⟨rfl, rfl⟩
  go_wp2_with fail
  go_ret
  exact ⟨rfl, rfl⟩
set_option maxRecDepth 100000 in
theorem refSite_any {B : Nat} {w : World} {N : Nx} (h : NetR B w N) (i : Int) : Calls Try.prog 39 #[.pointer (some ⟨N.p, 0, none⟩), .int .i64 i] w fun e w' => e = .returned (.int .i64 (refS N i)) ∧ w' = w := by
  have HU := Lib.hid (usable_any h)
  have n0 := h.blk.cell 0
  have hf := h.few
  obtain ⟨A, c, e, -⟩ := h.arr
  simp only [List.getElem?_toArray, List.getElem?_cons_zero] at n0
  rw [e] at n0
  obtain ⟨r, hr⟩ : ∃ r, refS N i = r := ⟨_, rfl⟩
  rw [hr]
  unfold refS at hr
  clear e h
  generalize N.sites.length = n at HU hf n0 hr ⊢
  have HR := Lib.hid hr
  clear hr
  go_enter Try.func39, Try.ntmps39
  go_wp2_with fail
  refine HU.out.mono ?_
  rintro e w1 ⟨rfl, rfl⟩
  by_cases h0 : n = 0
  · subst h0
    go_wp2_with fail
    go_ret
    exact ⟨ret_int (by rw [← HR.out]; rfl), rfl⟩
  · have h1 : 0 < n := by omega
    by_cases h2 : i < 0
    · go_wp2_with fail
      go_ret
      exact ⟨ret_int (by rw [← HR.out, if_neg h0, if_pos (Or.inl h2)]), rfl⟩
    · by_cases h3 : (n : Int) ≤ i
      · go_wp2_with fail
        go_ret
        exact ⟨ret_int (by rw [← HR.out, if_neg h0, if_pos (Or.inr h3)]), rfl⟩
      · go_wp2_with fail
        go_ret
        exact ⟨ret_int (by rw [← HR.out, if_neg h0, if_neg (by omega)]), rfl⟩
set_option maxRecDepth 100000 in
theorem refLetter_nil (i : Int) (w : World) : Calls Try.prog 50 #[.pointer none, .int .i64 i] w fun e w' => e = .returned (.int .i64 1) ∧ w' = w := by
  go_enter Try.func50, Try.ntmps50
  go_wp2_with fail
  refine (usable_nil _).mono ?_
  rintro e w1 ⟨rfl, rfl⟩
  go_wp2_with fail
  go_ret
  exact ⟨rfl, rfl⟩
set_option maxRecDepth 100000 in
theorem refLetter_any {B : Nat} {w : World} {N : Nx} (h : NetR B w N) (i : Int) : Calls Try.prog 50 #[.pointer (some ⟨N.p, 0, none⟩), .int .i64 i] w fun e w' => e = .returned (.int .i64 (refL N i)) ∧ w' = w := by
  have HU := Lib.hid (usable_any h)
  have n0 := h.blk.cell 1
  have hf := h.few
  have hf2 := h.few2
  obtain ⟨A, c, e, -⟩ := h.box
  simp only [List.getElem?_toArray, List.getElem?_cons_succ, List.getElem?_cons_zero] at n0
  rw [e] at n0
  obtain ⟨r, hr⟩ : ∃ r, refL N i = r := ⟨_, rfl⟩
  rw [hr]
  unfold refL at hr
  clear e h
  generalize N.sites.length = n at HU hf hr ⊢
  generalize N.mail.length = m at hf2 n0 hr ⊢
  have HR := Lib.hid hr
  clear hr
  go_enter Try.func50, Try.ntmps50
  go_wp2_with fail
  refine HU.out.mono ?_
  rintro e w1 ⟨rfl, rfl⟩
  by_cases h0 : n = 0
  · subst h0
    go_wp2_with fail
    go_ret
    exact ⟨ret_int (by rw [← HR.out]; rfl), rfl⟩
  · have h1 : 0 < n := by omega
    by_cases h2 : i < 0
    · go_wp2_with fail
      go_ret
      exact ⟨ret_int (by rw [← HR.out, if_neg h0, if_pos (Or.inl h2)]), rfl⟩
    · by_cases h3 : (m : Int) ≤ i
      · go_wp2_with fail
        go_ret
        exact ⟨ret_int (by rw [← HR.out, if_neg h0, if_pos (Or.inr h3)]), rfl⟩
      · go_wp2_with fail
        go_ret
        exact ⟨ret_int (by rw [← HR.out, if_neg h0, if_neg (by omega)]), rfl⟩

end Go.Proofs.Ytnoeiocbmhkmeaa
