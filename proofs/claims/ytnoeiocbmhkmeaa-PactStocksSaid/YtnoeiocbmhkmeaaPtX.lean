/- Layer 5: a letter is removed.
Layer 5: the net without a letter. -/
import Derived.Test.YtnoeiocbmhkmeaaPtC
import Derived.Test.YtnoeiocbmhkmeaaPtD
import Derived.Shelf.RegionOpenPlain
import Derived.Deep.RegionLaw
import Derived.Sort.WalkB12
import Derived.Lib.SliceRun
namespace Go.Proofs.Ytnoeiocbmhkmeaa
open Go.RowKit
set_option linter.unusedSimpArgs false

/-- clear on a row of letters. -/
theorem run_clear5 {P : Program} (w : World) (t e ty : TypeId) (ht : P.underlying t = some (.slice e)) (hv : ∀ w, (zeroValue e).run P w = .ok (.agg #[.int .i64 0, .int .i64 0, .int .i64 0, .int .i64 0, .int .i64 0]) w) (b o c : Nat)
    (hc : ∀ j, j < 5 → (w.cell? ⟨b, o + j, none⟩).isSome = true) (hf : ∀ j, j < 5 → w.frozen? ⟨b, o + j, none⟩ = false) :
    (Builtin.clear_ #[t] ty #[.slice (some ⟨b, o, none⟩) 1 c]).run P w = .ok (.tuple #[]) (w.setCells b o (List.replicate 5 (.int .i64 0))) := by
  have hzc : (Builtin.zeroCells (Value.agg #[.int .i64 0, .int .i64 0, .int .i64 0, .int .i64 0, .int .i64 0]).cells 1).toList = List.replicate 5 (.int .i64 0) := by
    simp only [Builtin.zeroCells, Value.cells]
    apply List.ext_getElem
    · simp
    · intro i h1 h2
      simp at h2
      simp
      have : i = 0 ∨ i = 1 ∨ i = 2 ∨ i = 3 ∨ i = 4 := by omega
      rcases this with rfl | rfl | rfl | rfl | rfl <;> rfl
  have hst := run_storeCells_cells (P := P) b o (List.replicate 5 (.int .i64 0)) 0 w (by simpa using hc) (by simpa using hf) (by intro v hv'; rw [List.eq_of_mem_replicate hv']; rfl)
  simp only [Nat.add_zero] at hst
  rw [show List.replicate 5 (Value.int .i64 0) = [.int .i64 0, .int .i64 0, .int .i64 0, .int .i64 0, .int .i64 0] from rfl] at hst hzc ⊢
  simp [Builtin.clear_, run_underlying ht, hv, hzc, hst]
theorem zero_mail (w : World) : (zeroValue 87).run Try.prog w = .ok (.agg #[.int .i64 0, .int .i64 0, .int .i64 0, .int .i64 0, .int .i64 0]) w := by kernel_rfl

set_option maxRecDepth 1000000 in
set_option maxHeartbeats 8000000 in
theorem delL_any {B : Nat} {w : World} (g n cap k : Nat) (ls : List Ml) (hn : ls.length = n) (hk : k < n) (hl : n ≤ 1024) (h : w.ownsRow B 87 5 (.slice (some ⟨g, 0, none⟩) n cap) n (flatE enc5m ls)) :
    Calls Try.prog 61 #[.slice (some ⟨g, 0, none⟩) n cap, .int .i64 (k : Int), .int .i64 ((k : Int) + 1)] w fun e w' =>
      e = .returned (.slice (some ⟨g, 0, none⟩) (n - 1) cap) ∧ w'.ownsRow B 87 5 (.slice (some ⟨g, 0, none⟩) (n - 1) cap) (n - 1) (flatE enc5m (ls.eraseIdx k)) ∧ Gb g w w' := by
  obtain ⟨i0, hi, -, hz1, -⟩ := info_parts Try.infoPtL
  have hdr := (Gr.refl w).drew
  have hown := owns_gr h hdr
  obtain ⟨cur, hbl, hnc, hcs⟩ : ∃ cur, Blk w.drew g 87 cur ∧ n ≤ cap ∧ cur.size = cap * 5 := by
    rcases hown.2 with ⟨e, -⟩ | ⟨g', cap', cur, e, hb, hh, hnc, hcm, hcs, -⟩
    · cases e
    · injection e with e1 e2 e3
      injection e1 with e1
      injection e1 with e1
      subst e1; subst e3
      exact ⟨cur, hh, hnc, hcs⟩
  have HDEL := Lib.hid (fun zs => del_row enc5m_len hn hk hown zs)
  obtain ⟨j, hj⟩ : ∃ j, k + 1 = j := ⟨_, rfl⟩
  have hji : (k : Int) + 1 = (j : Int) := by omega
  have hjn : j ≤ n := by omega
  obtain ⟨m, hm⟩ : ∃ m, n - j = m := ⟨_, rfl⟩
  obtain ⟨news, hnews⟩ : ∃ news, news = flatE enc5m (ls.drop j) := ⟨_, rfl⟩
  have hlen : news.length = m * 5 := by rw [hnews, flatE_len enc5m_len, List.length_drop, hn, hm]
  have hrd := Rd_of_owns enc5m_len hn hown
  obtain ⟨A, hA, hsrc⟩ : ∃ A : Addr, (if cap = j then some (⟨g, 0, none⟩ : Addr) else some ⟨g, j * 5, none⟩) = some A ∧ Hid (∀ t u, news[t]? = some u → w.drew.cell? (A.add t) = some u) := by
    by_cases hc : cap = j
    · refine ⟨⟨g, 0, none⟩, by simp [hc], Lib.hid (fun t u hu => ?_)⟩
      have h0 : news.length = 0 := by rw [hlen]; omega
      rw [List.length_eq_zero_iff.1 h0] at hu
      simp at hu
    · refine ⟨⟨g, j * 5, none⟩, by simp [hc], Lib.hid ?_⟩
      rw [hnews]
      refine Rd_news enc5m_len (by decide) (fun i x hx => ?_)
      rw [List.getElem?_drop] at hx
      obtain ⟨b, off, e, hc2⟩ := hrd (j + i) x hx
      injection e with e
      injection e with e1 e2
      refine ⟨g, j * 5, rfl, fun q v hv => ?_⟩
      have h3 := hc2 q v hv
      rw [← e1, ← e2] at h3
      rw [show j * 5 + i * 5 + q = 0 + (j + i) * 5 + q by omega]
      exact h3
  have s1 := Lib.hid hlen
  have s2 : Hid (∀ u ∈ news, u.oneCell' = true) := Lib.hid (by rw [hnews]; exact oneCell_flat enc5m_one _)
  have s3 : Hid (∀ t, t < news.length → (w.drew.cell? ⟨g, 0 + k * 5 + t, none⟩).isSome = true ∧ w.drew.frozen? ⟨g, 0 + k * 5 + t, none⟩ = false) := Lib.hid (fun t ht => by
    rw [hlen] at ht
    refine ⟨?_, hbl.free _⟩
    rw [hbl.cell, Array.getElem?_eq_getElem (by omega)]
    rfl)
  obtain ⟨W1, hW1⟩ : ∃ W1, W1 = w.drew.setCells g (0 + k * 5) news := ⟨_, rfl⟩
  have hbl1 : Blk W1 g 87 (putAll cur (0 + k * 5) news) := by rw [hW1]; exact Blk.puts news _ hbl
  have hps : (putAll cur (0 + k * 5) news).size = cap * 5 := by rw [putAll_size]; exact hcs
  have hkm : k + m = n - 1 := by omega
  have hone : n - (k + m) = 1 := by omega
  have hcl : ∀ ty, (Builtin.clear_ #[30] ty #[.slice (some ⟨g, (k + m) * 5, none⟩) 1 (cap - (k + m))]).run Try.prog W1 = .ok (.tuple #[]) (W1.setCells g ((k + m) * 5) (List.replicate 5 (.int .i64 0))) :=
    fun ty => run_clear5 W1 _ _ ty Try.underlying30 zero_mail g ((k + m) * 5) _ (fun q hq => by rw [hbl1.cell, Array.getElem?_eq_getElem (by omega)]; rfl) (fun q hq => hbl1.free _)
  have HW : Hid (W1 = w.drew.setCells g (0 + k * 5) news) := Lib.hid hW1
  have HFIN : Hid ((W1.setCells g ((k + m) * 5) (List.replicate 5 (.int .i64 0))).ownsRow B 87 5 (.slice (some ⟨g, 0, none⟩) (n - 1) cap) (n - 1) (flatE enc5m (ls.eraseIdx k)) ∧ Gb g w (W1.setCells g ((k + m) * 5) (List.replicate 5 (.int .i64 0)))) := Lib.hid (by
    have h1 := HDEL.out (List.replicate 5 (.int .i64 0))
    rw [hj, ← hnews] at h1
    rw [hW1, Nat.zero_add, hkm]
    exact ⟨h1, (Gb.of hdr g).trans ((setCells_gb news _ _).trans (setCells_gb _ _ _))⟩)
  have HKM := Lib.hid hkm
  have hkc : k ≤ cap := by omega
  have hjc : j ≤ cap := by omega
  have hkj : k ≤ j := by omega
  have hne : ((k : Int) == (j : Int)) = false := by simp; omega
  have hkmn : k + m ≤ n := by omega
  have hkmc : k + m ≤ cap := by omega
  have hck : ¬ cap = k + m := by omega
  have mixed : Try.prog.follows Departure.mixedOrders = true := by kernel_rfl
  rw [hji]
  clear hW1 hbl1 hps HDEL hown hbl hcs hrd hnews hlen h hn hkm hdr
  go_enter Try.func61, Try.ntmps61
  go_wp2_with fail
  go_region_law_o (refine step_append_room rfl (.tmp 22) (.tmp 25) 30 rfl 87 i0 5 Try.underlying30 hi hz1 g 0 k cap (by simp [Act.eval, Act.put]) A m (cap - j) news (by simp [Act.eval, Act.put]) s1.out hsrc.out s2.out (by omega) s3.out ?_; rw [← HW.out])
  go_wp2_with fail
  go_ret
  exact ⟨by rw [← HKM.out]; rfl, HFIN.out.1, HFIN.out.2⟩

end Go.Proofs.Ytnoeiocbmhkmeaa

namespace Go.Proofs.Ytnoeiocbmhkmeaa
open Go.RowKit
set_option linter.unusedSimpArgs false

set_option maxRecDepth 100000 in
set_option maxHeartbeats 2000000 in
theorem remove_any {B : Nat} {w : World} {N : Nx} (k : Nat) (h : NetR B w N) (hk : k < N.mail.length) (hml : N.mail.length ≤ 1024) : Calls Try.prog 51 #[.pointer (some ⟨N.p, 0, none⟩), .int .i64 (k : Int)] w fun e w' => e = .returned (.tuple #[]) ∧ ∃ lv', NetTo B w N { N with mail := N.mail.eraseIdx k, lv := lv' } w' := by
  obtain ⟨g, cap, elv, hcap⟩ := owns_shape h.mail (by omega)
  have n1 := h.blk.cell 1
  simp only [List.getElem?_toArray, List.getElem?_cons_succ, List.getElem?_cons_zero] at n1
  rw [elv] at n1
  have hmail := h.mail
  rw [elv] at hmail
  have HD := Lib.hid (delL_any (w := w) g N.mail.length cap k N.mail rfl hk hml hmail)
  have HH := Lib.hid h
  have HFIN : Hid (∀ w1, w1.ownsRow B 87 5 (.slice (some ⟨g, 0, none⟩) (N.mail.length - 1) cap) (N.mail.length - 1) (flatE enc5m (N.mail.eraseIdx k)) → Gb g w w1 →
      Blk w1 N.p 43 #[N.sv, N.lv, .int .i64 N.begun] ∧ NetTo B w N { N with mail := N.mail.eraseIdx k, lv := .slice (some ⟨g, 0, none⟩) (N.mail.length - 1) cap } (w1.setCell ⟨N.p, 1, none⟩ (.slice (some ⟨g, 0, none⟩) (N.mail.length - 1) cap))) := Lib.hid (fun w1 ho hg => by
    have e1 : (N.mail.eraseIdx k).length = N.mail.length - 1 := by rw [List.length_eraseIdx, if_pos hk]
    have h1 := h.newMail (w6 := w1) (lv' := .slice (some ⟨g, 0, none⟩) (N.mail.length - 1) cap) (ml' := N.mail.eraseIdx k) (by rw [elv]; exact hg) (by rw [e1]; exact ho) (Or.inl (by rw [elv]; rfl))
    exact ⟨h1.1, h1.2.1, h1.2.2.1, h1.2.2.2, rfl, rfl⟩)
  have hw1 : IntKind.i64.wrap ((k : Int) + 1) = (k : Int) + 1 := IntWalk.i64_in _ (by omega)
  obtain ⟨n, hn⟩ : ∃ n, N.mail.length = n := ⟨_, rfl⟩
  rw [hn] at n1 HD HFIN
  clear h hk hml elv hmail hn hcap
  go_enter Try.func51, Try.ntmps51
  go_wp2_with fail
  refine HD.out.mono ?_
  rintro e w1 ⟨rfl, ho, hg⟩
  obtain ⟨hb, hto⟩ := HFIN.out w1 ho hg
  have c1 := hb.cell 1
  have f1 := hb.free 1
  have HTO := Lib.hid hto
  clear hb hto ho hg HD HFIN
  go_wp2_with fail
  refine end0p (by rfl) (by rfl) ⟨rfl, _, HTO.out⟩

end Go.Proofs.Ytnoeiocbmhkmeaa
