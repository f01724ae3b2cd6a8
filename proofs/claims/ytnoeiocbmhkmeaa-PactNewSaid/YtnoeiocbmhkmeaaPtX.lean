/- Layer 5: the net without a letter. -/
import Derived.Test.YtnoeiocbmhkmeaaPtV
namespace Go.Proofs.Ytnoeiocbmhkmeaa
open Go.RowKit
set_option linter.unusedSimpArgs false

set_option maxRecDepth 100000 in
set_option maxHeartbeats 2000000 in
theorem remove_any {B : Nat} {w : World} {N : Nx} (k : Nat) (h : NetR B w N) (hk : k < N.mail.length) (hml : N.mail.length ≤ 1024) : Calls Try.prog 51 #[.pointer (some ⟨N.p, 0, none⟩), .int .i64 (k : Int)] w fun e w' => e = .returned (.tuple #[]) ∧ ∃ lv', NetTo B w N { N with mail := N.mail.eraseIdx k, lv := lv' } w' := by
  obtain ⟨g, cap, elv, hcap⟩ := owns_shape h.mail (by omega)
  have n1 := h.blk.cell 1
  simp only [List.getElem?_toArray, List.getElem?_cons_succ, List.getElem?_cons_zero] at n1
  rw [elv] at n1
  have hmail := h.mail
  rw [elv] at hmail
  have HD := Lib.hid (delL_any (w := w) g N.mail.length cap k N.mail rfl hk hml hmail)
  have HH := Lib.hid h
  have HFIN : Hid (∀ w1, w1.ownsRow B 87 5 (.slice (some ⟨g, 0, none⟩) (N.mail.length - 1) cap) (N.mail.length - 1) (flatE enc5m (N.mail.eraseIdx k)) → Gb g w w1 →
      Blk w1 N.p 43 #[N.sv, N.lv, .int .i64 N.begun] ∧ NetTo B w N { N with mail := N.mail.eraseIdx k, lv := .slice (some ⟨g, 0, none⟩) (N.mail.length - 1) cap } (w1.setCell ⟨N.p, 1, none⟩ (.slice (some ⟨g, 0, none⟩) (N.mail.length - 1) cap))) := Lib.hid (fun w1 ho hg => by
    have e1 : (N.mail.eraseIdx k).length = N.mail.length - 1 := by rw [List.length_eraseIdx, if_pos hk]
    have h1 := h.newMail (w6 := w1) (lv' := .slice (some ⟨g, 0, none⟩) (N.mail.length - 1) cap) (ml' := N.mail.eraseIdx k) (by rw [elv]; exact hg) (by rw [e1]; exact ho) (Or.inl (by rw [elv]; rfl))
    exact ⟨h1.1, h1.2.1, h1.2.2.1, h1.2.2.2, rfl, rfl⟩)
  have hw1 : IntKind.i64.wrap ((k : Int) + 1) = (k : Int) + 1 := IntWalk.i64_in _ (by omega)
  obtain ⟨n, hn⟩ : ∃ n, N.mail.length = n := ⟨_, rfl⟩
  rw [hn] at n1 HD HFIN
  clear h hk hml elv hmail hn hcap
  go_enter Try.func51, Try.ntmps51
  go_wp2_with fail
  refine HD.out.mono ?_
  rintro e w1 ⟨rfl, ho, hg⟩
  obtain ⟨hb, hto⟩ := HFIN.out w1 ho hg
  have c1 := hb.cell 1
  have f1 := hb.free 1
  have HTO := Lib.hid hto
  clear hb hto ho hg HD HFIN
  go_wp2_with fail
  refine end0p (by rfl) (by rfl) ⟨rfl, _, HTO.out⟩

end Go.Proofs.Ytnoeiocbmhkmeaa
