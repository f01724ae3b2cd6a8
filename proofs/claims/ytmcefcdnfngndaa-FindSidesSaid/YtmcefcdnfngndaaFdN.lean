/- Layer 7: New: an index as it lies in memory. -/
import Derived.Test.YtmcefcdnfngndaaFdK
namespace Go.Proofs.Ytmcefcdnfngndaa
open Go.RowKit Go.Shelf
set_option linter.unusedSimpArgs false

/-- The overlaps of all places. -/
def ovsL (T : List UInt8) (o : List Nat) : List Nat := (List.range o.length).map (ovL T o)
theorem ovsL_len (T : List UInt8) (o : List Nat) : (ovsL T o).length = o.length := by simp [ovsL]
theorem ovsL_at (T : List UInt8) (o : List Nat) {i : Nat} (h : i < o.length) : (ovsL T o).getD i 0 = ovL T o i := by
  rw [List.getD_eq_getElem?_getD, List.getElem?_eq_getElem (by rw [ovsL_len]; exact h)]; simp [ovsL]
/-- An index as it lies in memory: its text, the order, the overlaps. -/
structure Idx (s : ByteArray) (n : Nat) (o : List Nat) (A : Option Addr) (c : Nat) (B : Option Addr) (d : Nat) (w : World) : Prop where
  size : s.size = n
  le : n ≤ 4096
  ord : IsOrd (bts s) o
  ro : Ints w A (nI o)
  rv : Ints w B (nI (ovsL (bts s) o))
  spA : ∀ a, A = some a → a.spot = none
  spB : ∀ a, B = some a → a.spot = none
  noA : A = none → n = 0 ∧ c = 0
  noB : B = none → n = 0 ∧ d = 0
  leA : n ≤ c
  leB : n ≤ d
  big : c ≤ 4611686018427387904
section
variable {s : ByteArray} {n c d : Nat} {o : List Nat} {A B : Option Addr} {w w' : World}
theorem Idx.keep (h : Idx s n o A c B d w) (hg : Gr w w') : Idx s n o A c B d w' := ⟨h.size, h.le, h.ord, h.ro.keep hg, h.rv.keep hg, h.spA, h.spB, h.noA, h.noB, h.leA, h.leB, h.big⟩
theorem Idx.tlen (h : Idx s n o A c B d w) : (bts s).length = n := by rw [bts_len]; exact h.size
theorem Idx.olen (h : Idx s n o A c B d w) : o.length = n := by rw [h.ord.len, h.tlen]
theorem Idx.atO (h : Idx s n o A c B d w) {i : Nat} (hi : i < n) : ∃ b off, A = some ⟨b, off, none⟩ ∧ w.cell? ⟨b, off + i, none⟩ = some (.int .i64 ((o.getD i 0 : Nat) : Int)) := Nats_at h.ro (by rw [h.olen]; exact hi)
theorem Idx.atV (h : Idx s n o A c B d w) {i : Nat} (hi : i < n) : ∃ b off, B = some ⟨b, off, none⟩ ∧ w.cell? ⟨b, off + i, none⟩ = some (.int .i64 ((ovL (bts s) o i : Nat) : Int)) := by
  have := Nats_at h.rv (i := i) (by rw [ovsL_len, h.olen]; exact hi)
  rwa [ovsL_at _ _ (by rw [h.olen]; exact hi)] at this
theorem Idx.olt (h : Idx s n o A c B d w) {i : Nat} (hi : i < n) : o.getD i 0 < n := by rw [← h.tlen]; exact h.ord.getD_lt (by rw [h.tlen]; exact hi)
end
/-- What New leaves for a text that is not too long. -/
def NewP (s : ByteArray) (n : Nat) (w : World) (e : Ending) (w' : World) : Prop :=
  ∃ (o : List Nat) (G V : Nat), e = .returned (.tuple #[.agg #[.string s, .slice (some ⟨G, 0, none⟩) n n, .slice (some ⟨V, 0, none⟩) n n], .int .i64 0]) ∧ Idx s n o (some ⟨G, 0, none⟩) n (some ⟨V, 0, none⟩) n w' ∧ Gr w w'

set_option maxRecDepth 1000000 in
set_option maxHeartbeats 8000000 in
theorem new_no (s : ByteArray) (w : World) (hn : 4096 < s.size) : Calls Try.prog 10 #[.string s] w fun e w' => e = .returned (.tuple #[.agg #[.string ⟨#[]⟩, .slice none 0 0, .slice none 0 0], .int .i64 2]) ∧ Gr w w' := by
  have HI := Lib.hid (fun W => isText_any s W false (decide_eq_false (by omega)))
  clear hn
  go_enter Try.func10, Try.ntmps10
  go_upto_region 1 with fail
  generalize hW1 : World.alloc w _ = w1
  have hg1 : Gr w w1 := by rw [← hW1]; exact (Gr.refl w).alloc _
  obtain ⟨Z, hZ⟩ : ∃ Z, w.heap.size = Z := ⟨_, rfl⟩
  have HB : Hid (Blk w1 Z 25 #[.string ⟨#[]⟩, .slice none 0 0, .slice none 0 0]) := Lib.hid (by rw [← hW1]; exact Blk.new w _ _ hZ)
  have HZ := Lib.hid hZ
  rw [hZ]
  have HI1 := Lib.hid (HI.out w1)
  clear hW1 hZ HI
  go_wp2_with fail
  refine HI1.out.mono ?_
  rintro e w2 ⟨rfl, rfl⟩
  have b0 := HB.out.cell 0
  have b1 := HB.out.cell 1
  have b2 := HB.out.cell 2
  have f0 := HB.out.free 0
  have f1 := HB.out.free 1
  have f2 := HB.out.free 2
  have hput := ((HB.out.put 0 (.string ⟨#[]⟩)).put 1 (.slice none 0 0)).put 2 (.slice none 0 0)
  have HPUT := Lib.hid (And.intro (hput.cell 0) (And.intro (hput.cell 1) (hput.cell 2)))
  have hle : w.heap.size ≤ Z := Nat.le_of_eq HZ.out
  have HG := Lib.hid (((hg1.setCell (p := ⟨Z, 0, none⟩) hle (.string ⟨#[]⟩)).setCell (p := ⟨Z, 1, none⟩) hle (.slice none 0 0)).setCell (p := ⟨Z, 2, none⟩) hle (.slice none 0 0))
  clear hput HI1
  go_wp2_with fail
  obtain ⟨u0, u1, u2⟩ := HPUT.out
  simp at u0 u1 u2
  refine bodyPost_ret (v := .tuple #[.agg #[.string ⟨#[]⟩, .slice none 0 0, .slice none 0 0], .int .i64 2]) ?_ ?_ ?_
  · simp [results, Try.results10, go_sem, u0, u1, u2]
  · rfl
  · exact ⟨rfl, HG.out⟩

set_option maxRecDepth 1000000 in
set_option maxHeartbeats 8000000 in
theorem new_yes (s : ByteArray) (n : Nat) (w : World) (hn : s.size = n) (hnb : n ≤ 4096) : Calls Try.prog 10 #[.string s] w (NewP s n w) := by
  have HI := Lib.hid (fun W => isText_any s W true (decide_eq_true (by omega)))
  have HOC := Lib.hid (fun W => orderOf_any s n W hn hnb)
  have HVC := Lib.hid (fun G o W hO hF => overlapsOf_any s (some ⟨G, 0, none⟩) n n o W hn hnb hO hF)
  have HN := Lib.hid hn
  clear hn
  go_enter Try.func10, Try.ntmps10
  go_upto_region 1 with fail
  generalize hW1 : World.alloc w _ = w1
  have hg1 : Gr w w1 := by rw [← hW1]; exact (Gr.refl w).alloc _
  obtain ⟨Z, hZ⟩ : ∃ Z, w.heap.size = Z := ⟨_, rfl⟩
  have HB : Hid (Blk w1 Z 25 #[.string ⟨#[]⟩, .slice none 0 0, .slice none 0 0]) := Lib.hid (by rw [← hW1]; exact Blk.new w _ _ hZ)
  have HZ := Lib.hid hZ
  rw [hZ]
  have HI1 := Lib.hid (HI.out w1)
  clear hW1 hZ HI
  go_wp2_with fail
  refine HI1.out.mono ?_
  rintro e w2 ⟨rfl, rfl⟩
  have HO1 := Lib.hid (HOC.out w1)
  clear HI1 HOC
  go_wp2_with fail
  refine HO1.out.mono ?_
  rintro e w2 ⟨G, o, rfl, -, hF, hO, hg2⟩
  have hol : o.length = n := by rw [hO.len, bts_len]; exact HN.out
  have hro : Ints w2 (some ⟨G, 0, none⟩) (nI o) := hF.ints (nI o) (by rw [nI_len]; exact hol) (fun i _ => (nI_at o i).symm)
  have HFO := Lib.hid hF
  have HO := Lib.hid hO
  have HOL := Lib.hid hol
  have HV2 := Lib.hid (HVC.out G o w2 hO hro)
  have HB2 := Lib.hid (HB.out.keep hg2)
  have hgr2 := hg1.trans hg2
  clear hF hro hO hol HVC HO1 hg2
  go_wp2_with fail
  refine HV2.out.mono ?_
  rintro e w3 ⟨V, rfl, -, hF, hg3⟩
  have HB3 := Lib.hid (HB2.out.keep hg3)
  have hgr3 := hgr2.trans hg3
  have hF0 := HFO.out.keep hg3
  obtain ⟨co, ho1, ho2⟩ := hF0
  obtain ⟨cv, hv1, hv2⟩ := hF
  have n1 : G ≠ Z := ho1.differ HB3.out (by decide)
  have n2 : V ≠ Z := hv1.differ HB3.out (by decide)
  have hle : w.heap.size ≤ Z := Nat.le_of_eq HZ.out
  obtain ⟨wf, hwf⟩ : ∃ wf, ((w3.setCell ⟨Z, 0, none⟩ (.string s)).setCell ⟨Z, 1, none⟩ (.slice (some ⟨G, 0, none⟩) n n)).setCell ⟨Z, 2, none⟩ (.slice (some ⟨V, 0, none⟩) n n) = wf := ⟨_, rfl⟩
  have hFo : FB 3 wf G n (fun i => ((o.getD i 0 : Nat) : Int)) := by
    rw [← hwf]; exact ((FB.other ⟨co, ho1, ho2⟩ (p := ⟨Z, 0, none⟩) n1 _).other (p := ⟨Z, 1, none⟩) n1 _).other (p := ⟨Z, 2, none⟩) n1 _
  have hFv : FB 3 wf V n (fun i => ((ovL (bts s) o i : Nat) : Int)) := by
    rw [← hwf]; exact ((FB.other ⟨cv, hv1, hv2⟩ (p := ⟨Z, 0, none⟩) n2 _).other (p := ⟨Z, 1, none⟩) n2 _).other (p := ⟨Z, 2, none⟩) n2 _
  have HIX : Hid (Idx s n o (some ⟨G, 0, none⟩) n (some ⟨V, 0, none⟩) n wf) := Lib.hid ⟨HN.out, hnb, HO.out, hFo.ints _ (by rw [nI_len]; exact HOL.out) (fun i _ => (nI_at o i).symm), hFv.ints _ (by rw [nI_len, ovsL_len]; exact HOL.out) (fun i hi => by rw [nI_at, ovsL_at _ _ (by rw [HOL.out]; exact hi)]), fun a h => (by cases h; rfl), fun a h => (by cases h; rfl), fun h => (by cases h), fun h => (by cases h), Nat.le_refl _, Nat.le_refl _, by omega⟩
  have HG : Hid (Gr w wf) := Lib.hid (by rw [← hwf]; exact ((hgr3.setCell (p := ⟨Z, 0, none⟩) hle (.string s)).setCell (p := ⟨Z, 1, none⟩) hle (.slice (some ⟨G, 0, none⟩) n n)).setCell (p := ⟨Z, 2, none⟩) hle (.slice (some ⟨V, 0, none⟩) n n))
  have b0 := HB3.out.cell 0
  have b1 := HB3.out.cell 1
  have b2 := HB3.out.cell 2
  have f0 := HB3.out.free 0
  have f1 := HB3.out.free 1
  have f2 := HB3.out.free 2
  have hput := ((HB3.out.put 0 (.string s)).put 1 (.slice (some ⟨G, 0, none⟩) n n)).put 2 (.slice (some ⟨V, 0, none⟩) n n)
  rw [hwf] at hput
  have HPUT := Lib.hid (And.intro (hput.cell 0) (And.intro (hput.cell 1) (hput.cell 2)))
  have HWF := Lib.hid hwf
  clear hput hFo hFv ho1 ho2 hv1 hv2 hwf n1 n2 HV2 HFO
  go_wp2_with fail
  rw [HWF.out]
  obtain ⟨u0, u1, u2⟩ := HPUT.out
  simp at u0 u1 u2
  refine bodyPost_ret (v := .tuple #[.agg #[.string s, .slice (some ⟨G, 0, none⟩) n n, .slice (some ⟨V, 0, none⟩) n n], .int .i64 0]) ?_ ?_ ?_
  · simp [results, Try.results10, go_sem, u0, u1, u2]
  · rfl
  · exact ⟨o, G, V, rfl, HIX.out, HG.out⟩

end Go.Proofs.Ytmcefcdnfngndaa
