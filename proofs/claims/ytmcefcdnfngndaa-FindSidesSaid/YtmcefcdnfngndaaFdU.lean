/- Layer 7: Count, Text, Distinct, Repeat, Shortest. -/
import Derived.Test.YtmcefcdnfngndaaFdT
namespace Go.Proofs.Ytmcefcdnfngndaa
open Go.RowKit Go.Shelf
set_option linter.unusedSimpArgs false

/-- The number of different strings, counted with the first k suffixes of the order. -/
def dstN (T : List UInt8) (o : List Nat) : Nat → Nat
  | 0 => 0
  | k + 1 => dstN T o k + (T.length - o.getD k 0 - ovL T o k)
theorem dstN_le (T : List UInt8) (o : List Nat) : ∀ k, dstN T o k ≤ k * T.length
  | 0 => by simp [dstN]
  | k + 1 => by
    have := dstN_le T o k
    simp only [dstN, Nat.add_mul, Nat.one_mul]; omega
/-- The longest overlap among the first k places, and where the first such suffix begins. -/
def repF (T : List UInt8) (o : List Nat) : Nat → Nat × Nat
  | 0 => (0, 0)
  | k + 1 => if (repF T o k).1 < ovL T o k then (ovL T o k, o.getD k 0) else repF T o k
theorem ovL_top {T : List UInt8} {o : List Nat} (h : IsOrd T o) {p : Nat} (hp : p < T.length) : o.getD p 0 + ovL T o p ≤ T.length := by
  have := (ovL_le h (i := o.getD p 0) (h.getD_lt hp)).1
  rwa [h.idx_getD hp] at this
theorem repF_top {T : List UInt8} {o : List Nat} (h : IsOrd T o) : ∀ k, k ≤ T.length → (repF T o k).2 + (repF T o k).1 ≤ T.length
  | 0, _ => by simp [repF]
  | k + 1, hk => by
    simp only [repF]
    split
    · exact ovL_top h (by omega)
    · exact repF_top h k (by omega)
theorem repF_at {T : List UInt8} {o : List Nat} (h : IsOrd T o) : ∀ k, k ≤ T.length → (repF T o k).1 ≠ 0 → (repF T o k).2 < T.length
  | 0, _, h0 => by simp [repF] at h0
  | k + 1, hk, h0 => by
    simp only [repF] at h0 ⊢
    split
    · exact h.getD_lt (by omega)
    · rename_i c; rw [if_neg c] at h0
      exact repF_at h k (by omega) h0

set_option maxRecDepth 1000000 in
set_option maxHeartbeats 4000000 in
theorem count_any (s p : ByteArray) (n c d : Nat) (o : List Nat) (A B : Option Addr) (w : World) (hX : Idx s n o A c B d w) :
    Calls Try.prog 20 #[.agg #[.string s, .slice A n c, .slice B n d], .string p] w fun e w' => e = .returned (.int .i64 (occN (bts s) (bts p) : Int)) ∧ Gr w w' := by
  have HPL := Lib.hid (fun W (hW : Gr w W) => places_any s p n c d o A B W (hX.keep hW))
  have HO := Lib.hid hX.ord
  have HOL := Lib.hid hX.olen
  have hnb : n ≤ 4096 := hX.le
  clear hX
  go_enter Try.func20, Try.ntmps20
  go_upto_region 1 with fail
  generalize hW1 : World.alloc w _ = w1
  obtain ⟨X, hXX⟩ : ∃ X, w.heap.size = X := ⟨_, rfl⟩
  rw [hXX]
  have hg1 : Gr w w1 := by rw [← hW1]; exact (Gr.refl w).alloc _
  have HBX : Blk w1 X 25 #[.string s, .slice A n c, .slice B n d] := by rw [← hW1]; exact Blk.new w _ _ hXX
  have z0 := HBX.cell 0
  have z1 := HBX.cell 1
  have z2 := HBX.cell 2
  have HP1 := Lib.hid (HPL.out w1 hg1)
  clear hW1 hXX HBX
  go_wp2_with fail
  refine HP1.out.mono ?_
  rintro e w2 ⟨fr, t, rfl, hP, hg2⟩
  have h1 := hP.le
  have h2 := hP.top
  rw [HOL.out] at h2
  have HE := Lib.hid (hP.count HO.out.perm)
  have hG := hg1.trans hg2
  clear hP z0 z1 z2 HP1
  go_wp2_with fail
  go_ret
  exact ⟨by rw [← HE.out]; go_num, by first | exact hG | exact hG.drewN _⟩

set_option maxRecDepth 1000000 in
set_option maxHeartbeats 4000000 in
theorem text_any (s : ByteArray) (n c d : Nat) (A B : Option Addr) (w : World) :
    Calls Try.prog 11 #[.agg #[.string s, .slice A n c, .slice B n d]] w fun e w' => e = .returned (.string s) ∧ Gr w w' := by
  go_enter Try.func11, Try.ntmps11
  go_upto_region 1 with fail
  generalize hW1 : World.alloc w _ = w1
  have hg1 : Gr w w1 := by rw [← hW1]; exact (Gr.refl w).alloc _
  have HBX : Blk w1 w.heap.size 25 #[.string s, .slice A n c, .slice B n d] := by rw [← hW1]; exact Blk.new w _ _ rfl
  generalize w.heap.size = X at HBX ⊢
  have z0 := HBX.cell 0
  clear hW1 HBX
  go_wp2_with fail
  go_ret
  exact ⟨rfl, by first | exact hg1 | exact hg1.drewN _⟩

set_option maxRecDepth 1000000 in
set_option maxHeartbeats 4000000 in
theorem distinct_any (s : ByteArray) (n c d : Nat) (o : List Nat) (A B : Option Addr) (w : World) (hX : Idx s n o A c B d w) :
    Calls Try.prog 26 #[.agg #[.string s, .slice A n c, .slice B n d]] w fun e w' => e = .returned (.int .i64 (dstN (bts s) o n : Int)) ∧ Gr w w' := by
  have HX := Lib.hid hX
  have hnb : n ≤ 4096 := hX.le
  have hsz : s.size = n := hX.size
  have HT := Lib.hid hX.tlen
  clear hX
  go_enter Try.func26, Try.ntmps26
  go_upto_region 1 with fail
  generalize hW1 : World.alloc w _ = w1
  obtain ⟨X, hXX⟩ : ∃ X, w.heap.size = X := ⟨_, rfl⟩
  rw [hXX]
  have hg1 : Gr w w1 := by rw [← hW1]; exact (Gr.refl w).alloc _
  have HBX : Hid (Blk w1 X 25 #[.string s, .slice A n c, .slice B n d]) := Lib.hid (by rw [← hW1]; exact Blk.new w _ _ hXX)
  have z1 := HBX.out.cell 1
  clear hW1 hXX
  go_wp2_with fail
  go_loopw [3, 9] (fun q z wr => ∃ k : Nat, k ≤ n ∧ z = .int .i64 (k : Int) ∧ q = .int .i64 (dstN (bts s) o k : Int) ∧ Gr w1 wr) (fun _ z _ => n - (intOf z).toNat)
  case atStart => exact ⟨0, Nat.zero_le _, rfl, rfl, Gr.refl _⟩
  case round =>
    obtain ⟨k, hk, rfl, rfl, hgr⟩ := hrel
    by_cases hlt : k < n
    · have hXr := HX.out.keep (hg1.trans hgr)
      obtain ⟨b, off, rfl, x0⟩ := hXr.atO hlt
      obtain ⟨b', off', rfl, x1⟩ := hXr.atV hlt
      have HB := HBX.out.keep hgr
      have y0 := HB.cell 0
      have y1 := HB.cell 1
      have y2 := HB.cell 2
      have htop := ovL_top HX.out.ord (p := k) (by rw [HT.out]; exact hlt)
      rw [HT.out] at htop
      have hbd := dstN_le (bts s) o k
      rw [HT.out] at hbd
      have hbd2 : dstN (bts s) o k ≤ 16777216 := by
        have : k * n ≤ 4096 * 4096 := Nat.mul_le_mul (by omega) hnb
        omega
      have HE : Hid ((dstN (bts s) o (k + 1) : Int) = (dstN (bts s) o k : Int) + ((n : Int) - (o.getD k 0 : Int) - (ovL (bts s) o k : Int))) := Lib.hid (by
        simp only [dstN]; rw [HT.out]; omega)
      have hki : (k : Int) < (n : Int) := by omega
      clear hXr HB hbd
      generalize dstN (bts s) o k = d1 at HE hbd2 ⊢
      generalize o.getD k 0 = x at HE x0 htop
      generalize ovL (bts s) o k = v at HE x1 htop
      have hsi : (s.size : Int) = (n : Int) := by omega
      go_upto_region 5 with fail
      go_quiet (fail)
      have hgd := hgr.drewN nq
      clear x0 x1 y0 y1 y2
      go_wp2_with fail
      go_roundw
      case rel => exact ⟨k + 1, by omega, by go_num, by rw [HE.out], hgd⟩
      case measure => simp [intOf]; omega
    · obtain rfl : n = k := by omega
      go_wp2_with fail
      go_ret
      exact ⟨rfl, hg1.trans hgr⟩

/-- What Repeat answers. -/
def repV (s : ByteArray) (o : List Nat) (n : Nat) : Value :=
  let l := (repF (bts s) o n).1
  let a := (repF (bts s) o n).2
  if l = 0 then .tuple #[.string ⟨#[]⟩, .int .i64 0, .int .i64 6] else .tuple #[.string (s.extract a (a + l)), .int .i64 (occN (bts s) (bts (s.extract a (a + l))) : Int), .int .i64 0]

set_option maxRecDepth 1000000 in
set_option maxHeartbeats 4000000 in
theorem repeat_any (s : ByteArray) (n c d : Nat) (o : List Nat) (A B : Option Addr) (w : World) (hX : Idx s n o A c B d w) :
    Calls Try.prog 25 #[.agg #[.string s, .slice A n c, .slice B n d]] w fun e w' => e = .returned (repV s o n) ∧ Gr w w' := by
  have HX := Lib.hid hX
  have hnb : n ≤ 4096 := hX.le
  have hsz : s.size = n := hX.size
  have HT := Lib.hid hX.tlen
  clear hX
  go_enter Try.func25, Try.ntmps25
  go_upto_region 1 with fail
  generalize hW1 : World.alloc w _ = w1
  obtain ⟨X, hXX⟩ : ∃ X, w.heap.size = X := ⟨_, rfl⟩
  rw [hXX]
  have hg1 : Gr w w1 := by rw [← hW1]; exact (Gr.refl w).alloc _
  have HBX : Hid (Blk w1 X 25 #[.string s, .slice A n c, .slice B n d]) := Lib.hid (by rw [← hW1]; exact Blk.new w _ _ hXX)
  have z2 := HBX.out.cell 2
  clear hW1 hXX
  go_wp2_with fail
  go_loopw [5, 6, 13] (fun l q z wr => ∃ k : Nat, k ≤ n ∧ z = .int .i64 (k : Int) ∧ l = .int .i64 ((repF (bts s) o k).1 : Int) ∧ q = .int .i64 ((repF (bts s) o k).2 : Int) ∧ Gr w1 wr) (fun _ _ z _ => n - (intOf z).toNat)
  case atStart => exact ⟨0, Nat.zero_le _, rfl, rfl, rfl, Gr.refl _⟩
  case round =>
    obtain ⟨k, hk, rfl, rfl, rfl, hgr⟩ := hrel
    by_cases hlt : k < n
    · have hXr := HX.out.keep (hg1.trans hgr)
      obtain ⟨b', off', rfl, x1⟩ := hXr.atV hlt
      have HB := HBX.out.keep hgr
      have y1 := HB.cell 1
      have y2 := HB.cell 2
      have hki : (k : Int) < (n : Int) := by omega
      have htp := repF_top HX.out.ord k (by rw [HT.out]; omega)
      rw [HT.out] at htp
      have htop := ovL_top HX.out.ord (p := k) (by rw [HT.out]; exact hlt)
      rw [HT.out] at htop
      by_cases hc : (repF (bts s) o k).1 < ovL (bts s) o k
      · obtain ⟨b, off, rfl, x0⟩ := hXr.atO hlt
        have HE : Hid (repF (bts s) o (k + 1) = (ovL (bts s) o k, o.getD k 0)) := Lib.hid (by simp only [repF]; rw [if_pos hc])
        have hci : ((repF (bts s) o k).1 : Int) < (ovL (bts s) o k : Int) := by omega
        clear hXr HB
        generalize repF (bts s) o k = r at hc hci htp ⊢
        obtain ⟨r1, r2⟩ := r
        dsimp only at hc hci htp ⊢
        generalize o.getD k 0 = x at HE x0 htop
        generalize ovL (bts s) o k = v at HE x1 htop hc hci
        go_upto_region 6 with fail
        go_quiet (fail)
        have hgd := hgr.drewN nq
        clear x0 x1 y1 y2
        go_wp2_with fail
        go_roundw
        case rel => exact ⟨k + 1, by omega, by go_num, by rw [HE.out], by rw [HE.out], hgd⟩
        case measure => simp [intOf]; omega
      · have HE : Hid (repF (bts s) o (k + 1) = repF (bts s) o k) := Lib.hid (by simp only [repF]; rw [if_neg hc])
        have hci : ¬ ((repF (bts s) o k).1 : Int) < (ovL (bts s) o k : Int) := by omega
        clear hXr HB
        generalize hr : repF (bts s) o k = r at hc hci htp ⊢
        have HR := Lib.hid hr
        clear hr
        obtain ⟨r1, r2⟩ := r
        dsimp only at hc hci htp ⊢
        generalize ovL (bts s) o k = v at x1 htop hc hci
        go_wp2_with fail
        go_roundw
        case rel => exact ⟨k + 1, by omega, by go_num, by rw [HE.out, HR.out], by rw [HE.out, HR.out], hgr⟩
        case measure => simp [intOf]; omega
    · obtain rfl : n = k := by omega
      have htp := repF_top HX.out.ord n (by rw [HT.out]; omega)
      rw [HT.out] at htp
      have HCN := Lib.hid (fun p W (hW : Gr w W) => count_any s p n c d o A B W (HX.out.keep hW))
      have hgr2 := Lib.hid (hg1.trans hgr)
      have HB := HBX.out.keep hgr
      have y0 := HB.cell 0
      have y1 := HB.cell 1
      have y2 := HB.cell 2
      clear HB
      obtain ⟨l, hl⟩ : ∃ l, (repF (bts s) o n).1 = l := ⟨_, rfl⟩
      obtain ⟨a, ha⟩ : ∃ a, (repF (bts s) o n).2 = a := ⟨_, rfl⟩
      rw [hl, ha] at htp ⊢
      have HL := Lib.hid hl
      have HA := Lib.hid ha
      clear hl ha
      by_cases h0 : l = 0
      · have hl0 : ((l : Int) == 0) = true := beq_iff_eq.2 (by omega)
        go_wp2_with fail
        refine bodyPost_ret (v := .tuple #[.string ⟨#[]⟩, .int .i64 0, .int .i64 6]) ?_ ?_ ?_
        · simp [results, Try.results25, go_sem]
        · rfl
        · exact ⟨by unfold repV; simp only [HL.out]; rw [if_pos h0], hgr2.out⟩
      · have hl0 : ((l : Int) == 0) = false := beq_eq_false_iff_ne.2 (by omega)
        have HC1 := Lib.hid (HCN.out (s.extract a (a + l)) wr hgr2.out)
        have hwr : IntKind.i64.wrap ((a : Int) + (l : Int)) = (a : Int) + (l : Int) := IntWalk.i64_in _ (by omega)
        have hsi : (s.size : Int) = (n : Int) := by omega
        go_wp2_with fail
        refine HC1.out.mono ?_
        rintro e w2 ⟨rfl, hg2⟩
        have hG := hgr2.out.trans hg2
        clear y0 y1 y2 HC1 HCN
        go_wp2_with fail
        refine bodyPost_ret (v := .tuple #[.string (s.extract a (a + l)), .int .i64 (occN (bts s) (bts (s.extract a (a + l))) : Int), .int .i64 0]) ?_ ?_ ?_
        · simp [results, Try.results25, go_sem]
        · rfl
        · exact ⟨by unfold repV; simp only [HL.out, HA.out]; rw [if_neg h0], by first | exact hG | exact hG.drewN _⟩

end Go.Proofs.Ytmcefcdnfngndaa
