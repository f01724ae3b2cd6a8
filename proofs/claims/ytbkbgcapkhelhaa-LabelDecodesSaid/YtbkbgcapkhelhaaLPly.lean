/- Layer 3: combining, scaling, copying, dividing by a root. -/
import Derived.Test.YtbkbgcapkhelhaaLAdd
namespace Go.Proofs.Ytbkbgcapkhelhaa
open Go.RowKit
set_option linter.unusedSimpArgs false

def sq (l : List G) (t : Nat) : G := l.getD t g0
theorem dsum_take (s : Nat → G) : ∀ (q : List G) (k at_ : Nat), k < q.length → k ≤ at_ → dsum (q.take (k + 1)) s at_ = dsum (q.take k) s at_ + q.getD k g0 * s (at_ - k)
  | c :: r, 0, at_, _, _ => by
    cases at_ with
    | zero => simp [dsum, gzero_add]
    | succ n => simp [dsum, gzero_add, gadd_zero]
  | c :: r, k + 1, at_, h, h2 => by
    cases at_ with
    | zero => omega
    | succ n =>
      have ih := dsum_take s r k n (by simpa using h) (by omega)
      simp only [List.take_succ_cons, dsum, List.getD_cons_succ] at ih ⊢
      rw [ih, gadd_assoc, show n + 1 - (k + 1) = n - k by omega]

set_option maxRecDepth 100000 in
set_option maxHeartbeats 1000000 in
theorem combine_any (T : Nat) (A B : Option Addr) (n c m mc : Nat) (q l : List G) (at_ : Nat) (w : World) (hT : Tabs T w) (hn : q.length = n) (hm : l.length = m) (hq : Byts w A q) (hb : Byts w B l) (h1 : n ≤ at_ + 1) (h2 : at_ < m) (hl : m ≤ 1048576) :
    Calls Try.prog 64 #[.pointer (some ⟨T, 0, none⟩), .slice A n c, .slice B m mc, .int .i64 (at_ : Int)] w fun e w' => e = .returned (.int .u8 ((dsum q (sq l) at_).v : Int)) ∧ Gr w w' := by
  have HT := Lib.hid hT
  have HQ := Lib.hid hq
  have HB := Lib.hid hb
  have HN := Lib.hid hn
  have HM := Lib.hid hm
  clear hT hq hb hn hm
  go_enter Try.func64, Try.ntmps64
  go_wp2_with fail
  go_loopw [9, 14] (fun s z wr => ∃ k : Nat, k ≤ n ∧ z = .int .i64 k ∧ s = .int .u8 ((dsum (q.take k) (sq l) at_).v : Int) ∧ Gr w wr) (fun _ z _ => n - (intOf z).toNat)
  case atStart => exact ⟨0, Nat.zero_le _, rfl, rfl, Gr.refl _⟩
  case round =>
    obtain ⟨k, hk, rfl, rfl, hg⟩ := hrel
    by_cases hlt : k < n
    · have hkl : k < q.length := by have := HN.out; omega
      obtain ⟨b, off, rfl, c0⟩ := Byts_at (HQ.out.keep hg) hkl
      obtain ⟨b2, off2, rfl, c1⟩ := Byts_at (HB.out.keep hg) (show at_ - k < l.length by have := HM.out; omega)
      have HV := Lib.hid (dsum_take (sq l) q k at_ hkl (by omega))
      have HL : Hid (sq l (at_ - k) = l.getD (at_ - k) g0) := Lib.hid rfl
      rw [HL.out] at HV
      generalize q.getD k g0 = y at c0 HV
      generalize l.getD (at_ - k) g0 = z at c1 HV
      generalize dsum (q.take k) (sq l) at_ = s at HV ⊢
      have j1 : ((at_ : Int) - (k : Int)).toNat = at_ - k := by omega
      have j2 : (0 : Int) ≤ (at_ : Int) - (k : Int) := by omega
      have j3 : (at_ : Int) - (k : Int) < (m : Int) := by omega
      have j4 : k ≤ at_ := by omega
      clear HL
      go_wp2_with fail
      refine (product_any T y z _ (HT.out.keep hg)).mono ?_
      rintro e w1 ⟨rfl, hg1⟩
      have hx := xor8 s (y * z)
      go_wp2_with fail
      go_roundw
      case rel => exact ⟨k + 1, by omega, by go_num, by rw [HV.out], hg.trans hg1⟩
      case measure => simp [intOf] <;> omega
    · obtain rfl : k = n := by omega
      have HF : Hid (q.take k = q) := Lib.hid (List.take_of_length_le (by have := HN.out; omega))
      rw [HF.out]
      go_wp2_with fail
      go_ret
      exact ⟨rfl, hg⟩

theorem addL_zero (f : G) : ∀ ys : List G, addL (List.replicate ys.length g0) f ys = ys.map (f * ·)
  | [] => rfl
  | y :: ys => by
    rw [List.length_cons, List.replicate_succ]
    simp only [addL, List.map_cons, gzero_add]
    rw [addL_zero f ys]
/-- A row of the call's own, of bytes. -/
theorem Row.of {w : World} {base g n c : Nat} {xs : List G} (hn : xs.length = n) (h : w.ownsRow base 5 1 (.slice (some ⟨g, 0, none⟩) n c) n (flatE encG xs)) : Row w g 0 xs := fun i hi => by
  rw [Nat.zero_add, h.cellAt i (by omega), flatG, List.getElem?_map, getD_of g0 hi]
  exact ⟨rfl, h.frozenAt _⟩

set_option maxRecDepth 100000 in
set_option maxHeartbeats 1000000 in
theorem scaled_any (T : Nat) (A : Option Addr) (m mc : Nat) (ys : List G) (f : G) (w : World) (hT : Tabs T w) (hm : ys.length = m) (hy : Byts w A ys) (hl : m ≤ 1048576) :
    Calls Try.prog 74 #[.pointer (some ⟨T, 0, none⟩), .slice A m mc, .int .u8 (f.v : Int)] w fun e w' => ∃ g, e = .returned (.slice (some ⟨g, 0, none⟩) m m) ∧ w.heap.size ≤ g ∧ Row w' g 0 (ys.map (f * ·)) ∧ Gr w w' ∧ Room w' g m := by
  have hmk := fun w => mk_bytes m (by omega) w
  have HB0 := Lib.hid (BG.new w (List.replicate m g0) rfl).row
  have HG0 := Lib.hid ((Gr.refl w).alloc (.cells (gcs (List.replicate m g0)) 5))
  have HR0 : Hid (Room (w.alloc (.cells (gcs (List.replicate m g0)) 5)) w.heap.size m) := Lib.hid (by have := Room.new w (gcs (List.replicate m g0)) rfl; simpa [gcs] using this)
  have HT := Lib.hid (hT.keep HG0.out)
  have HTl := Lib.hid hT.lt
  have HY := Lib.hid (hy.keep HG0.out)
  have HYl : Hid (0 < ys.length → ∀ b o, A = some ⟨b, o, none⟩ → b ≠ w.heap.size) := Lib.hid (fun h b o e => by
    obtain ⟨b', o', e', c0⟩ := Byts_at hy h
    rw [e] at e'
    obtain ⟨rfl, rfl⟩ : b = b' ∧ o = o' := by simpa using e'
    have := World.block_lt_of_cell? w _ c0
    dsimp only at this; omega)
  have HM := Lib.hid hm
  clear hT hy hm
  go_enter Try.func74, Try.ntmps74
  go_wp2_with fail
  generalize World.alloc w _ = W0 at HB0 HG0 HT HY HR0 ⊢
  clear hmk
  refine (add_any T w.heap.size 0 m m (List.replicate m g0) f A m mc ys W0 HT.out (by have := HTl.out; omega) HB0.out (by simp) ⟨HY.out, HYl.out⟩ HM.out (Nat.le_refl _) hl).mono ?_
  rintro e w1 ⟨rfl, hR, hG, hO⟩
  go_wp2_with fail
  go_ret
  refine ⟨_, rfl, Nat.le_refl _, ?_, hG.gr HG0.out (Nat.le_refl _), hO.1 _ HR0.out⟩
  have := addL_zero f ys
  rw [HM.out] at this
  rw [← this]; exact hR

def CloneGPost (ns : List G) (w : World) (e : Ending) (w' : World) : Prop :=
  ∃ g c, e = .returned (.slice (some ⟨g, 0, none⟩) ns.length c) ∧ ns.length ≤ c ∧ w.heap.size ≤ g ∧ Row w' g 0 ns ∧ Gr w w'
set_option maxHeartbeats 1000000 in
theorem cloneG_any (b off n c : Nat) (ns : List G) (w : World) (hn : ns.length = n) (hl : n ≤ 1048576) (h0 : 1 ≤ n) (hp : Byts w (some ⟨b, off, none⟩) ns) :
    Calls Try.prog 59 #[.slice (some ⟨b, off, none⟩) n c] w (CloneGPost ns w) := by
  obtain ⟨i0, hi, hz0, hz1, hz2⟩ := info_parts Try.infoByte
  have q : ∀ (w : World) (a : Option Addr) (n c n' c' : Nat), (binOp .eql 40 (.slice a n c) (.slice none n' c')).run Try.prog w = .ok (.bool a.isNone) w := fun w a n c n' c' => Lib.run_eql_slice_nil w _ _ a n c n' c' Try.underlying40
  have HN := Lib.hid hn
  have HP := Lib.hid hp
  clear hn hp
  go_enter Try.func59, Try.ntmps59
  go_wp2_with (at_builtin; refine wpList_append_own _ rfl _ _ 40 rfl w.heap.size 5 i0 _ 1 1 Try.underlying40 hi hz0 hz1 hz2 rfl (by decide) _ _ _ rfl (World.ownsRow_made w #[] 0 (Nat.le_refl _) (Nat.zero_le _) (by simp)) ⟨b, off, none⟩ n c (flatE encG ns) rfl ?qc1 ?qc2 ?qc3 ?qc4 ?qc5 ?qc6 ?_)
  case qc1 => rw [flatE_len encG_len, HN.out]
  case qc2 =>
    intro j u hj
    rw [Addr.add_lit]
    exact alloc_old (flatE_cells encG_len (by decide) HP.out j u hj)
  case qc3 => exact oneCell_flat encG_one ns
  case qc4 => unfold maxLen; omega
  case qc5 => omega
  case qc6 => simp
  intro v' w1 hown hgrow hnil
  have hown' : w1.ownsRow w.heap.size 5 1 v' n (flatE encG ns) := by simpa using hown
  have HO := Lib.hid hown'
  have HG := Lib.hid hgrow
  clear hown hgrow hnil hi hz0 hz1 hz2 q hown'
  go_wp2
  go_ret
  rcases HO.out.2 with ⟨_, hz⟩ | ⟨g, cap, cur, rfl, hg, _, hnc, _⟩
  · omega
  · refine ⟨g, cap, by rw [HN.out]; rfl, by rw [HN.out]; exact hnc, hg, Row.of HN.out HO.out, ?_⟩
    exact ((Below.refl _ w).alloc (Nat.le_refl _) _).grown HG.out (by simp) (by intro k hk; simp [Value.ownBlock] at hk; omega)

end Go.Proofs.Ytbkbgcapkhelhaa
