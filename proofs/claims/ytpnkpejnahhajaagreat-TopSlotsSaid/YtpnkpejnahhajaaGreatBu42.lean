/- The library's Clone of a slice of points. -/
import Derived.Test.YtpnkpejnahhajaaGreatBu40
namespace Go.Proofs.YtpnkpejnahhajaaGreat
open Go.RowKit
set_option linter.unusedSimpArgs false

def ClonePost (ps : List (Int × Int)) (w : World) (e : Ending) (w' : World) : Prop :=
  ∃ g c, e = .returned (.slice (some ⟨g, 0, none⟩) ps.length c) ∧ ps.length ≤ c ∧ w.heap.size ≤ g ∧ Own w' g 0 ps ∧ Gr w w'
theorem Tryz.info23 : (Tryz.prog.info? 108).map (fun i => (i.zero, i.size, i.bytes)) = some (some (.agg #[.int .i64 0, .int .i64 0]), 2, 16) := by kernel_rfl

set_option maxHeartbeats 1000000 in
theorem clone_any (b off n c : Nat) (ps : List (Int × Int)) (w : World) (hn : ps.length = n) (hl : n ≤ 512) (h0 : 1 ≤ n) (hp : Pts w (some ⟨b, off, none⟩) ps) :
    Calls Tryz.prog 81 #[.slice (some ⟨b, off, none⟩) n c] w (ClonePost ps w) := by
  obtain ⟨i0, hi, hz0, hz1, hz2⟩ := info_parts Tryz.info23
  have q : ∀ (w : World) (a : Option Addr) (n c n' c' : Nat), (binOp .eql 70 (.slice a n c) (.slice none n' c')).run Tryz.prog w = .ok (.bool a.isNone) w := fun w a n c n' c' => Lib.run_eql_slice_nil w _ _ a n c n' c' Tryz.underlying70
  have HN := Lib.hid hn
  have HP := Lib.hid hp
  clear hn hp
  go_enter Tryz.func81, Tryz.ntmps81
  go_wp2_with (at_builtin; refine wpList_append_own _ rfl _ _ 70 rfl w.heap.size 108 i0 _ 2 16 Tryz.underlying70 hi hz0 hz1 hz2 rfl (by decide) _ _ _ rfl (World.ownsRow_made w #[] 0 (Nat.le_refl _) (Nat.zero_le _) (by simp)) ⟨b, off, none⟩ n c (flat2 ps) rfl ?qc1 ?qc2 ?qc3 ?qc4 ?qc5 ?qc6 ?_)
  case qc1 => rw [flat2_len, HN.out]
  case qc2 =>
    intro j u hj
    rw [Addr.add_lit]
    exact alloc_old (flat2_cells HP.out j u hj)
  case qc3 => exact flat2_one ps
  case qc4 => unfold maxLen; omega
  case qc5 => omega
  case qc6 => simp
  intro v' w1 hown hgrow hnil
  have hown' : w1.ownsRow w.heap.size 108 2 v' n (flat2 ps) := by simpa using hown
  have HO := Lib.hid hown'
  have HG := Lib.hid hgrow
  clear hown hgrow hnil hi hz0 hz1 hz2 q hown'
  go_wp2
  go_ret
  rcases HO.out.2 with ⟨_, hz⟩ | ⟨g, cap, cur, rfl, hg, _, hnc, _⟩
  · omega
  · refine ⟨g, cap, by rw [HN.out]; rfl, by rw [HN.out]; exact hnc, hg, Own_of HN.out HO.out, ?_⟩
    exact ((Below.refl _ w).alloc (Nat.le_refl _) _).grown HG.out (by simp) (by intro k hk; simp [Value.ownBlock] at hk; omega)

end Go.Proofs.YtpnkpejnahhajaaGreat
