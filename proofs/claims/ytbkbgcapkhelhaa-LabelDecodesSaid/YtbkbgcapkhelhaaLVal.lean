/- Layer 3: products, quotients, values of polynomials. -/
import Derived.Test.YtbkbgcapkhelhaaLTab
namespace Go.Proofs.Ytbkbgcapkhelhaa
open Go.RowKit
set_option linter.unusedSimpArgs false

def encG (g : G) : List Value := [.int .u8 (g.v : Int)]
theorem encG_len (x : G) : (encG x).length = 1 := rfl
theorem encG_one (x : G) : ∀ u ∈ encG x, u.oneCell' = true := by intro u hu; simp [encG] at hu; subst hu; rfl
abbrev Byts := Rd 1 encG
theorem Byts_at {w : World} {A : Option Addr} {ns : List G} (h : Byts w A ns) {i : Nat} (hi : i < ns.length) : ∃ b off, A = some ⟨b, off, none⟩ ∧ w.cell? ⟨b, off + i, none⟩ = some (.int .u8 ((ns.getD i g0).v : Int)) := by
  obtain ⟨b, off, e, hc⟩ := h i _ (getD_of g0 hi)
  have := hc 0 _ rfl
  rw [Nat.mul_one, Nat.add_zero] at this
  exact ⟨b, off, e, this⟩
theorem g_zero_test (a : G) : (((a.v : Nat) : Int) == 0) = decide (a = g0) := by
  rw [Bool.eq_iff_iff]
  simp only [beq_iff_eq, decide_eq_true_eq]
  constructor
  · intro h; exact G.eq (show a.v = 0 by omega)
  · intro h; subst h; rfl

set_option maxRecDepth 100000 in
set_option maxHeartbeats 1000000 in
theorem product_any (T : Nat) (a b : G) (w : World) (hT : Tabs T w) : Calls Try.prog 66 #[.pointer (some ⟨T, 0, none⟩), .int .u8 (a.v : Int), .int .u8 (b.v : Int)] w fun e w' => e = .returned (.int .u8 ((a * b).v : Int)) ∧ Gr w w' := by
  have ta := g_zero_test a
  have tb := g_zero_test b
  by_cases ha : a = g0
  · have HV : Hid (a * b = g0) := Lib.hid (by rw [ha, gzero_mul])
    rw [decide_eq_true ha] at ta
    clear ha tb
    go_enter Try.func66, Try.ntmps66
    go_wp2_with fail
    go_ret
    exact ⟨by rw [HV.out]; rfl, Gr.refl _⟩
  · rw [decide_eq_false ha] at ta
    by_cases hb : b = g0
    · have HV : Hid (a * b = g0) := Lib.hid (by rw [hb, gmul_zero])
      rw [decide_eq_true hb] at tb
      clear ha hb
      go_enter Try.func66, Try.ntmps66
      go_wp2_with fail
      go_ret
      exact ⟨by rw [HV.out]; rfl, Gr.refl _⟩
    · rw [decide_eq_false hb] at tb
      have HV := Lib.hid (gmul_log ha hb)
      have c1 := hT.2 a ha
      have c2 := hT.2 b hb
      have l1 := (glog_spec ha).1
      have l2 := (glog_spec hb).1
      have hav := a.lt
      have hbv := b.lt
      generalize glog a = x at l1 c1 HV
      generalize glog b = y at l2 c2 HV
      have c3 := hT.1 ((x + y) % 255) (Nat.mod_lt _ (by omega))
      have h1 : IntKind.i64.wrap ((x : Int) + (y : Int)) = (x : Int) + (y : Int) := IntWalk.i64_in _ (by omega)
      have h2 : ((x : Int) + (y : Int)).tmod 255 = (((x + y) % 255 : Nat) : Int) := by rw [Int.tmod_eq_emod_of_nonneg (by omega)]; omega
      have h3 : ((x : Int) + (y : Int)) % 255 = (((x + y) % 255 : Nat) : Int) := by omega
      have h4 : (x + y) % 255 < 255 := Nat.mod_lt _ (by omega)
      generalize (x + y) % 255 = r at c3 h2 h3 h4 HV
      generalize gp r = z at c3 HV
      generalize a * b = ab at HV ⊢
      generalize a.v = av at hav c1 ta ⊢
      generalize b.v = bv at hbv c2 tb ⊢
      have t1 : (0 : Int) ≤ (av : Int) := by omega
      have t2 : (av : Int) < 256 := by omega
      have t3 : (0 : Int) ≤ (bv : Int) := by omega
      have t4 : (bv : Int) < 256 := by omega
      have t5 : (0 : Int) ≤ (r : Int) := by omega
      have t6 : (r : Int) < 255 := by omega
      clear hT ha hb
      go_enter Try.func66, Try.ntmps66
      go_wp2_with fail
      go_quiet (fail)
      go_wp2_with fail
      go_ret
      exact ⟨by rw [HV.out]; rfl, (Gr.refl _).drewN _⟩

set_option maxRecDepth 100000 in
set_option maxHeartbeats 1000000 in
theorem quotient_any (T : Nat) (a b : G) (w : World) (hT : Tabs T w) (hb : b ≠ g0) : Calls Try.prog 35 #[.pointer (some ⟨T, 0, none⟩), .int .u8 (a.v : Int), .int .u8 (b.v : Int)] w fun e w' => e = .returned (.int .u8 ((a * ginv b).v : Int)) ∧ Gr w w' := by
  have ta := g_zero_test a
  by_cases ha : a = g0
  · have HV : Hid (a * ginv b = g0) := Lib.hid (by rw [ha, gzero_mul])
    rw [decide_eq_true ha] at ta
    clear ha
    go_enter Try.func35, Try.ntmps35
    go_wp2_with fail
    go_ret
    exact ⟨by rw [HV.out]; rfl, Gr.refl _⟩
  · rw [decide_eq_false ha] at ta
    have HV := Lib.hid (gquo_log ha hb)
    have c1 := hT.2 a ha
    have c2 := hT.2 b hb
    have l1 := (glog_spec ha).1
    have l2 := (glog_spec hb).1
    have hav := a.lt
    have hbv := b.lt
    generalize glog a = x at l1 c1 HV
    generalize glog b = y at l2 c2 HV
    have c3 := hT.1 ((x + 255 - y) % 255) (Nat.mod_lt _ (by omega))
    have h0 : IntKind.i64.wrap ((x : Int) + 255) = (x : Int) + 255 := IntWalk.i64_in _ (by omega)
    have h1 : IntKind.i64.wrap ((x : Int) + 255 - (y : Int)) = (x : Int) + 255 - (y : Int) := IntWalk.i64_in _ (by omega)
    have h2 : ((x : Int) + 255 - (y : Int)).tmod 255 = (((x + 255 - y) % 255 : Nat) : Int) := by rw [Int.tmod_eq_emod_of_nonneg (by omega)]; omega
    have h4 : (x + 255 - y) % 255 < 255 := Nat.mod_lt _ (by omega)
    generalize (x + 255 - y) % 255 = r at c3 h2 h4 HV
    generalize gp r = z at c3 HV
    generalize a * ginv b = ab at HV ⊢
    generalize a.v = av at hav c1 ta ⊢
    generalize b.v = bv at hbv c2 ⊢
    have t1 : (0 : Int) ≤ (av : Int) := by omega
    have t2 : (av : Int) < 256 := by omega
    have t3 : (0 : Int) ≤ (bv : Int) := by omega
    have t4 : (bv : Int) < 256 := by omega
    have t5 : (0 : Int) ≤ (r : Int) := by omega
    have t6 : (r : Int) < 255 := by omega
    clear hT ha hb
    go_enter Try.func35, Try.ntmps35
    go_wp2_with fail
    go_quiet (fail)
    go_wp2_with fail
    go_ret
    exact ⟨by rw [HV.out]; rfl, (Gr.refl _).drewN _⟩

theorem val_take (q : List G) (x : G) {k : Nat} (hk : k < q.length) : val (q.take (k + 1)) x = val (q.take k) x * x + q.getD k g0 := by
  rw [List.take_add_one, getD_of g0 hk, Option.toList_some, val_snoc]
theorem xor8 (a b : G) : bits .xor .u8 (a.v : Int) (b.v : Int) = ((a + b).v : Int) := u8_xor_nat a.v b.v a.lt b.lt

set_option maxRecDepth 100000 in
set_option maxHeartbeats 1000000 in
theorem value_any (T : Nat) (A : Option Addr) (n c : Nat) (q : List G) (x : G) (w : World) (hT : Tabs T w) (hn : q.length = n) (hl : n ≤ 1048576) (hp : Byts w A q) :
    Calls Try.prog 56 #[.pointer (some ⟨T, 0, none⟩), .slice A n c, .int .u8 (x.v : Int)] w fun e w' => e = .returned (.int .u8 ((val q x).v : Int)) ∧ Gr w w' := by
  have HN := Lib.hid hn
  have HT := Lib.hid hT
  have HP := Lib.hid hp
  clear hn hT hp
  go_enter Try.func56, Try.ntmps56
  go_wp2_with fail
  go_loopw [7, 12] (fun s z wr => ∃ k : Nat, k ≤ n ∧ z = .int .i64 k ∧ s = .int .u8 ((val (q.take k) x).v : Int) ∧ Gr w wr) (fun _ z _ => n - (intOf z).toNat)
  case atStart => exact ⟨0, Nat.zero_le _, rfl, rfl, Gr.refl _⟩
  case round =>
    obtain ⟨k, hk, rfl, rfl, hg⟩ := hrel
    by_cases hlt : k < n
    · have hkl : k < q.length := by have := HN.out; omega
      obtain ⟨b, off, rfl, c0⟩ := Byts_at (HP.out.keep hg) hkl
      have HV := Lib.hid (val_take q x hkl)
      generalize q.getD k g0 = y at c0 HV
      generalize val (q.take k) x = s at HV ⊢
      go_wp2_with fail
      refine (product_any T s x _ (HT.out.keep hg)).mono ?_
      rintro e w1 ⟨rfl, hg1⟩
      have hx := xor8 (s * x) y
      go_wp2_with fail
      go_roundw
      case rel => exact ⟨k + 1, by omega, by go_num, by rw [HV.out], hg.trans hg1⟩
      case measure => simp [intOf] <;> omega
    · obtain rfl : k = n := by omega
      have HF : Hid (val (q.take k) x = val q x) := Lib.hid (by rw [List.take_of_length_le (by have := HN.out; omega)])
      rw [HF.out]
      go_wp2_with fail
      go_ret
      exact ⟨rfl, hg⟩

end Go.Proofs.Ytbkbgcapkhelhaa
