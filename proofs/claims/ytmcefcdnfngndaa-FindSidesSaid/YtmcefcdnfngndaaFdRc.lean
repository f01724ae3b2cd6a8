/- Layer 7: the reference's Turn and Overlaps. -/
import Derived.Test.YtmcefcdnfngndaaFdRb
namespace Go.Proofs.Ytmcefcdnfngndaa
open Go.RowKit Go.Shelf
set_option linter.unusedSimpArgs false

theorem turF_full (T : List UInt8) (l : List Nat) : ∀ k, (∀ j, j < k → l.getD j 0 ≠ 0) → (turF T l k).1.length = k
  | 0, _ => rfl
  | k + 1, h => by
    simp only [turF]
    rw [if_neg (h k (by omega)), List.length_append, turF_full T l k (fun j hj => h j (by omega))]; rfl
theorem ints_of_owns {w : World} {base n c : Nat} {A : Option Addr} {l : List Nat} (hl : l.length = n) (h : w.ownsRow base 3 1 (.slice A n c) n (flatE enc1 (nI l))) : Ints w A (nI l) := by
  rcases h.2 with ⟨h', hz⟩ | ⟨g, cap, cur, h', _⟩
  · injection h' with h1 _ _
    subst h1
    have : l = [] := List.eq_nil_of_length_eq_zero (by rw [hl]; exact hz)
    subst this; exact Rd_nil _ _
  · injection h' with h1 h2 h3
    subst h1
    exact Rd_of_owns enc1_len (by rw [nI_len, hl]) h

set_option maxRecDepth 1000000 in
set_option maxHeartbeats 16000000 in
theorem rTurn_any (s : ByteArray) (n : Nat) (w : World) (hn : s.size = n) (hnb : n ≤ 4097) :
    Calls Try.prog 24 #[.string s] w fun e w' => ∃ o, IsOrd (bts s) o ∧ e = .returned (.tuple #[.string ⟨(turF (bts s) (n :: o) (n + 1)).1.toArray⟩, .int .i64 ((turF (bts s) (n :: o) (n + 1)).2 : Int)]) ∧ Gr w w' := by
  obtain ⟨i1, ji, jz0, jz1, jz2⟩ := info_parts Try.infoFdB
  have HJ := Lib.hid (And.intro ji (And.intro jz0 (And.intro jz1 jz2)))
  have HTL : Hid ((bts s).length = n) := Lib.hid (by rw [bts_len]; exact hn)
  have HO := Lib.hid (fun W => rOrder_any s n W hn hnb)
  have HSZ := Lib.hid hn
  have hsi : (s.size : Int) = (n : Int) := by omega
  clear ji jz0 jz1 jz2 hn
  go_enter Try.func24, Try.ntmps24
  have HO1 := Lib.hid (HO.out w)
  clear HO
  go_wp2_with fail
  refine HO1.out.mono ?_
  rintro e w1 ⟨A, c, o, rfl, hO, hown1, hg1⟩
  have HOO := Lib.hid hO
  have HIN : Hid (Ints w1 A (nI o)) := Lib.hid (ints_of_owns (by rw [hO.len, HTL.out]) hown1)
  have HOL : Hid (o.length = n) := Lib.hid (by rw [hO.len, HTL.out])
  obtain ⟨l, hl⟩ : ∃ l, n :: o = l := ⟨_, rfl⟩
  have HL := Lib.hid hl
  obtain ⟨T, hT⟩ : ∃ T, bts s = T := ⟨_, rfl⟩
  have HT := Lib.hid hT
  have HLM : Hid (∀ k, k < n → l.getD (k + 1) 0 = o.getD k 0 ∧ o.getD k 0 < n) := Lib.hid (fun k hk => ⟨by rw [← hl]; rfl, by
    have := hO.getD_lt (p := k) (by rw [HTL.out]; exact hk)
    rwa [HTL.out] at this⟩)
  have HZ : Hid (∀ k, k < n → o.getD k 0 = 0 → (turF T l (k + 1)).1.length = k + 1) := Lib.hid (fun k hk h0 => turF_full T l (k + 1) (fun j hj h => by
    cases j with
    | zero => rw [← hl] at h; simp at h; omega
    | succ j =>
      rw [← hl] at h
      have h' : o.getD j 0 = 0 := h
      have a1 := hO.idx_getD (p := k) (by rw [HTL.out]; exact hk)
      have a2 := hO.idx_getD (p := j) (by rw [HTL.out]; omega)
      rw [h0] at a1; rw [h', a1] at a2; omega))
  clear hO hown1 hT hl HO1
  by_cases h0 : n = 0
  · subst h0
    have HR : Hid (turF T l (0 + 1) = ([], 0)) := Lib.hid (by rw [← HL.out]; simp [turF])
    have hon : o = [] := List.eq_nil_of_length_eq_zero HOL.out
    have hsz0 : (s.size : Int) = 0 := by omega
    have hcv := convB_any [] 0 (.slice none 0 0) w.heap.size w1 rfl (World.ownsRow_nil _ _ _ _)
    go_wp2_with fail
    go_loopw [5, 6, 7] (fun v q z wr => v = .slice none 0 0 ∧ q = .int .i64 0 ∧ z = .int .i64 0 ∧ wr = w1) (fun _ _ z _ => 0)
    case atStart => exact ⟨rfl, rfl, rfl, rfl⟩
    case round =>
      obtain ⟨rfl, rfl, rfl, rfl⟩ := hrel
      go_wp2_with (simp only [hcv])
      refine bodyPost_ret (v := .tuple #[.string ⟨#[]⟩, .int .i64 0]) ?_ ?_ ?_
      · simp [results, Try.results24, go_sem]
      · rfl
      · exact ⟨o, HOO.out, by rw [HL.out, HT.out, HR.out]; rfl, hg1⟩
  · have hnpos : (0 : Int) < (n : Int) := by omega
    have hsz0 : (0 : Int) < (s.size : Int) := by omega
    have hx : n - 1 < s.size := by have := HSZ.out; omega
    have g1 : IntKind.i64.wrap ((s.size : Int) - 1) = ((n - 1 : Nat) : Int) := by rw [show (s.size : Int) - 1 = ((n - 1 : Nat) : Int) by omega]; exact IntWalk.i64_in _ (by omega)
    have g1' : IntKind.i64.wrap ((n : Int) - 1) = ((n - 1 : Nat) : Int) := by rw [show (n : Int) - 1 = ((n - 1 : Nat) : Int) by omega]; exact IntWalk.i64_in _ (by omega)
    have HR1 : Hid (turF T l 1 = ([s[n - 1]], 0)) := Lib.hid (by
      rw [← HL.out, ← HT.out]; simp only [turF, List.getD_cons_zero]; rw [if_neg h0, bts_getD s hx]; rfl)
    generalize n - 1 = y at hx g1 g1' HR1
    have hyi : (y : Int) < (s.size : Int) := by omega
    have hyi2 : (y : Int) < (n : Int) := by omega
    generalize hby : s[y] = by_ at HR1
    obtain ⟨ji, jz0, jz1, jz2⟩ := HJ.out
    go_wp2_with (at_builtin; refine wpList_append_own _ rfl _ _ 61 rfl w1.heap.size 5 i1 _ 1 1 Try.underlying61 ji jz0 jz1 jz2 rfl (by decide) (.slice none 0 0) 0 [] rfl (World.ownsRow_nil _ _ _ _) ⟨w1.heap.size, 0, none⟩ 1 1 [.int .u8 (by_.toNat : Int)] rfl rfl ?a1 ?a2 ?a3 ?a4 ?a5 ?_)
    case a1 =>
      intro t x ht
      rw [Addr.add_lit]
      exact alloc_new rfl (by rw [Nat.zero_add]; simpa using ht)
    case a2 => first | rfl | (intro x hx; rw [List.mem_singleton] at hx; subst hx; rfl)
    case a3 => unfold maxLen; omega
    case a4 => omega
    case a5 => simp
    intro v' w3 hown3 hgrow _
    have hg3 : Gr w1 w3 := Below.grown ((Gr.refl w1).alloc _) hgrow (((Gr.refl w1).alloc _).size) (fun t ht => by simp [Value.ownBlock] at ht)
    have HO3 : Hid (w3.ownsRow w1.heap.size 5 1 v' (turF T l (0 + 1)).1.length (flatE encB (turF T l (0 + 1)).1)) := Lib.hid (by rw [HR1.out]; exact hown3)
    have HM3 : Hid ((turF T l (0 + 1)).2 = 0) := Lib.hid (by rw [HR1.out])
    clear hown3 hgrow ji jz0 jz1 jz2 g1 g1' hyi hyi2 hby HR1 h0 hnpos hsz0
    go_wp2_with fail
    go_loopw [5, 6, 7] (fun v q z wr => ∃ k : Nat, k ≤ n ∧ z = .int .i64 (k : Int) ∧ q = .int .i64 ((turF T l (k + 1)).2 : Int) ∧ Hid (wr.ownsRow w1.heap.size 5 1 v (turF T l (k + 1)).1.length (flatE encB (turF T l (k + 1)).1)) ∧ Gr w1 wr) (fun _ _ z _ => n - (intOf z).toNat)
    case atStart => exact ⟨0, Nat.zero_le _, rfl, by rw [HM3.out]; rfl, HO3, hg3⟩
    case round =>
      clear HO3 hg3 HM3
      obtain ⟨k, hk, rfl, rfl, hown, hgr⟩ := hrel
      by_cases hlt : k < n
      · have hki : (k : Int) < (n : Int) := by omega
        obtain ⟨b, off, rfl, x0⟩ := Nats_at (HIN.out.keep hgr) (i := k) (by rw [HOL.out]; exact hlt)
        obtain ⟨hlk, hon⟩ := HLM.out k hlt
        have htl := turF_le T l (k + 1)
        by_cases hx : o.getD k 0 = 0
        · have HE : Hid (turF T l (k + 1 + 1) = ((turF T l (k + 1)).1, k + 1)) := Lib.hid (by
            have hz := HZ.out k hlt hx
            rw [turF, hlk, if_pos hx, hz])
          rw [hx] at x0
          clear hx hlk htl
          generalize turF T l (k + 1) = r at hown HE ⊢
          obtain ⟨r1, r2⟩ := r
          dsimp only at hown HE ⊢
          go_wp2_with fail
          go_roundw
          case rel => exact ⟨k + 1, by omega, by go_num, by rw [HE.out]; go_num, by rw [HE.out]; exact hown, hgr⟩
          case measure => simp [intOf]; omega
        · have hxs : o.getD k 0 - 1 < s.size := by have := HSZ.out; omega
          have HE : Hid (turF T l (k + 1 + 1) = ((turF T l (k + 1)).1 ++ [s[o.getD k 0 - 1]], (turF T l (k + 1)).2)) := Lib.hid (by
            rw [turF, hlk, if_neg hx, ← HT.out, bts_getD s hxs])
          have x1 : (((o.getD k 0 : Nat) : Int) == 0) = false := beq_eq_false_iff_ne.2 (by omega)
          have hwr : IntKind.i64.wrap (((o.getD k 0 : Nat) : Int) - 1) = ((o.getD k 0 - 1 : Nat) : Int) := by rw [show ((o.getD k 0 : Nat) : Int) - 1 = ((o.getD k 0 - 1 : Nat) : Int) by omega]; exact IntWalk.i64_in _ (by omega)
          clear hlk
          generalize o.getD k 0 - 1 = y at hxs HE hwr
          generalize o.getD k 0 = x at x0 hon hx x1 hwr
          have hyi : (y : Int) < (s.size : Int) := by omega
          have hyi2 : (y : Int) < (n : Int) := by omega
          generalize hby : s[y] = by_ at HE
          generalize turF T l (k + 1) = r at hown htl HE ⊢
          obtain ⟨r1, r2⟩ := r
          dsimp only at hown htl HE ⊢
          obtain ⟨L, hL⟩ : ∃ L, r1.length = L := ⟨_, rfl⟩
          rw [hL] at hown htl
          have HL2 := Lib.hid hL
          obtain ⟨ji, jz0, jz1, jz2⟩ := HJ.out
          obtain ⟨A7, c7, rfl, -⟩ := own_row encB_len hL hown.out
          clear hx hon hL
          go_wp2_with (at_builtin; refine wpList_append_own _ rfl _ _ 61 rfl w1.heap.size 5 i1 _ 1 1 Try.underlying61 ji jz0 jz1 jz2 rfl (by decide) _ _ _ rfl (hown.out.alloc _) ⟨wr.heap.size, 0, none⟩ 1 1 [.int .u8 (by_.toNat : Int)] rfl rfl ?a1 ?a2 ?a3 ?a4 ?a5 ?_)
          case a1 =>
            intro t x ht
            rw [Addr.add_lit]
            exact alloc_new rfl (by rw [Nat.zero_add]; simpa using ht)
          case a2 => intro x hx; rw [List.mem_singleton] at hx; subst hx; rfl
          case a3 => unfold maxLen; omega
          case a4 => omega
          case a5 => have := hgr.size; simp; omega
          intro v' w3 hown3 hgrow _
          have hal : Gr wr (wr.alloc (.cells #[.int .u8 (by_.toNat : Int)] 5)) := (Gr.refl _).alloc _
          have ho2 := hown.out.alloc (.cells #[.int .u8 (by_.toNat : Int)] 5)
          have hg3 : Gr w1 w3 := Below.grown (hgr.trans hal) hgrow (hgr.trans hal).size (fun t ht => (ho2.lt t ht).1)
          have HO3 : Hid (w3.ownsRow w1.heap.size 5 1 v' (L + 1) (flatE encB (r1 ++ [by_]))) := Lib.hid (by rw [flatE_snoc]; exact hown3)
          have HLN : Hid ((r1 ++ [by_]).length = L + 1) := Lib.hid (by rw [List.length_append, List.length_singleton, HL2.out])
          clear hown3 hgrow hal ho2 ji jz0 jz1 jz2 hown x0 hby
          go_wp2_with fail
          go_roundw
          case rel => exact ⟨k + 1, by omega, by go_num, by rw [HE.out], by rw [HE.out]; dsimp only; rw [HLN.out]; exact HO3, hg3⟩
          case measure => simp [intOf]; omega
      · obtain rfl : k = n := by omega
        have hcv := convB_any _ _ _ _ _ rfl hown.out
        have hgr2 := hg1.trans hgr
        go_wp2_with (simp only [hcv])
        refine bodyPost_ret (v := .tuple #[.string ⟨(turF T l (k + 1)).1.toArray⟩, .int .i64 ((turF T l (k + 1)).2 : Int)]) ?_ ?_ ?_
        · simp [results, Try.results24, go_sem]
        · rfl
        · exact ⟨o, HOO.out, by rw [HL.out, HT.out], hgr2⟩

end Go.Proofs.Ytmcefcdnfngndaa
