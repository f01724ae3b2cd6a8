/- Layer 3: the reference's lists. -/
import Derived.Test.YtbkbgcapkhelhaaLRefA
import Derived.Test.YtbkbgcapkhelhaaLEnc
namespace Go.Proofs.Ytbkbgcapkhelhaa
open Go.RowKit
set_option linter.unusedSimpArgs false

theorem flat_snoc1 (xs : List Int) (x : Int) : flatE enc1 (xs ++ [x]) = flatE enc1 xs ++ [.int .i64 x] := by rw [flatE_snoc]; rfl
theorem gints_snoc (xs : List G) (x : G) : gints (xs ++ [x]) = gints xs ++ [(x.v : Int)] := by simp [gints]
theorem gs_at {s : ByteArray} {j : Nat} (h : j < s.size) : ((gs s).getD j g0).v = (s.data[j]'h).toNat := by
  have := gs_get h
  rw [List.getD_eq_getElem?_getD, this]; rfl
/-- An empty row that is no block at all. -/
theorem owns_nil (w : World) (t : TypeId) (k : Nat) : w.ownsRow w.heap.size t k (.slice none 0 0) 0 [] := World.ownsRow_nil _ _ _ _
set_option maxRecDepth 100000 in
set_option maxHeartbeats 4000000 in
theorem rNumbers_any (s : ByteArray) (hs : s.size ≤ 1048576) (w : World) :
    Calls Try.prog 22 #[.string s] w fun e w' => ∃ B c, e = .returned (.slice B s.size c) ∧ Ints w' B (gints (gs s)) ∧ Gr w w' := by
  obtain ⟨i0, hi0, hz0, hz1, hz2⟩ := info_parts Try.infoInt
  go_enter Try.func22, Try.ntmps22
  go_wp2_with fail
  go_loopw [3, 4] (fun v z wr => ∃ j : Nat, j ≤ s.size ∧ z = .int .i64 j ∧ Hid (wr.ownsRow w.heap.size 3 1 v j (flatE enc1 (gints ((gs s).take j)))) ∧ Hid (Gr w wr)) (fun _ z _ => s.size - (intOf z).toNat)
  case atStart => exact ⟨0, Nat.zero_le _, rfl, Lib.hid (owns_nil w _ _), Lib.hid (Gr.refl _)⟩
  case round =>
    obtain ⟨j, hj, rfl, hown, hg⟩ := hrel
    by_cases hlt : j < s.size
    · have hjl : j < (gs s).length := by rw [gs_len]; exact hlt
      have HT : Hid (gints ((gs s).take (j + 1)) = gints ((gs s).take j) ++ [((((gs s).getD j g0).v : Nat) : Int)]) := Lib.hid (by
        rw [List.take_add_one, getD_of g0 hjl, Option.toList_some, gints_snoc])
      have hga0 : ((gs s).getD j g0).v = (s[j]'hlt).toNat := gs_at hlt
      have hown2 := hown
      generalize (gs s).getD j g0 = x at HT hga0
      have hga : wrap64 ((s[j]'hlt).toNat : Int) = (x.v : Int) := by
        rw [← hga0]
        have hxl := x.lt
        unfold wrap64; omega
      clear hga0
      have hsz := hg.out.size
      go_wp2_with (at_builtin; refine wpList_append_own _ rfl _ _ 34 rfl w.heap.size 3 i0 _ 1 8 Try.underlying34 hi0 hz0 hz1 hz2 rfl (by decide) _ _ _ rfl (hown2.out.alloc _) ⟨wr.heap.size, 0, none⟩ 1 1 [.int .i64 (x.v : Int)] rfl rfl ?a1 ?a2 ?a3 ?a4 ?a5 ?_)
      case a1 =>
        intro t u ht
        rw [Addr.add_lit]
        exact alloc_new rfl (by rw [Nat.zero_add]; simpa using ht)
      case a2 => intro u hu; obtain rfl := List.mem_singleton.1 hu; rfl
      case a3 => unfold maxLen; omega
      case a4 => omega
      case a5 => simp; omega
      intro v' w2 hown' hgrow _
      have hga : Gr w (wr.alloc _) := hg.out.alloc (.cells #[.int .i64 (x.v : Int)] 3)
      have hgb : Gr w w2 := Below.grown hga hgrow hga.size (fun t ht => (hown2.out.lt t ht).1)
      have HO2 := Lib.hid hown'
      clear hown' hgrow hga
      go_wp2_with fail
      go_roundw
      case rel => exact ⟨j + 1, by omega, by go_num, Lib.hid (by
        rw [HT.out, flat_snoc1]
        exact HO2.out), Lib.hid hgb⟩
      case measure => simp [intOf]; omega
    · have hjm : j = s.size := by omega
      have hlt' : ¬ ((j : Int) < (s.size : Int)) := by omega
      rw [hjm, List.take_of_length_le (by rw [gs_len]; exact Nat.le_refl _)] at hown
      obtain ⟨B, c, hv, -, hrd, -⟩ := own_row (k := 1) (fun _ => rfl) (by rw [gints_len, gs_len]) hown.out
      have HRD : Hid (Ints wr B (gints (gs s))) := Lib.hid hrd
      subst hv
      clear hown hrd
      go_wp2_with fail
      try rw [Exit.noGoto_ret]
      go_ret
      exact ⟨_, ⟨_, rfl⟩, HRD.out, hg.out⟩

theorem bytes_snoc (xs : List G) (x : G) : flatE encG (xs ++ [x]) = flatE encG xs ++ [.int .u8 (x.v : Int)] := by rw [flatE_snoc]; rfl
set_option maxRecDepth 100000 in
set_option maxHeartbeats 4000000 in
theorem rText_any (A : Option Addr) (n c : Nat) (xs : List G) (hn : xs.length = n) (hl : n ≤ 1048576) (w : World) (hp : Ints w A (gints xs)) :
    Calls Try.prog 20 #[.slice A n c] w fun e w' => e = .returned (.string (txt xs)) ∧ Gr w w' := by
  obtain ⟨i0, hi0, hz0, hz1, hz2⟩ := info_parts Try.infoByte
  have HN := Lib.hid hn
  have HP := Lib.hid hp
  clear hn hp
  go_enter Try.func20, Try.ntmps20
  go_wp2_with fail
  go_loopw [3, 4] (fun v z wr => ∃ j : Nat, j ≤ n ∧ z = .int .i64 j ∧ Hid (wr.ownsRow w.heap.size 5 1 v j (flatE encG (xs.take j))) ∧ Hid (Gr w wr)) (fun _ z _ => n - (intOf z).toNat)
  case atStart => exact ⟨0, Nat.zero_le _, rfl, Lib.hid (World.ownsRow_nil _ _ _ _), Lib.hid (Gr.refl _)⟩
  case round =>
    obtain ⟨j, hj, rfl, hown, hg⟩ := hrel
    by_cases hlt : j < n
    · have hjl : j < xs.length := by have := HN.out; omega
      have HT : Hid (xs.take (j + 1) = xs.take j ++ [xs.getD j g0]) := Lib.hid (by rw [List.take_add_one, getD_of g0 hjl]; rfl)
      obtain ⟨b, off, rfl, c0⟩ := Ints_at (HP.out.keep hg.out) (i := j) (by rw [gints_len]; exact hjl)
      rw [gints_at hjl] at c0
      generalize xs.getD j g0 = x at HT c0
      have hxl := x.lt
      have hxl2 : (x.v : Int) ≤ 255 := by omega
      have hw8 : IntKind.u8.wrap (x.v : Int) = (x.v : Int) := by
        show (x.v : Int) % 256 = _
        omega
      have hown2 := hown
      have hsz := hg.out.size
      go_wp2_with (at_builtin; refine wpList_append_own _ rfl _ _ 40 rfl w.heap.size 5 i0 _ 1 1 Try.underlying40 hi0 hz0 hz1 hz2 rfl (by decide) _ _ _ rfl (hown2.out.alloc _) ⟨wr.heap.size, 0, none⟩ 1 1 [.int .u8 (x.v : Int)] rfl rfl ?a1 ?a2 ?a3 ?a4 ?a5 ?_)
      case a1 =>
        intro t u ht
        rw [Addr.add_lit]
        exact alloc_new rfl (by rw [Nat.zero_add]; simpa using ht)
      case a2 => intro u hu; obtain rfl := List.mem_singleton.1 hu; rfl
      case a3 => unfold maxLen; omega
      case a4 => omega
      case a5 => simp; omega
      intro v' w2 hown' hgrow _
      have hga : Gr w (wr.alloc _) := hg.out.alloc (.cells #[.int .u8 (x.v : Int)] 5)
      have hgb : Gr w w2 := Below.grown hga hgrow hga.size (fun t ht => (hown2.out.lt t ht).1)
      have HO2 := Lib.hid hown'
      clear hown' hgrow hga
      go_wp2_with fail
      go_roundw
      case rel => exact ⟨j + 1, by omega, by go_num, Lib.hid (by
        rw [HT.out, bytes_snoc]
        exact HO2.out), Lib.hid hgb⟩
      case measure => simp [intOf]; omega
    · have hjm : j = n := by omega
      have hlt' : ¬ ((j : Int) < (n : Int)) := by omega
      rw [hjm, List.take_of_length_le (by rw [HN.out]; exact Nat.le_refl _)] at hown
      obtain ⟨B, c, hv, -, hrd, -⟩ := own_row (k := 1) (fun _ => rfl) HN.out hown.out
      have hcv := back_any B n c xs HN.out wr hrd
      subst hv
      clear hown hrd hjm
      go_wp2_with (simp only [hcv])
      try rw [Exit.noGoto_ret]
      go_ret
      exact ⟨rfl, hg.out⟩

set_option maxRecDepth 100000 in
set_option maxHeartbeats 4000000 in
theorem rSyndromes_any (A : Option Addr) (n c p : Nat) (q : List G) (w : World) (hn : q.length = n) (hl : n ≤ 1048576) (hpl : p ≤ 255) (hp : Ints w A (gints q)) :
    Calls Try.prog 25 #[.slice A n c, .int .i64 (p : Int)] w fun e w' => ∃ B c, e = .returned (.slice B p c) ∧ Ints w' B (gints (synL q p)) ∧ (∀ b o, B = some ⟨b, o, none⟩ → w.heap.size ≤ b ∧ o = 0 ∧ w'.frozen? ⟨b, 0, none⟩ = false) ∧ Gr w w' := by
  obtain ⟨i0, hi0, hz0, hz1, hz2⟩ := info_parts Try.infoInt
  have HA := Lib.hid (fun (x : G) W (hg : Gr w W) => rAt_any A n c q x W hn hl (hp.keep hg))
  clear hn hp
  go_enter Try.func25, Try.ntmps25
  go_wp2_with fail
  go_loopw [5, 6] (fun v z wr => ∃ j : Nat, j ≤ p ∧ z = .int .i64 j ∧ Hid (wr.ownsRow w.heap.size 3 1 v j (flatE enc1 (gints (synL q j)))) ∧ Hid (Gr w wr)) (fun _ z _ => p - (intOf z).toNat)
  case atStart => exact ⟨0, Nat.zero_le _, rfl, Lib.hid (World.ownsRow_nil _ _ _ _), Lib.hid (Gr.refl _)⟩
  case round =>
    obtain ⟨j, hj, rfl, hown, hg⟩ := hrel
    by_cases hlt : j < p
    · have HT : Hid (synL q (j + 1) = synL q j ++ [val q (gp j)]) := Lib.hid (synL_snoc q j)
      have hsz := hg.out.size
      go_wp2_with fail
      refine (rPow_two j (by omega) _).mono ?_
      rintro e w1 ⟨rfl, rfl⟩
      go_wp2_with fail
      refine (HA.out (gp j) _ hg.out).mono ?_
      rintro e w1 ⟨rfl, hg1⟩
      have HG1 := Lib.hid (hg.out.trans hg1)
      have hown2 := Lib.hid (owns_gr hown.out hg1)
      have hsz1 := HG1.out.size
      generalize val q (gp j) = x at HT ⊢
      go_wp2_with (at_builtin; refine wpList_append_own _ rfl _ _ 34 rfl w.heap.size 3 i0 _ 1 8 Try.underlying34 hi0 hz0 hz1 hz2 rfl (by decide) _ _ _ rfl (hown2.out.alloc _) ⟨w1.heap.size, 0, none⟩ 1 1 [.int .i64 (x.v : Int)] rfl rfl ?a1 ?a2 ?a3 ?a4 ?a5 ?_)
      case a1 =>
        intro t u ht
        rw [Addr.add_lit]
        exact alloc_new rfl (by rw [Nat.zero_add]; simpa using ht)
      case a2 => intro u hu; obtain rfl := List.mem_singleton.1 hu; rfl
      case a3 => unfold maxLen; omega
      case a4 => omega
      case a5 => simp; omega
      intro v' w2 hown' hgrow _
      have hga : Gr w (w1.alloc _) := HG1.out.alloc (.cells #[.int .i64 (x.v : Int)] 3)
      have hgb : Gr w w2 := Below.grown hga hgrow hga.size (fun t ht => (hown2.out.lt t ht).1)
      have HO2 := Lib.hid hown'
      clear hown' hgrow hga
      go_wp2_with fail
      go_roundw
      case rel => exact ⟨j + 1, by omega, by go_num, Lib.hid (by
        rw [HT.out, gints_snoc, flat_snoc1]
        exact HO2.out), Lib.hid hgb⟩
      case measure => simp [intOf]; omega
    · have hjm : j = p := by omega
      have hlt' : ¬ ((j : Int) < (p : Int)) := by omega
      rw [hjm] at hown
      have HOW : Hid (wr.ownsRow w.heap.size 3 1 u5 p (flatE enc1 (gints (synL q p)))) := hown
      obtain ⟨B, c, hv, hrd, hnew⟩ := own_row2 (k := 1) (fun _ => rfl) (by rw [gints_len, synL_len]) hown.out
      have HRD : Hid (Ints wr B (gints (synL q p)) ∧ ∀ b o, B = some ⟨b, o, none⟩ → w.heap.size ≤ b ∧ o = 0 ∧ wr.frozen? ⟨b, 0, none⟩ = false) := Lib.hid ⟨hrd, fun b o e => ⟨hnew b o e, by
        have h := HOW.out
        rw [hv, e] at h
        rcases h.2 with ⟨h1, _⟩ | ⟨g', cap', cur', h1, _⟩
        · cases h1
        · obtain ⟨⟨rfl, rfl⟩, -⟩ : (b = g' ∧ o = 0) ∧ c = cap' := by simpa using h1
          exact ⟨rfl, h.frozenAt 0⟩⟩⟩
      subst hv
      clear hown hrd hjm hnew HOW
      go_wp2_with fail
      try rw [Exit.noGoto_ret]
      go_ret
      first
      | exact ⟨_, ⟨_, rfl⟩, HRD.out.1, HRD.out.2, hg.out⟩
      | exact ⟨_, _, rfl, HRD.out.1, HRD.out.2, hg.out⟩
end Go.Proofs.Ytbkbgcapkhelhaa
