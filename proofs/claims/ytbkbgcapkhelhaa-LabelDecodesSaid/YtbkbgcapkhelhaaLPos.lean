/- Layer 3: the positions that are chosen. -/
import Derived.Test.YtbkbgcapkhelhaaLDmg
namespace Go.Proofs.Ytbkbgcapkhelhaa
open Go.RowKit
set_option linter.unusedSimpArgs false

theorem Try.infoInt : (Try.prog.info? 3).map (fun i => (i.zero, i.size, i.bytes)) = some (some (.int .i64 0), 1, 8) := by kernel_rfl
theorem flat_nats_snoc (is : List Nat) (i : Nat) : flatE enc1 (nats (is ++ [i])) = flatE enc1 (nats is) ++ [.int .i64 (i : Int)] := by
  unfold nats; rw [List.map_append, flatE_app]; simp [flatE, enc1]
set_option maxRecDepth 100000 in
set_option maxHeartbeats 4000000 in
theorem positions_one {D T : Nat} {Aw As : Option Addr} {n wc p sc : Nat} {ws ss : List G} {L : Nat → Bool} {k : Nat} (cap0 : Value) (f : Nat → Bool) (w : World) (h : Dmg w D T Aw As n wc p sc ws ss L k)
    (hf : ∀ (i : Nat) (W : World), Gr w W → i < n → Calls Try.prog 70 #[.int .i64 (i : Int), cap0] W fun e w' => e = .returned (.bool (f i)) ∧ Gr W w') :
    Calls Try.prog 69 #[.pointer (some ⟨D, 0, none⟩), .func (.func 70) #[] #[cap0]] w fun e w' => ∃ B m c, e = .returned (.slice B m c) ∧ ((List.range n).filter f).length = m ∧ Ints w' B (nats ((List.range n).filter f)) ∧ Gr w w' := by
  obtain ⟨i0, hi0, hz0, hz1, hz2⟩ := info_parts Try.infoInt
  have HF := Lib.hid hf
  have c1 := (h.keep ((Gr.refl w).alloc (.cells #[] 3))).c1
  have hn2 := h.n2
  clear hf h
  go_enter Try.func69, Try.ntmps69
  go_wp2_with fail
  have hstart : (w.alloc (.cells #[] 3)).ownsRow w.heap.size 3 1 (.slice (some ⟨w.heap.size, 0, none⟩) 0 0) 0 [] := World.ownsRow_made w #[] 0 (Nat.le_refl _) (Nat.zero_le _) (by simp)
  have hg0 : Gr w (w.alloc (.cells #[] 3)) := (Gr.refl _).alloc _
  go_loopw [5, 13] (fun v z wr => ∃ j m : Nat, j ≤ n ∧ z = .int .i64 j ∧ m ≤ j ∧ Hid (((List.range j).filter f).length = m) ∧ Hid (wr.ownsRow w.heap.size 3 1 v m (flatE enc1 (nats ((List.range j).filter f)))) ∧ Hid (Gr w wr)) (fun _ z _ => n - (intOf z).toNat)
  case atStart => exact ⟨0, 0, Nat.zero_le _, rfl, Nat.zero_le _, Lib.hid rfl, Lib.hid hstart, Lib.hid hg0⟩
  case round =>
    obtain ⟨j, m, hj, rfl, hmj, hml, hown, hg⟩ := hrel
    by_cases hlt : j < n
    · have HC := Lib.hid (HF.out j wr hg.out hlt)
      have HR : Hid ((List.range (j + 1)).filter f = (List.range j).filter f ++ if f j then [j] else []) := Lib.hid (by
        rw [List.range_succ, List.filter_append]; simp [List.filter_cons])
      go_wp2_with fail
      refine HC.out.mono ?_
      rintro e w1 ⟨rfl, hb⟩
      have hgw := hg.out.trans hb
      have hown2 := Lib.hid (owns_gr hown.out hb)
      have hsz := hgw.size
      rcases hfj : f j with _ | _
      · rw [hfj] at HR
        have HR' : Hid ((List.range (j + 1)).filter f = (List.range j).filter f) := Lib.hid (by rw [HR.out]; simp)
        go_wp2_with fail
        go_roundw
        case rel => exact ⟨j + 1, m, by omega, by go_num, by omega, by rw [HR'.out]; exact hml, by rw [HR'.out]; exact hown2, Lib.hid hgw⟩
        case measure => simp [intOf]; omega
      · rw [hfj] at HR
        have HR' : Hid ((List.range (j + 1)).filter f = (List.range j).filter f ++ [j]) := Lib.hid (by rw [HR.out]; simp)
        go_wp2_with (at_builtin; refine wpList_append_own _ rfl _ _ 34 rfl w.heap.size 3 i0 _ 1 8 Try.underlying34 hi0 hz0 hz1 hz2 rfl (by decide) _ _ _ rfl (hown2.out.alloc _) ⟨w1.heap.size, 0, none⟩ 1 1 [.int .i64 (j : Int)] rfl rfl ?a1 ?a2 ?a3 ?a4 ?a5 ?_)
        case a1 =>
          intro t u ht
          rw [Addr.add_lit]
          exact alloc_new rfl (by rw [Nat.zero_add]; simpa using ht)
        case a2 => intro u hu; obtain rfl := List.mem_singleton.1 hu; rfl
        case a3 => unfold maxLen; omega
        case a4 => omega
        case a5 => simp; omega
        intro v' w2 hown' hgrow _
        have hga : Gr w (w1.alloc _) := hgw.alloc (.cells #[.int .i64 (j : Int)] 3)
        have hgb : Gr w w2 := Below.grown hga hgrow hga.size (fun t ht => (hown2.out.lt t ht).1)
        have HO2 := Lib.hid hown'
        clear hown' hgrow hga
        go_wp2_with fail
        go_roundw
        case rel => exact ⟨j + 1, m + 1, by omega, by go_num, by omega, Lib.hid (by rw [HR'.out, List.length_append, hml.out]; rfl), Lib.hid (by
          rw [HR'.out, flat_nats_snoc]
          exact HO2.out), Lib.hid hgb⟩
        case measure => simp [intOf]; omega
    · have hjm : j = n := by omega
      have hlt' : ¬ ((j : Int) < (n : Int)) := by omega
      rw [hjm] at hown hml
      obtain ⟨B, c, hv, -, hrd, -⟩ := own_row (k := 1) (fun _ => rfl) (by rw [nats_len, hml.out]) hown.out
      subst hv
      go_wp2_with fail
      try rw [Exit.noGoto_ret]
      go_ret
      exact ⟨_, _, ⟨_, rfl⟩, hml.out, hrd, hg.out⟩
/-- A row of the call's own, given back: its block is new. -/
theorem own_row2 {α : Type} {enc : α → List Value} {k : Nat} (hk : ∀ x, (enc x).length = k) {w1 : World} {base : Nat} {t : TypeId} {v : Value} {n : Nat} {xs : List α} (hn : xs.length = n) (h : w1.ownsRow base t k v n (flatE enc xs)) :
    ∃ A c, v = .slice A n c ∧ Rd k enc w1 A xs ∧ ∀ b o, A = some ⟨b, o, none⟩ → base ≤ b := by
  rcases h.2 with ⟨rfl, hz⟩ | ⟨g, cap, cur, rfl, hb, _, hnc, _⟩
  · have hq' : xs = [] := List.eq_nil_of_length_eq_zero (by rw [hn]; exact hz)
    subst hq'
    exact ⟨none, 0, by rw [hz], Rd_nil _ _, fun b o e => by cases e⟩
  · exact ⟨some ⟨g, 0, none⟩, cap, rfl, Rd_of_owns hk hn h, fun b o e => by obtain ⟨rfl, rfl⟩ : g = b ∧ 0 = o := by simpa using e
                                                                            exact hb⟩
set_option maxRecDepth 100000 in
set_option maxHeartbeats 4000000 in
theorem positions_two {D T : Nat} {Aw As : Option Addr} {n wc p sc : Nat} {ws ss : List G} {L : Nat → Bool} {k : Nat} (cap0 cap1 : Value) (f : Nat → Bool) (w : World) (h : Dmg w D T Aw As n wc p sc ws ss L k)
    (hf : ∀ (i : Nat) (W : World), Gr w W → i < n → Calls Try.prog 72 #[.int .i64 (i : Int), cap0, cap1] W fun e w' => e = .returned (.bool (f i)) ∧ Gr W w') :
    Calls Try.prog 69 #[.pointer (some ⟨D, 0, none⟩), .func (.func 72) #[] #[cap0, cap1]] w fun e w' => ∃ B m c, e = .returned (.slice B m c) ∧ ((List.range n).filter f).length = m ∧ Ints w' B (nats ((List.range n).filter f)) ∧ (∀ b o, B = some ⟨b, o, none⟩ → w.heap.size ≤ b) ∧ Gr w w' := by
  obtain ⟨i0, hi0, hz0, hz1, hz2⟩ := info_parts Try.infoInt
  have HF := Lib.hid hf
  have c1 := (h.keep ((Gr.refl w).alloc (.cells #[] 3))).c1
  have hn2 := h.n2
  clear hf h
  go_enter Try.func69, Try.ntmps69
  go_wp2_with fail
  have hstart : (w.alloc (.cells #[] 3)).ownsRow w.heap.size 3 1 (.slice (some ⟨w.heap.size, 0, none⟩) 0 0) 0 [] := World.ownsRow_made w #[] 0 (Nat.le_refl _) (Nat.zero_le _) (by simp)
  have hg0 : Gr w (w.alloc (.cells #[] 3)) := (Gr.refl _).alloc _
  go_loopw [5, 13] (fun v z wr => ∃ j m : Nat, j ≤ n ∧ z = .int .i64 j ∧ m ≤ j ∧ Hid (((List.range j).filter f).length = m) ∧ Hid (wr.ownsRow w.heap.size 3 1 v m (flatE enc1 (nats ((List.range j).filter f)))) ∧ Hid (Gr w wr)) (fun _ z _ => n - (intOf z).toNat)
  case atStart => exact ⟨0, 0, Nat.zero_le _, rfl, Nat.zero_le _, Lib.hid rfl, Lib.hid hstart, Lib.hid hg0⟩
  case round =>
    obtain ⟨j, m, hj, rfl, hmj, hml, hown, hg⟩ := hrel
    by_cases hlt : j < n
    · have HC := Lib.hid (HF.out j wr hg.out hlt)
      have HR : Hid ((List.range (j + 1)).filter f = (List.range j).filter f ++ if f j then [j] else []) := Lib.hid (by
        rw [List.range_succ, List.filter_append]; simp [List.filter_cons])
      go_wp2_with fail
      refine HC.out.mono ?_
      rintro e w1 ⟨rfl, hb⟩
      have hgw := hg.out.trans hb
      have hown2 := Lib.hid (owns_gr hown.out hb)
      have hsz := hgw.size
      rcases hfj : f j with _ | _
      · rw [hfj] at HR
        have HR' : Hid ((List.range (j + 1)).filter f = (List.range j).filter f) := Lib.hid (by rw [HR.out]; simp)
        go_wp2_with fail
        go_roundw
        case rel => exact ⟨j + 1, m, by omega, by go_num, by omega, by rw [HR'.out]; exact hml, by rw [HR'.out]; exact hown2, Lib.hid hgw⟩
        case measure => simp [intOf]; omega
      · rw [hfj] at HR
        have HR' : Hid ((List.range (j + 1)).filter f = (List.range j).filter f ++ [j]) := Lib.hid (by rw [HR.out]; simp)
        go_wp2_with (at_builtin; refine wpList_append_own _ rfl _ _ 34 rfl w.heap.size 3 i0 _ 1 8 Try.underlying34 hi0 hz0 hz1 hz2 rfl (by decide) _ _ _ rfl (hown2.out.alloc _) ⟨w1.heap.size, 0, none⟩ 1 1 [.int .i64 (j : Int)] rfl rfl ?a1 ?a2 ?a3 ?a4 ?a5 ?_)
        case a1 =>
          intro t u ht
          rw [Addr.add_lit]
          exact alloc_new rfl (by rw [Nat.zero_add]; simpa using ht)
        case a2 => intro u hu; obtain rfl := List.mem_singleton.1 hu; rfl
        case a3 => unfold maxLen; omega
        case a4 => omega
        case a5 => simp; omega
        intro v' w2 hown' hgrow _
        have hga : Gr w (w1.alloc _) := hgw.alloc (.cells #[.int .i64 (j : Int)] 3)
        have hgb : Gr w w2 := Below.grown hga hgrow hga.size (fun t ht => (hown2.out.lt t ht).1)
        have HO2 := Lib.hid hown'
        clear hown' hgrow hga
        go_wp2_with fail
        go_roundw
        case rel => exact ⟨j + 1, m + 1, by omega, by go_num, by omega, Lib.hid (by rw [HR'.out, List.length_append, hml.out]; rfl), Lib.hid (by
          rw [HR'.out, flat_nats_snoc]
          exact HO2.out), Lib.hid hgb⟩
        case measure => simp [intOf]; omega
    · have hjm : j = n := by omega
      have hlt' : ¬ ((j : Int) < (n : Int)) := by omega
      rw [hjm] at hown hml
      obtain ⟨B, c, hv, hrd, hnew⟩ := own_row2 (k := 1) (fun _ => rfl) (by rw [nats_len, hml.out]) hown.out
      subst hv
      have HNW := Lib.hid hnew
      clear hnew
      go_wp2_with fail
      try rw [Exit.noGoto_ret]
      go_ret
      exact ⟨_, _, ⟨_, rfl⟩, hml.out, hrd, HNW.out, hg.out⟩
end Go.Proofs.Ytbkbgcapkhelhaa
