/- Layer 3: the reference's codewords and near codewords. -/
import Derived.Test.YtbkbgcapkhelhaaLRefB
import Derived.Deep.QuietTactic
namespace Go.Proofs.Ytbkbgcapkhelhaa
open Go.RowKit
set_option linter.unusedSimpArgs false

set_option maxRecDepth 100000 in
set_option maxHeartbeats 4000000 in
theorem rIs_any (A : Option Addr) (n c p : Nat) (q : List G) (w : World) (hn : q.length = n) (hl : n ≤ 1048576) (hpl : p ≤ 255) (hp : Ints w A (gints q)) (r : Bool) (hr : isB q p = r) :
    Calls Try.prog 26 #[.slice A n c, .int .i64 (p : Int)] w fun e w' => e = .returned (.bool r) ∧ Gr w w' := by
  have HS := Lib.hid (rSyndromes_any A n c p q w hn hl hpl hp)
  have HR := Lib.hid hr
  have HL := Lib.hid (synL_len q p)
  clear hn hp hr
  go_enter Try.func26, Try.ntmps26
  go_wp2_with fail
  refine HS.out.mono ?_
  rintro e w1 ⟨B, cB, rfl, hI, -, hg⟩
  have HI := Lib.hid hI
  have HG := Lib.hid hg
  have HR2 : Hid ((synL q p).all (fun x => decide (x = g0)) = r) := HR
  generalize synL q p = l at HI HL HR2
  clear hI hg HS
  go_wp2_with fail
  go_loop [6] (fun z => ∃ k : Nat, k ≤ p ∧ z = .int .i64 k ∧ Hid ((l.take k).all (fun x => decide (x = g0)) = true)) (fun z => p - (intOf z).toNat)
  case atStart => exact ⟨0, Nat.zero_le _, rfl, Lib.hid rfl⟩
  case round =>
    obtain ⟨k, hk, rfl, hA⟩ := hrel
    by_cases hlt : k < p
    · have hkl : k < l.length := by have := HL.out; omega
      obtain ⟨b, off, rfl, c0⟩ := Ints_at HI.out (i := k) (by rw [gints_len]; exact hkl)
      rw [gints_at hkl] at c0
      have HS := Lib.hid (all_take_succ (fun x => decide (x = g0)) l g0 k hkl)
      have HF := Lib.hid (all_false (fun x => decide (x = g0)) l g0 k hkl)
      generalize l.getD k g0 = x at c0 HS HF
      have ht := g_nz_test x
      by_cases hx : x = g0
      · rw [decide_eq_true hx] at ht
        have HS' : Hid ((l.take (k + 1)).all (fun x => decide (x = g0)) = true) := Lib.hid (by rw [HS.out, hA.out]; simp [hx])
        clear hx HS HF
        go_wp2_with fail
        go_round
        case rel => exact ⟨k + 1, by omega, by go_num, HS'⟩
        case measure => simp [intOf] <;> omega
      · rw [decide_eq_false hx] at ht
        have HQ : Hid (r = false) := Lib.hid (by rw [← HR2.out]; exact HF.out (by simp [hx]))
        clear hx HS HF
        go_wp2_with fail
        try rw [Exit.noGoto_ret]
        go_ret
        exact ⟨by rw [HQ.out]; rfl, HG.out⟩
    · obtain rfl : k = p := by omega
      have HQ : Hid (r = true) := Lib.hid (by rw [← HR2.out]; have := hA.out; rwa [List.take_of_length_le (by have := HL.out; omega)] at this)
      go_wp2_with fail
      try rw [Exit.noGoto_ret]
      go_ret
      exact ⟨by rw [HQ.out]; rfl, HG.out⟩

theorem has_take (l : List Nat) (x k : Nat) (h : k < l.length) : (l.take (k + 1)).contains x = ((l.take k).contains x || l.getD k 0 == x) := by
  rw [List.take_add_one, getD_of 0 h, Option.toList_some, Bool.eq_iff_iff]
  simp only [List.contains_eq_mem, List.mem_append, List.mem_singleton, decide_eq_true_eq, Bool.or_eq_true, beq_iff_eq]
  constructor
  · rintro (h | h); exact Or.inl h; exact Or.inr h.symm
  · rintro (h | h); exact Or.inl h; exact Or.inr h.symm
theorem has_of (l : List Nat) (x k : Nat) (h : k < l.length) (e : l.getD k 0 = x) : l.contains x = true := by
  rw [List.contains_eq_mem, decide_eq_true_eq]
  exact List.mem_of_getElem? ((getD_of 0 h).trans (by rw [e]))
set_option maxRecDepth 100000 in
set_option maxHeartbeats 4000000 in
theorem rHas_any (A : Option Addr) (n c : Nat) (l : List Nat) (x : Nat) (w : World) (hn : l.length = n) (hl : n ≤ 1048576) (hp : Ints w A (nats l)) (r : Bool) (hr : l.contains x = r) :
    Calls Try.prog 31 #[.slice A n c, .int .i64 (x : Int)] w fun e w' => e = .returned (.bool r) ∧ w' = w := by
  have HN := Lib.hid hn
  have HP := Lib.hid hp
  have HR := Lib.hid hr
  clear hn hp hr
  go_enter Try.func31, Try.ntmps31
  go_wp2_with fail
  go_loop [5] (fun z => ∃ k : Nat, k ≤ n ∧ z = .int .i64 k ∧ Hid ((l.take k).contains x = false)) (fun z => n - (intOf z).toNat)
  case atStart => exact ⟨0, Nat.zero_le _, rfl, Lib.hid rfl⟩
  case round =>
    obtain ⟨k, hk, rfl, hA⟩ := hrel
    by_cases hlt : k < n
    · have hkl : k < l.length := by have := HN.out; omega
      obtain ⟨b, off, rfl, c0⟩ := Ints_at HP.out (i := k) (by rw [nats_len]; exact hkl)
      rw [nats_at hkl] at c0
      have HS := Lib.hid (has_take l x k hkl)
      have HF := Lib.hid (has_of l x k hkl)
      generalize l.getD k 0 = y at c0 HS HF
      by_cases hx : y = x
      · have HQ : Hid (r = true) := Lib.hid (by rw [← HR.out]; exact HF.out hx)
        have ht : ((y : Int) == (x : Int)) = true := by rw [beq_iff_eq]; omega
        clear hx HS HF
        go_wp2_with fail
        try rw [Exit.noGoto_ret]
        go_ret
        exact ⟨by rw [HQ.out]; rfl, rfl⟩
      · have HS' : Hid ((l.take (k + 1)).contains x = false) := Lib.hid (by rw [HS.out, hA.out, Bool.false_or, beq_eq_false_iff_ne]; exact hx)
        have ht : ((y : Int) == (x : Int)) = false := by rw [beq_eq_false_iff_ne]; omega
        clear hx HS HF
        go_wp2_with fail
        go_round
        case rel => exact ⟨k + 1, by omega, by go_num, HS'⟩
        case measure => simp [intOf] <;> omega
    · obtain rfl : k = n := by omega
      have HQ : Hid (r = false) := Lib.hid (by rw [← HR.out]; have := hA.out; rwa [List.take_of_length_le (by have := HN.out; omega)] at this)
      go_wp2_with fail
      try rw [Exit.noGoto_ret]
      go_ret
      exact ⟨by rw [HQ.out]; rfl, rfl⟩

/-- The different ones of a list, in their order. -/
def difL (l : List Nat) : List Nat := l.foldl (fun r x => if r.contains x then r else r ++ [x]) []
theorem difL_snoc (l : List Nat) (x : Nat) : difL (l ++ [x]) = if (difL l).contains x then difL l else difL l ++ [x] := by simp [difL]
theorem fold_rev {P : List Nat → Prop} (h0 : P []) (hs : ∀ l x, P l → P (l ++ [x])) (l : List Nat) : P l := by
  have : ∀ n (l : List Nat), l.length = n → P l := by
    intro n
    induction n with
    | zero => intro l h; obtain rfl := List.eq_nil_of_length_eq_zero h; exact h0
    | succ n ih =>
      intro l h
      have hne : l ≠ [] := fun e => by subst e; cases h
      rw [← List.dropLast_concat_getLast hne]
      exact hs _ _ (ih _ (by rw [List.length_dropLast]; omega))
  exact this _ l rfl
theorem difL_mem (l : List Nat) : ∀ x, x ∈ difL l ↔ x ∈ l := by
  refine fold_rev (P := fun l => ∀ x, x ∈ difL l ↔ x ∈ l) (fun x => Iff.rfl) (fun l y ih x => ?_) l
  rw [difL_snoc]
  split
  · rename_i h
    rw [List.contains_eq_mem, decide_eq_true_eq] at h
    rw [ih, List.mem_append, List.mem_singleton]
    exact ⟨Or.inl, fun h' => by rcases h' with h' | h'; exact h'; exact h' ▸ (ih y).1 h⟩
  · rw [List.mem_append, List.mem_append, ih]
theorem difL_nodup (l : List Nat) : (difL l).Nodup := by
  refine fold_rev (P := fun l => (difL l).Nodup) List.nodup_nil (fun l y ih => ?_) l
  rw [difL_snoc]
  split
  · exact ih
  · rename_i h
    rw [List.contains_eq_mem, decide_eq_true_eq] at h
    rw [List.nodup_append]
    refine ⟨ih, by simp, fun a ha b hb e => ?_⟩
    rw [List.mem_singleton] at hb
    subst hb; subst e
    exact h ha
theorem difL_len_le (l : List Nat) : (difL l).length ≤ l.length := by
  refine fold_rev (P := fun l => (difL l).length ≤ l.length) (Nat.le_refl _) (fun l y ih => ?_) l
  rw [difL_snoc]
  split
  · simp; omega
  · simp; omega
theorem nodup_len : ∀ (a b : List Nat), a.Nodup → (∀ x ∈ a, x ∈ b) → a.length ≤ b.length
  | [], _, _, _ => Nat.zero_le _
  | x :: a, b, hd, hs => by
    obtain ⟨h1, h2⟩ := List.nodup_cons.1 hd
    have hx := hs x (List.mem_cons_self ..)
    have := nodup_len a (b.erase x) h2 (fun y hy => (List.mem_erase_of_ne (fun e => h1 (by rw [← e]; exact hy))).2 (hs y (List.mem_cons_of_mem _ hy)))
    rw [List.length_erase_of_mem hx] at this
    have := List.length_pos_of_mem hx
    simp; omega
theorem difL_cnt {l : List Nat} {n : Nat} (h : ∀ i ∈ l, i < n) : (difL l).length = cnt (lostB l) n := by
  have hm : ∀ i, i ∈ posL n (lostB l) ↔ i ∈ l := fun i => by
    rw [mem_posL]; unfold lostB
    rw [List.contains_eq_mem, decide_eq_true_eq]
    exact ⟨fun h => h.2, fun h' => ⟨h i h', h'⟩⟩
  refine Nat.le_antisymm ?_ ?_
  · exact nodup_len _ (posL n (lostB l)) (difL_nodup l) (fun x hx => (hm x).2 ((difL_mem l x).1 hx))
  · exact nodup_len (posL n (lostB l)) _ (posL_nodup _ _) (fun x hx => (difL_mem l x).2 ((hm x).1 hx))

set_option maxRecDepth 100000 in
set_option maxHeartbeats 4000000 in
theorem rDifferent_any (A : Option Addr) (n c : Nat) (l : List Nat) (w : World) (hn : l.length = n) (hl : n ≤ 1048576) (hp : Ints w A (nats l)) :
    Calls Try.prog 47 #[.slice A n c] w fun e w' => ∃ B m c, e = .returned (.slice B m c) ∧ (difL l).length = m ∧ Ints w' B (nats (difL l)) ∧ Gr w w' := by
  obtain ⟨i0, hi0, hz0, hz1, hz2⟩ := info_parts Try.infoInt
  have HN := Lib.hid hn
  have HP := Lib.hid hp
  clear hn hp
  go_enter Try.func47, Try.ntmps47
  go_wp2_with fail
  go_loopw [3, 4] (fun v z wr => ∃ j m : Nat, j ≤ n ∧ z = .int .i64 j ∧ m ≤ j ∧ Hid ((difL (l.take j)).length = m) ∧ Hid (wr.ownsRow w.heap.size 3 1 v m (flatE enc1 (nats (difL (l.take j))))) ∧ Hid (Gr w wr)) (fun _ z _ => n - (intOf z).toNat)
  case atStart => exact ⟨0, 0, Nat.zero_le _, rfl, Nat.zero_le _, Lib.hid rfl, Lib.hid (World.ownsRow_nil _ _ _ _), Lib.hid (Gr.refl _)⟩
  case round =>
    obtain ⟨j, m, hj, rfl, hmj, hml, hown, hg⟩ := hrel
    by_cases hlt : j < n
    · have hjl : j < l.length := by have := HN.out; omega
      obtain ⟨b, off, rfl, c0⟩ := Ints_at (HP.out.keep hg.out) (i := j) (by rw [nats_len]; exact hjl)
      rw [nats_at hjl] at c0
      have HT : Hid (difL (l.take (j + 1)) = if (difL (l.take j)).contains (l.getD j 0) then difL (l.take j) else difL (l.take j) ++ [l.getD j 0]) := Lib.hid (by rw [List.take_add_one, getD_of 0 hjl]; exact difL_snoc _ _)
      generalize l.getD j 0 = x at HT c0
      generalize difL (l.take j) = d at HT hml hown
      obtain ⟨B, cB, hv, -, hrd, -⟩ := own_row (k := 1) (fun _ => rfl) (by rw [nats_len, hml.out]) hown.out
      have hsz := hg.out.size
      rcases hc : d.contains x with _ | _
      · rw [hc] at HT
        have HT' : Hid (difL (l.take (j + 1)) = d ++ [x]) := Lib.hid HT.out
        have HH := Lib.hid (rHas_any B m cB d x wr hml.out (by omega) hrd false hc)
        subst hv
        have hown2 := hown
        clear hc hrd
        go_wp2_with fail
        refine HH.out.mono ?_
        rintro e w1 ⟨rfl, rfl⟩
        go_wp2_with (at_builtin; refine wpList_append_own _ rfl _ _ 34 rfl w.heap.size 3 i0 _ 1 8 Try.underlying34 hi0 hz0 hz1 hz2 rfl (by decide) _ _ _ rfl (hown2.out.alloc _) ⟨w1.heap.size, 0, none⟩ 1 1 [.int .i64 (x : Int)] rfl rfl ?a1 ?a2 ?a3 ?a4 ?a5 ?_)
        case a1 =>
          intro t u ht
          rw [Addr.add_lit]
          exact alloc_new rfl (by rw [Nat.zero_add]; simpa using ht)
        case a2 => intro u hu; obtain rfl := List.mem_singleton.1 hu; rfl
        case a3 => unfold maxLen; omega
        case a4 => omega
        case a5 => simp; omega
        intro v' w2 hown' hgrow _
        have hga : Gr w (w1.alloc _) := hg.out.alloc (.cells #[.int .i64 (x : Int)] 3)
        have hgb : Gr w w2 := Below.grown hga hgrow hga.size (fun t ht => (hown2.out.lt t ht).1)
        have HO2 := Lib.hid hown'
        clear hown' hgrow hga
        go_wp2_with fail
        go_roundw
        case rel => exact ⟨j + 1, m + 1, by omega, by go_num, by omega, Lib.hid (by rw [HT'.out, List.length_append, hml.out]; rfl), Lib.hid (by
          rw [HT'.out, flat_nats_snoc]
          exact HO2.out), Lib.hid hgb⟩
        case measure => simp [intOf]; omega
      · rw [hc] at HT
        have HT' : Hid (difL (l.take (j + 1)) = d) := Lib.hid HT.out
        have HH := Lib.hid (rHas_any B m cB d x wr hml.out (by omega) hrd true hc)
        subst hv
        clear hc hrd
        go_wp2_with fail
        refine HH.out.mono ?_
        rintro e w1 ⟨rfl, rfl⟩
        go_wp2_with fail
        go_roundw
        case rel => exact ⟨j + 1, m, by omega, by go_num, by omega, by rw [HT'.out]; exact hml, by rw [HT'.out]; exact hown, hg⟩
        case measure => simp [intOf]; omega
    · have hjm : j = n := by omega
      have hlt' : ¬ ((j : Int) < (n : Int)) := by omega
      rw [hjm, List.take_of_length_le (by rw [HN.out]; exact Nat.le_refl _)] at hown hml
      obtain ⟨B, c, hv, -, hrd, -⟩ := own_row (k := 1) (fun _ => rfl) (by rw [nats_len, hml.out]) hown.out
      have HRD : Hid (Ints wr B (nats (difL l))) := Lib.hid hrd
      subst hv
      clear hown hrd hjm
      go_wp2_with fail
      try rw [Exit.noGoto_ret]
      go_ret
      first
      | exact ⟨_, _, ⟨_, rfl⟩, hml.out, HRD.out, hg.out⟩
      | exact ⟨_, _, _, rfl, hml.out, HRD.out, hg.out⟩

/-- What the reference calls near. -/
def nearB (ws cs : List G) (n p : Nat) (l : List Nat) : Bool := isB cs p && decide (2 * cnt (errB ws cs (lostB l)) n + (difL l).length ≤ p)
theorem g_ne_test64 (a b : G) : (((a.v : Nat) : Int) != ((b.v : Nat) : Int)) = !decide (b = a) := by rw [g_ne_test]; congr 1; rw [decide_eq_decide]; exact ⟨Eq.symm, Eq.symm⟩
set_option maxRecDepth 100000 in
set_option maxHeartbeats 4000000 in
theorem rIsNear_any (A B C : Option Addr) (n ca cb cc p m : Nat) (ws cs : List G) (l : List Nat) (w : World) (hw : ws.length = n) (hc : cs.length = n) (hm : l.length = m) (hn : n ≤ 255) (hpl : p ≤ 255) (hml : m ≤ 1048576)
    (hA : Ints w A (gints ws)) (hB : Ints w B (gints cs)) (hC : Ints w C (nats l)) (r : Bool) (hr : nearB ws cs n p l = r) :
    Calls Try.prog 33 #[.slice A n ca, .slice B n cb, .int .i64 (p : Int), .slice C m cc] w fun e w' => e = .returned (.bool r) ∧ Gr w w' := by
  have HIS := Lib.hid (rIs_any B n cb p cs w hc (by omega) hpl hB)
  have HDF := Lib.hid (fun W (hg : Gr w W) => rDifferent_any C m cc l W hm hml (hC.keep hg))
  have HHA := Lib.hid (fun (x : Nat) W (hg : Gr w W) => rHas_any C m cc l x W hm hml (hC.keep hg))
  have HDL : Hid ((difL l).length ≤ 1048576) := Lib.hid (by have := difL_len_le l; omega)
  have HA := Lib.hid hA
  have HB := Lib.hid hB
  have HW := Lib.hid hw
  have HC := Lib.hid hc
  have HR := Lib.hid hr
  clear hA hB hC hw hc hm hr hml
  rcases hb : isB cs p with _ | _
  · have HQ : Hid (r = false) := Lib.hid (by rw [← HR.out]; unfold nearB; rw [hb]; rfl)
    have HI := Lib.hid (HIS.out false hb)
    clear hb
    go_enter Try.func33, Try.ntmps33
    go_wp2_with fail
    refine HI.out.mono ?_
    rintro e w1 ⟨rfl, hg⟩
    go_wp2_with fail
    go_ret
    exact ⟨by rw [HQ.out]; rfl, hg⟩
  · have HQ : Hid (r = decide (2 * cnt (errB ws cs (lostB l)) n + (difL l).length ≤ p)) := Lib.hid (by rw [← HR.out]; unfold nearB; rw [hb]; rfl)
    have HI := Lib.hid (HIS.out true hb)
    clear hb HIS HR
    go_enter Try.func33, Try.ntmps33
    go_wp2_with fail
    refine HI.out.mono ?_
    rintro e w1 ⟨rfl, hg⟩
    go_wp2_with fail
    refine (HDF.out _ hg).mono ?_
    rintro e w2 ⟨D, d, cD, rfl, hd, -, hg2⟩
    have HG := Lib.hid (hg.trans hg2)
    have hdl : d ≤ 1048576 := by rw [← hd]; exact HDL.out
    rw [hd] at HQ
    clear hd hg hg2 HDF HI
    go_wp2_with fail
    go_loopw [9, 10] (fun s z wr => ∃ j : Nat, j ≤ n ∧ z = .int .i64 j ∧ s = .int .i64 ((d + 2 * cnt (errB ws cs (lostB l)) j : Nat) : Int) ∧ Gr w wr) (fun _ z _ => n - (intOf z).toNat)
    case atStart => exact ⟨0, Nat.zero_le _, rfl, rfl, HG.out⟩
    case round =>
      obtain ⟨j, hj, rfl, rfl, hg⟩ := hrel
      by_cases hlt : j < n
      · obtain ⟨b, o, rfl, d0⟩ := Ints_at (HA.out.keep hg) (i := j) (by rw [gints_len, HW.out]; exact hlt)
        obtain ⟨b', o', rfl, d1⟩ := Ints_at (HB.out.keep hg) (i := j) (by rw [gints_len, HC.out]; exact hlt)
        rw [gints_at (by rw [HW.out]; exact hlt)] at d0
        rw [gints_at (by rw [HC.out]; exact hlt)] at d1
        have h2 := Lib.hid (cnt_succ (errB ws cs (lostB l)) j)
        have ht := g_ne_test64 (ws.getD j g0) (cs.getD j g0)
        have hcb := cnt_le (errB ws cs (lostB l)) j
        have heb : Hid (errB ws cs (lostB l) j = (!decide (cs.getD j g0 = ws.getD j g0) && !l.contains j)) := Lib.hid rfl
        generalize cs.getD j g0 = x at d1 ht heb
        generalize ws.getD j g0 = y at d0 ht heb
        generalize cnt (errB ws cs (lostB l)) j = ce at h2 hcb ⊢
        have HH := Lib.hid (HHA.out j)
        rcases hd : decide (x = y) with _ | _
        · rw [hd] at ht heb
          clear hd
          rcases hl : l.contains j with _ | _
          · rw [hl] at heb
            have HF := Lib.hid (fun W hW => HH.out W hW false hl)
            have het : Hid (errB ws cs (lostB l) j = true) := Lib.hid heb.out
            have hnx : IntKind.i64.wrap (((d + 2 * ce : Nat) : Int) + 2) = ((d + 2 * (ce + 1) : Nat) : Int) := by rw [IntWalk.i64_in _ (by omega)]; omega
            clear hl heb
            go_wp2_with fail
            go_quiet ((go_at_call 31; exact Calls.quiet_of_same (HF.out _ (hg.drewN _))))
            go_wp2_with fail
            go_roundw
            case rel => exact ⟨j + 1, by omega, by go_num, by rw [h2.out, het.out]; first | rfl | go_num | exact vint8 (by simp; omega), hg.drewN _⟩
            case measure => simp [intOf]; omega
          · rw [hl] at heb
            have HF := Lib.hid (fun W hW => HH.out W hW true hl)
            have het : Hid (errB ws cs (lostB l) j = false) := Lib.hid heb.out
            clear hl heb
            go_wp2_with fail
            go_quiet ((go_at_call 31; exact Calls.quiet_of_same (HF.out _ (hg.drewN _))))
            go_wp2_with fail
            go_roundw
            case rel => exact ⟨j + 1, by omega, by go_num, by rw [h2.out, het.out]; first | rfl | go_num | exact vint8 (by simp), hg.drewN _⟩
            case measure => simp [intOf]; omega
        · rw [hd] at ht heb
          have het : Hid (errB ws cs (lostB l) j = false) := Lib.hid heb.out
          clear hd heb HH
          go_wp2_with fail
          go_quiet (fail)
          go_wp2_with fail
          go_roundw
          case rel => exact ⟨j + 1, by omega, by go_num, by rw [h2.out, het.out]; first | rfl | go_num | exact vint8 (by simp), hg.drewN _⟩
          case measure => simp [intOf]; omega
      · have hjn : j = n := by omega
        have hlt' : ¬ ((j : Int) < (n : Int)) := by omega
        have HQ2 : Hid (decide ((d : Int) + 2 * (cnt (errB ws cs (lostB l)) j : Int) ≤ (p : Int)) = r) := Lib.hid (by rw [HQ.out, hjn, decide_eq_decide]; omega)
        have hcb := cnt_le (errB ws cs (lostB l)) j
        generalize cnt (errB ws cs (lostB l)) j = ce at HQ2 hcb
        clear hjn
        go_wp2_with fail
        try rw [Exit.noGoto_ret]
        go_ret
        exact ⟨by rw [← HQ2.out]; rfl, hg⟩
end Go.Proofs.Ytbkbgcapkhelhaa
