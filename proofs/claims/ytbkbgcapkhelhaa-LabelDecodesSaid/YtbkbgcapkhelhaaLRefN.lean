/- Layer 3: the reference's Near. -/
import Derived.Test.YtbkbgcapkhelhaaLNearM
import Derived.Test.YtbkbgcapkhelhaaLRefM
namespace Go.Proofs.Ytbkbgcapkhelhaa
open Go.RowKit
set_option linter.unusedSimpArgs false

set_option maxRecDepth 100000 in
set_option maxHeartbeats 4000000 in
theorem rSyndromes2_any (A : Option Addr) (n c p : Nat) (q : List G) (w : World) (hn : q.length = n) (hl : n ≤ 1048576) (hpl : p ≤ 255) (hp : Ints w A (gints q)) :
    Calls Try.prog 25 #[.slice A n c, .int .i64 (p : Int)] w fun e w' => ∃ B c g, e = .returned (.slice B p c) ∧ (0 < p → B = some ⟨g, 0, none⟩) ∧ w.heap.size ≤ g ∧ RowI w' g (synL q p) ∧ Gr w w' := by
  obtain ⟨i0, hi0, hz0, hz1, hz2⟩ := info_parts Try.infoInt
  have HA := Lib.hid (fun (x : G) W (hg : Gr w W) => rAt_any A n c q x W hn hl (hp.keep hg))
  clear hn hp
  go_enter Try.func25, Try.ntmps25
  go_wp2_with fail
  go_loopw [5, 6] (fun v z wr => ∃ j : Nat, j ≤ p ∧ z = .int .i64 j ∧ Hid (wr.ownsRow w.heap.size 3 1 v j (flatE enc1 (gints (synL q j)))) ∧ Hid (Gr w wr)) (fun _ z _ => p - (intOf z).toNat)
  case atStart => exact ⟨0, Nat.zero_le _, rfl, Lib.hid (World.ownsRow_nil _ _ _ _), Lib.hid (Gr.refl _)⟩
  case round =>
    obtain ⟨j, hj, rfl, hown, hg⟩ := hrel
    by_cases hlt : j < p
    · have HT : Hid (synL q (j + 1) = synL q j ++ [val q (gp j)]) := Lib.hid (synL_snoc q j)
      have hsz := hg.out.size
      go_wp2_with fail
      refine (rPow_two j (by omega) _).mono ?_
      rintro e w1 ⟨rfl, rfl⟩
      go_wp2_with fail
      refine (HA.out (gp j) _ hg.out).mono ?_
      rintro e w1 ⟨rfl, hg1⟩
      have HG1 := Lib.hid (hg.out.trans hg1)
      have hown2 := Lib.hid (owns_gr hown.out hg1)
      have hsz1 := HG1.out.size
      generalize val q (gp j) = x at HT ⊢
      go_wp2_with (at_builtin; refine wpList_append_own _ rfl _ _ 34 rfl w.heap.size 3 i0 _ 1 8 Try.underlying34 hi0 hz0 hz1 hz2 rfl (by decide) _ _ _ rfl (hown2.out.alloc _) ⟨w1.heap.size, 0, none⟩ 1 1 [.int .i64 (x.v : Int)] rfl rfl ?a1 ?a2 ?a3 ?a4 ?a5 ?_)
      case a1 =>
        intro t u ht
        rw [Addr.add_lit]
        exact alloc_new rfl (by rw [Nat.zero_add]; simpa using ht)
      case a2 => intro u hu; obtain rfl := List.mem_singleton.1 hu; rfl
      case a3 => unfold maxLen; omega
      case a4 => omega
      case a5 => simp; omega
      intro v' w2 hown' hgrow _
      have hga : Gr w (w1.alloc _) := HG1.out.alloc (.cells #[.int .i64 (x.v : Int)] 3)
      have hgb : Gr w w2 := Below.grown hga hgrow hga.size (fun t ht => (hown2.out.lt t ht).1)
      have HO2 := Lib.hid hown'
      clear hown' hgrow hga
      go_wp2_with fail
      go_roundw
      case rel => exact ⟨j + 1, by omega, by go_num, Lib.hid (by
        rw [HT.out, gints_snoc, flat_snoc1]
        exact HO2.out), Lib.hid hgb⟩
      case measure => simp [intOf]; omega
    · have hjm : j = p := by omega
      have hlt' : ¬ ((j : Int) < (p : Int)) := by omega
      rw [hjm] at hown
      have HR : Hid (∃ B c g, u5 = .slice B p c ∧ (0 < p → B = some ⟨g, 0, none⟩) ∧ w.heap.size ≤ g ∧ RowI wr g (synL q p)) := Lib.hid (by
        rcases hown.out.2 with ⟨e, hz⟩ | ⟨g, cap, cur, e, hb, _⟩
        · exact ⟨none, 0, w.heap.size, by rw [e, hz], fun h => by omega, Nat.le_refl _, fun i hi => by rw [synL_len] at hi; omega⟩
        · subst e
          exact ⟨some ⟨g, 0, none⟩, cap, g, rfl, fun _ => rfl, hb, RowI.of (synL_len _ _) hown.out⟩)
      obtain ⟨B, c, g, hv, h1, h2, h3⟩ := HR.out
      have H1 := Lib.hid h1
      have H3 := Lib.hid h3
      subst hv
      clear hown hjm HR h1 h3
      go_wp2_with fail
      try rw [Exit.noGoto_ret]
      go_ret
      first
      | exact ⟨_, _, g, rfl, H1.out, h2, H3.out, hg.out⟩
      | exact ⟨_, g, ⟨_, rfl⟩, H1.out, h2, H3.out, hg.out⟩
      | exact ⟨_, ⟨_, rfl⟩, g, H1.out, h2, H3.out, hg.out⟩

set_option maxRecDepth 100000 in
set_option maxHeartbeats 4000000 in
theorem rDifferent2_any (A : Option Addr) (n c : Nat) (l : List Nat) (w : World) (hn : l.length = n) (hl : n ≤ 1048576) (hp : Ints w A (nats l)) :
    Calls Try.prog 47 #[.slice A n c] w fun e w' => ∃ B m c, e = .returned (.slice B m c) ∧ (difL l).length = m ∧ Ints w' B (nats (difL l)) ∧ (B = none → c = 0) ∧ Gr w w' := by
  obtain ⟨i0, hi0, hz0, hz1, hz2⟩ := info_parts Try.infoInt
  have HN := Lib.hid hn
  have HP := Lib.hid hp
  clear hn hp
  go_enter Try.func47, Try.ntmps47
  go_wp2_with fail
  go_loopw [3, 4] (fun v z wr => ∃ j m : Nat, j ≤ n ∧ z = .int .i64 j ∧ m ≤ j ∧ Hid ((difL (l.take j)).length = m) ∧ Hid (wr.ownsRow w.heap.size 3 1 v m (flatE enc1 (nats (difL (l.take j))))) ∧ Hid (Gr w wr)) (fun _ z _ => n - (intOf z).toNat)
  case atStart => exact ⟨0, 0, Nat.zero_le _, rfl, Nat.zero_le _, Lib.hid rfl, Lib.hid (World.ownsRow_nil _ _ _ _), Lib.hid (Gr.refl _)⟩
  case round =>
    obtain ⟨j, m, hj, rfl, hmj, hml, hown, hg⟩ := hrel
    by_cases hlt : j < n
    · have hjl : j < l.length := by have := HN.out; omega
      obtain ⟨b, off, rfl, c0⟩ := Ints_at (HP.out.keep hg.out) (i := j) (by rw [nats_len]; exact hjl)
      rw [nats_at hjl] at c0
      have HT : Hid (difL (l.take (j + 1)) = if (difL (l.take j)).contains (l.getD j 0) then difL (l.take j) else difL (l.take j) ++ [l.getD j 0]) := Lib.hid (by rw [List.take_add_one, getD_of 0 hjl]; exact difL_snoc _ _)
      generalize l.getD j 0 = x at HT c0
      generalize difL (l.take j) = d at HT hml hown
      obtain ⟨B, cB, hv, -, hrd, -⟩ := own_row (k := 1) (fun _ => rfl) (by rw [nats_len, hml.out]) hown.out
      have hsz := hg.out.size
      rcases hc : d.contains x with _ | _
      · rw [hc] at HT
        have HT' : Hid (difL (l.take (j + 1)) = d ++ [x]) := Lib.hid HT.out
        have HH := Lib.hid (rHas_any B m cB d x wr hml.out (by omega) hrd false hc)
        subst hv
        have hown2 := hown
        clear hc hrd
        go_wp2_with fail
        refine HH.out.mono ?_
        rintro e w1 ⟨rfl, rfl⟩
        go_wp2_with (at_builtin; refine wpList_append_own _ rfl _ _ 34 rfl w.heap.size 3 i0 _ 1 8 Try.underlying34 hi0 hz0 hz1 hz2 rfl (by decide) _ _ _ rfl (hown2.out.alloc _) ⟨w1.heap.size, 0, none⟩ 1 1 [.int .i64 (x : Int)] rfl rfl ?a1 ?a2 ?a3 ?a4 ?a5 ?_)
        case a1 =>
          intro t u ht
          rw [Addr.add_lit]
          exact alloc_new rfl (by rw [Nat.zero_add]; simpa using ht)
        case a2 => intro u hu; obtain rfl := List.mem_singleton.1 hu; rfl
        case a3 => unfold maxLen; omega
        case a4 => omega
        case a5 => simp; omega
        intro v' w2 hown' hgrow _
        have hga : Gr w (w1.alloc _) := hg.out.alloc (.cells #[.int .i64 (x : Int)] 3)
        have hgb : Gr w w2 := Below.grown hga hgrow hga.size (fun t ht => (hown2.out.lt t ht).1)
        have HO2 := Lib.hid hown'
        clear hown' hgrow hga
        go_wp2_with fail
        go_roundw
        case rel => exact ⟨j + 1, m + 1, by omega, by go_num, by omega, Lib.hid (by rw [HT'.out, List.length_append, hml.out]; rfl), Lib.hid (by
          rw [HT'.out, flat_nats_snoc]
          exact HO2.out), Lib.hid hgb⟩
        case measure => simp [intOf]; omega
      · rw [hc] at HT
        have HT' : Hid (difL (l.take (j + 1)) = d) := Lib.hid HT.out
        have HH := Lib.hid (rHas_any B m cB d x wr hml.out (by omega) hrd true hc)
        subst hv
        clear hc hrd
        go_wp2_with fail
        refine HH.out.mono ?_
        rintro e w1 ⟨rfl, rfl⟩
        go_wp2_with fail
        go_roundw
        case rel => exact ⟨j + 1, m, by omega, by go_num, by omega, by rw [HT'.out]; exact hml, by rw [HT'.out]; exact hown, hg⟩
        case measure => simp [intOf]; omega
    · have hjm : j = n := by omega
      have hlt' : ¬ ((j : Int) < (n : Int)) := by omega
      rw [hjm, List.take_of_length_le (by rw [HN.out]; exact Nat.le_refl _)] at hown hml
      obtain ⟨B, c, hv, -, hrd, hnil⟩ := own_row (k := 1) (fun _ => rfl) (by rw [nats_len, hml.out]) hown.out
      have HRD : Hid (Ints wr B (nats (difL l))) := Lib.hid hrd
      have HNIL := Lib.hid hnil
      subst hv
      clear hown hrd hjm hnil
      go_wp2_with fail
      try rw [Exit.noGoto_ret]
      go_ret
      first
      | exact ⟨_, _, ⟨_, rfl⟩, hml.out, HRD.out, HNIL.out, hg.out⟩
      | exact ⟨_, _, _, rfl, hml.out, HRD.out, HNIL.out, hg.out⟩


/-- A product by a place's factor, done from above down to K. -/
def mulXd (x : G) (t : List G) (K : Nat) : List G := (List.range t.length).map fun k => if k ≤ K then t.getD k g0 else t.getD k g0 + x * t.getD (k - 1) g0
theorem mulXd_len (x : G) (t : List G) (K : Nat) : (mulXd x t K).length = t.length := by simp [mulXd]
theorem mulXd_at {x : G} {t : List G} {K k : Nat} (h : k < t.length) : (mulXd x t K).getD k g0 = if k ≤ K then t.getD k g0 else t.getD k g0 + x * t.getD (k - 1) g0 := by
  unfold mulXd
  rw [List.getD_eq_getElem?_getD, List.getElem?_map, List.getElem?_range h]; rfl
theorem mulXd_top {x : G} {t : List G} {K : Nat} (h : t.length ≤ K + 1) : mulXd x t K = t :=
  list_eq_getD (mulXd_len _ _ _) (fun j hj => by rw [mulXd_len] at hj; rw [mulXd_at hj, if_pos (by omega)])
theorem mulXd_zero (x : G) (t : List G) : mulXd x t 0 = mulX x t :=
  list_eq_getD (by rw [mulXd_len, mulX_len]) (fun j hj => by
    rw [mulXd_len] at hj
    rw [mulXd_at hj, mulX_at hj]
    by_cases e : j = 0
    · rw [if_pos (by omega), if_pos e, e]
    · rw [if_neg (by omega), if_neg e])
theorem mulXd_step {x : G} {t : List G} {K : Nat} (h : K + 1 < t.length) : mulXd x t K = (mulXd x t (K + 1)).set (K + 1) (t.getD (K + 1) g0 + x * t.getD K g0) :=
  list_eq_getD (by rw [List.length_set, mulXd_len, mulXd_len]) (fun j hj => by
    rw [mulXd_len] at hj
    rw [mulXd_at hj, getD_set _ _ _ _ (by rw [mulXd_len]; exact h), mulXd_at hj]
    by_cases e : K + 1 = j
    · subst e; rw [if_neg (by omega), if_pos rfl, Nat.add_sub_cancel]
    · rw [if_neg e]
      by_cases e2 : j ≤ K
      · rw [if_pos e2, if_pos (by omega)]
      · rw [if_neg e2, if_neg (by omega)])
theorem sumF_succ (c : List G) (m : Nat) (y : G) : sumF c (m + 1) y = sumF c m y + c.getD m g0 * gw y (m + 1) := by
  unfold sumF
  have : ∀ (F : Nat → G) (k : Nat), isum (List.range (k + 1)) F = isum (List.range k) F + F k := by
    intro F k
    rw [List.range_succ]
    have h2 : ∀ l : List Nat, isum (l ++ [k]) F = isum l F + F k := by
      intro l
      induction l with
      | nil => rw [List.nil_append, isum_cons]; show F k + g0 = g0 + F k; rw [gadd_zero, gzero_add]
      | cons a r ih => rw [List.cons_append, isum_cons, isum_cons, ih, gadd_assoc]
    exact h2 _
  rw [this, gadd_assoc]
def NrPost (ws : List G) (n p : Nat) (l : List Nat) (w : World) (e : Ending) (w' : World) : Prop :=
  ∃ (B : Option Addr) (k c : Nat) (os : List G) (b : Bool), e = .returned (.tuple #[.slice B k c, .bool b]) ∧ Gr w w' ∧ (b = true → k = n ∧ n ≤ c ∧ os.length = n ∧ Ints w' B (gints os) ∧ nearB ws os n p l = true) ∧
    (b = false → ∀ cs, cs.length = n → nearB ws cs n p l = false)
theorem nr_no {ws : List G} {n p : Nat} {l : List Nat} {w w' : World} (hg : Gr w w') (h : ∀ cs, cs.length = n → nearB ws cs n p l = false) : NrPost ws n p l w (.returned (.tuple #[.slice none 0 0, .bool false])) w' :=
  ⟨none, 0, 0, [], false, rfl, hg, (fun e => by cases e), fun _ => h⟩
set_option maxRecDepth 100000 in
set_option maxHeartbeats 20000000 in
theorem rNear_any (A : Option Addr) (n ca p : Nat) (ws : List G) (A2 : Option Addr) (m c2 : Nat) (l : List Nat) (w : World) (hw : ws.length = n) (h1 : 1 ≤ n) (hn : n ≤ 255) (hp : p ≤ 64) (hm : l.length = m) (hm2 : m ≤ 1048576) (hl : ∀ i ∈ l, i < n) (hA : Ints w A (gints ws)) (hA2 : Ints w A2 (nats l)) :
    Calls Try.prog 28 #[.slice A n ca, .int .i64 (p : Int), .slice A2 m c2] w (NrPost ws n p l w) := by
  obtain ⟨i0, hi0, hz0, hz1, hz2⟩ := info_parts Try.infoInt
  obtain ⟨k0, hk0, hk1, hk2, hk3⟩ := info_parts Try.infoSl
  have HA := Lib.hid hA
  have HA2 := Lib.hid hA2
  have HW := Lib.hid hw
  have HM := Lib.hid hm
  have HL := Lib.hid hl
  have HDF := Lib.hid (rDifferent2_any A2 m c2 l w hm (by omega) hA2)
  have HSY := Lib.hid (fun W (hg : Gr w W) => rSyndromes2_any A n ca p ws W hw (by omega) (by omega) (hA.keep hg))
  clear hA hA2 hw hm hl
  go_enter Try.func28, Try.ntmps28
  go_wp2_with fail
  refine HDF.out.mono ?_
  rintro e w1 ⟨B0, s, c0, rfl, hs, hI0, hnil0, hg1⟩
  have HS := Lib.hid hs
  have HI0 := Lib.hid hI0
  have HG1 := Lib.hid hg1
  have HNIL := Lib.hid hnil0
  clear hs hI0 hg1 HDF hnil0
  by_cases hsp : p < s
  · have hsp' : (p : Int) < (s : Int) := by omega
    go_wp2_with fail
    go_ret2
    exact nr_no HG1.out (fun cs _ => by
      rw [Bool.eq_false_iff]
      intro e
      have := (near_iff.1 e).2
      have := HS.out
      omega)
  · have hsp' : ¬ ((p : Int) < (s : Int)) := by omega
    go_wp2_with fail
    refine (HSY.out _ HG1.out).mono ?_
    rintro e w2 ⟨B1, c1, gt, rfl, hB1, hgt, hR, hg2⟩
    have HB1 := Lib.hid hB1
    have HR := Lib.hid hR
    have HG2 := Lib.hid hg2
    have HDN : Hid (∀ i ∈ difL l, i < n) := Lib.hid (fun i hi => HL.out i ((difL_mem l i).1 hi))
    obtain ⟨gone, hgone⟩ : ∃ gone, difL l = gone := ⟨_, rfl⟩
    have HGO := Lib.hid hgone
    rw [hgone] at HS HI0 HDN
    clear hB1 hR hg2 HSY hgone
    go_wp2_with fail
    go_loopw [10] (fun z wr => ∃ i : Nat, i ≤ s ∧ z = .int .i64 i ∧ Hid (RowI wr gt (mulXs n (synL ws p) (gone.take i))) ∧ Hid (Gb gt w2 wr)) (fun z _ => s - (intOf z).toNat)
    case atStart => exact ⟨0, Nat.zero_le _, rfl, HR, Lib.hid (Gb.refl _ _)⟩
    case round =>
      obtain ⟨i, hi, rfl, hRi, hGi⟩ := hrel
      have HGI := Lib.hid (hGi.out.gr HG2.out hgt)
      by_cases hlt : i < s
      · have hil : i < gone.length := by rw [HS.out]; exact hlt
        obtain ⟨b, o, rfl, e0⟩ := Ints_at (HI0.out.keep HGI.out) (i := i) (by rw [nats_len]; exact hil)
        rw [nats_at hil] at e0
        have hain := HDN.out (gone.getD i 0) (List.mem_of_getElem? (getD_of 0 hil))
        have HNX : Hid (mulXs n (synL ws p) (gone.take (i + 1)) = mulX (plc n (gone.getD i 0)) (mulXs n (synL ws p) (gone.take i))) := Lib.hid (by
          rw [List.take_add_one, getD_of 0 hil]; exact mulXs_snoc _ _ _ _)
        have HTL : Hid ((mulXs n (synL ws p) (gone.take i)).length = p) := Lib.hid (by rw [mulXs_len, synL_len])
        generalize mulXs n (synL ws p) (gone.take i) = T at hRi HNX HTL
        generalize gone.getD i 0 = a at e0 hain HNX
        have HPL := Lib.hid (fun W => rplace_any n a hn hain W)
        generalize plc n a = x at HPL HNX
        have hp1 : 1 ≤ p := by omega
        obtain rfl := HB1.out (by omega)
        have hpm : ((p : Int) - 1) = ((p - 1 : Nat) : Int) := by omega
        obtain ⟨K0, hK0⟩ : ∃ K0, p - 1 = K0 := ⟨_, rfl⟩
        rw [hK0] at hpm
        have HTOP : Hid (mulXd x T K0 = T) := Lib.hid (mulXd_top (by rw [HTL.out]; omega))
        clear hK0
        go_wp2_with fail
        refine (HPL.out _).mono ?_
        rintro e w4 ⟨rfl, rfl⟩
        go_wp2_with fail
        go_loopw [12] (fun z wx => ∃ K : Nat, K < p ∧ z = .int .i64 K ∧ Hid (RowI wx gt (mulXd x T K)) ∧ Hid (Gb gt w2 wx)) (fun z _ => (intOf z).toNat)
        case atStart => exact ⟨K0, by omega, rfl, by rw [HTOP.out]; exact hRi, hGi⟩
        case round =>
          clear hRi hGi HGI e0
          obtain ⟨K, hK, rfl, hRk, hGk⟩ := hrel
          cases K with
          | zero =>
            have HZ : Hid (mulXd x T 0 = mulX x T) := Lib.hid (mulXd_zero x T)
            rw [HZ.out, ← HNX.out] at hRk
            go_wp2_with fail
            go_roundw
            case rel => exact ⟨i + 1, by omega, by go_num, hRk, hGk⟩
            case measure => simp [intOf]; omega
          | succ K =>
            have HST := Lib.hid (mulXd_step (x := x) (t := T) (K := K) (by rw [HTL.out]; exact hK))
            have hdl := mulXd_len x T (K + 1)
            have a1 := mulXd_at (x := x) (t := T) (K := K + 1) (k := K + 1) (by rw [HTL.out]; exact hK)
            have a2 := mulXd_at (x := x) (t := T) (K := K + 1) (k := K) (by rw [HTL.out]; omega)
            rw [if_pos (Nat.le_refl _)] at a1
            rw [if_pos (by omega)] at a2
            obtain ⟨r1, r2⟩ := hRk.out (K + 1) (by rw [hdl, HTL.out]; exact hK)
            obtain ⟨r3, -⟩ := hRk.out K (by rw [hdl, HTL.out]; omega)
            rw [a1] at r1
            rw [a2] at r3
            have HDL := Lib.hid hdl
            generalize mulXd x T (K + 1) = D at hRk HST HDL
            generalize T.getD (K + 1) g0 = y1 at r1 HST
            generalize T.getD K g0 = y2 at r3 HST
            have HMU := Lib.hid (fun W => rMul_g x y2 W)
            have hx := i64_xor_gg y1 (x * y2)
            have j1 : IntKind.i64.wrap ((K : Int) + 1 - 1) = (K : Int) := by rw [IntWalk.i64_in _ (by omega)]; omega
            have j2 : ((K : Int) + 1 - 1) = (K : Int) := by omega
            have j7 : IntKind.i64.wrap (K : Int) = (K : Int) := IntWalk.i64_in _ (by omega)
            have j8 : (0 : Int) ≤ (K : Int) := by omega
            have j9 : ((K : Int)).toNat = K := by omega
            have j3 : (K : Int) + 1 < (p : Int) := by omega
            have j4 : (K : Int) < (p : Int) := by omega
            have j5 : (0 : Int) ≤ (K : Int) + 1 := by omega
            have j6 : ((K : Int) + 1).toNat = K + 1 := by omega
            clear a1 a2 hdl
            rw [show (((K + 1 : Nat)) : Int) = (K : Int) + 1 by omega]
            go_wp2_with fail
            go_region_law (first | (go_simp; go_at_call 15; refine (HMU.out _).mono ?_; rintro e w4 ⟨rfl, rfl⟩))
            all_goals
              go_wp2_with fail
              go_roundw
              case rel =>
                refine ⟨K, by omega, by first | rfl | go_num, Lib.hid ?_, Lib.hid ((hGk.out.put (K + 1) _).drew)⟩
                rw [HST.out]
                exact (hRk.out.put (k := K + 1) (by rw [HDL.out, HTL.out]; exact hK) (y1 + x * y2)).keep ((Gr.refl _).drew)
              case measure => simp [intOf]
      · have his : i = s := by omega
        have hlt' : ¬ ((i : Int) < (s : Int)) := by omega
        rw [his, List.take_of_length_le (by rw [HS.out]; exact Nat.le_refl _)] at hRi
        have HTL : Hid ((mulXs n (synL ws p) gone).length = p) := Lib.hid (by rw [mulXs_len, synL_len])
        have HEQ : Hid (∀ cs M, NearAt ws n p l cs M → SatF (nrRows (mulXs n (synL ws p) gone) M (s + M) (p - (s + M))) M (fun k => (locC ((posL n (errB ws cs (lostB l))).map (plc n))).getD k g0) ∧ TrivF (nrRows (mulXs n (synL ws p) gone) M (s + M) (p - (s + M))) M) := Lib.hid (fun cs M h => by
          have h := near_eqs hn HW.out HL.out h
          rw [HGO.out, HS.out] at h
          exact h)
        generalize mulXs n (synL ws p) gone = T at hRi HTL HEQ
        clear his
        rename World => w3
        have HR3 := hRi
        go_wp2_with fail
        go_loopw [13] (fun z wr => ∃ M : Nat, M ≤ 65 ∧ z = .int .i64 M ∧ Hid (∀ cs m', NearAt ws n p l cs m' → M ≤ m') ∧ Hid (Gr w3 wr)) (fun z _ => 65 - (intOf z).toNat)
        case atStart => exact ⟨0, by omega, rfl, Lib.hid (fun _ _ _ => Nat.zero_le _), Lib.hid (Gr.refl _)⟩
        case round =>
          obtain ⟨M, hM65, rfl, HMIN, hg3⟩ := hrel
          rename World => wi
          have HGW := Lib.hid (HGI.out.trans hg3.out)
          by_cases hlt2 : 2 * M + s ≤ p
          · have hlt2' : 2 * (M : Int) + (s : Int) ≤ (p : Int) := by omega
            have HNEXT : Hid ((∀ cs, ¬ NearAt ws n p l cs M) → ∀ cs m', NearAt ws n p l cs m' → M + 1 ≤ m') := Lib.hid (fun h cs m' hN => by
              have h2 := HMIN.out cs m' hN
              by_cases e : m' = M
              · subst e; exact absurd hN (h cs)
              · omega)
            obtain ⟨N, hN⟩ : ∃ N, p - (s + M) = N := ⟨_, rfl⟩
            have HEQM := Lib.hid (fun cs (h : NearAt ws n p l cs M) => HEQ.out cs M h)
            rw [hN] at HEQM
            have hsmn : s + M + N = p := by omega
            clear hN
            go_wp2_with fail
            go_loopw [14, 15] (fun v z wr => ∃ (d : Nat) (vs : List Value), d ≤ N ∧ z = .int .i64 ((s : Int) + (M : Int) + (d : Int)) ∧ Hid (wr.ownsRow wi.heap.size 34 1 v d vs) ∧ Hid (RowsV wr vs (nrRows T M (s + M) d) (M + 1)) ∧ Hid (Gr wi wr)) (fun _ z _ => p - (intOf z).toNat)
            case atStart => exact ⟨0, [], Nat.zero_le _, by first | rfl | simp, Lib.hid (World.ownsRow_nil _ _ _ _), Lib.hid (RowsV.start _ _), Lib.hid (Gr.refl _)⟩
            case round =>
              obtain ⟨d, vs, hd, rfl, hown, hRV, hg⟩ := hrel
              by_cases hltd : d < N
              · rename World => wj
                obtain rfl := HB1.out (by omega)
                have hltd' : (s : Int) + (M : Int) + (d : Int) < (p : Int) := by omega
                have HRS := Lib.hid (nrRows_snoc T M (s + M) d)
                have HRW : Hid (nrRow T M (s + M + d) = ((List.range M).map fun i => T.getD (s + M + d - (i + 1)) g0) ++ [T.getD (s + M + d) g0]) := Lib.hid rfl
                have HRWL := Lib.hid (nrRow_len T M (s + M + d))
                have HRL : Hid (((List.range M).map fun i => T.getD (s + M + d - (i + 1)) g0).length = M) := Lib.hid (by simp)
                have HRT : Hid (∀ k, k < M → ((List.range M).map fun i => T.getD (s + M + d - (i + 1)) g0).take (k + 1) = ((List.range M).map fun i => T.getD (s + M + d - (i + 1)) g0).take k ++ [T.getD (s + M + d - (k + 1)) g0]) := Lib.hid (fun k hk => by
                  rw [List.take_add_one, List.getElem?_map, List.getElem?_range hk]; rfl)
                obtain ⟨q, hq⟩ : ∃ q : Nat, s + M + d = q := ⟨_, rfl⟩
                have hqi : (s : Int) + (M : Int) + (d : Int) = (q : Int) := by omega
                have hqp : q < p := by omega
                have hMq : M ≤ q := by omega
                rw [hq] at HRW HRWL HRL HRT HRS
                rw [hqi]
                have hnq : Hid ((s : Int) + (M : Int) + ((d + 1 : Nat) : Int) = (q : Int) + 1) := Lib.hid (by omega)
                have HR2 := Lib.hid (HR3.out.keep (hg3.out.trans hg.out))
                generalize ((List.range M).map fun i => T.getD (q - (i + 1)) g0) = pl at HRL HRT HRW
                clear hq hqi hltd'
                go_wp2_with fail
                go_loopw [16, 17] (fun v z wx => ∃ k : Nat, k ≤ M ∧ z = .int .i64 ((k : Int) + 1) ∧ Hid (wx.ownsRow wj.heap.size 3 1 v k (flatE enc1 (gints (pl.take k)))) ∧ Hid (Gr wj wx)) (fun _ z _ => M + 1 - (intOf z).toNat)
                case atStart => exact ⟨0, Nat.zero_le _, rfl, Lib.hid (World.ownsRow_nil _ _ _ _), Lib.hid (Gr.refl _)⟩
                case round =>
                  obtain ⟨k, hk, rfl, hrow, hgx⟩ := hrel
                  by_cases hltk : k < M
                  · obtain ⟨r, hr⟩ : ∃ r, q - (k + 1) = r := ⟨_, rfl⟩
                    have hri : (q : Int) - ((k : Int) + 1) = (r : Int) := by omega
                    have hrp : r < p := by omega
                    have e0 := ((HR2.out.keep hgx.out) r (by rw [HTL.out]; exact hrp)).1
                    have HTK := Lib.hid (HRT.out k hltk)
                    rw [hr] at HTK
                    generalize T.getD r g0 = y at e0 HTK
                    have hrow2 := hrow
                    have hsz := hgx.out.size
                    have hltk' : (k : Int) + 1 ≤ (M : Int) := by omega
                    clear hr
                    go_wp2_with (at_builtin; refine wpList_append_own _ rfl _ _ 34 rfl wj.heap.size 3 i0 _ 1 8 Try.underlying34 hi0 hz0 hz1 hz2 rfl (by decide) _ _ _ rfl (hrow2.out.alloc _) ⟨wr.heap.size, 0, none⟩ 1 1 [.int .i64 (y.v : Int)] rfl rfl ?a1 ?a2 ?a3 ?a4 ?a5 ?_)
                    case a1 =>
                      intro t u ht
                      rw [Addr.add_lit]
                      exact alloc_new rfl (by rw [Nat.zero_add]; simpa using ht)
                    case a2 => intro u hu; obtain rfl := List.mem_singleton.1 hu; rfl
                    case a3 => unfold maxLen; omega
                    case a4 => omega
                    case a5 => simp; omega
                    intro v' w5 hown' hgrow _
                    have hga : Gr wj (wr.alloc _) := hgx.out.alloc (.cells #[.int .i64 (y.v : Int)] 3)
                    have hgb : Gr wj w5 := Below.grown hga hgrow hga.size (fun t ht => (hrow2.out.lt t ht).1)
                    have HO2 := Lib.hid hown'
                    clear hown' hgrow hga
                    go_wp2_with fail
                    go_roundw
                    case rel => exact ⟨k + 1, by omega, by first | rfl | go_num | exact vint8 (by omega), Lib.hid (by
                      rw [HTK.out, gints_snoc, flat_snoc1]
                      exact HO2.out), Lib.hid hgb⟩
                    case measure => simp [intOf]; omega
                  · have hkm : k = M := by omega
                    have hltk' : ¬ ((k : Int) + 1 ≤ (M : Int)) := by omega
                    rw [hkm, List.take_of_length_le (by rw [HRL.out]; exact Nat.le_refl _)] at hrow
                    have e0 := ((HR2.out.keep hgx.out) q (by rw [HTL.out]; exact hqp)).1
                    generalize T.getD q g0 = y at e0 HRW
                    have hrow2 := hrow
                    have hsz := hgx.out.size
                    clear hkm
                    go_wp2_with (at_builtin; refine wpList_append_own _ rfl _ _ 34 rfl wj.heap.size 3 i0 _ 1 8 Try.underlying34 hi0 hz0 hz1 hz2 rfl (by decide) _ _ _ rfl (hrow2.out.alloc _) ⟨wr.heap.size, 0, none⟩ 1 1 [.int .i64 (y.v : Int)] rfl rfl ?a1 ?a2 ?a3 ?a4 ?a5 ?_)
                    case a2 => first | (intro u hu; obtain rfl := List.mem_singleton.1 hu; rfl) | rfl | simp
                    case a3 => first | (unfold maxLen; omega) | omega | simp
                    case a4 => omega
                    case a5 => first | (simp; omega) | omega | assumption
                    intro v' w5 hown' hgrow _
                    have hga : Gr wj (wr.alloc _) := hgx.out.alloc (.cells #[.int .i64 (y.v : Int)] 3)
                    have hgb : Gr wj w5 := Below.grown hga hgrow hga.size (fun t ht => (hrow2.out.lt t ht).1)
                    have hown2 : w5.ownsRow wj.heap.size 3 1 v' (M + 1) (flatE enc1 (gints (nrRow T M q))) := by
                      rw [HRW.out, gints_snoc, flat_snoc1]; exact hown'
                    obtain ⟨Br, cr, rfl, hrd, hty⟩ := own_row3 (k := 1) (fun _ => rfl) (by rw [gints_len]; exact HRWL.out) hown2
                    have HRD := Lib.hid hrd
                    have HTY := Lib.hid hty
                    have HGB := Lib.hid hgb
                    have HOW := Lib.hid (owns_gr hown.out hgb)
                    have HRV5 := Lib.hid (hRV.out.keep hgb)
                    clear hown' hgrow hga hown2 hrd hty hgb
                    have hsz5 := HGB.out.size
                    have hszi := hg.out.size
                    go_wp2_with (at_builtin; refine wpList_append_own _ rfl _ _ 76 rfl wi.heap.size 34 k0 _ 1 24 Try.underlying76 hk0 hk1 hk2 hk3 rfl (by decide) _ _ _ rfl (HOW.out.alloc _) ⟨w5.heap.size, 0, none⟩ 1 1 [.slice Br (M + 1) cr] rfl rfl ?b1 ?b2 ?b3 ?b4 ?b5 ?_)
                    case b1 =>
                      intro t u ht
                      rw [Addr.add_lit]
                      exact alloc_new rfl (by rw [Nat.zero_add]; simpa using ht)
                    case b2 => intro u hu; obtain rfl := List.mem_singleton.1 hu; rfl
                    case b3 => unfold maxLen; omega
                    case b4 => omega
                    case b5 => simp; omega
                    intro v' w6 hown6 hgrow6 _
                    have hga6 : Gr w5 (w5.alloc (.cells #[.slice Br (M + 1) cr] 34)) := (Gr.refl _).alloc _
                    have HRV6 : Hid (RowsV w6 (vs ++ [.slice Br (M + 1) cr]) (nrRows T M (s + M) (d + 1)) (M + 1)) := Lib.hid (by
                      rw [HRS.out]
                      exact (HRV5.out.keep hga6).more (HOW.out.alloc _) hgrow6 (HRD.out.keep hga6) HRWL.out (fun b o e => by obtain ⟨cur, hB⟩ := HTY.out b o e; exact ⟨cur, hB.keep hga6⟩))
                    have hgb6 : Gr wi w6 := Below.grown ((hg.out.trans HGB.out).trans hga6) hgrow6 (by simp; omega) (fun t ht => (HOW.out.lt t ht).1)
                    have HO6 := Lib.hid hown6
                    clear hown6 hgrow6 hga6
                    go_wp2_with fail
                    go_roundw
                    case rel => exact ⟨d + 1, _, by omega, by rw [hnq.out], HO6, HRV6, Lib.hid hgb6⟩
                    case measure => simp [intOf]; omega
              · have hdN : d = N := by omega
                have hltd' : ¬ ((s : Int) + (M : Int) + (d : Int) < (p : Int)) := by omega
                rw [hdN] at hown hRV
                obtain ⟨A3, cap3, g, rfl, hTb, hbg⟩ := hRV.out.tb hown.out (nrRows_len T M (s + M) N)
                have HSO := Lib.hid (solve_any A3 N cap3 M g (nrRows T M (s + M) N) wr (nrRows_len _ _ _ _) (by omega) (by omega) (nrRows_wid _ _ _ _) hTb)
                clear hown hRV hdN hTb
                go_wp2_with fail
                refine HSO.out.mono ?_
                rintro e w6 ⟨B, k, c, xs, b, rfl, hgb, hyes, hno⟩
                have HG6 := Lib.hid (hgb.gr hg.out hbg)
                cases b with
                | false =>
                  have HNO : Hid (∀ cs m', NearAt ws n p l cs m' → M + 1 ≤ m') := Lib.hid (HNEXT.out (fun cs h => by
                    obtain ⟨a1, a2⟩ := HEQM.out cs h
                    exact hno rfl _ a1 a2))
                  clear hyes hno HSO hgb
                  go_wp2_with fail
                  go_roundw
                  case rel => exact ⟨M + 1, by omega, by go_num, HNO, Lib.hid (hg3.out.trans HG6.out)⟩
                  case measure => simp [intOf]; omega
                | true =>
                  obtain ⟨rfl, hxl, hxI, hxe⟩ := hyes rfl
                  have HXL := Lib.hid hxl
                  have HXI := Lib.hid hxI
                  have HXE : Hid (∀ cs, NearAt ws n p l cs k → (gone ++ posL n (selF n gone xs k)).Nodup ∧ (∀ i, i < n → i ∉ gone ++ posL n (selF n gone xs k) → difB ws cs i = false) ∧ (gone ++ posL n (selF n gone xs k)).length ≤ p) := Lib.hid (fun cs h => by
                    obtain ⟨a1, a2⟩ := HEQM.out cs h
                    have h3 := near_at (c := xs) hn h (hxe _ a1 a2)
                    rw [HGO.out] at h3
                    exact h3)
                  have HI6 := Lib.hid (HI0.out.keep (HGW.out.trans HG6.out))
                  clear hno hyes hxl hxI hxe HSO hgb
                  generalize (s : Int) + (k : Int) + (d : Int) = kk
                  generalize 2 * (k : Int) + (s : Int) = kk2
                  generalize (s : Int) + (k : Int) = kk3
                  go_upto_region 29 with fail
                  go_cut [20] from 121 to 123 (fun v wx => Hid (wx.ownsRow w6.heap.size 3 1 v s (flatE enc1 (nats gone))) ∧ Hid (Gr w6 wx))
                  case first =>
                    rcases B0 with _ | ad
                    · obtain rfl : c0 = 0 := HNIL.out rfl
                      have hs0 : s = 0 := by
                        rcases Nat.eq_zero_or_pos s with h | h
                        · exact h
                        · obtain ⟨b, o, e, -⟩ := Ints_at HI6.out (i := 0) (by rw [nats_len, HS.out]; exact h)
                          cases e
                      have HLE : Hid (gone = []) := Lib.hid (List.eq_nil_of_length_eq_zero (by rw [HS.out, hs0]))
                      have HS0 := Lib.hid hs0
                      obtain rfl := hs0
                      go_wp2_with (at_builtin; refine wpList_append_own_none rfl _ _ 34 rfl w6.heap.size 3 i0 1 Try.underlying34 hi0 _ 0 [] rfl (World.ownsRow_nil w6 _ _ _) rfl ?_)
                      go_wp2_with fail
                      go_meet
                      exact ⟨by rw [HLE.out]; exact Lib.hid (World.ownsRow_nil w6 _ _ _), Lib.hid (Gr.refl _)⟩
                    · have HNW := Lib.hid (Rd_news enc1_len (by decide) HI6.out)
                      have HFL : Hid ((flatE enc1 (nats gone)).length = s * 1) := Lib.hid (by rw [flatE_len enc1_len, nats_len, HS.out])
                      go_wp2_with (at_builtin; refine wpList_append_own _ rfl _ _ 34 rfl w6.heap.size 3 i0 _ 1 8 Try.underlying34 hi0 hz0 hz1 hz2 rfl (by decide) _ _ _ rfl (World.ownsRow_nil w6 _ _ _) ad s c0 (flatE enc1 (nats gone)) rfl ?b1 ?b2 ?b3 ?b4 ?b5 ?b6 ?_)
                      case b1 => exact HFL.out
                      case b2 => exact HNW.out
                      case b3 => exact oneCell_flat enc1_one _
                      case b4 => unfold maxLen; omega
                      case b5 => omega
                      case b6 => exact Nat.le_refl _
                      intro v' w7 hown7 hgrow7 _
                      have HO7 := Lib.hid hown7
                      have HG7 := Lib.hid hgrow7
                      clear hown7 hgrow7
                      go_wp2_with fail
                      go_meet
                      exact ⟨Lib.hid (by simpa using HO7.out), Lib.hid (Below.grown (Gr.refl w6) HG7.out (Nat.le_refl _) (fun t ht => by cases ht))⟩
                  case rest =>
                    obtain ⟨HO7, HG7⟩ := hcut
                    go_wp2_with fail
                    go_loopw [20, 21] (fun v z wr => ∃ (i q : Nat) (la : List Nat), i ≤ n ∧ q ≤ s + i ∧ z = .int .i64 i ∧ Hid (la = gone ++ (List.range i).filter (selF n gone xs k)) ∧ Hid (la.length = q) ∧ Hid (wr.ownsRow w6.heap.size 3 1 v q (flatE enc1 (nats la))) ∧ Hid (Gr w6 wr)) (fun _ z _ => n - (intOf z).toNat)
                    case atStart => exact ⟨0, s, gone, Nat.zero_le _, by omega, rfl, Lib.hid (by simp), HS, HO7, HG7⟩
                    case round =>
                      clear HO7 HG7
                      obtain ⟨i, q, la, hi, hqi, rfl, HLA, HLQ, hown, hgr⟩ := hrel
                      rename World => wk
                      by_cases hlti : i < n
                      · have HPL := Lib.hid (fun W => rplace_any n i hn hlti W)
                        have HIV := Lib.hid (fun W => rInverse_any (plc n i) (plc_pos n i) W)
                        have HFS : Hid ((List.range (i + 1)).filter (selF n gone xs k) = (List.range i).filter (selF n gone xs k) ++ if selF n gone xs k i then [i] else []) := Lib.hid (by
                          rw [List.range_succ, List.filter_append]; simp [List.filter_cons])
                        have HSE : Hid (selF n gone xs k i = (decide (0 < k) && (decide (sumF xs k (ginv (plc n i)) = g0) && !gone.contains i))) := Lib.hid rfl
                        generalize ginv (plc n i) = x at HIV HSE
                        generalize plc n i = pi at HPL HIV
                        have HXK := Lib.hid (HXI.out.keep hgr.out)
                        have HHA := Lib.hid (fun r hr => rHas_any B0 s c0 gone i wk HS.out (by omega) (HI6.out.keep hgr.out) r hr)
                        go_wp2_with fail
                        refine (HPL.out _).mono ?_
                        rintro e w8 ⟨rfl, rfl⟩
                        go_wp2_with fail
                        refine (HIV.out _).mono ?_
                        rintro e w8 ⟨rfl, rfl⟩
                        go_wp2_with fail
                        go_loop [23, 24, 25] (fun v1 v2 z => ∃ j : Nat, j ≤ k ∧ z = .int .i64 j ∧ v1 = .int .i64 ((sumF xs j x).v : Int) ∧ v2 = .int .i64 ((gw x j).v : Int)) (fun _ _ z => k - (intOf z).toNat)
                        case atStart => exact ⟨0, Nat.zero_le _, rfl, by show Value.int .i64 1 = .int .i64 ((sumF xs 0 x).v : Int); unfold sumF; rw [show isum (List.range 0) (fun k => xs.getD k g0 * gw x (k + 1)) = g0 from rfl, gadd_zero]; rfl, rfl⟩
                        case round =>
                          obtain ⟨j, hj, rfl, rfl, rfl⟩ := hrel
                          by_cases hltj : j < k
                          · obtain ⟨b', o', rfl, e1⟩ := Ints_at HXK.out (i := j) (by rw [gints_len, HXL.out]; exact hltj)
                            rw [gints_at (by rw [HXL.out]; exact hltj)] at e1
                            have HSS := Lib.hid (sumF_succ xs j x)
                            have HGS : Hid (gw x (j + 1) = gw x j * x) := Lib.hid rfl
                            have HM1 := Lib.hid (fun W => rMul_g (gw x j) x W)
                            rw [← HGS.out] at HM1
                            obtain ⟨y2, hy2⟩ : ∃ y2, gw x (j + 1) = y2 := ⟨_, rfl⟩
                            rw [hy2] at HM1 HSS
                            have HY2 := Lib.hid hy2
                            clear hy2
                            generalize gw x j = y1 at HM1 ⊢
                            generalize xs.getD j g0 = cj at e1 HSS
                            generalize sumF xs j x = sm at HSS ⊢
                            have HM2 := Lib.hid (fun W => rMul_g cj y2 W)
                            have hx := i64_xor_gg sm (cj * y2)
                            clear HGS
                            go_wp2_with fail
                            refine (HM1.out _).mono ?_
                            rintro e w9 ⟨rfl, rfl⟩
                            go_wp2_with fail
                            refine (HM2.out _).mono ?_
                            rintro e w9 ⟨rfl, rfl⟩
                            go_wp2_with fail
                            go_round
                            case rel => exact ⟨j + 1, by omega, by go_num, by rw [HSS.out], by rw [HY2.out]⟩
                            case measure => simp [intOf] <;> omega
                          · have hjk : j = k := by omega
                            have hltj' : ¬ ((j : Int) < (k : Int)) := by omega
                            have HSE2 : Hid (selF n gone xs k i = (decide (0 < k) && (decide (sumF xs j x = g0) && !gone.contains i))) := Lib.hid (by rw [HSE.out, hjk])
                            generalize sumF xs j x = sm at HSE2 ⊢
                            have HSK : Hid (selF n gone xs k i = false → la = gone ++ (List.range (i + 1)).filter (selF n gone xs k)) := Lib.hid (fun h => by rw [HLA.out, HFS.out, h]; simp)
                            have HAD : Hid (selF n gone xs k i = true → la ++ [i] = gone ++ (List.range (i + 1)).filter (selF n gone xs k)) := Lib.hid (fun h => by rw [HLA.out, HFS.out, h]; simp)
                            clear hjk
                            by_cases hk0 : 0 < k
                            · have hk0' : (0 : Int) < (k : Int) := by omega
                              have hz := g_zero_test sm
                              by_cases hs0 : sm = g0
                              · rw [decide_eq_true hs0] at hz
                                rcases hc : gone.contains i with _ | _
                                · have HH := Lib.hid (HHA.out false hc)
                                  have HAD2 := Lib.hid (HAD.out (by rw [HSE2.out, decide_eq_true hk0, decide_eq_true hs0, hc]; rfl))
                                  have hown2 := hown
                                  have hsz := hgr.out.size
                                  clear hs0 hc
                                  go_wp2_with fail
                                  refine HH.out.mono ?_
                                  rintro e w9 ⟨rfl, rfl⟩
                                  go_wp2_with (at_builtin; refine wpList_append_own _ rfl _ _ 34 rfl w6.heap.size 3 i0 _ 1 8 Try.underlying34 hi0 hz0 hz1 hz2 rfl (by decide) _ _ _ rfl (hown2.out.alloc _) ⟨w9.heap.size, 0, none⟩ 1 1 [.int .i64 (i : Int)] rfl rfl ?d1 ?d2 ?d3 ?d4 ?d5 ?_)
                                  case d1 =>
                                    intro t u ht
                                    rw [Addr.add_lit]
                                    exact alloc_new rfl (by rw [Nat.zero_add]; simpa using ht)
                                  case d2 => intro u hu; obtain rfl := List.mem_singleton.1 hu; rfl
                                  case d3 => unfold maxLen; omega
                                  case d4 => omega
                                  case d5 => simp; omega
                                  intro v' w5 hown' hgrow _
                                  have hga : Gr w6 (w9.alloc _) := hgr.out.alloc (.cells #[.int .i64 (i : Int)] 3)
                                  have hgb : Gr w6 w5 := Below.grown hga hgrow hga.size (fun t ht => (hown2.out.lt t ht).1)
                                  have HO2 := Lib.hid hown'
                                  clear hown' hgrow hga
                                  go_wp2_with fail
                                  go_roundw
                                  case rel => exact ⟨i + 1, q + 1, la ++ [i], by omega, by omega, by go_num, HAD2, Lib.hid (by rw [List.length_append, HLQ.out]; rfl), Lib.hid (by
                                    rw [flat_nats_snoc]
                                    exact HO2.out), Lib.hid hgb⟩
                                  case measure => simp [intOf]; omega
                                · have HH := Lib.hid (HHA.out true hc)
                                  have HSK2 := Lib.hid (HSK.out (by rw [HSE2.out, hc]; simp))
                                  clear hs0 hc
                                  go_wp2_with fail
                                  refine HH.out.mono ?_
                                  rintro e w9 ⟨rfl, rfl⟩
                                  go_wp2_with fail
                                  go_roundw
                                  case rel => exact ⟨i + 1, q, la, by omega, by omega, by go_num, HSK2, HLQ, hown, hgr⟩
                                  case measure => simp [intOf]; omega
                              · rw [decide_eq_false hs0] at hz
                                have HSK2 := Lib.hid (HSK.out (by rw [HSE2.out, decide_eq_false hs0]; simp))
                                clear hs0
                                go_wp2_with fail
                                go_roundw
                                case rel => exact ⟨i + 1, q, la, by omega, by omega, by go_num, HSK2, HLQ, hown, hgr⟩
                                case measure => simp [intOf]; omega
                            · have hk0' : ¬ ((0 : Int) < (k : Int)) := by omega
                              have HSK2 := Lib.hid (HSK.out (by rw [HSE2.out, decide_eq_false hk0]; simp))
                              go_wp2_with fail
                              go_roundw
                              case rel => exact ⟨i + 1, q, la, by omega, by omega, by go_num, HSK2, HLQ, hown, hgr⟩
                              case measure => simp [intOf]; omega
                      · have hin : i = n := by omega
                        have hlti' : ¬ ((i : Int) < (n : Int)) := by omega
                        have HLA2 : Hid (la = gone ++ posL n (selF n gone xs k)) := Lib.hid (by rw [HLA.out, hin]; rfl)
                        have HLB : Hid (∀ a ∈ la, a < n) := Lib.hid (fun a ha => by
                          rw [HLA2.out] at ha
                          rcases List.mem_append.1 ha with h | h
                          · exact HDN.out a h
                          · exact posL_lt a h)
                        rw [← HLA2.out] at HXE
                        obtain ⟨B7, c7, hv7, -, hrd7, -⟩ := own_row (k := 1) (fun _ => rfl) (by rw [nats_len, HLQ.out]) hown.out
                        have HRD := Lib.hid hrd7
                        subst hv7
                        have HG9 := Lib.hid (HG1.out.trans ((HGW.out.trans HG6.out).trans hgr.out))
                        have HME := Lib.hid (rMended_any A n ca p ws B7 q c7 la wk HW.out h1 hn hp HLQ.out HLB.out (HA.out.keep HG9.out) HRD.out)
                        clear hrd7 hown hin HLA
                        go_wp2_with fail
                        refine HME.out.mono ?_
                        rintro e w9 ⟨B8, k8, c8, os, b, rfl, hg9, hyes, hcs⟩
                        have HNX2 : Hid ((∀ cs, NearAt ws n p l cs k → b = true → os = cs → False) → ∀ cs m', NearAt ws n p l cs m' → k + 1 ≤ m') := Lib.hid (fun h => HNEXT.out (fun cs hN => by
                          obtain ⟨x1, x2, x3⟩ := HXE.out cs hN
                          obtain ⟨y1, y2⟩ := hcs cs hN.len (near_iff.1 hN.near).1 x1 x2 x3
                          exact h cs hN y1 y2))
                        have HG10 := Lib.hid (((hg3.out.trans HG6.out).trans hgr.out).trans hg9)
                        have HG11 := Lib.hid (HG9.out.trans hg9)
                        clear hg9 hcs HME
                        cases b with
                        | false =>
                          have HNO := Lib.hid (HNX2.out (fun _ _ h _ => by cases h))
                          clear hyes
                          go_wp2_with fail
                          go_roundw
                          case rel => exact ⟨k + 1, by omega, by go_num, HNO, HG10⟩
                          case measure => simp [intOf]; omega
                        | true =>
                          obtain ⟨rfl, hoc, hol, hoI⟩ := hyes rfl
                          have HOI := Lib.hid hoI
                          have HOL := Lib.hid hol
                          have HIN := Lib.hid (fun r hr => rIsNear_any A B8 A2 k8 ca c8 c2 p m ws os l w9 HW.out hol HM.out hn (by omega) hm2 (HA.out.keep HG11.out) hoI (HA2.out.keep HG11.out) r hr)
                          clear hyes hol hoI
                          rcases hnb : nearB ws os k8 p l with _ | _
                          · have HI2 := Lib.hid (HIN.out false hnb)
                            have HNO := Lib.hid (HNX2.out (fun cs hN _ e => by
                              have := hN.near
                              rw [← e, hnb] at this
                              cases this))
                            clear hnb HIN
                            go_wp2_with fail
                            refine HI2.out.mono ?_
                            rintro e w10 ⟨rfl, hg10⟩
                            go_wp2_with fail
                            go_roundw
                            case rel => exact ⟨k + 1, by omega, by go_num, HNO, Lib.hid (HG10.out.trans hg10)⟩
                            case measure => simp [intOf]; omega
                          · have HI2 := Lib.hid (HIN.out true hnb)
                            have HNB := Lib.hid hnb
                            clear hnb HIN
                            go_wp2_with fail
                            refine HI2.out.mono ?_
                            rintro e w10 ⟨rfl, hg10⟩
                            go_wp2_with fail
                            try rw [Exit.noGoto_ret]
                            go_ret2
                            exact ⟨B8, k8, c8, os, true, rfl, HG11.out.trans hg10, fun _ => ⟨rfl, hoc, HOL.out, HOI.out.keep hg10, HNB.out⟩, fun e => by cases e⟩
          · have hlt2' : ¬ (2 * (M : Int) + (s : Int) ≤ (p : Int)) := by omega
            have HNO : Hid (∀ cs, cs.length = n → nearB ws cs n p l = false) := Lib.hid (fun cs hc => by
              rw [Bool.eq_false_iff]
              intro e
              have h1 := HMIN.out cs _ ⟨hc, e, rfl⟩
              have h2 := (near_iff.1 e).2
              rw [HGO.out, HS.out] at h2
              omega)
            go_wp2_with fail
            try rw [Exit.noGoto_ret]
            go_ret2
            exact nr_no (HG1.out.trans HGW.out) HNO.out
end Go.Proofs.Ytbkbgcapkhelhaa
