/- Layer 7: the reference's Order. -/
import Derived.Test.YtmcefcdnfngndaaFdRa
namespace Go.Proofs.Ytmcefcdnfngndaa
open Go.RowKit Go.Shelf
set_option linter.unusedSimpArgs false

/-- The first i suffixes in ascending order. -/
def SrtP (T : List UInt8) (l : List Nat) (i : Nat) : Prop := l.Perm (List.range i) ∧ l.Pairwise fun a b => ltS (T.drop a) (T.drop b) = true
theorem SrtP.len {T : List UInt8} {l : List Nat} {i : Nat} (h : SrtP T l i) : l.length = i := by rw [h.1.length_eq, List.length_range]
theorem SrtP.lt {T : List UInt8} {l : List Nat} {i j : Nat} (h : SrtP T l i) (hj : j < i) : l.getD j 0 < i := List.mem_range.1 (h.1.mem_iff.1 (getD_mem (by rw [h.len]; exact hj)))
theorem SrtP.at {T : List UInt8} {l : List Nat} {i a b : Nat} (h : SrtP T l i) (hab : a < b) (hb : b < i) : ltS (T.drop (l.getD a 0)) (T.drop (l.getD b 0)) = true := by
  have hl := h.len
  have := List.pairwise_iff_getElem.1 h.2 a b (by omega) (by omega) hab
  rw [List.getD_eq_getElem?_getD, List.getD_eq_getElem?_getD, List.getElem?_eq_getElem (show b < l.length by omega), List.getElem?_eq_getElem (show a < l.length by omega)]
  exact this
theorem SrtP.put {T : List UInt8} {l : List Nat} {i p : Nat} (h : SrtP T l i) (hi : i < T.length) (hp : p ≤ i) (h1 : ∀ j, j < p → ltS (T.drop (l.getD j 0)) (T.drop i) = true) (h2 : ∀ j, p ≤ j → j < i → ltS (T.drop (l.getD j 0)) (T.drop i) = false) : SrtP T (l.take p ++ i :: l.drop p) (i + 1) := by
  have hl := h.len
  refine ⟨?_, ?_⟩
  · rw [List.range_succ]
    refine List.perm_middle.trans ?_
    rw [List.take_append_drop]
    exact (List.Perm.cons i h.1).trans (List.perm_append_comm (l₁ := [i]))
  · have hge : ∀ x ∈ l.drop p, ltS (T.drop i) (T.drop x) = true := fun x hx => by
      obtain ⟨j, hj, rfl⟩ := List.mem_iff_getElem.1 hx
      rw [List.length_drop] at hj
      have e : (l.drop p)[j]'(by rw [List.length_drop]; exact hj) = l.getD (p + j) 0 := by
        rw [List.getElem_drop, List.getD_eq_getElem?_getD, List.getElem?_eq_getElem (by omega)]; rfl
      rw [e]
      have h3 := h2 (p + j) (by omega) (by omega)
      have h4 := h.lt (j := p + j) (by omega)
      rcases ltS_tri (T.drop i) (T.drop (l.getD (p + j) 0)) with c | c | c
      · exact c
      · exact absurd c (sfx_ne hi (by omega) (by omega))
      · rw [c] at h3; cases h3
    have hle : ∀ x ∈ l.take p, ltS (T.drop x) (T.drop i) = true := fun x hx => by
      obtain ⟨j, hj, rfl⟩ := List.mem_iff_getElem.1 hx
      rw [List.length_take] at hj
      have e : (l.take p)[j]'(by rw [List.length_take]; exact hj) = l.getD j 0 := by
        rw [List.getElem_take, List.getD_eq_getElem?_getD, List.getElem?_eq_getElem (by omega)]; rfl
      rw [e]
      exact h1 j (by omega)
    have hp2 := h.2
    rw [← List.take_append_drop p l] at hp2
    obtain ⟨q1, q2, q3⟩ := List.pairwise_append.1 hp2
    refine List.pairwise_append.2 ⟨q1, List.pairwise_cons.2 ⟨hge, q2⟩, fun a ha b hb => ?_⟩
    rcases List.mem_cons.1 hb with rfl | hb
    · exact hle a ha
    · exact q3 a ha b hb
theorem SrtP.ord {T : List UInt8} {l : List Nat} (h : SrtP T l T.length) : IsOrd T l := ⟨h.1, h.2⟩
/-- What the shift leaves, and the last store. -/
theorem put_ext {l m : List Nat} {n p i : Nat} (hl : l.length = n) (hp : p ≤ n) (hm : m.length = n + 1) (h : ∀ t, t ≤ n → m.getD t 0 = if t ≤ p then (l ++ [0]).getD t 0 else (l ++ [0]).getD (t - 1) 0) : m.set p i = l.take p ++ i :: l.drop p := by
  apply List.ext_getElem
  · rw [List.length_set, List.length_append, List.length_take, List.length_cons, List.length_drop]; omega
  · intro t h1 h2
    rw [List.length_set] at h1
    have ht := h t (by omega)
    have e1 : m.getD t 0 = m[t] := by rw [List.getD_eq_getElem?_getD, List.getElem?_eq_getElem h1]; rfl
    rw [e1] at ht
    rcases Nat.lt_trichotomy t p with c | c | c
    · rw [List.getElem_set_ne (by omega), List.getElem_append_left (by rw [List.length_take]; omega), List.getElem_take, ht, if_pos (by omega), List.getD_eq_getElem?_getD, List.getElem?_append_left (by omega), List.getElem?_eq_getElem (by omega)]; rfl
    · subst c
      rw [List.getElem_set_self, List.getElem_append_right (by rw [List.length_take]; omega)]
      simp only [List.length_take]
      have : t - min t l.length = 0 := by omega
      simp [this]
    · rw [List.getElem_set_ne (by omega), List.getElem_append_right (by rw [List.length_take]; omega), ht, if_neg (by omega), List.getD_eq_getElem?_getD, List.getElem?_append_left (by omega), List.getElem?_eq_getElem (by omega)]
      simp only [List.length_take]
      obtain ⟨u, hu⟩ : ∃ u, t - min p l.length = u + 1 := ⟨t - min p l.length - 1, by omega⟩
      simp only [hu, List.getElem_cons_succ, List.getElem_drop, Option.getD_some]
      congr 1
      omega
theorem nI_set (m : List Nat) (j v : Nat) : flatE enc1 (nI (m.set j v)) = (flatE enc1 (nI m)).set j (.int .i64 (v : Int)) := by
  unfold nI
  rw [List.map_set]
  generalize m.map (fun v : Nat => (v : Int)) = q
  have : ∀ (q : List Int) (j : Nat) (v : Int), flatE enc1 (q.set j v) = (flatE enc1 q).set j (.int .i64 v) := fun q => by
    induction q with
    | nil => intro j v; rfl
    | cons a q ih =>
      intro j v
      cases j with
      | zero => rfl
      | succ j => exact congrArg (List.cons (Value.int .i64 a)) (ih j v)
  exact this q j v

set_option maxRecDepth 1000000 in
set_option maxHeartbeats 16000000 in
theorem rOrder_any (s : ByteArray) (n : Nat) (w : World) (hn : s.size = n) (hnb : n ≤ 4097) :
    Calls Try.prog 14 #[.string s] w fun e w' => ∃ A c o, e = .returned (.slice A n c) ∧ IsOrd (bts s) o ∧ w'.ownsRow w.heap.size 3 1 (.slice A n c) n (flatE enc1 (nI o)) ∧ Gr w w' := by
  obtain ⟨i0, hi, hz0, hz1, hz2⟩ := info_parts Try.infoFdI
  have HI := Lib.hid (And.intro hi (And.intro hz0 (And.intro hz1 hz2)))
  have HT : Hid ((bts s).length = n) := Lib.hid (by rw [bts_len]; exact hn)
  have HSZ := Lib.hid hn
  have hsi : (s.size : Int) = (n : Int) := by omega
  clear hi hz0 hz1 hz2 hn
  go_enter Try.func14, Try.ntmps14
  go_wp2_with fail
  go_loopw [3, 4] (fun v z wr => ∃ (k : Nat) (l : List Nat) (A : Option Addr) (c : Nat), k ≤ n ∧ z = .int .i64 (k : Int) ∧ v = .slice A k c ∧ Hid (SrtP (bts s) l k) ∧ Hid (wr.ownsRow w.heap.size 3 1 (.slice A k c) k (flatE enc1 (nI l))) ∧ Gr w wr) (fun _ z _ => n - (intOf z).toNat)
  case atStart => exact ⟨0, [], none, 0, Nat.zero_le _, rfl, rfl, Lib.hid ⟨List.Perm.refl _, List.Pairwise.nil⟩, Lib.hid (World.ownsRow_nil _ _ _ _), Gr.refl _⟩
  case round =>
    obtain ⟨k, l, A, c, hk, rfl, rfl, hS, hown, hgr⟩ := hrel
    by_cases hlt : k < n
    · have hki : (k : Int) < (n : Int) := by omega
      have HINTS : Hid (Ints wr A (nI l)) := Lib.hid (by
        rcases hown.out.2 with ⟨h', hz⟩ | ⟨g, cap, cur, h', _⟩
        · injection h' with h1 _ _
          subst h1
          have : l = [] := List.eq_nil_of_length_eq_zero (by rw [hS.out.len]; exact hz)
          subst this; exact Rd_nil _ _
        · injection h' with h1 h2 h3
          subst h1
          exact Rd_of_owns enc1_len (by rw [nI_len, hS.out.len]) hown.out)
      have HLS := Lib.hid (fun W j (hj : j < k) => rLess_any s (l.getD j 0) k W (by have := HSZ.out; omega) (by have := hS.out.lt hj; have := HSZ.out; omega) (by have := HSZ.out; omega))
      obtain ⟨wA, rfl⟩ : ∃ wA, wA = wr := ⟨_, rfl⟩
      go_wp2_with fail
      go_loopw [5, 6] (fun x y wb => ∃ lo hi : Nat, lo ≤ hi ∧ hi ≤ k ∧ x = .int .i64 (lo : Int) ∧ y = .int .i64 (hi : Int) ∧ Hid (∀ j, j < lo → ltS ((bts s).drop (l.getD j 0)) ((bts s).drop k) = true) ∧ Hid (∀ j, hi ≤ j → j < k → ltS ((bts s).drop (l.getD j 0)) ((bts s).drop k) = false) ∧ Gr wA wb) (fun x y _ => (intOf y).toNat - (intOf x).toNat)
      case atStart => exact ⟨0, k, Nat.zero_le _, Nat.le_refl _, rfl, rfl, Lib.hid (fun j hj => by omega), Lib.hid (fun j h1 h2 => by omega), Gr.refl _⟩
      case round =>
        obtain ⟨lo, hi, hlh, hhk, rfl, rfl, h1, h2, hgb⟩ := hrel
        have hki2 : (hi : Int) ≤ 4097 := by omega
        by_cases hlh2 : lo < hi
        · have hl2 : (lo : Int) < (hi : Int) := by omega
          obtain ⟨mid, hm⟩ : ∃ mid, (lo + hi) / 2 = mid := ⟨_, rfl⟩
          have hmk : mid < k := by omega
          have hml : lo ≤ mid := by omega
          have hmh : mid < hi := by omega
          have q1 : IntKind.i64.wrap ((lo : Int) + (hi : Int)) = (lo : Int) + (hi : Int) := IntWalk.i64_in _ (by omega)
          have q2 : ((lo : Int) + (hi : Int)).tdiv 2 = (mid : Int) := by rw [Int.tdiv_eq_ediv_of_nonneg (by omega)]; omega
          have q3 : IntKind.i64.wrap (mid : Int) = (mid : Int) := IntWalk.i64_in _ (by omega)
          obtain ⟨b, off, rfl, x0⟩ := Nats_at (HINTS.out.keep hgb) (i := mid) (by rw [hS.out.len]; exact hmk)
          have hmi : (mid : Int) < (k : Int) := by omega
          have HC := Lib.hid (HLS.out wr mid hmk)
          cases hb : ltS ((bts s).drop (l.getD mid 0)) ((bts s).drop k) with
          | true =>
            rw [hb] at HC
            have H1 : Hid (∀ j, j < mid + 1 → ltS ((bts s).drop (l.getD j 0)) ((bts s).drop k) = true) := Lib.hid (fun j hj => by
              rcases Nat.eq_or_lt_of_le (show j ≤ mid by omega) with e | e
              · rw [e]; exact hb
              · exact ltS_tr (hS.out.at e hmk) hb)
            clear h1 hb hm
            generalize l.getD mid 0 = x at x0 HC
            go_wp2_with fail
            refine HC.out.mono ?_
            rintro e w2 ⟨rfl, hg2⟩
            have hgb2 := hgb.trans hg2
            clear HC x0 q1 q2 q3
            go_wp2_with fail
            go_roundw
            case rel => exact ⟨mid + 1, hi, by omega, hhk, by go_num, rfl, H1, h2, hgb2⟩
            case measure => simp [intOf]; omega
          | false =>
            rw [hb] at HC
            have H2 : Hid (∀ j, mid ≤ j → j < k → ltS ((bts s).drop (l.getD j 0)) ((bts s).drop k) = false) := Lib.hid (fun j hj hjk => by
              rcases Nat.eq_or_lt_of_le hj with e | e
              · rw [← e]; exact hb
              · cases c : ltS ((bts s).drop (l.getD j 0)) ((bts s).drop k) with
                | false => rfl
                | true => rw [ltS_tr (hS.out.at e hjk) c] at hb; cases hb)
            clear h2 hb hm
            generalize l.getD mid 0 = x at x0 HC
            go_wp2_with fail
            refine HC.out.mono ?_
            rintro e w2 ⟨rfl, hg2⟩
            have hgb2 := hgb.trans hg2
            clear HC x0 q1 q2 q3
            go_wp2_with fail
            go_roundw
            case rel => exact ⟨lo, mid, by omega, by omega, rfl, rfl, h1, H2, hgb2⟩
            case measure => simp [intOf]; omega
        · obtain rfl : lo = hi := by omega
          have hl2 : ¬ (lo : Int) < (lo : Int) := by omega
          have HPUT : Hid (SrtP (bts s) (l.take lo ++ k :: l.drop lo) (k + 1)) := Lib.hid (hS.out.put (by rw [HT.out]; exact hlt) hhk h1.out h2.out)
          have HO2 := Lib.hid (owns_gr hown.out hgb)
          have hgr2 := hgr.trans hgb
          have HLL : Hid (l.length = k) := Lib.hid hS.out.len
          obtain ⟨hi, hz0, hz1, hz2⟩ := HI.out
          clear h1 h2 hown hgr hgb HLS HINTS hlh hS
          obtain ⟨wB, rfl⟩ : ∃ wB, wB = wr := ⟨_, rfl⟩
          go_wp2_with (at_builtin; refine wpList_append_own _ rfl _ _ 23 rfl w.heap.size 3 i0 _ 1 8 Try.underlying23 hi hz0 hz1 hz2 rfl (by decide) _ _ _ rfl (HO2.out.alloc _) ⟨wB.heap.size, 0, none⟩ 1 1 [.int .i64 0] rfl rfl ?a1 ?a2 ?a3 ?a4 ?a5 ?_)
          try case a1 =>
            intro t x ht
            rw [Addr.add_lit]
            exact alloc_new rfl (by rw [Nat.zero_add]; simpa using ht)
          case a2 => first | rfl | (intro x hx; rw [List.mem_singleton] at hx; subst hx; rfl)
          case a3 => unfold maxLen; omega
          case a4 => omega
          case a5 => have := hgr2.size; simp; omega
          intro v' w3 hown3 hgrow _
          have hal : Gr wB (wB.alloc (.cells #[.int .i64 0] 3)) := (Gr.refl _).alloc _
          have ho2 := HO2.out.alloc (.cells #[.int .i64 0] 3)
          have hg3 : Gr w w3 := Below.grown (hgr2.trans hal) hgrow (hgr2.trans hal).size (fun t ht => (ho2.lt t ht).1)
          obtain ⟨g3, c3, rfl, -⟩ := owns_shape hown3 (by omega)
          have HO3 : Hid (w3.ownsRow w.heap.size 3 1 (.slice (some ⟨g3, 0, none⟩) (k + 1) c3) (k + 1) (flatE enc1 (nI (l ++ [0])))) := Lib.hid (by
            have e : nI (l ++ [0]) = nI l ++ [0] := by simp [nI]
            rw [e, flatE_app]; exact hown3)
          clear hown3 hgrow hal ho2 hi hz0 hz1 hz2 HO2 hgr2
          go_wp2_with fail
          go_loopw [8] (fun z wc => ∃ (j : Nat) (m : List Nat), lo ≤ j ∧ j ≤ k ∧ z = .int .i64 (j : Int) ∧ Hid (m.length = k + 1) ∧ Hid (wc.ownsRow w.heap.size 3 1 (.slice (some ⟨g3, 0, none⟩) (k + 1) c3) (k + 1) (flatE enc1 (nI m))) ∧ Hid (∀ t, t ≤ k → m.getD t 0 = if t ≤ j then (l ++ [0]).getD t 0 else (l ++ [0]).getD (t - 1) 0) ∧ Gr w wc) (fun z _ => (intOf z).toNat)
          case atStart => exact ⟨k, l ++ [0], hhk, Nat.le_refl _, by go_num, Lib.hid (by rw [List.length_append, HLL.out]; rfl), HO3, Lib.hid (fun t ht => by rw [if_pos ht]), hg3⟩
          case round =>
            clear HO3 hg3
            obtain ⟨j, m, hlj, hjk, rfl, hml, hom, hmt, hgc⟩ := hrel
            have HF := Lib.hid (owns_FB hom.out)
            by_cases hc : lo < j
            · have hci : (lo : Int) < (j : Int) := by omega
              have q1 : IntKind.i64.wrap ((j : Int) - 1) = ((j - 1 : Nat) : Int) := by rw [show (j : Int) - 1 = ((j - 1 : Nat) : Int) by omega]; exact IntWalk.i64_in _ (by omega)
              have x0 := HF.out.at (i := j - 1) (by omega)
              have y0 := HF.out.at (i := j) (by omega)
              have y1 := HF.out.free j
              have hst := (hom.out.stored j (.int .i64 ((m.getD (j - 1) 0 : Nat) : Int)))
              have HOM : Hid ((wr.setCell ⟨g3, j, none⟩ (.int .i64 ((m.getD (j - 1) 0 : Nat) : Int))).ownsRow w.heap.size 3 1 (.slice (some ⟨g3, 0, none⟩) (k + 1) c3) (k + 1) (flatE enc1 (nI (m.set j (m.getD (j - 1) 0))))) := Lib.hid (by rw [nI_set]; exact hst.1)
              have HG := Lib.hid (hgc.setCell (p := ⟨g3, j, none⟩) (hom.out.lt g3 rfl).1 (.int .i64 ((m.getD (j - 1) 0 : Nat) : Int)))
              have HMT : Hid (∀ t, t ≤ k → (m.set j (m.getD (j - 1) 0)).getD t 0 = if t ≤ j - 1 then (l ++ [0]).getD t 0 else (l ++ [0]).getD (t - 1) 0) := Lib.hid (fun t ht => by
                by_cases e : t = j
                · subst e
                  rw [List.getD_eq_getElem?_getD, List.getElem?_set_self (by rw [hml.out]; omega), if_neg (by omega)]
                  show m.getD (t - 1) 0 = _
                  rw [hmt.out (t - 1) (by omega), if_pos (by omega)]
                · rw [List.getD_eq_getElem?_getD, List.getElem?_set_ne (by omega), ← List.getD_eq_getElem?_getD, hmt.out t ht]
                  by_cases e2 : t < j
                  · rw [if_pos (by omega), if_pos (by omega)]
                  · rw [if_neg (by omega), if_neg (by omega)])
              have HML : Hid ((m.set j (m.getD (j - 1) 0)).length = k + 1) := Lib.hid (by rw [List.length_set]; exact hml.out)
              have p1 : lo ≤ j - 1 := by omega
              have p2 : j - 1 ≤ k := by omega
              have p3 : j - 1 < k + 1 := by omega
              have p4 : j - 1 < j := by omega
              generalize m.set j (m.getD (j - 1) 0) = m2 at HOM HMT HML
              generalize m.getD (j - 1) 0 = x at x0 HOM HG
              generalize m.getD j 0 = y at y0
              clear hom hmt hst HF hml
              generalize j - 1 = j2 at q1 x0 HMT p1 p2 p3 p4
              have p5 : (j2 : Int) < (k : Int) + 1 := by omega
              have p6 : (j : Int) < (k : Int) + 1 := by omega
              go_wp2_with fail
              go_roundw
              case rel => exact ⟨j2, m2, p1, p2, rfl, HML, HOM, HMT, HG.out⟩
              case measure => simp [intOf]; omega
            · obtain rfl : lo = j := by omega
              have y0 := HF.out.at (i := lo) (by omega)
              have y1 := HF.out.free lo
              have hst := (hom.out.stored lo (.int .i64 (k : Int)))
              have HEX : Hid (m.set lo k = l.take lo ++ k :: l.drop lo) := Lib.hid (put_ext HLL.out hhk hml.out hmt.out)
              have HOM : Hid ((wr.setCell ⟨g3, lo, none⟩ (.int .i64 (k : Int))).ownsRow w.heap.size 3 1 (.slice (some ⟨g3, 0, none⟩) (k + 1) c3) (k + 1) (flatE enc1 (nI (l.take lo ++ k :: l.drop lo)))) := Lib.hid (by rw [← HEX.out, nI_set]; exact hst.1)
              have HG := Lib.hid (hgc.setCell (p := ⟨g3, lo, none⟩) (hom.out.lt g3 rfl).1 (.int .i64 (k : Int)))
              have p6 : (lo : Int) < (k : Int) + 1 := by omega
              generalize m.getD lo 0 = y at y0
              clear hom hmt hst HF hml HEX
              go_wp2_with fail
              go_roundw
              case rel => exact ⟨k + 1, _, _, _, by omega, by go_num, rfl, HPUT, HOM, HG.out⟩
              case measure => simp [intOf]; omega
    · obtain rfl : k = n := by omega
      have HO : Hid (IsOrd (bts s) l) := Lib.hid (by
        have := hS.out
        rw [← HT.out] at this
        exact this.ord)
      go_wp2_with fail
      go_ret
      exact ⟨A, c, l, rfl, HO.out, hown.out, hgr⟩

end Go.Proofs.Ytmcefcdnfngndaa
