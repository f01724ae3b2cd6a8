/- Layer 4: search. -/
import Derived.Test.YtpnkpejnahhajaaGreatBc29
import Derived.Deep.CutRange
import Derived.Laws.AppendOwnNone
import Derived.Maps.Own
import Derived.Carry
namespace Go.Proofs.YtpnkpejnahhajaaGreat
open Go.RowKit
set_option linter.unusedSimpArgs false

theorem owns_oneI (w : World) (x : Value) {base : Nat} (hb : base ≤ w.heap.size) : (w.alloc (.cells #[x] 3)).ownsRow base 3 1 (.slice (some ⟨w.heap.size, 0, none⟩) 1 1) 1 [x] :=
  ⟨rfl, .inr ⟨w.heap.size, 1, _, rfl, hb, heap_alloc_new w _, Nat.le_refl _, by unfold maxLen; omega, rfl, rfl⟩⟩
theorem FM.made (w : World) : FM (w.alloc (.map #[] 0)) w.heap.size (fun _ => none) := ⟨[], Mp_made w, fun _ => rfl, fun p hp => by cases hp⟩
theorem nodesI_snoc (Q : List Nat) (v : Nat) : flatE enc1 (nodesI (Q ++ [v])) = flatE enc1 (nodesI Q) ++ [.int .i64 (v : Int)] := by
  unfold nodesI; rw [List.map_append, flatE_app]; rfl
theorem nodesI_at {Q : List Nat} {i u : Nat} (h : Q[i]? = some u) : (nodesI Q)[i]? = some (u : Int) := by unfold nodesI; rw [List.getElem?_map, h]; rfl
theorem nodesI_len (Q : List Nat) : (nodesI Q).length = Q.length := by simp [nodesI]

theorem FM.apart {w : World} {fb : Nat} {F : Nat → Option Nat} (h : FM w fb F) {base : Nat} {e : TypeId} {size n : Nat} {v : Value} {xs : List Value} (ho : w.ownsRow base e size v n xs) : some fb ≠ v.ownBlock := fun e0 => by
  obtain ⟨l, ⟨es, cl, hb, -⟩, -⟩ := h
  rcases ho.2 with ⟨rfl, -⟩ | ⟨g, cap, cur, rfl, -, hg, -⟩
  · simp [Value.ownBlock] at e0
  · simp [Value.ownBlock] at e0
    rw [e0] at hb
    rw [hb] at hg
    cases hg

def SearchPost (r : Nat → Nat → Int) (nx : Nat → List Nat) (N : Nat) (w : World) (e : Ending) (w' : World) : Prop :=
  ∃ fb F, e = .returned (.map (some fb)) ∧ w.heap.size ≤ fb ∧ FM w' fb F ∧ Found r nx N F ∧ Gr w w'

set_option maxRecDepth 100000 in
set_option maxHeartbeats 8000000 in
theorem search_any (g mb h N : Nat) (nx : Nat → List Nat) (r : Nat → Nat → Int) (w : World) (hN : 2 ≤ N) (hNb : N ≤ 4096) (hnx : ∀ u, u < N → ∀ v ∈ nx u, v < N) (hlen : ∀ u, u < N → (nx u).length ≤ 1048576) (hn : NetR w g mb h N nx) (hr : RM w mb r) :
    Calls Tryz.prog 72 #[.pointer (some ⟨g, 0, none⟩)] w (SearchPost r nx N w) := by
  have HN := Lib.hid hn
  have HR := Lib.hid hr
  have HNX := Lib.hid hnx
  have HLEN := Lib.hid hlen
  clear hn hr hnx hlen
  have hmm := @run_makeMap Tryz.prog
  go_enter Tryz.func72, Tryz.ntmps72
  go_upto_region 2 with (first | (refine step_insF rfl (.tmp 11) _ _ rfl (FM.made w) (u := 0) (d := 0) (by unfold nodeB; omega) rfl rfl rfl ?_; intro w1 hF1 hG1) | fail)
  clear hmm
  have hg1 : Gr w w1 := hG1.gr ((Gr.refl w).alloc _) (Nat.le_refl _)
  have hS1 : SI r nx N (setF (fun _ => none) 0 (some 0)) [0] := SI.start r nx (by omega) (fun v => rfl)
  obtain ⟨fb, hfb⟩ : ∃ fb, w.heap.size = fb := ⟨_, rfl⟩
  rw [hfb] at hF1 ⊢
  have HFB := Lib.hid hfb
  have HF1 := Lib.hid hF1
  have HS1 := Lib.hid hS1
  generalize setF (fun _ => none) 0 (some 0) = F1 at HF1 HS1
  clear hG1 hF1 hS1 hfb
  obtain ⟨i0, hi, hz0, hz1, hz2⟩ := info_parts Tryz.infoBnI
  have HI := Lib.hid (And.intro hi (And.intro hz0 (And.intro hz1 hz2)))
  clear hi hz0 hz1 hz2
  go_upto_region 3 with fail
  generalize hW2 : World.alloc w1 _ = w2
  have hg12 : Gr w1 w2 := by rw [← hW2]; exact (Gr.refl w1).alloc _
  have hown : w2.ownsRow w.heap.size 3 1 (.slice (some ⟨w1.heap.size, 0, none⟩) 1 1) 1 (flatE enc1 (nodesI [0])) := by rw [← hW2]; exact owns_oneI w1 (.int .i64 0) hg1.size
  have HO := Lib.hid hown
  have HF2 := Lib.hid (HF1.out.keep hg12)
  have hg2 := hg1.trans hg12
  clear hW2 hown hg12 hg1 HF1
  go_wp2_with fail
  go_loopw [4, 5] (fun q z wr => ∃ (k : Nat) (Q : List Nat) (F : Nat → Option Nat), k ≤ Q.length ∧ z = .int .i64 (k : Int) ∧ Hid (wr.ownsRow w.heap.size 3 1 q Q.length (flatE enc1 (nodesI Q))) ∧ Hid (FM wr fb F) ∧ Hid (SI r nx N F Q) ∧ Hid (∀ i u, i < k → Q[i]? = some u → Clo r nx F u (nx u).length) ∧ Gr w wr) (fun _ z _ => N + 1 - (intOf z).toNat)
  case atStart => exact ⟨0, [0], F1, Nat.zero_le _, rfl, HO, HF2, HS1, Lib.hid (fun i u hi => by omega), hg2⟩
  case round =>
    obtain ⟨k, Q, F, hk, rfl, hown, hF, hS, hC, hgr⟩ := hrel
    have hqN := hS.out.len
    by_cases hlt : k < Q.length
    · obtain ⟨gq, cq, rfl, -⟩ := owns_shape hown.out (by omega)
      obtain ⟨u, hu⟩ : ∃ u, Q[k]? = some u := ⟨_, List.getElem?_eq_getElem hlt⟩
      have huN := hS.out.lt u (List.mem_of_getElem? hu)
      obtain ⟨bq, oq, eq, cq0⟩ := (Rd_of_owns enc1_len (nodesI_len Q) hown.out) k _ (nodesI_at hu)
      cases eq
      have ck := cq0 0 _ rfl
      simp only [Nat.zero_add, Nat.mul_one, Nat.add_zero] at ck
      obtain ⟨A, c, hrow0, hints⟩ := HN.out.rows u huN
      have hrow := hgr.keep hrow0
      have n0 := (HN.out.keep hgr).c0
      have n1 := (HN.out.keep hgr).c1
      have hm := HLEN.out u huN
      obtain ⟨m, hmm⟩ : ∃ m, (nx u).length = m := ⟨_, rfl⟩
      rw [hmm] at hrow hm
      have HMM := Lib.hid hmm
      obtain ⟨qn, hqn⟩ : ∃ qn, Q.length = qn := ⟨_, rfl⟩
      have HU := Lib.hid hu
      have hki : (k : Int) < (qn : Int) := by omega
      have HOW := Lib.hid hown.out
      rw [hqn] at hk hlt hqN HOW ⊢
      have HQN := Lib.hid hqn
      have HKQ := Lib.hid hlt
      have hui : (u : Int) < (N : Int) := by omega
      have HINT := Lib.hid hints
      have hgr0 := hgr
      clear hown hmm hu cq0 hqn hints hrow0
      go_wp2_with fail
      go_loopw [4, 32] (fun q z wi => ∃ (j : Nat) (Q' : List Nat) (F' : Nat → Option Nat) (n' : Nat), j ≤ m ∧ z = .int .i64 (j : Int) ∧ Q'.length = n' ∧ qn ≤ n' ∧ Hid (wi.ownsRow w.heap.size 3 1 q n' (flatE enc1 (nodesI Q'))) ∧ Hid (FM wi fb F') ∧ Hid (SI r nx N F' Q') ∧ Hid (∀ i, i < qn → Q'[i]? = Q[i]?) ∧ Hid (∀ v, F v ≠ none → F' v = F v) ∧ Hid (Clo r nx F' u j) ∧ Gr w wi) (fun _ z _ => m - (intOf z).toNat)
      case atStart => exact ⟨0, Q, F, qn, Nat.zero_le _, rfl, HQN.out, Nat.le_refl _, HOW, hF, hS, Lib.hid (fun _ _ => rfl), Lib.hid (fun _ _ => rfl), Lib.hid (fun v hv => by simp at hv), hgr⟩
      case round =>
        clear hgr hrow n0 n1 ck
        obtain ⟨j, Q', F', n', hj, rfl, hn', hqn', hown', hF', hS', hP', hX', hC', hgr'⟩ := hrel
        have hn'N : n' ≤ N := by rw [← hn']; exact hS'.out.len
        by_cases hjl : j < m
        · obtain ⟨v, hv⟩ : ∃ v, (nx u)[j]? = some v := ⟨_, List.getElem?_eq_getElem (by rw [HMM.out]; exact hjl)⟩
          have hvm := List.mem_of_getElem? hv
          have hvN := HNX.out u huN v hvm
          obtain ⟨bv, ov, rfl, cv0⟩ := (HINT.out.keep hgr') j _ (nodesI_at hv)
          have cj := cv0 0 _ rfl
          simp only [Nat.mul_one, Nat.add_zero] at cj
          have n0 := (HN.out.keep hgr').c0
          have hL1 := hF'.out.look2 (u := v) (by unfold nodeB; omega)
          have hjm : (j : Int) < (m : Int) := by omega
          have hfk : ∃ d, F' u = some d ∧ d ≤ 4096 := by
            have h1 : Q'[k]? = some u := by rw [hP'.out k HKQ.out]; exact HU.out
            obtain ⟨d, hd⟩ := Option.ne_none_iff_exists'.1 ((hS'.out.mem u).2 (List.mem_of_getElem? h1))
            have := hS'.out.dist k u d h1 hd
            exact ⟨d, hd, by omega⟩
          have hQu : Q'[k]? = some u := by rw [hP'.out k HKQ.out]; exact HU.out
          have HQU := Lib.hid hQu
          have HV := Lib.hid hv
          have HVM := Lib.hid hvm
          clear hv hvm cv0 hQu
          rcases hfv : F' v with _ | d
          · rw [hfv] at hL1
            simp only [Option.getD_none, Option.isSome_none] at hL1
            have hLR := (HR.out.keep hgr').look (u := u) (v := v) (by unfold nodeB; omega) (by unfold nodeB; omega)
            have HFV := Lib.hid hfv
            obtain ⟨rv, hrv⟩ : ∃ rv, r u v = rv := ⟨_, rfl⟩
            have HRV := Lib.hid hrv
            rw [hrv] at hLR
            clear hfv hrv
            by_cases hpos : 0 < rv
            · obtain ⟨d, hd, hdb⟩ := hfk
              have hL3 := hF'.out.look (u := u) (by unfold nodeB; omega)
              rw [hd] at hL3
              simp only [Option.getD_some] at hL3
              have HD := Lib.hid hd
              have HSA := Lib.hid (hS'.out.add HQU.out hd HVM.out (by rw [HRV.out]; exact hpos) hvN HFV.out)
              have HCA := Lib.hid ((hC'.out.mono (F' := setF F' v (some (d + 1))) (fun a ha => setF_mono ha)).step HV.out (fun _ => by unfold setF; simp))
              have HXA : Hid (∀ a, F a ≠ none → setF F' v (some (d + 1)) a = F a) := Lib.hid (fun a ha => by
                have e := hX'.out a ha
                unfold setF
                rw [if_neg (fun e' => by rw [e', HFV.out] at e; rw [← e'] at e; exact ha e.symm)]
                exact e)
              have HPA : Hid (∀ i, i < qn → (Q' ++ [v])[i]? = Q[i]?) := Lib.hid (fun i hi => by rw [List.getElem?_append_left (by omega)]; exact hP'.out i hi)
              clear hd
              go_upto_region 13 with (first | (at_mapUpdate; refine step_putF rfl _ _ _ rfl hF'.out (u := v) (d := d + 1) (by unfold nodeB; omega) rfl rfl rfl ?_; intro w5 hF5 hG5) | fail)
              have hnb := hF'.out.apart hown'.out
              have hown5 := hown'.out.kept (row := some fb) hG5 (Or.inr (Ne.symm hnb))
              have hg5 : Gr w w5 := hG5.gr hgr' (by have := HFB.out; omega)
              have HO5 := Lib.hid hown5
              have HF5 := Lib.hid hF5
              have HNV : Hid (flatE enc1 (nodesI (Q' ++ [v])) = flatE enc1 (nodesI Q') ++ enc1 (v : Int)) := Lib.hid (nodesI_snoc Q' v)
              clear hown5 hF5 hG5 hnb hL1 hLR hL3 hown' hF' cj n0
              obtain ⟨hi, hz0, hz1, hz2⟩ := HI.out
              go_wp2_with (at_builtin; refine wpList_append_own _ rfl _ _ 26 rfl w.heap.size 3 i0 _ 1 8 Tryz.underlying26 hi hz0 hz1 hz2 rfl (by decide) _ _ _ rfl (HO5.out.alloc _) ⟨w5.heap.size, 0, none⟩ 1 1 (enc1 (v : Int)) rfl rfl ?a1 ?a2 ?a3 ?a4 ?a5 ?_)
              case a1 =>
                intro t x ht
                rw [Addr.add_lit]
                exact alloc_new rfl (by rw [Nat.zero_add]; simpa [enc1] using ht)
              case a2 => exact fun x hx => enc1_one _ x hx
              case a3 => unfold maxLen; omega
              case a4 => omega
              case a5 => have := hg5.size; simp; omega
              intro v' w6 hown6 hgrow _
              have hal : Gr w5 (w5.alloc (.cells #[.int .i64 (v : Int)] 3)) := (Gr.refl _).alloc _
              have ho5 := HO5.out.alloc (.cells #[.int .i64 (v : Int)] 3)
              have hf5 := HF5.out.keep hal
              obtain ⟨lf, hlf, hlk⟩ := hf5
              have hF6 : FM w6 fb (setF F' v (some (d + 1))) := ⟨lf, hlf.grown hgrow (FM.apart ⟨lf, hlf, hlk⟩ ho5), hlk⟩
              have hg6 : Gr w w6 := Below.grown (hg5.alloc _) hgrow (hg5.alloc _).size (fun t ht => (ho5.lt t ht).1)
              have HF6 := Lib.hid hF6
              have HO6 : Hid (w6.ownsRow w.heap.size 3 1 v' (n' + 1) (flatE enc1 (nodesI (Q' ++ [v])))) := Lib.hid (by rw [HNV.out]; exact hown6)
              clear hown6 hgrow hal ho5 hlf hlk hF6 hi hz0 hz1 hz2 lf
              go_wp2_with fail
              go_roundw
              case rel => exact ⟨j + 1, Q' ++ [v], _, n' + 1, by omega, by go_num, by simp [hn'], by omega, HO6, HF6, HSA, HPA, HXA, HCA, hg6⟩
              case measure => simp [intOf]; omega
            · have hnp : ¬ (0 < r u v) := by rw [HRV.out]; exact hpos
              have HCA := Lib.hid (hC'.out.step HV.out (fun e => absurd e hnp))
              clear hnp hfk
              go_wp2_with fail
              go_roundw
              case rel => exact ⟨j + 1, Q', F', n', by omega, by go_num, hn', hqn', hown', hF', hS', hP', hX', HCA, hgr'⟩
              case measure => simp [intOf]; omega
          · rw [hfv] at hL1
            simp only [Option.getD_some, Option.isSome_some] at hL1
            have HCA := Lib.hid (hC'.out.step HV.out (fun _ => by rw [hfv]; simp))
            clear hfk hfv
            go_wp2_with fail
            go_roundw
            case rel => exact ⟨j + 1, Q', F', n', by omega, by go_num, hn', hqn', hown', hF', hS', hP', hX', HCA, hgr'⟩
            case measure => simp [intOf]; omega
        · obtain rfl : j = m := by omega
          have HCK : Hid (∀ i a, i < k + 1 → Q'[i]? = some a → Clo r nx F' a (nx a).length) := Lib.hid (fun i a hi ha => by
            rcases Nat.lt_or_ge i k with c | c
            · rw [hP'.out i (by have := HKQ.out; omega)] at ha
              exact (hC.out i a c ha).mono (fun b hb => by rw [hX'.out b hb]; exact hb)
            · obtain rfl : i = k := by omega
              rw [hP'.out i HKQ.out, HU.out] at ha
              obtain rfl : u = a := by simpa using ha
              rw [HMM.out]; exact hC'.out)
          clear hjl
          go_wp2_with fail
          go_roundw
          case rel => exact ⟨k + 1, Q', F', by rw [hn']; omega, by go_num, by rw [hn']; exact hown', hF', hS', HCK, hgr'⟩
          case measure => simp [intOf]; omega
    · obtain rfl : k = Q.length := by omega
      have HFD : Hid (Found r nx N F) := Lib.hid ⟨fun v hv => hS.out.lt v ((hS.out.mem v).1 hv), hS.out.zero, hS.out.pred, fun v d hd => by
          obtain ⟨i, hi⟩ := List.mem_iff_getElem?.1 ((hS.out.mem v).1 (by rw [hd]; simp))
          have := hS.out.dist i v d hi hd
          have := (List.getElem?_eq_some_iff.1 hi).1
          omega, fun u hu v hv hr => by
          obtain ⟨i, hi⟩ := List.mem_iff_getElem?.1 ((hS.out.mem u).1 hu)
          have := hC.out i u (List.getElem?_eq_some_iff.1 hi).1 hi v (by rw [List.take_length]; exact hv) hr
          exact this⟩
      obtain ⟨gq, cq, rfl⟩ : ∃ A c, u4 = .slice A Q.length c := by
        obtain ⟨A, c, e, -⟩ := own_row enc1_len (nodesI_len Q) hown.out
        exact ⟨A, c, e⟩
      generalize Q.length = k at hqN ⊢
      clear hlt hk hown hS hC
      go_wp2_with fail
      go_ret
      exact ⟨fb, F, rfl, Nat.le_of_eq HFB.out, hF.out, HFD.out, hgr⟩

end Go.Proofs.YtpnkpejnahhajaaGreat
