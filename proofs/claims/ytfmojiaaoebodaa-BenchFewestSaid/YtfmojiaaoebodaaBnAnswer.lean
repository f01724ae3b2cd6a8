/- Layer 4: answer. -/
import Derived.Test.YtfmojiaaoebodaaBnSlots
import Derived.Test.YtfmojiaaoebodaaBnRefuse
namespace Go.Proofs.Ytfmojiaaoebodaa
open Go.RowKit
set_option linter.unusedSimpArgs false

theorem Rd.ans {α : Type} {enc : α → List Value} {k : Nat} {w w' : World} {A : Option Addr} {xs : List α} {R : Nat} {t : TypeId} {cs : Array Value} (hi : ∀ x v, v ∈ enc x → ∃ n : Int, v = Value.int .i64 n) (h : Rd k enc w A xs) (hB : Blk w R t cs) (hc : ∀ (i : Nat) (n : Int), cs[i]? ≠ some (Value.int .i64 n)) (hg : Gb R w w') : Rd k enc w' A xs := fun i x hx => by
  obtain ⟨b, off, e, h⟩ := h i x hx
  refine ⟨b, off, e, fun j v hv => ?_⟩
  obtain ⟨n, rfl⟩ := hi x v (List.mem_of_getElem? hv)
  refine gb_cell hg (h j _ hv) (fun eb => ?_)
  subst eb
  exact hc _ n ((hB.cell _).symm.trans (h j _ hv))
theorem enc4_int (x : Sl) (v : Value) (h : v ∈ enc4 x) : ∃ n : Int, v = Value.int .i64 n := by
  simp [enc4] at h; rcases h with rfl | rfl | rfl | rfl <;> exact ⟨_, rfl⟩
theorem enc2_int (x : Int × Int) (v : Value) (h : v ∈ enc2 x) : ∃ n : Int, v = Value.int .i64 n := by
  simp [enc2] at h; rcases h with rfl | rfl <;> exact ⟨_, rfl⟩
theorem enc1_int (x : Int) (v : Value) (h : v ∈ enc1 x) : ∃ n : Int, v = Value.int .i64 n := by
  simp [enc1] at h; exact ⟨_, h⟩
theorem ans_noint (i : Nat) (n : Int) : (#[Value.bool false, .slice none 0 0, .slice none 0 0, .slice none 0 0] : Array Value)[i]? ≠ some (.int .i64 n) := by
  match i with
  | 0 => simp
  | 1 => simp
  | 2 => simp
  | 3 => simp
  | _ + 4 => simp
/-- The answer is stored. -/
theorem ans_put {w0 w : World} {R : Nat} (h : Blk w R 28 #[.bool false, .slice none 0 0, .slice none 0 0, .slice none 0 0]) (hg : Gr w0 w) (hR : w0.heap.size ≤ R) (v0 v1 v2 v3 : Value) :
    ∀ w', ((((w.setCell ⟨R, 0, none⟩ v0).setCell ⟨R, 1, none⟩ v1).setCell ⟨R, 2, none⟩ v2).setCell ⟨R, 3, none⟩ v3) = w' →
      (∀ {α : Type} {enc : α → List Value} {k : Nat} {A : Option Addr} {xs : List α}, (∀ x v, v ∈ enc x → ∃ n : Int, v = Value.int .i64 n) → Rd k enc w A xs → Rd k enc w' A xs) ∧ Gr w0 w' ∧ w'.cell? ⟨R, 0, none⟩ = some v0 ∧ w'.cell? ⟨R, 1, none⟩ = some v1 ∧ w'.cell? ⟨R, 2, none⟩ = some v2 ∧ w'.cell? ⟨R, 3, none⟩ = some v3 := by
  have hp := (((h.put 0 v0).put 1 v1).put 2 v2).put 3 v3
  have hb := ((((Gb.of (Gr.refl w) R).put 0 v0).put 1 v1).put 2 v2).put 3 v3
  rintro w' rfl
  have q0 := hp.cell 0
  have q1 := hp.cell 1
  have q2 := hp.cell 2
  have q3 := hp.cell 3
  simp at q0 q1 q2 q3
  exact ⟨fun hi hr => hr.ans hi h ans_noint hb, hb.gr hg hR, q0, q1, q2, q3⟩

/-- What a plan answers: a schedule, or a refusal. -/
def AnsP (B : Nat) (l : List Jb) (w : World) (e : Ending) (w' : World) : Prop :=
  (∃ A k c sl, e = .returned (.agg #[.bool true, .slice A k c, .slice none 0 0, .slice none 0 0]) ∧ sl.length = k ∧ Rd 4 enc4 w' A sl ∧ SchedP B l sl ∧ Fresh w.heap.size w' A k c ∧ Gr w w') ∨
  (∃ JA jc SA sc J S, e = .returned (.agg #[.bool false, .slice none 0 0, .slice JA (List.length J) jc, .slice SA (List.length S) sc]) ∧ Ints w' JA J ∧ Pts w' SA S ∧ RefuseP B l J S ∧ (Fresh w.heap.size w' JA (List.length J) jc ∧ Fresh w.heap.size w' SA (List.length S) sc) ∧ Gr w w')

set_option maxRecDepth 100000 in
set_option maxHeartbeats 8000000 in
theorem answer_any {p g m fb B : Nat} {A : Option Addr} {n c : Nat} {SA : Option Addr} {sc : Nat} {F : Nat → Option Nat} {r' : Nat → Nat → Int} {nx : Nat → List Nat} {l : List Jb} (w : World) (hn : l.length = n) (hn32 : n ≤ 32) (hB : B ≤ 8) (hV : JobsV l)
    (h : PlanR w p g m fb B A n c SA ((tms l).length - 1) sc (tms l) F r') (hL : Left B n ((tms l).length - 1) l (tms l) r' F nx 4096) (h0 : F 0 = some 0) :
    Calls Try.prog 19 #[.pointer (some ⟨p, 0, none⟩)] w (AnsP B l w) := by
  have HPR := Lib.hid h
  have HIP := Lib.hid (fun W (hW : Gr w W) => isPossible_any W (h.keep hW) h0)
  have HT : Hid ((∀ v, F v ≠ none → v = 0) → FullF (gridT (tms l) (tms_asc l)) B l (flF r' n)) := Lib.hid (by subst hn; exact fun hv => hL.full hv)
  have HR : Hid (¬ (∀ v, F v ≠ none → v = 0) → RefuseP B l (jobsR F n) (spansR F n (tms l) ((tms l).length - 1))) := Lib.hid (by
    subst hn
    intro hv
    obtain ⟨v, hv⟩ := Classical.not_forall.1 hv
    obtain ⟨hv, hv0⟩ := Classical.not_imp.1 hv
    exact hL.refuse hV hn32 hv hv0)
  have HFE := Lib.hid (fun j s => hL.fl_eq j s)
  have HV := Lib.hid hV
  have HN := Lib.hid hn
  have hK64 : (tms l).length - 1 ≤ 63 := by have := timesL_len (tmL l); rw [tmL_len, hn] at this; change (tms l).length ≤ _ at this; omega
  clear h hL h0 hV hn
  go_enter Try.func19, Try.ntmps19
  go_wp2_with fail
  generalize hW1 : World.alloc w _ = w1
  have hg1 : Gr w w1 := by rw [← hW1]; exact (Gr.refl w).alloc _
  have hR1 : Blk w1 w.heap.size 28 #[.bool false, .slice none 0 0, .slice none 0 0, .slice none 0 0] := by rw [← hW1]; exact heap_alloc_new w _
  obtain ⟨R, hRe⟩ : ∃ R, w.heap.size = R := ⟨_, rfl⟩
  rw [hRe] at hR1 ⊢
  have hRle : w.heap.size ≤ R := by omega
  have HR1 := Lib.hid hR1
  clear hW1 hR1 hRe
  refine (HIP.out _ hg1).mono ?_
  rintro e w2 ⟨b, rfl, hb, rfl⟩
  cases b with
  | true =>
    have HS := Lib.hid (slots_any w2 rfl HN.out hn32 hB HV.out.p (HPR.out.keep hg1) (HT.out (hb.1 rfl)) HFE.out)
    clear hb HIP
    go_wp2_with fail
    refine HS.out.mono ?_
    rintro e w3 ⟨A3, k3, c3, sl, rfl, e1, e2, e3, ef, e4⟩
    have HE := Lib.hid (And.intro e1 (And.intro e2 e3))
    have HEF := Lib.hid (ef.base hg1.size)
    have HR3 := Lib.hid (HR1.out.keep e4)
    have hg3 := hg1.trans e4
    clear e1 e2 e3 e4 ef HS
    have y0 := HR3.out.cell 0
    have y1 := HR3.out.cell 1
    have y2 := HR3.out.cell 2
    have y3 := HR3.out.cell 3
    have z0 := HR3.out.free 0
    have z1 := HR3.out.free 1
    have z2 := HR3.out.free 2
    have z3 := HR3.out.free 3
    go_wp2_with fail
    obtain ⟨hrd, hgf, u0, u1, u2, u3⟩ := ans_put HR3.out hg3 hRle (.bool true) (.slice A3 k3 c3) (.slice none 0 0) (.slice none 0 0) _ rfl
    refine bodyPost_ret (v := .agg #[.bool true, .slice A3 k3 c3, .slice none 0 0, .slice none 0 0]) ?_ ?_ ?_
    · simp [results, Try.results19, go_sem, u0, u1, u2, u3]
    · rfl
    · exact Or.inl ⟨_, _, _, _, rfl, HE.out.1, hrd enc4_int HE.out.2.1, HE.out.2.2, (((HEF.out.put _ _).put _ _).put _ _).put _ _, hgf⟩
  | false =>
    have HS := Lib.hid (refusal_any w2 rfl hK64 hn32 (HPR.out.keep hg1))
    have HRR := Lib.hid (HR.out (fun hv => by have := hb.2 hv; cases this))
    clear hb HIP
    go_wp2_with fail
    refine HS.out.mono ?_
    rintro e w3 ⟨A3, c3, A4, c4, rfl, e1, e2, ef, e4⟩
    have HE := Lib.hid (And.intro e1 e2)
    have HEF := Lib.hid (And.intro (ef.1.base hg1.size) (ef.2.base hg1.size))
    have HR3 := Lib.hid (HR1.out.keep e4)
    have hg3 := hg1.trans e4
    clear e1 e2 e4 ef HS
    have y0 := HR3.out.cell 0
    have y1 := HR3.out.cell 1
    have y2 := HR3.out.cell 2
    have y3 := HR3.out.cell 3
    have z0 := HR3.out.free 0
    have z1 := HR3.out.free 1
    have z2 := HR3.out.free 2
    have z3 := HR3.out.free 3
    go_wp2_with fail
    obtain ⟨hrd, hgf, u0, u1, u2, u3⟩ := ans_put HR3.out hg3 hRle (.bool false) (.slice none 0 0) (.slice A3 (jobsR F n).length c3) (.slice A4 (spansR F n (tms l) ((tms l).length - 1)).length c4) _ rfl
    refine bodyPost_ret (v := .agg #[.bool false, .slice none 0 0, .slice A3 (jobsR F n).length c3, .slice A4 (spansR F n (tms l) ((tms l).length - 1)).length c4]) ?_ ?_ ?_
    · simp [results, Try.results19, go_sem, u0, u1, u2, u3]
    · rfl
    · exact Or.inr ⟨_, _, _, _, _, _, rfl, hrd enc1_int HE.out.1, hrd enc2_int HE.out.2, HRR.out, ⟨(((HEF.out.1.put _ _).put _ _).put _ _).put _ _, (((HEF.out.2.put _ _).put _ _).put _ _).put _ _⟩, hgf⟩

end Go.Proofs.Ytfmojiaaoebodaa
