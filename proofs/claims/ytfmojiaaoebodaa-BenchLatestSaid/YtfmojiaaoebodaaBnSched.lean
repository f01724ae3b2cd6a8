/- Layer 4: checks of slots and positions.
Layer 4: isSchedule. -/
import Derived.Test.YtfmojiaaoebodaaBnTask
import Derived.Test.YtfmojiaaoebodaaBnApartJ
namespace Go.Proofs.Ytfmojiaaoebodaa
open Go.RowKit
set_option linter.unusedSimpArgs false

def SlotOk (B : Int) (l : List Jb) (x : Sl) (w : World) (e : Ending) (w' : World) : Prop := ∃ r : Bool, e = .returned (.bool r) ∧ (r = true ↔ okS B l x) ∧ Gr w w'

set_option maxRecDepth 100000 in
set_option maxHeartbeats 4000000 in
theorem isSlot_any (x : Sl) (B : Int) (A : Option Addr) (n c : Nat) (l : List Jb) (w : World) (hn : l.length = n) (hp : Tris w A l) :
    Calls Try.prog 58 #[.agg #[.int .i64 x.1, .int .i64 x.2.1, .int .i64 x.2.2.1, .int .i64 x.2.2.2], .int .i64 B, .slice A n c] w (SlotOk B l x w) := by
  obtain ⟨j, q, f, t⟩ := x
  have HP := Lib.hid hp
  have HN := Lib.hid hn
  have HO : Hid (okS B l (j, q, f, t) ↔ (0 ≤ j ∧ j < (n : Int)) ∧ (0 ≤ q ∧ q < B) ∧ f < t ∧ (jbA l j.toNat).1 ≤ f ∧ t ≤ (jbA l j.toNat).2.1) := Lib.hid (by unfold okS; rw [hn])
  clear hp hn
  dsimp only
  by_cases h1 : j < 0
  · go_enter Try.func58, Try.ntmps58
    go_wp2_with fail
    go_ret
    exact ⟨false, rfl, by rw [HO.out]; simp; omega, by (repeat (first | exact Gr.refl _ | assumption | (refine Gr.drew ?_) | (refine Gr.drewN ?_ _) | (refine Gr.alloc ?_ _) | (refine Gr.trans ?_ (by assumption))))⟩
  · by_cases h2 : (n : Int) ≤ j
    · go_enter Try.func58, Try.ntmps58
      go_wp2_with fail
      go_ret
      exact ⟨false, rfl, by rw [HO.out]; simp; omega, by (repeat (first | exact Gr.refl _ | assumption | (refine Gr.drew ?_) | (refine Gr.drewN ?_ _) | (refine Gr.alloc ?_ _) | (refine Gr.trans ?_ (by assumption))))⟩
    · by_cases h3 : q < 0
      · go_enter Try.func58, Try.ntmps58
        go_wp2_with fail
        go_ret
        exact ⟨false, rfl, by rw [HO.out]; simp; omega, by (repeat (first | exact Gr.refl _ | assumption | (refine Gr.drew ?_) | (refine Gr.drewN ?_ _) | (refine Gr.alloc ?_ _) | (refine Gr.trans ?_ (by assumption))))⟩
      · by_cases h4 : B ≤ q
        · go_enter Try.func58, Try.ntmps58
          go_wp2_with fail
          go_ret
          exact ⟨false, rfl, by rw [HO.out]; simp; omega, by (repeat (first | exact Gr.refl _ | assumption | (refine Gr.drew ?_) | (refine Gr.drewN ?_ _) | (refine Gr.alloc ?_ _) | (refine Gr.trans ?_ (by assumption))))⟩
        · obtain ⟨i, rfl⟩ : ∃ i : Nat, j = i := ⟨j.toNat, by omega⟩
          obtain ⟨b, off, rfl, c0, c1, c2⟩ := Tris_at HP.out (i := i) (by rw [HN.out]; omega)
          have HO2 : Hid (okS B l ((i : Int), q, f, t) ↔ (jbA l i).1 ≤ f ∧ f < t ∧ t ≤ (jbA l i).2.1) := Lib.hid (by
            rw [HO.out, Int.toNat_natCast]
            constructor
            · rintro ⟨-, -, a, b, c⟩; exact ⟨b, a, c⟩
            · rintro ⟨b, a, c⟩; exact ⟨by omega, by omega, a, b, c⟩)
          change w.cell? ⟨b, off + i * 3, none⟩ = some (.int .i64 (jbA l i).1) at c0
          change w.cell? ⟨b, off + i * 3 + 1, none⟩ = some (.int .i64 (jbA l i).2.1) at c1
          change w.cell? ⟨b, off + i * 3 + 2, none⟩ = some (.int .i64 (jbA l i).2.2) at c2
          generalize jbA l i = jb at c0 c1 c2 HO2
          obtain ⟨x, y, z⟩ := jb
          dsimp only at c0 c1 c2 HO2
          have hii : (i : Int) < (n : Int) := by omega
          have a0 : (w.alloc (.cells #[.int .i64 (i : Int), .int .i64 q, .int .i64 f, .int .i64 t] 72)).cell? ⟨b, off + i * 3, none⟩ = some (.int .i64 x) := alloc_old c0
          have a1 : (w.alloc (.cells #[.int .i64 (i : Int), .int .i64 q, .int .i64 f, .int .i64 t] 72)).cell? ⟨b, off + i * 3 + 1, none⟩ = some (.int .i64 y) := alloc_old c1
          have a2 : (w.alloc (.cells #[.int .i64 (i : Int), .int .i64 q, .int .i64 f, .int .i64 t] 72)).cell? ⟨b, off + i * 3 + 2, none⟩ = some (.int .i64 z) := alloc_old c2
          clear HO
          by_cases h5 : x ≤ f
          · by_cases h6 : f < t
            · by_cases h7 : t ≤ y
              all_goals
                go_enter Try.func58, Try.ntmps58
                go_wp2_with fail
                go_ret
                refine ⟨_, rfl, ?_, by (repeat (first | exact Gr.refl _ | assumption | (refine Gr.drew ?_) | (refine Gr.drewN ?_ _) | (refine Gr.alloc ?_ _) | (refine Gr.trans ?_ (by assumption))))⟩
                rw [HO2.out]; simp [h5, h6, h7]
            · go_enter Try.func58, Try.ntmps58
              go_wp2_with fail
              go_ret
              exact ⟨false, rfl, by rw [HO2.out]; simp; omega, by (repeat (first | exact Gr.refl _ | assumption | (refine Gr.drew ?_) | (refine Gr.drewN ?_ _) | (refine Gr.alloc ?_ _) | (refine Gr.trans ?_ (by assumption))))⟩
          · go_enter Try.func58, Try.ntmps58
            go_wp2_with fail
            go_ret
            exact ⟨false, rfl, by rw [HO2.out]; simp; omega, by (repeat (first | exact Gr.refl _ | assumption | (refine Gr.drew ?_) | (refine Gr.drewN ?_ _) | (refine Gr.alloc ?_ _) | (refine Gr.trans ?_ (by assumption))))⟩

end Go.Proofs.Ytfmojiaaoebodaa

namespace Go.Proofs.Ytfmojiaaoebodaa
open Go.RowKit
set_option linter.unusedSimpArgs false

/-- A block that is just the numbers f 0 .. f (n - 1). -/
def icB (n : Nat) (f : Nat → Int) : Array Value := ⟨(List.range n).map fun i => .int .i64 (f i)⟩
def DB (w : World) (g n : Nat) (f : Nat → Int) : Prop := Blk w g 3 (icB n f)
theorem DB.keep {w w' : World} {g n : Nat} {f : Nat → Int} (h : DB w g n f) (hg : Gr w w') : DB w' g n f := Blk.keep h hg
theorem DB.at {w : World} {g n : Nat} {f : Nat → Int} (h : DB w g n f) {i : Nat} (hi : i < n) : w.cell? ⟨g, i, none⟩ = some (.int .i64 (f i)) := by
  rw [Blk.cell h]; simp [icB, hi]
theorem DB.put {w : World} {g n : Nat} {f f' : Nat → Int} (h : DB w g n f) (i : Nat) (v : Int) (hi : f' i = v) (ho : ∀ j, j < n → j ≠ i → f' j = f j) : DB (w.setCell ⟨g, i, none⟩ (.int .i64 v)) g n f' := by
  have := Blk.put h i (.int .i64 v)
  have e : (icB n f).setIfInBounds i (.int .i64 v) = icB n f' := by
    apply Array.ext
    · simp [icB]
    · intro j h1 h2
      have hj : j < n := by simpa [icB] using h2
      rw [Array.getElem_setIfInBounds (by simpa [icB] using hj)]
      split
      · rename_i e; subst e; simp [icB, hi]
      · rename_i e; simp [icB, ho j hj (fun h => e h.symm)]
  rw [e] at this
  exact this
theorem DB.congr {w : World} {g n : Nat} {f f' : Nat → Int} (h : DB w g n f) (he : ∀ j, j < n → f' j = f j) : DB w g n f' := by
  have e : icB n f = icB n f' := by
    unfold icB
    congr 1
    exact List.map_congr_left fun j hj => by rw [he j (List.mem_range.1 hj)]
  unfold DB
  rw [← e]; exact h
theorem made_icB (n : Nat) : madeCells #[Value.int .i64 0] (n * 1) = icB n (fun _ => 0) := by
  have hs : (madeCells #[Value.int .i64 0] (n * 1)).size = n := by have := size_madeCells #[Value.int .i64 0] (n * 1); simpa using this
  apply Array.ext
  · rw [hs]; simp [icB]
  · intro i h1 h2
    simp [madeCells, icB, Nat.mod_one]
theorem mk_icB (n : Nat) (hl : n ≤ 1048576) (w : World) : (Instr.makeSlice 25 (.int .i64 (n : Int)) (.int .i64 (n : Int))).run Try.prog w =
    .ok (.slice (some ⟨w.heap.size, 0, none⟩) n n) (w.alloc (.cells (icB n (fun _ => 0)) 3)) := by
  obtain ⟨i0, hi, hz0, hz1, hz2⟩ := info_parts Try.infoBnI
  have h := run_make (P := Try.prog) w 25 3 i0 _ Try.underlying25 hi hz0 .i64 .i64 (n : Int) (n : Int) (by omega) (by omega) (by rw [hz2]; omega) (by omega)
  rw [hz1] at h
  simp only [Int.toNat_natCast] at h
  rw [h, show (Value.int IntKind.i64 0).cells = #[Value.int .i64 0] from rfl, made_icB]

theorem JobsV.bd {l : List Jb} (h : JobsV l) {j : Nat} (hj : j < l.length) : (0 ≤ (jbA l j).1 ∧ (jbA l j).1 < (jbA l j).2.1 ∧ (jbA l j).2.1 ≤ 1048576) ∧ 1 ≤ (jbA l j).2.2 ∧ (jbA l j).2.2 ≤ 1048576 := h _ (List.mem_of_getElem? (getD_of (0, 0, 0) hj))
theorem JobsV.three {l : List Jb} (h : JobsV l) : ∀ j ∈ l, 0 ≤ j.1 ∧ j.1 < j.2.1 ∧ j.2.1 ≤ 1048576 := fun j hj => (h j hj).1

set_option maxRecDepth 100000 in
set_option maxHeartbeats 16000000 in
theorem isSchedule_any (B : Int) (A : Option Addr) (n c : Nat) (l : List Jb) (C : Option Addr) (m cc : Nat) (s : List Sl) (w : World) (hn : l.length = n) (hn32 : n ≤ 32) (hV : JobsV l) (hp : Tris w A l)
    (hm : s.length = m) (hmb : m ≤ 281474976710656) (hC : C = none → m = 0 ∧ cc = 0) (hsp : ∀ a, C = some a → a.spot = none) (hs : Rd 4 enc4 w C s) :
    Calls Try.prog 42 #[.int .i64 B, .slice A n c, .slice C m cc] w (BoolP (SchedP B l s) w) := by
  have HSI : Hid (SchedP B l s ↔ _) := Lib.hid sched_iff
  have HN := Lib.hid hn
  have HM := Lib.hid hm
  have HV := Lib.hid hV
  have HP := Lib.hid hp
  have HS := Lib.hid hs
  by_cases hbig : 4096 < m
  · have hbi : (4096 : Int) < (m : Int) := by omega
    clear hn hV hp hm hC hsp hs
    go_enter Try.func42, Try.ntmps42
    go_wp2_with fail
    go_ret
    exact ⟨false, rfl, no_of (fun h => by have := h.few; rw [HM.out] at this; omega), Gr.refl _⟩
  · have hbi : ¬ (4096 : Int) < (m : Int) := by omega
    have hmk := mk_icB n (by omega)
    have hg0 := (Gr.refl w).alloc (.cells (icB n (fun _ => 0)) 3)
    have hd0 : DB (w.alloc (.cells (icB n (fun _ => 0)) 3)) w.heap.size n (fun _ => 0) := Blk.new w _ _ rfl
    have HAB := Lib.hid (fun W (hW : Gr w W) (hl : ∀ x ∈ s, x.2.2.1 < x.2.2.2) => apart_bench C m cc s W hm (by omega) hC hsp (hs.keep hW) hl)
    have HAJ := Lib.hid (fun W (hW : Gr w W) (hl : ∀ x ∈ s, x.2.2.1 < x.2.2.2) => apart_job C m cc s W hm (by omega) hC hsp (hs.keep hW) hl)
    clear hn hV hp hm hC hsp hs
    go_enter Try.func42, Try.ntmps42
    go_wp2_with fail
    clear hmk
    generalize World.alloc w _ = W0 at hg0 hd0 ⊢
    obtain ⟨D, hD⟩ : ∃ D, w.heap.size = D := ⟨_, rfl⟩
    rw [hD] at hd0 ⊢
    have hDle : w.heap.size ≤ D := by omega
    clear hD
    go_loopw [20] (fun z wr => ∃ k : Nat, k ≤ m ∧ z = .int .i64 (k : Int) ∧ Hid (∀ x ∈ s.take k, okS B l x) ∧ Hid (DB wr D n (fun j => doneS (s.take k) (j : Int))) ∧ Hid (Gb D W0 wr)) (fun z _ => m - (intOf z).toNat)
    case atStart => exact ⟨0, Nat.zero_le _, rfl, Lib.hid (fun x hx => by simp at hx), Lib.hid (hd0.congr (fun j _ => by simp [doneS, lsum])), Lib.hid (Gb.refl _ _)⟩
    case round =>
      obtain ⟨k, hk, rfl, hA, hD, hG⟩ := hrel
      have hgr : Gr w wr := hG.out.gr hg0 hDle
      by_cases hlt : k < m
      · have hki : (k : Int) < (m : Int) := by omega
        obtain ⟨b, off, rfl, x0, x1, x2, x3⟩ := Quads_at (HS.out.keep hgr) (k := k) (by rw [HM.out]; exact hlt)
        have hkl : k < s.length := by rw [HM.out]; exact hlt
        obtain ⟨X, hX⟩ : ∃ X, slA s k = X := ⟨_, rfl⟩
        have hXm : X ∈ s := by rw [← hX, slA_get s k hkl]; exact List.getElem_mem _
        have HTK : Hid (s.take (k + 1) = s.take k ++ [X]) := Lib.hid (by rw [take_snoc s (0, 0, 0, 0) k hkl, ← hX]; rfl)
        have HXM := Lib.hid hXm
        rw [hX] at x0 x1 x2 x3
        have HIS := Lib.hid (fun W (hW : Gr w W) => isSlot_any X B A n c l W HN.out (HP.out.keep hW))
        clear hX hXm hkl
        obtain ⟨xj, xb, xf, xt⟩ := X
        dsimp only at x0 x1 x2 x3 HIS
        go_upto_region 7 with fail
        generalize hW2 : World.alloc wr _ = w2
        have hg2 : Gr wr w2 := by rw [← hW2]; exact (Gr.refl wr).alloc _
        have hZ : Blk w2 wr.heap.size 72 #[.int .i64 xj, .int .i64 xb, .int .i64 xf, .int .i64 xt] := by rw [← hW2]; exact heap_alloc_new wr _
        generalize wr.heap.size = Z at hZ ⊢
        have HIS2 := Lib.hid (HIS.out w2 (hgr.trans hg2))
        have HZ := Lib.hid hZ
        have HD2 := Lib.hid (hD.out.keep hg2)
        have HG2 : Hid (Gb D W0 w2) := Lib.hid (hG.out.trans (Gb.of hg2 D))
        have q0 := hZ.cell 0
        have q1 := hZ.cell 1
        have q2 := hZ.cell 2
        have q3 := hZ.cell 3
        clear hW2 hZ hg2 x0 x1 x2 x3 HIS hD hG hgr
        go_wp2_with fail
        refine HIS2.out.mono ?_
        rintro e w3 ⟨r, rfl, hr, hg3⟩
        have HR := Lib.hid hr
        have HZ3 := Lib.hid (HZ.out.keep hg3)
        have HD3 := Lib.hid (HD2.out.keep hg3)
        have HG3 : Hid (Gb D W0 w3) := Lib.hid (HG2.out.trans (Gb.of hg3 D))
        clear hr hg3 HIS2 HZ HD2 HG2 q0 q1 q2 q3
        cases r with
        | false =>
          go_wp2_with fail
          try rw [Exit.noGoto_ret]
          go_ret
          exact ⟨false, rfl, no_of (fun h => by have := HR.out.2 (h.ok _ HXM.out); cases this), HG3.out.gr hg0 hDle⟩
        | true =>
          have HOK := Lib.hid (HR.out.1 rfl)
          have hok := HOK.out
          obtain ⟨⟨a0, a1⟩, -, a3, a4, a5⟩ := hok
          dsimp only at a0 a1 a3 a4 a5
          rw [HN.out] at a1
          have hjv := HV.out.bd (j := xj.toNat) (by rw [HN.out]; omega)
          have hsm := doneS_small HV.out.three hA.out xj
          have hlk : (s.take k).length ≤ 4096 := by rw [List.length_take]; omega
          have hfl : xt - xf ≤ 1048576 := by omega
          have hfl0 : 0 ≤ xf ∧ xt ≤ 1048576 := by omega
          obtain ⟨i, rfl⟩ : ∃ i : Nat, xj = i := ⟨xj.toNat, by omega⟩
          have y0 := HD3.out.at (i := i) (by omega)
          have HPUT := Lib.hid (fun v (hv : v = doneS (s.take k) (i : Int) + (xt - xf)) => HD3.out.put (f' := fun j => doneS (s.take (k + 1)) (j : Int)) i v (by
            try dsimp only
            rw [HTK.out, doneS_snoc, hv]; simp [lenS]) (fun j _ hj => by
            try dsimp only
            rw [HTK.out, doneS_snoc, if_neg (by try dsimp only
                                                omega)]; omega))
          have HA2 : Hid (∀ x ∈ s.take (k + 1), okS B l x) := Lib.hid (fun x hx => by
            rw [HTK.out] at hx
            rcases List.mem_append.1 hx with h | h
            · exact hA.out x h
            · obtain rfl := List.mem_singleton.1 h; exact HOK.out)
          try dsimp only at y0
          generalize hd : doneS (s.take k) (i : Int) = d at y0 hsm HPUT
          have j1 : IntKind.i64.wrap (xt - xf) = xt - xf := IntWalk.i64_in _ (by omega)
          have j2 : IntKind.i64.wrap (d + (xt - xf)) = d + (xt - xf) := IntWalk.i64_in _ (by omega)
          have j3 : (0 : Int) ≤ (i : Int) := by omega
          have j4 : (i : Int) < (n : Int) := by omega
          have q0 := HZ3.out.cell 0
          have q2 := HZ3.out.cell 2
          have q3 := HZ3.out.cell 3
          have f0 : w3.frozen? ⟨D, i, none⟩ = false := HD3.out.free i
          clear hd hsm hjv a0 a1 a3 a4 a5 hfl hlk hfl0 HR
          go_wp2_with fail
          go_still_tail 12, (by kernel_rfl)
          go_wp2_with fail
          go_roundw
          case rel => exact ⟨k + 1, by omega, by go_num, HA2, Lib.hid ((HPUT.out _ rfl).keep (Gr.refl _).drew), Lib.hid ((HG3.out.put i _).drew)⟩
          case measure => simp [intOf]; omega
      · obtain rfl : k = m := by omega
        have htk : s.take k = s := List.take_of_length_le (by rw [HM.out]; exact Nat.le_refl _)
        rw [htk] at hA hD
        have hlen : ∀ x ∈ s, x.2.2.1 < x.2.2.2 := fun x hx => (hA.out x hx).2.2.1
        clear htk hG
        have HDR := Lib.hid (fun W (hW : Gr wr W) (j : Nat) (hj : j < n) => (hD.out.keep hW).at hj)
        clear hlt hD
        rename World => W1
        go_wp2_with fail
        go_loopw [44] (fun z wq => ∃ j : Nat, j ≤ n ∧ z = .int .i64 (j : Int) ∧ Hid (∀ i : Nat, i < j → doneS s (i : Int) = (jbA l i).2.2) ∧ Gr W1 wq) (fun z _ => n - (intOf z).toNat)
        case atStart => exact ⟨0, Nat.zero_le _, rfl, Lib.hid (fun i h => by omega), Gr.refl _⟩
        case round =>
          obtain ⟨j, hj, rfl, hdn, hgq⟩ := hrel
          by_cases hlt : j < n
          · have hji : (j : Int) < (n : Int) := by omega
            obtain ⟨b, off, rfl, c0, c1, c2⟩ := Tris_at (HP.out.keep (hgr.trans hgq)) (i := j) (by rw [HN.out]; exact hlt)
            have y0 := HDR.out _ hgq j hlt
            try dsimp only at y0
            have hja : l.getD j (0, 0, 0) = jbA l j := rfl
            rw [hja] at c0 c1 c2
            clear hja
            obtain ⟨u, hu⟩ : ∃ u, doneS s (j : Int) = u := ⟨_, rfl⟩
            obtain ⟨J, hJ⟩ : ∃ J, jbA l j = J := ⟨_, rfl⟩
            have HU := Lib.hid hu
            have HJ := Lib.hid hJ
            rw [hu] at y0
            rw [hJ] at c0 c1 c2
            clear hu hJ
            obtain ⟨ja, jb, jc⟩ := J
            dsimp only at c0 c1 c2
            go_upto_region 14 with fail
            generalize hW2 : World.alloc wr _ = w2
            have hg2 : Gr wr w2 := by rw [← hW2]; exact (Gr.refl wr).alloc _
            have hZ : Blk w2 wr.heap.size 48 #[.int .i64 ja, .int .i64 jb, .int .i64 jc] := by rw [← hW2]; exact heap_alloc_new wr _
            generalize wr.heap.size = Z at hZ ⊢
            have q2 := hZ.cell 2
            replace y0 := hg2.keep y0
            have hgq2 := hgq.trans hg2
            clear hW2 hZ c0 c1 c2 hg2 hgq
            have j3 : (0 : Int) ≤ (j : Int) := by omega
            by_cases he : u = jc
            · have hd : (u != jc) = false := by simpa using he
              have hd' : (jc != jc) = false := by simp
              have HD2 : Hid (∀ i : Nat, i < j + 1 → doneS s (i : Int) = (jbA l i).2.2) := Lib.hid (fun i hi => by
                by_cases e : i = j
                · rw [e, HU.out, HJ.out]; exact he
                · exact hdn.out i (by omega))
              have HEE := Lib.hid he
              clear he
              go_quiet (fail)
              go_wp2_with fail
              go_roundw
              case rel => exact ⟨j + 1, by omega, by go_num, HD2, hgq2.drewN _⟩
              case measure => simp [intOf]; omega
            · have hd : (u != jc) = true := by simpa using he
              go_quiet (fail)
              go_wp2_with fail
              try rw [Exit.noGoto_ret]
              go_ret
              exact ⟨false, rfl, no_of (fun h => he (by have := h.done j (by rw [HN.out]; exact hlt); rw [HU.out, HJ.out] at this; exact this)), (hgr.trans hgq2).drewN _⟩
          · obtain rfl : j = n := by omega
            have HB := Lib.hid (HAB.out _ (hgr.trans hgq) hlen)
            have HJJ := Lib.hid (fun W (hW : Gr w W) => HAJ.out W hW hlen)
            have hgf := hgr.trans hgq
            have HDN := Lib.hid (And.intro hA.out hdn.out)
            clear hdn hA hlen HDR hgq hgr HAB HAJ
            go_wp2_with fail
            refine HB.out.mono ?_
            rintro e w5 ⟨r, rfl, hr, hg5⟩
            have HR := Lib.hid hr
            have HJ5 := Lib.hid (HJJ.out w5 (hgf.trans hg5))
            have hgf5 := hgf.trans hg5
            clear hr hg5 HB HJJ
            cases r with
            | false =>
              go_wp2_with fail
              try rw [Exit.noGoto_ret]
              go_ret
              exact ⟨false, rfl, no_of (fun h => by have := HR.out.2 (HSI.out.1 h).2.2.2.1; cases this), hgf5⟩
            | true =>
              go_wp2_with fail
              refine HJ5.out.mono ?_
              rintro e w6 ⟨r2, rfl, hr2, hg6⟩
              have HR2 := Lib.hid hr2
              clear hr2 HJ5
              go_wp2_with fail
              try rw [Exit.noGoto_ret]
              go_ret
              refine ⟨r2, rfl, ⟨fun h => HSI.out.2 ⟨by rw [HM.out]; omega, HDN.out.1, fun j hj => HDN.out.2 j (by rw [HN.out] at hj; exact hj), HR.out.1 (by trivial), HR2.out.1 h⟩, fun h => HR2.out.2 (HSI.out.1 h).2.2.2.2⟩, hgf5.trans hg6⟩

end Go.Proofs.Ytfmojiaaoebodaa
