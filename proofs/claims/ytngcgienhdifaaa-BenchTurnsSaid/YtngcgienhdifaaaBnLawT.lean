/- Layer 4: the law BenchTurns as a walk. -/
import Derived.Test.YtngcgienhdifaaaBnLawE
namespace Go.Proofs.Ytngcgienhdifaaa
open Go.RowKit
set_option linter.unusedSimpArgs false

theorem Gb.app {Y : Nat} {w0 w w' : World} {row : Option Nat} (h : Gb Y w0 w) (hg : w.grownBy w' row) (hr : ∀ t, row = some t → w0.heap.size ≤ t) : Gb Y w0 w' :=
  ⟨hg.os.trans h.os, hg.tape.trans h.tape, hg.output.trans h.output, Nat.le_trans h.size hg.size, fun i hi hn => (hg.block i (Nat.lt_of_lt_of_le hi h.size) (fun e => by have := hr i e.symm; omega)).trans (h.block i hi hn)⟩
theorem FewP.turn {l : List Jb} {u v : Nat} (hu8 : u ≤ 8) (hu0 : u = 0 → ∀ B : Nat, 1 ≤ B → B ≤ 8 → ¬ ∃ s, SchedP B l s) (hu1 : 1 ≤ u → (∃ s, SchedP u l s) ∧ ∀ B : Nat, 1 ≤ B → B < u → ¬ ∃ s, SchedP B l s)
    (hv8 : v ≤ 8) (hv0 : v = 0 → ∀ B : Nat, 1 ≤ B → B ≤ 8 → ¬ ∃ s, SchedP B (l.map tuJ) s) (hv1 : 1 ≤ v → (∃ s, SchedP v (l.map tuJ) s) ∧ ∀ B : Nat, 1 ≤ B → B < v → ¬ ∃ s, SchedP B (l.map tuJ) s) : u = v := by
  have ht : ∀ B : Nat, (∃ s, SchedP B (l.map tuJ) s) ↔ ∃ s, SchedP B l s := fun B => Poss.turn
  rcases Nat.eq_zero_or_pos u with e | e
  · rcases Nat.eq_zero_or_pos v with e2 | e2
    · omega
    · exact (hu0 e v e2 hv8 ((ht v).1 (hv1 e2).1)).elim
  · rcases Nat.eq_zero_or_pos v with e2 | e2
    · exact (hv0 e2 u e hu8 ((ht u).2 (hu1 e).1)).elim
    · rcases Nat.lt_or_ge u v with h | h
      · exact ((hv1 e2).2 u e h ((ht u).2 (hu1 e).1)).elim
      · rcases Nat.lt_or_ge v u with h2 | h2
        · exact ((hu1 e).2 v e2 h2 ((ht v).1 (hv1 e2).1)).elim
        · omega
theorem okT_turn {B : Int} {l : List Jb} (h : okT B l = true) : okT B (l.map tuJ) = true := by
  unfold okT at *
  simp only [Bool.and_eq_true, decide_eq_true_eq, List.all_eq_true, List.length_map] at *
  refine ⟨h.1, fun x hx => ?_⟩
  obtain ⟨j, hj, rfl⟩ := List.mem_map.1 hx
  have h1 := of_decide_eq_true (h.2 j hj)
  exact decide_eq_true (by simp only [tuJ]; omega)
theorem enc3_int (x : Int × Int × Int) (v : Value) (h : v ∈ enc3 x) : ∃ n : Int, v = Value.int .i64 n := by
  simp [enc3] at h; rcases h with rfl | rfl | rfl <;> exact ⟨_, rfl⟩
theorem ans_noint4 {p : Bool} {A : Option Addr} {a b : Nat} {C : Option Addr} {c d : Nat} {D : Option Addr} {e f : Nat} (i : Nat) (n : Int) : (#[Value.bool p, .slice A a b, .slice C c d, .slice D e f] : Array Value)[i]? ≠ some (.int .i64 n) := noint4 _ _ _ _ _ _ _ _ _ _ i n
theorem right_turn {B : Int} {l : List Jb} {p : Bool} {s : List Sl} {J : List Int} {S : List (Int × Int)} (h : RightP B l p s J S) : RightP B (l.map tuJ) p (s.reverse.map tuS) J (S.reverse.map tuP) := by
  cases p with
  | true =>
    obtain ⟨rfl, rfl, h2⟩ := RightP.yes.1 h
    exact RightP.yes.2 ⟨rfl, rfl, h2.turn⟩
  | false =>
    obtain ⟨rfl, h2⟩ := RightP.no.1 h
    exact RightP.no.2 ⟨rfl, h2.turn⟩
theorem rev_take {α β : Type} (f : α → β) (l : List α) (d : α) {t : Nat} (ht : t < l.length) : (l.reverse.map f).take (t + 1) = (l.reverse.map f).take t ++ [f (l.getD (l.length - 1 - t) d)] := by
  rw [List.take_add_one]
  congr 1
  rw [List.getElem?_map, List.getElem?_reverse ht, getD_of d (by omega)]
  rfl

set_option maxRecDepth 100000 in
set_option maxHeartbeats 16000000 in
theorem lawTurns_any (B : Int) (A : Option Addr) (n c : Nat) (l : List Jb) (w : World) (hn : l.length = n) (hl : n ≤ 9223372036854775807) (_hc : n ≤ c) (_h0 : A = none → c = 0) (hp : Tris w A l) :
    Calls Try.prog 11 #[.int .i64 B, .slice A n c] w fun e w' => e = .returned (.bool true) ∧ Gr w w' := by
  obtain ⟨k, hk⟩ : ∃ k, (tmL4 12 l).length = k := ⟨_, rfl⟩
  have HTM := Lib.hid (tame_any B 12 (by omega) A n c l w k hk hn hl hp)
  have hT : okT (tmB B) (tmL4 12 l) = true := tm_task (B := B) (by omega)
  obtain ⟨hB, hn32, hV⟩ := okT_v hT
  generalize tmL4 12 l = L at hk HTM hT hn32 hV
  generalize tmB B = N at HTM hT hB
  rw [hk] at hn32
  have HK := Lib.hid hk
  have HT := Lib.hid hT
  have HV := Lib.hid hV
  have HPL := Lib.hid (fun (A' : Option Addr) (c' : Nat) W (h : Tris W A' L) => plan_ok N A' k c' L W hk hT h)
  have HFW := Lib.hid (fun (A' : Option Addr) (c' : Nat) W (h : Tris W A' L) => fewest_any A' k c' L W hk (by omega) h)
  have hk2 : (L.map tuJ).length = k := by rw [List.length_map]; exact hk
  have HFB := Lib.hid (fun (A' : Option Addr) (c' : Nat) W (h : Tris W A' (L.map tuJ)) => fewest_any A' k c' (L.map tuJ) W hk2 (by omega) h)
  have HCB := Lib.hid (fun (A' : Option Addr) (c' : Nat) q C m cc s JA m1 c1 J SA m2 c2 S W (h : Tris W A' (L.map tuJ)) (hR : AnsR W C m cc s JA m1 J SA m2 S) => check_any N A' k c' (L.map tuJ) q C m cc s JA m1 c1 J SA m2 c2 S W hk2 (by omega) h hR)
  obtain ⟨i0, hi, hz0, hz1, hz2⟩ := info_parts Try.infoBnJ
  have HI := Lib.hid (And.intro hi (And.intro hz0 (And.intro hz1 hz2)))
  clear hi hz0 hz1 hz2 hn hl hp hk hk2 hT hV
  go_enter Try.func11, Try.ntmps11
  go_wp2_with fail
  refine HTM.out.mono ?_
  rintro e w1 ⟨A', c', rfl, hT1, -, -, hg1⟩
  have HT1 := Lib.hid hT1
  have HP1 := Lib.hid (HPL.out A' c' w1 hT1)
  clear hT1 HTM HPL
  go_wp2_with fail
  refine HP1.out.mono ?_
  rintro e w2 ⟨p, C, m, cc, s, JA, m1, c1, J, SA, m2, c2, S, rfl, hR, hRT, ⟨-, hfj, -⟩, hg2⟩
  have HFRJ := Lib.hid hfj
  clear hfj
  have HR2 := Lib.hid hR
  have HRT := Lib.hid hRT
  have HT2 := Lib.hid (HT1.out.keep hg2)
  have hgr2 := hg1.trans hg2
  clear hR hRT hg2 HP1 HT1 hg1
  go_upto_region 3 with fail
  generalize hW3 : World.alloc w2 _ = w3
  have hg3 : Gr w2 w3 := by rw [← hW3]; exact (Gr.refl w2).alloc _
  have hZ : Blk w3 w2.heap.size 28 #[.bool p, .slice C m cc, .slice JA m1 c1, .slice SA m2 c2] := by rw [← hW3]; exact heap_alloc_new w2 _
  generalize w2.heap.size = Z at hZ ⊢
  have HZ := Lib.hid hZ
  have HT3 := Lib.hid (HT2.out.keep hg3)
  have HR3 := Lib.hid (HR2.out.keep hg3)
  have hgr3 := hgr2.trans hg3
  clear hW3 hZ hg3 hgr2 HT2 HR2
  go_wp2_with fail
  go_loopw [9, 10] (fun q z wr => ∃ (i : Nat) (A9 : Option Addr) (c9 : Nat), i ≤ k ∧ z = .int .i64 (i : Int) ∧ q = .slice A9 i c9 ∧ Hid (wr.ownsRow w3.heap.size 50 3 (.slice A9 i c9) i (flatE enc3 ((L.map tuJ).take i))) ∧ Gr w3 wr) (fun _ z _ => k - (intOf z).toNat)
  case atStart => exact ⟨0, none, 0, Nat.zero_le _, rfl, rfl, Lib.hid (World.ownsRow_nil _ _ _ _), Gr.refl _⟩
  case round =>
    obtain ⟨i, A9, c9, hik, rfl, rfl, hown, hgq⟩ := hrel
    by_cases hlt : i < k
    · have hii : (i : Int) < (k : Int) := by omega
      have hi0 : (0 : Int) ≤ (i : Int) := by omega
      have hil : i < L.length := by rw [HK.out]; exact hlt
      obtain ⟨b, off, rfl, y0, y1, y2⟩ := Tris_at HT3.out (i := i) hil
      have hja : L.getD i (0, 0, 0) = jbA L i := rfl
      rw [hja] at y0 y1 y2
      have hbd := HV.out.bd hil
      have HQ : Hid (flatE enc3 ((L.map tuJ).take (i + 1)) = flatE enc3 ((L.map tuJ).take i) ++ enc3 (tuJ (jbA L i))) := Lib.hid (by
        rw [take_snoc (L.map tuJ) (0, 0, 0) i (by rw [List.length_map]; exact hil), flatE_app]
        congr 1
        have : (L.map tuJ).getD i (0, 0, 0) = tuJ (jbA L i) := jbA_map tuJ L hil
        rw [this]
        simp [flatE])
      clear hja hil
      generalize jbA L i = jb at y0 y1 y2 hbd HQ
      obtain ⟨ja, jd, jw⟩ := jb
      dsimp only at y0 y1 y2 hbd
      have HXW := Lib.hid (fun W' (hg : Gr w3 W') => And.intro (hg.keep y0) (And.intro (hg.keep y1) (hg.keep y2)))
      obtain ⟨x0, x1, x2⟩ := HXW.out _ hgq
      clear y0 y1 y2
      have v1 : IntKind.i64.wrap (1048576 - jd) = 1048576 - jd := IntWalk.i64_in _ (by omega)
      have v2 : IntKind.i64.wrap (1048576 - ja) = 1048576 - ja := IntWalk.i64_in _ (by omega)
      go_upto_region 9 with fail
      have hda : Gr wr (wr.alloc (.cells #[.int .i64 (1048576 - jd), .int .i64 (1048576 - ja), .int .i64 jw] 50)).drew := ((Gr.refl wr).alloc _).drew
      have hdr := (Gr.refl wr).drew
      have HOA := Lib.hid (owns_gr hown.out hda)
      have hgra := hgq.trans hda
      have hbase := hgq.size
      obtain ⟨hi, hz0, hz1, hz2⟩ := HI.out
      refine wp_region_held_drew (S := (fun W' => W'.cell? ⟨b, off + i * 3, none⟩ = some (.int .i64 ja) ∧ W'.cell? ⟨b, off + i * 3 + 1, none⟩ = some (.int .i64 jd) ∧ W'.cell? ⟨b, off + i * 3 + 2, none⟩ = some (.int .i64 jw))) ?_ ?_ (fun hHeld => ?_)
      · kernel_rfl
      · ((try dsimp only); (first | exact hHeld | exact HXW.out _ (hgq.trans hdr) | exact HXW.out _ hgra | exact HXW.out _ HG6.out))
      refine take_in (i := 0) (v := ?_) (d := (some 39)) rfl rfl ?_ ?_ ?_ ?_ ?_ ?_ ?_ ?_
      rotate_left
      · kernel_rfl
      · kernel_rfl
      · kernel_rfl
      · (intro _ _ _ hq; exact hq)
      · rfl
      · (intro _w hSw; (try dsimp only at hSw); go_simp; try with_reducible rfl)
      · assumption
      try simp only [Act.put, List.setIfInBounds_toArray, List.set_cons_zero, List.set_cons_succ]
      refine take_in (i := 1) (v := ?_) (d := (some 40)) rfl rfl ?_ ?_ ?_ ?_ ?_ ?_ ?_ ?_
      rotate_left
      · kernel_rfl
      · kernel_rfl
      · kernel_rfl
      · (intro _ _ _ hq; exact hq)
      · rfl
      · (intro _w hSw; (try dsimp only at hSw); go_simp; try with_reducible rfl)
      · assumption
      try simp only [Act.put, List.setIfInBounds_toArray, List.set_cons_zero, List.set_cons_succ]
      refine take_in (i := 2) (v := ?_) (d := (some 41)) rfl rfl ?_ ?_ ?_ ?_ ?_ ?_ ?_ ?_
      rotate_left
      · kernel_rfl
      · kernel_rfl
      · kernel_rfl
      · (intro _ _ _ hq; exact hq)
      · rfl
      · (intro _w hSw; (try dsimp only at hSw); go_simp; try with_reducible rfl)
      · assumption
      try simp only [Act.put, List.setIfInBounds_toArray, List.set_cons_zero, List.set_cons_succ]
      refine take_in (i := 3) (v := ?_) (d := (some 42)) rfl rfl ?_ ?_ ?_ ?_ ?_ ?_ ?_ ?_
      rotate_left
      · kernel_rfl
      · kernel_rfl
      · kernel_rfl
      · (intro _ _ _ hq; exact hq)
      · rfl
      · (intro _w hSw; (try dsimp only at hSw); go_simp; try with_reducible rfl)
      · assumption
      try simp only [Act.put, List.setIfInBounds_toArray, List.set_cons_zero, List.set_cons_succ]
      refine take_in (i := 4) (v := ?_) (d := (some 43)) rfl rfl ?_ ?_ ?_ ?_ ?_ ?_ ?_ ?_
      rotate_left
      · kernel_rfl
      · kernel_rfl
      · kernel_rfl
      · (intro _ _ _ hq; exact hq)
      · rfl
      · (intro _w hSw; (try dsimp only at hSw); go_simp; try with_reducible rfl)
      · assumption
      try simp only [Act.put, List.setIfInBounds_toArray, List.set_cons_zero, List.set_cons_succ]
      refine take_in (i := 5) (v := ?_) (d := (some 44)) rfl rfl ?_ ?_ ?_ ?_ ?_ ?_ ?_ ?_
      rotate_left
      · kernel_rfl
      · kernel_rfl
      · kernel_rfl
      · (intro _ _ _ hq; exact hq)
      · rfl
      · (intro _w hSw; (try dsimp only at hSw); go_simp; try with_reducible rfl)
      · assumption
      try simp only [Act.put, List.setIfInBounds_toArray, List.set_cons_zero, List.set_cons_succ]
      refine take_in (i := 6) (v := ?_) (d := (some 45)) rfl rfl ?_ ?_ ?_ ?_ ?_ ?_ ?_ ?_
      rotate_left
      · kernel_rfl
      · kernel_rfl
      · kernel_rfl
      · (intro _ _ _ hq; exact hq)
      · rfl
      · (intro _w hSw; (try dsimp only at hSw); go_simp; try with_reducible rfl)
      · assumption
      try simp only [Act.put, List.setIfInBounds_toArray, List.set_cons_zero, List.set_cons_succ]
      refine take_in (i := 7) (v := ?_) (d := (some 46)) rfl rfl ?_ ?_ ?_ ?_ ?_ ?_ ?_ ?_
      rotate_left
      · kernel_rfl
      · kernel_rfl
      · kernel_rfl
      · (intro _ _ _ hq; exact hq)
      · rfl
      · (intro _w hSw; (try dsimp only at hSw); go_simp; try with_reducible rfl)
      · assumption
      try simp only [Act.put, List.setIfInBounds_toArray, List.set_cons_zero, List.set_cons_succ]
      refine take_in (i := 8) (v := ?_) (d := (some 47)) rfl rfl ?_ ?_ ?_ ?_ ?_ ?_ ?_ ?_
      rotate_left
      · kernel_rfl
      · kernel_rfl
      · kernel_rfl
      · (intro _ _ _ hq; exact hq)
      · rfl
      · (intro _w hSw; (try dsimp only at hSw); go_simp; try with_reducible rfl)
      · assumption
      try simp only [Act.put, List.setIfInBounds_toArray, List.set_cons_zero, List.set_cons_succ]
      refine take_in (i := 9) (v := ?_) (d := (some 48)) rfl rfl ?_ ?_ ?_ ?_ ?_ ?_ ?_ ?_
      rotate_left
      · kernel_rfl
      · kernel_rfl
      · kernel_rfl
      · (intro _ _ _ hq; exact hq)
      · rfl
      · (intro _w hSw; (try dsimp only at hSw); go_simp; try with_reducible rfl)
      · assumption
      try simp only [Act.put, List.setIfInBounds_toArray, List.set_cons_zero, List.set_cons_succ]
      refine take_in (i := 10) (v := ?_) (d := (some 49)) rfl rfl ?_ ?_ ?_ ?_ ?_ ?_ ?_ ?_
      rotate_left
      · kernel_rfl
      · kernel_rfl
      · kernel_rfl
      · (intro _ _ _ hq; exact hq)
      · rfl
      · (intro _w hSw; (try dsimp only at hSw); go_simp; try with_reducible rfl)
      · assumption
      try simp only [Act.put, List.setIfInBounds_toArray, List.set_cons_zero, List.set_cons_succ]
      refine take_in (i := 11) (v := ?_) (d := (some 50)) rfl rfl ?_ ?_ ?_ ?_ ?_ ?_ ?_ ?_
      rotate_left
      · kernel_rfl
      · kernel_rfl
      · kernel_rfl
      · (intro _ _ _ hq; exact hq)
      · rfl
      · (intro _w hSw; (try dsimp only at hSw); go_simp; try with_reducible rfl)
      · assumption
      try simp only [Act.put, List.setIfInBounds_toArray, List.set_cons_zero, List.set_cons_succ]
      refine take_in (i := 12) (v := ?_) (d := (some 51)) rfl rfl ?_ ?_ ?_ ?_ ?_ ?_ ?_ ?_
      rotate_left
      · kernel_rfl
      · kernel_rfl
      · kernel_rfl
      · (intro _ _ _ hq; exact hq)
      · rfl
      · (intro _w hSw; (try dsimp only at hSw); go_simp; try with_reducible rfl)
      · assumption
      try simp only [Act.put, List.setIfInBounds_toArray, List.set_cons_zero, List.set_cons_succ]
      refine take_in (i := 13) (v := ?_) (d := (some 52)) rfl rfl ?_ ?_ ?_ ?_ ?_ ?_ ?_ ?_
      rotate_left
      · kernel_rfl
      · kernel_rfl
      · kernel_rfl
      · (intro _ _ _ hq; exact hq)
      · rfl
      · (intro _w hSw; (try dsimp only at hSw); go_simp; try with_reducible rfl)
      · assumption
      try simp only [Act.put, List.setIfInBounds_toArray, List.set_cons_zero, List.set_cons_succ]
      refine take_in (i := 14) (v := ?_) (d := (some 53)) rfl rfl ?_ ?_ ?_ ?_ ?_ ?_ ?_ ?_
      rotate_left
      · kernel_rfl
      · kernel_rfl
      · kernel_rfl
      · (intro _ _ _ hq; exact hq)
      · rfl
      · (intro _w hSw; (try dsimp only at hSw); go_simp; try with_reducible rfl)
      · assumption
      try simp only [Act.put, List.setIfInBounds_toArray, List.set_cons_zero, List.set_cons_succ]
      refine take_in (i := 15) (v := ?_) (d := (some 54)) rfl rfl ?_ ?_ ?_ ?_ ?_ ?_ ?_ ?_
      rotate_left
      · kernel_rfl
      · kernel_rfl
      · kernel_rfl
      · (intro _ _ _ hq; exact hq)
      · rfl
      · (intro _w hSw; (try dsimp only at hSw); go_simp; try with_reducible rfl)
      · assumption
      try simp only [Act.put, List.setIfInBounds_toArray, List.set_cons_zero, List.set_cons_succ]
      refine take_in (i := 16) (v := ?_) (d := (some 55)) rfl rfl ?_ ?_ ?_ ?_ ?_ ?_ ?_ ?_
      rotate_left
      · kernel_rfl
      · kernel_rfl
      · kernel_rfl
      · (intro _ _ _ hq; exact hq)
      · rfl
      · (intro _w hSw; (try dsimp only at hSw); go_simp; try with_reducible rfl)
      · assumption
      try simp only [Act.put, List.setIfInBounds_toArray, List.set_cons_zero, List.set_cons_succ]
      refine take_in (i := 17) (v := ?_) (d := (some 56)) rfl rfl ?_ ?_ ?_ ?_ ?_ ?_ ?_ ?_
      rotate_left
      · kernel_rfl
      · kernel_rfl
      · kernel_rfl
      · (intro _ _ _ hq; exact hq)
      · rfl
      · (intro _w hSw; (try dsimp only at hSw); go_simp; try with_reducible rfl)
      · assumption
      try simp only [Act.put, List.setIfInBounds_toArray, List.set_cons_zero, List.set_cons_succ]
      refine take_in (i := 18) (v := ?_) (d := (some 57)) rfl rfl ?_ ?_ ?_ ?_ ?_ ?_ ?_ ?_
      rotate_left
      · kernel_rfl
      · kernel_rfl
      · kernel_rfl
      · (intro _ _ _ hq; exact hq)
      · rfl
      · (intro _w hSw; (try dsimp only at hSw); go_simp; try with_reducible rfl)
      · assumption
      try simp only [Act.put, List.setIfInBounds_toArray, List.set_cons_zero, List.set_cons_succ]
      refine wpAnyH_ready (rs := [19]) ?_ ?_ ?_
      · kernel_rfl
      · simp
      refine (AllReadyH.cons rfl (fun K hK => ?_) AllReadyH.nil)
      go_simp
      refine hK.out _ _ ?_ (fun hHeld => ?_)
      · ((try dsimp only); (first | exact hHeld | exact HXW.out _ (hgq.trans hdr) | exact HXW.out _ hgra | exact HXW.out _ HG6.out))
      clear hK K
      try simp only [Act.put, List.setIfInBounds_toArray, List.set_cons_zero, List.set_cons_succ]
      refine wpAnyH_ready (rs := [20]) ?_ ?_ ?_
      · kernel_rfl
      · simp
      refine (AllReadyH.cons rfl (fun K hK => ?_) AllReadyH.nil)
      first | (refine step_append_lies _ (by rfl) (.tmp 39) (.tmp 58) 22 (by rfl) w3.heap.size 50 i0 _ 3 24 Try.underlying22 hi hz0 hz1 hz2 rfl (by decide) (.slice A9 i c9) i (flatE enc3 ((L.map tuJ).take i)) (by rfl) HOA.out ⟨wr.heap.size, 0, none⟩ 1 1 [.int .i64 (1048576 - jd), .int .i64 (1048576 - ja), .int .i64 jw] (by rfl) rfl (World.news_of_block (heap_alloc_new _ _)) (enc3_one (1048576 - jd, 1048576 - ja, jw)) (by decide) (by unfold maxLen; omega) (by omega) (by simp; omega) _ rfl ?_; intro g' cap' w5 hown' hgrow _ _; have HG6 : Hid (Gr w3 w5) := Lib.hid (Below.grown hgra hgrow hgra.size (fun t ht => (HOA.out.lt t ht).1)); have HO5 := Lib.hid hown'; clear hown' hgrow)
      refine hK.out _ _ ?_ (fun hHeld => ?_)
      · ((try dsimp only); (first | exact hHeld | exact HXW.out _ (hgq.trans hdr) | exact HXW.out _ hgra | exact HXW.out _ HG6.out))
      clear hK K
      try simp only [Act.put, List.setIfInBounds_toArray, List.set_cons_zero, List.set_cons_succ]
      refine take_in (i := 21) (v := ?_) (d := (some 9)) rfl rfl ?_ ?_ ?_ ?_ ?_ ?_ ?_ ?_
      rotate_left
      · kernel_rfl
      · kernel_rfl
      · kernel_rfl
      · (intro _ _ _ hq; exact hq)
      · rfl
      · (intro _w hSw; (try dsimp only at hSw); go_simp; try with_reducible rfl)
      · assumption
      try simp only [Act.put, List.setIfInBounds_toArray, List.set_cons_zero, List.set_cons_succ]
      refine wpAnyH_done ?_ ?_ _
      · kernel_rfl
      rotate_left
      all_goals
        have HO6 : Hid (w5.ownsRow w3.heap.size 50 3 (.slice (some ⟨g', 0, none⟩) (i + 1) cap') (i + 1) (flatE enc3 ((L.map tuJ).take (i + 1)))) := Lib.hid (by rw [HQ.out]; exact HO5.out)
        clear hHeld HO5 x0 x1 x2 hi hz0 hz1 hz2
        go_wp2_with fail
        go_roundw
        case rel => exact ⟨i + 1, _, _, by omega, by go_num, rfl, HO6, HG6.out⟩
        case measure => simp [intOf]; omega
    · obtain rfl : k = i := by omega
      rw [List.take_of_length_le (by rw [List.length_map, HK.out]; exact Nat.le_refl _)] at hown
      have HTB : Hid (Tris wr A9 (L.map tuJ)) := Lib.hid (by
        obtain ⟨A5, c5, he5, -, g2, -⟩ := own_row enc3_len (by rw [List.length_map]; exact HK.out) hown.out
        cases he5
        exact g2)
      have HZ4 := Lib.hid (HZ.out.keep hgq)
      have HT4 := Lib.hid (HT3.out.keep hgq)
      have HR4 := Lib.hid (HR3.out.keep hgq)
      have hgr4 := hgr3.trans hgq
      have z0 := HZ4.out.cell 0
      clear hown HI hlt HZ HT3 HR3 hgr3 hgq
      rename World => w4
      go_upto_region 11 with fail
      generalize hW5 : World.alloc w4 _ = w5
      have hg5 : Gr w4 w5 := by rw [← hW5]; exact (Gr.refl w4).alloc _
      have hY : Blk w5 w4.heap.size 28 #[.bool p, .slice none 0 0, .slice none 0 0, .slice none 0 0] := by rw [← hW5]; exact heap_alloc_new w4 _
      have hZY : Z < w4.heap.size := HZ4.out.lt
      have hwY : w.heap.size ≤ w4.heap.size := hgr4.size
      generalize w4.heap.size = Y at hY hZY hwY ⊢
      have HY := Lib.hid hY
      have HNY : Hid (Z ≠ Y) := Lib.hid (by omega)
      have HWY := Lib.hid hwY
      have HZ5 := Lib.hid (HZ4.out.keep hg5)
      have HT5 := Lib.hid (HT4.out.keep hg5)
      have HB5 := Lib.hid (HTB.out.keep hg5)
      have HR5 := Lib.hid (HR4.out.keep hg5)
      have hgr5 := hgr4.trans hg5
      clear hW5 hY hg5 z0 HZ4 HT4 HTB HR4 hgr4 hZY hwY
      -- what stays as only the block Y turns
      have HKEEP : Hid (∀ W', Gb Y w5 W' → Tris W' A' L ∧ Tris W' A9 (L.map tuJ) ∧ AnsR W' C m cc s JA m1 J SA m2 S ∧ Blk W' Z 28 #[.bool p, .slice C m cc, .slice JA m1 c1, .slice SA m2 c2] ∧ Gr w W') := Lib.hid (fun W' hG =>
        ⟨HT5.out.ans enc3_int HY.out ans_noint4 hG, HB5.out.ans enc3_int HY.out ans_noint4 hG,
          ⟨HR5.out.hm, HR5.out.hmb, HR5.out.hC, HR5.out.hsp, HR5.out.hs.ans enc4_int HY.out ans_noint4 hG, HR5.out.hm1, HR5.out.hb1, HR5.out.hJ.ans enc1_int HY.out ans_noint4 hG, HR5.out.hm2, HR5.out.hb2, HR5.out.hS.ans enc2_int HY.out ans_noint4 hG⟩,
          (hG.block Z HZ5.out.lt (fun e => HNY.out (by injection e))).trans HZ5.out, hG.gr hgr5 HWY.out⟩)
      have HM : Hid (s.length = m) := Lib.hid HR5.out.hm
      have hmb : m ≤ 281474976710656 := HR5.out.hmb
      have hm4 : m ≤ 4096 := by
        have h := HRT.out
        cases p with
        | true => have := (RightP.yes.1 h).2.2.few; rw [HM.out] at this; exact this
        | false => have := (RightP.no.1 h).1; have h2 := HM.out; rw [this] at h2; simp at h2; omega
      obtain ⟨j0, hj, jz0, jz1, jz2⟩ := info_parts Try.infoBnT
      have HI := Lib.hid (And.intro hj (And.intro jz0 (And.intro jz1 jz2)))
      have hmw : IntKind.i64.wrap ((m : Int) - 1) = (m : Int) - 1 := IntWalk.i64_in _ (by omega)
      have z1 := HZ5.out.cell 1
      clear hj jz0 jz1 jz2
      go_wp2_with fail
      go_loopw [12] (fun z wr => ∃ (t : Nat) (A1 : Option Addr) (q1 : Nat), t ≤ m ∧ z = .int .i64 ((m : Int) - 1 - (t : Int)) ∧ Hid (Blk wr Y 28 #[.bool p, .slice A1 t q1, .slice none 0 0, .slice none 0 0]) ∧ Hid (wr.ownsRow w5.heap.size 53 4 (.slice A1 t q1) t (flatE enc4 ((s.reverse.map tuS).take t))) ∧ Hid (Gb Y w5 wr)) (fun z _ => (intOf z + 1).toNat)
      case atStart => exact ⟨0, none, 0, Nat.zero_le _, by go_num, HY, Lib.hid (World.ownsRow_nil _ _ _ _), Lib.hid (Gb.refl _ _)⟩
      case round =>
        obtain ⟨t, A1, q1, htm, rfl, hYb, hown, hG⟩ := hrel
        obtain ⟨k1, k2, k3, k4, k5⟩ := HKEEP.out wr hG.out
        by_cases hlt2 : t < m
        · obtain ⟨i', hi'⟩ : ∃ i' : Nat, (m : Int) - 1 - (t : Int) = i' := ⟨m - 1 - t, by omega⟩
          have hi'm : (i' : Int) < (m : Int) := by omega
          have hi'0 : (0 : Int) ≤ (i' : Int) := by omega
          have hit : i' = m - 1 - t := by omega
          obtain ⟨b, off, rfl, x0, x1, x2, x3⟩ := Quads_at k3.hs (k := i') (by rw [HM.out]; omega)
          have HQ : Hid (flatE enc4 ((s.reverse.map tuS).take (t + 1)) = flatE enc4 ((s.reverse.map tuS).take t) ++ enc4 (tuS (slA s i'))) := Lib.hid (by
            rw [rev_take tuS s (0, 0, 0, 0) (by rw [HM.out]; exact hlt2), flatE_app, HM.out, ← hit]
            simp [flatE, slA])
          have hsb : (-4611686018427387904 ≤ (slA s i').2.2.1 ∧ (slA s i').2.2.1 ≤ 1048576) ∧ (0 ≤ (slA s i').2.2.2 ∧ (slA s i').2.2.2 ≤ 1048576) := by
            have h := HRT.out
            cases p with
            | true =>
              have h2 := okS_bd HV.out ((RightP.yes.1 h).2.2.ok (slA s i') (by rw [slA_get s i' (by rw [HM.out]; omega)]; exact List.getElem_mem _))
              omega
            | false => have := (RightP.no.1 h).1; have h2 := HM.out; rw [this] at h2; simp at h2; omega
          rw [hi']
          have HIE := Lib.hid hi'
          clear hit hi'
          have hi'w : IntKind.i64.wrap ((i' : Int) - 1) = (i' : Int) - 1 := IntWalk.i64_in _ (by omega)
          generalize slA s i' = X at x0 x1 x2 x3 HQ hsb
          obtain ⟨xj, xb, xf, xt⟩ := X
          dsimp only at x0 x1 x2 x3 hsb
          have v1 : IntKind.i64.wrap (1048576 - xt) = 1048576 - xt := IntWalk.i64_in _ (by omega)
          have v2 : IntKind.i64.wrap (1048576 - xf) = 1048576 - xf := IntWalk.i64_in _ (by omega)
          have z1 := k4.cell 1
          go_upto_region 15 with fail
          generalize hW6 : World.alloc wr _ = w6
          have hg6 : Gr wr w6 := by rw [← hW6]; exact (Gr.refl wr).alloc _
          have hU : Blk w6 wr.heap.size 53 #[.int .i64 xj, .int .i64 xb, .int .i64 xf, .int .i64 xt] := by rw [← hW6]; exact heap_alloc_new wr _
          generalize wr.heap.size = U at hU ⊢
          have p0 := hU.cell 0
          have p1 := hU.cell 1
          have p2 := hU.cell 2
          have p3 := hU.cell 3
          have HY6 := Lib.hid (hYb.out.keep hg6)
          have HO6 := Lib.hid (owns_gr hown.out hg6)
          have HG6 : Hid (Gb Y w5 w6) := Lib.hid (hG.out.trans (Gb.of hg6 Y))
          have y1 := HY6.out.cell 1
          have hs6 : w5.heap.size ≤ w6.heap.size := HG6.out.size
          obtain ⟨hj, jz0, jz1, jz2⟩ := HI.out
          clear hW6 hU hg6 x0 x1 x2 x3 z1 k1 k2 k3 k4 k5 hYb hown hG
          go_wp2_with (at_builtin; refine wpList_append_own _ rfl _ _ 24 rfl w5.heap.size 53 j0 _ 4 32 Try.underlying24 hj jz0 jz1 jz2 rfl (by decide) _ _ _ rfl (HO6.out.alloc _) ⟨w6.heap.size, 0, none⟩ 1 1 (enc4 (xj, xb, 1048576 - xt, 1048576 - xf)) rfl rfl ?a1 ?a2 ?a3 ?a4 ?a5 ?_)
          case a1 =>
            intro t u ht
            rw [Addr.add_lit]
            exact alloc_new rfl (by rw [Nat.zero_add]; simpa [enc4] using ht)
          case a2 => exact fun u hu => enc4_one _ u hu
          case a3 => unfold maxLen; omega
          case a4 => omega
          case a5 => simp; omega
          intro v' w7 hown' hgrow _
          have hal := (Gr.refl w6).alloc (.cells #[.int .i64 xj, .int .i64 xb, .int .i64 (1048576 - xt), .int .i64 (1048576 - xf)] 53)
          have ho3 := HO6.out.alloc (.cells #[.int .i64 xj, .int .i64 xb, .int .i64 (1048576 - xt), .int .i64 (1048576 - xf)] 53)
          have hY7 := (HY6.out.keep hal).grown hgrow ((HY6.out.keep hal).apart ho3 (by decide))
          have hG7 : Gb Y w5 w7 := (HG6.out.trans (Gb.of hal Y)).app hgrow (fun t ht => (ho3.lt t ht).1)
          have hown7 : w7.ownsRow w5.heap.size 53 4 v' (t + 1) (flatE enc4 ((s.reverse.map tuS).take (t + 1))) := by rw [HQ.out]; first | exact hown' | (simpa [List.map_take, tuS] using hown')
          obtain ⟨A8, c8, rfl, -, -, -⟩ := own_row enc4_len (xs := (s.reverse.map tuS).take (t + 1)) (by rw [List.length_take, List.length_map, List.length_reverse, HM.out]; omega) hown7
          have HY8 := Lib.hid (hY7.put 1 (.slice A8 (t + 1) c8))
          have HO8 := Lib.hid (ownsRow_setCell_other (a := ⟨Y, 1, none⟩) hown7 (fun e => hY7.apart hown7 (by decide) e.symm) (.slice A8 (t + 1) c8))
          have HG8 := Lib.hid (hG7.put 1 (.slice A8 (t + 1) c8))
          have d1 := hY7.cell 1
          have df := hY7.free 1
          clear hj jz0 jz1 jz2 hown' hgrow hal ho3 hown7 hY7 hG7 HY6 HO6 HG6 p0 p1 p2 p3 y1
          go_wp2_with fail
          go_roundw
          case rel => exact ⟨t + 1, A8, c8, by omega, by (have := HIE.out; first | go_num | (congr 1; omega)), HY8, HO8, HG8⟩
          case measure => have := HIE.out; (simp [intOf]) <;> omega
        · obtain rfl : m = t := by omega
          rw [List.take_of_length_le (by rw [List.length_map, List.length_reverse, HM.out]; exact Nat.le_refl _)] at hown
          have hlr : (s.reverse.map tuS).length = m := by rw [List.length_map, List.length_reverse, HM.out]
          have HFS := Lib.hid (Fresh.of rfl hown.out)
          have HSL : Hid (Rd 4 enc4 wr A1 (s.reverse.map tuS)) := Lib.hid (by
            obtain ⟨A5, c5, he5, -, g2, -⟩ := own_row enc4_len hlr hown.out
            cases he5
            exact g2)
          have HLR := Lib.hid hlr
          have y2 := hYb.out.cell 2
          have z2 := k4.cell 2
          have HK4 := Lib.hid k4
          have hm1 := k3.hm1
          have hb1 := k3.hb1
          have hJ := k3.hJ
          have HFJ : Hid (JA = none → m1 = 0 ∧ c1 = 0) := Lib.hid (fun e => HFRJ.out.nil e)
          have hm133 : m1 ≤ 4096 := by
            have h := HRT.out
            cases p with
            | true => have := (RightP.yes.1 h).1; rw [this] at hm1; simp at hm1; omega
            | false => have h2 := (RightP.no.1 h).2; have := asc_few ((asc_iff _ _).1 ⟨h2.jobs, h2.asc⟩); rw [HK.out] at this; omega
          obtain ⟨e0, he, ez0, ez1, ez2⟩ := info_parts Try.infoBnI
          clear hown hlr k1 k2 k5 HI hlt2
          rename World => w6
          go_wp2_with (at_builtin; refine wpList_copy (by rfl) (.tmp 93) (.tmp 95) 25 (by rfl) 3 e0 _ 8 Try.underlying25 he ez0 ez1 ez2 rfl (by decide) enc1_len enc1_one JA m1 c1 J (by rfl) (by rfl) HFJ.out hm1 hJ (by unfold maxLen; omega) (by omega) ?_)
          intro AJ cJ w7 hcp
          have HC := Lib.hid hcp
          have hY7 := hYb.out.keep hcp.gr
          have hG7 : Gb Y w5 w7 := hG.out.trans (Gb.of hcp.gr Y)
          have y2 := hY7.cell 2
          have f2 := hY7.free 2
          have HY7 := Lib.hid hY7
          have HG7 := Lib.hid hG7
          clear hcp hY7 hG7 he ez0 ez1 ez2 z2 hYb hJ k3 k4 hG
          go_upto_region 17 with fail
          have hG8 := HG7.out.put 2 (.slice AJ m1 cJ)
          have hY8 : Blk (w7.setCell ⟨Y, 2, none⟩ (.slice AJ m1 cJ)) Y 28 #[.bool p, .slice A1 m q1, .slice AJ m1 cJ, .slice none 0 0] := HY7.out.put 2 (.slice AJ m1 cJ)
          have hgb := (Gb.of (Gr.refl w7) Y).put 2 (.slice AJ m1 cJ)
          have HSL8 := Lib.hid ((HSL.out.keep HC.out.gr).ans enc4_int HY7.out ans_noint4 hgb)
          have HJL8 := Lib.hid (HC.out.rd.ans enc1_int HY7.out ans_noint4 hgb)
          have HG8 := Lib.hid hG8
          have HY8 := Lib.hid hY8
          clear hG8 hY8 hgb y2 f2 HY7 HG7 HSL
          generalize World.setCell w7 _ _ = w8 at HSL8 HJL8 HG8 HY8 ⊢
          obtain ⟨-, -, k3, k4, -⟩ := HKEEP.out w8 HG8.out
          have z3 := k4.cell 3
          have hm2 : m2 ≤ 4096 := by
            have h := HRT.out
            cases p with
            | true => have := (RightP.yes.1 h).2.1; have h2 := k3.hm2; rw [this] at h2; simp at h2; omega
            | false => have h2 := (RightP.no.1 h).2.few; rw [k3.hm2] at h2; exact h2
          have HM2 := Lib.hid k3.hm2
          have HSP : Hid (∀ q ∈ S, 0 ≤ q.1 ∧ q.1 < q.2 ∧ q.2 ≤ 1048576) := Lib.hid (fun q hq => by
            have h := HRT.out
            cases p with
            | true => have := (RightP.yes.1 h).2.1; rw [this] at hq; simp at hq
            | false => exact (RightP.no.1 h).2.spans.1 q hq)
          have hmw2 : IntKind.i64.wrap ((m2 : Int) - 1) = (m2 : Int) - 1 := IntWalk.i64_in _ (by omega)
          obtain ⟨i2, hj, jz0, jz1, jz2⟩ := info_parts Try.infoBnS
          have HI2 := Lib.hid (And.intro hj (And.intro jz0 (And.intro jz1 jz2)))
          clear hj jz0 jz1 jz2 k3 k4
          go_wp2_with fail
          go_loopw [14] (fun z wr => ∃ (t : Nat) (A3 : Option Addr) (q3 : Nat), t ≤ m2 ∧ z = .int .i64 ((m2 : Int) - 1 - (t : Int)) ∧ Hid (Blk wr Y 28 #[.bool p, .slice A1 m q1, .slice AJ m1 cJ, .slice A3 t q3]) ∧ Hid (wr.ownsRow w8.heap.size 46 2 (.slice A3 t q3) t (flatE enc2 ((S.reverse.map tuP).take t))) ∧ Hid (Gb Y w8 wr)) (fun z _ => (intOf z + 1).toNat)
          case atStart => exact ⟨0, none, 0, Nat.zero_le _, by go_num, HY8, Lib.hid (World.ownsRow_nil _ _ _ _), Lib.hid (Gb.refl _ _)⟩
          case round =>
            obtain ⟨t, A3, q3, htm, rfl, hYb, hown, hG⟩ := hrel
            obtain ⟨k1, k2, k3, k4, k5⟩ := HKEEP.out wr (HG8.out.trans hG.out)
            by_cases hlt2 : t < m2
            · obtain ⟨i', hi'⟩ : ∃ i' : Nat, (m2 : Int) - 1 - (t : Int) = i' := ⟨m2 - 1 - t, by omega⟩
              have hi'm : (i' : Int) < (m2 : Int) := by omega
              have hi'0 : (0 : Int) ≤ (i' : Int) := by omega
              have hit : i' = m2 - 1 - t := by omega
              have hil : i' < S.length := by rw [HM2.out]; omega
              obtain ⟨bs, os, rfl, x0, x1⟩ := Pts_at k3.hS (k := i') hil
              have HS3 : Hid (∀ W', Gb Y w8 W' → W'.cell? ⟨Z, 3, none⟩ = some (.slice (some ⟨bs, os, none⟩) m2 c2) ∧ W'.cell? ⟨bs, os + i' * 2, none⟩ = some (.int .i64 (S.getD i' (0, 0)).1) ∧ W'.cell? ⟨bs, os + i' * 2 + 1, none⟩ = some (.int .i64 (S.getD i' (0, 0)).2)) := Lib.hid (fun W' hW => by
                obtain ⟨-, -, r3, r4, -⟩ := HKEEP.out W' (HG8.out.trans hW)
                obtain ⟨b', o', e', u0, u1⟩ := Pts_at r3.hS (k := i') hil
                cases e'
                exact ⟨r4.cell 3, u0, u1⟩)
              have HQ : Hid (flatE enc2 ((S.reverse.map tuP).take (t + 1)) = flatE enc2 ((S.reverse.map tuP).take t) ++ enc2 (tuP (S.getD i' (0, 0)))) := Lib.hid (by
                rw [rev_take tuP S (0, 0) (by rw [HM2.out]; exact hlt2), flatE_app, HM2.out, ← hit]
                simp [flatE])
              have hsb := HSP.out (S.getD i' (0, 0)) (List.mem_of_getElem? (getD_of (0, 0) hil))
              rw [hi']
              have HIE := Lib.hid hi'
              clear hit hi' hil x0 x1 k1 k2 k3 k4 k5
              have hi'w : IntKind.i64.wrap ((i' : Int) - 1) = (i' : Int) - 1 := IntWalk.i64_in _ (by omega)
              generalize S.getD i' (0, 0) = X at HS3 HQ hsb
              obtain ⟨xa, xb⟩ := X
              dsimp only at HS3 hsb
              have v1 : IntKind.i64.wrap (1048576 - xb) = 1048576 - xb := IntWalk.i64_in _ (by omega)
              have v2 : IntKind.i64.wrap (1048576 - xa) = 1048576 - xa := IntWalk.i64_in _ (by omega)
              have hda : Gr wr (wr.alloc (.cells #[.int .i64 (1048576 - xb), .int .i64 (1048576 - xa)] 46)).drew := ((Gr.refl wr).alloc _).drew
              have hdr := (Gr.refl wr).drew
              have HOA := Lib.hid (owns_gr hown.out hda)
              have HYA := Lib.hid (hYb.out.keep hda)
              have HGA := Lib.hid (hG.out.trans (Gb.of hda Y))
              have HGD := Lib.hid (hG.out.trans (Gb.of hdr Y))
              have hbase : w8.heap.size ≤ wr.heap.size := hG.out.size
              have yy3 : wr.drew.cell? ⟨Y, 3, none⟩ = some (.slice A3 t q3) := (hYb.out.keep hdr).cell 3
              have yy4 : (wr.alloc (.cells #[.int .i64 (1048576 - xb), .int .i64 (1048576 - xa)] 46)).drew.cell? ⟨Y, 3, none⟩ = some (.slice A3 t q3) := (hYb.out.keep hda).cell 3
              have yy5 : wr.cell? ⟨Y, 3, none⟩ = some (.slice A3 t q3) := hYb.out.cell 3
              obtain ⟨hj, jz0, jz1, jz2⟩ := HI2.out
              go_upto_region 20 with fail
              refine wp_region_held_drew (S := (fun W' => W'.cell? ⟨Z, 3, none⟩ = some (.slice (some ⟨bs, os, none⟩) m2 c2) ∧ W'.cell? ⟨bs, os + i' * 2, none⟩ = some (.int .i64 xa) ∧ W'.cell? ⟨bs, os + i' * 2 + 1, none⟩ = some (.int .i64 xb))) ?_ ?_ (fun hHeld => ?_)
              · kernel_rfl
              · ((try dsimp only); (first | exact hHeld | exact HS3.out _ HGD.out | exact HS3.out _ HGA.out | exact KA.out | exact KB.out))
              refine take_in (i := 0) (v := ?_) (d := (some 106)) rfl rfl ?_ ?_ ?_ ?_ ?_ ?_ ?_ ?_
              rotate_left
              · kernel_rfl
              · kernel_rfl
              · kernel_rfl
              · (intro _ _ _ hq; exact hq)
              · rfl
              · (intro _w hSw; (try dsimp only at hSw); go_simp; try with_reducible rfl)
              · assumption
              try simp only [Act.put, List.setIfInBounds_toArray, List.set_cons_zero, List.set_cons_succ]
              refine take_in (i := 2) (v := ?_) (d := (some 108)) rfl rfl ?_ ?_ ?_ ?_ ?_ ?_ ?_ ?_
              rotate_left
              · kernel_rfl
              · kernel_rfl
              · kernel_rfl
              · (intro _ _ _ hq; exact hq)
              · rfl
              · (intro _w hSw; (try dsimp only at hSw); go_simp; try with_reducible rfl)
              · assumption
              try simp only [Act.put, List.setIfInBounds_toArray, List.set_cons_zero, List.set_cons_succ]
              refine take_in (i := 3) (v := ?_) (d := (some 109)) rfl rfl ?_ ?_ ?_ ?_ ?_ ?_ ?_ ?_
              rotate_left
              · kernel_rfl
              · kernel_rfl
              · kernel_rfl
              · (intro _ _ _ hq; exact hq)
              · rfl
              · (intro _w hSw; (try dsimp only at hSw); go_simp; try with_reducible rfl)
              · assumption
              try simp only [Act.put, List.setIfInBounds_toArray, List.set_cons_zero, List.set_cons_succ]
              refine take_in (i := 4) (v := ?_) (d := (some 110)) rfl rfl ?_ ?_ ?_ ?_ ?_ ?_ ?_ ?_
              rotate_left
              · kernel_rfl
              · kernel_rfl
              · kernel_rfl
              · (intro _ _ _ hq; exact hq)
              · rfl
              · (intro _w hSw; (try dsimp only at hSw); go_simp; try with_reducible rfl)
              · assumption
              try simp only [Act.put, List.setIfInBounds_toArray, List.set_cons_zero, List.set_cons_succ]
              refine take_in (i := 5) (v := ?_) (d := (some 111)) rfl rfl ?_ ?_ ?_ ?_ ?_ ?_ ?_ ?_
              rotate_left
              · kernel_rfl
              · kernel_rfl
              · kernel_rfl
              · (intro _ _ _ hq; exact hq)
              · rfl
              · (intro _w hSw; (try dsimp only at hSw); go_simp; try with_reducible rfl)
              · assumption
              try simp only [Act.put, List.setIfInBounds_toArray, List.set_cons_zero, List.set_cons_succ]
              refine take_in (i := 6) (v := ?_) (d := (some 112)) rfl rfl ?_ ?_ ?_ ?_ ?_ ?_ ?_ ?_
              rotate_left
              · kernel_rfl
              · kernel_rfl
              · kernel_rfl
              · (intro _ _ _ hq; exact hq)
              · rfl
              · (intro _w hSw; (try dsimp only at hSw); go_simp; try with_reducible rfl)
              · assumption
              try simp only [Act.put, List.setIfInBounds_toArray, List.set_cons_zero, List.set_cons_succ]
              refine take_in (i := 7) (v := ?_) (d := (some 113)) rfl rfl ?_ ?_ ?_ ?_ ?_ ?_ ?_ ?_
              rotate_left
              · kernel_rfl
              · kernel_rfl
              · kernel_rfl
              · (intro _ _ _ hq; exact hq)
              · rfl
              · (intro _w hSw; (try dsimp only at hSw); go_simp; try with_reducible rfl)
              · assumption
              try simp only [Act.put, List.setIfInBounds_toArray, List.set_cons_zero, List.set_cons_succ]
              refine take_in (i := 8) (v := ?_) (d := (some 114)) rfl rfl ?_ ?_ ?_ ?_ ?_ ?_ ?_ ?_
              rotate_left
              · kernel_rfl
              · kernel_rfl
              · kernel_rfl
              · (intro _ _ _ hq; exact hq)
              · rfl
              · (intro _w hSw; (try dsimp only at hSw); go_simp; try with_reducible rfl)
              · assumption
              try simp only [Act.put, List.setIfInBounds_toArray, List.set_cons_zero, List.set_cons_succ]
              refine take_in (i := 9) (v := ?_) (d := (some 115)) rfl rfl ?_ ?_ ?_ ?_ ?_ ?_ ?_ ?_
              rotate_left
              · kernel_rfl
              · kernel_rfl
              · kernel_rfl
              · (intro _ _ _ hq; exact hq)
              · rfl
              · (intro _w hSw; (try dsimp only at hSw); go_simp; try with_reducible rfl)
              · assumption
              try simp only [Act.put, List.setIfInBounds_toArray, List.set_cons_zero, List.set_cons_succ]
              refine take_in (i := 10) (v := ?_) (d := (some 116)) rfl rfl ?_ ?_ ?_ ?_ ?_ ?_ ?_ ?_
              rotate_left
              · kernel_rfl
              · kernel_rfl
              · kernel_rfl
              · (intro _ _ _ hq; exact hq)
              · rfl
              · (intro _w hSw; (try dsimp only at hSw); go_simp; try with_reducible rfl)
              · assumption
              try simp only [Act.put, List.setIfInBounds_toArray, List.set_cons_zero, List.set_cons_succ]
              refine take_in (i := 11) (v := ?_) (d := (some 117)) rfl rfl ?_ ?_ ?_ ?_ ?_ ?_ ?_ ?_
              rotate_left
              · kernel_rfl
              · kernel_rfl
              · kernel_rfl
              · (intro _ _ _ hq; exact hq)
              · rfl
              · (intro _w hSw; (try dsimp only at hSw); go_simp; try with_reducible rfl)
              · assumption
              try simp only [Act.put, List.setIfInBounds_toArray, List.set_cons_zero, List.set_cons_succ]
              refine take_in (i := 12) (v := ?_) (d := (some 118)) rfl rfl ?_ ?_ ?_ ?_ ?_ ?_ ?_ ?_
              rotate_left
              · kernel_rfl
              · kernel_rfl
              · kernel_rfl
              · (intro _ _ _ hq; exact hq)
              · rfl
              · (intro _w hSw; (try dsimp only at hSw); go_simp; try with_reducible rfl)
              · assumption
              try simp only [Act.put, List.setIfInBounds_toArray, List.set_cons_zero, List.set_cons_succ]
              refine take_in (i := 13) (v := ?_) (d := (some 119)) rfl rfl ?_ ?_ ?_ ?_ ?_ ?_ ?_ ?_
              rotate_left
              · kernel_rfl
              · kernel_rfl
              · kernel_rfl
              · (intro _ _ _ hq; exact hq)
              · rfl
              · (intro _w hSw; (try dsimp only at hSw); go_simp; try with_reducible rfl)
              · assumption
              try simp only [Act.put, List.setIfInBounds_toArray, List.set_cons_zero, List.set_cons_succ]
              refine take_in (i := 14) (v := ?_) (d := (some 120)) rfl rfl ?_ ?_ ?_ ?_ ?_ ?_ ?_ ?_
              rotate_left
              · kernel_rfl
              · kernel_rfl
              · kernel_rfl
              · (intro _ _ _ hq; exact hq)
              · rfl
              · (intro _w hSw; (try dsimp only at hSw); go_simp; try with_reducible rfl)
              · assumption
              try simp only [Act.put, List.setIfInBounds_toArray, List.set_cons_zero, List.set_cons_succ]
              refine take_in (i := 15) (v := ?_) (d := (some 121)) rfl rfl ?_ ?_ ?_ ?_ ?_ ?_ ?_ ?_
              rotate_left
              · kernel_rfl
              · kernel_rfl
              · kernel_rfl
              · (intro _ _ _ hq; exact hq)
              · rfl
              · (intro _w hSw; (try dsimp only at hSw); go_simp; try with_reducible rfl)
              · assumption
              try simp only [Act.put, List.setIfInBounds_toArray, List.set_cons_zero, List.set_cons_succ]
              refine take_in (i := 16) (v := ?_) (d := (some 122)) rfl rfl ?_ ?_ ?_ ?_ ?_ ?_ ?_ ?_
              rotate_left
              · kernel_rfl
              · kernel_rfl
              · kernel_rfl
              · (intro _ _ _ hq; exact hq)
              · rfl
              · (intro _w hSw; (try dsimp only at hSw); go_simp; try with_reducible rfl)
              · assumption
              try simp only [Act.put, List.setIfInBounds_toArray, List.set_cons_zero, List.set_cons_succ]
              refine wpAnyH_ready (rs := [1, 17]) ?_ ?_ ?_
              · kernel_rfl
              · simp
              refine (AllReadyH.cons rfl (fun K hK => ?_) (AllReadyH.cons rfl (fun K hK => ?_) AllReadyH.nil))
              go_simp
              refine hK.out _ _ ?_ (fun hHeld => ?_)
              · ((try dsimp only); (first | exact hHeld | exact HS3.out _ HGD.out | exact HS3.out _ HGA.out | exact KA.out | exact KB.out))
              clear hK K
              try simp only [Act.put, List.setIfInBounds_toArray, List.set_cons_zero, List.set_cons_succ]
              refine wpAnyH_ready (rs := [17]) ?_ ?_ ?_
              · kernel_rfl
              · simp
              refine (AllReadyH.cons rfl (fun K hK => ?_) AllReadyH.nil)
              go_simp
              refine hK.out _ _ ?_ (fun hHeld => ?_)
              · ((try dsimp only); (first | exact hHeld | exact HS3.out _ HGD.out | exact HS3.out _ HGA.out | exact KA.out | exact KB.out))
              clear hK K
              try simp only [Act.put, List.setIfInBounds_toArray, List.set_cons_zero, List.set_cons_succ]
              refine wpAnyH_ready (rs := [18]) ?_ ?_ ?_
              · kernel_rfl
              · simp
              refine (AllReadyH.cons rfl (fun K hK => ?_) AllReadyH.nil)
              first | (refine step_append_lies _ (by rfl) (.tmp 107) (.tmp 123) 26 (by rfl) w8.heap.size 46 i2 _ 2 16 Try.underlying26 hj jz0 jz1 jz2 rfl (by decide) (.slice A3 t q3) t (flatE enc2 ((S.reverse.map tuP).take t)) (by rfl) HOA.out ⟨wr.heap.size, 0, none⟩ 1 1 [.int .i64 (1048576 - xb), .int .i64 (1048576 - xa)] (by rfl) rfl (World.news_of_block (heap_alloc_new _ _)) (enc2_one (1048576 - xb, 1048576 - xa)) (by decide) (by unfold maxLen; omega) (by omega) (by simp; omega) _ rfl ?_; intro g' cap' w9 hown' hgrow _ _; have hY9 := HYA.out.grown hgrow (HYA.out.apart HOA.out (by decide)); have hG9 : Gb Y w8 w9 := HGA.out.app hgrow (fun t ht => (HOA.out.lt t ht).1); have d3 : w9.cell? ⟨Y, 3, none⟩ = some (.slice A3 t q3) := hY9.cell 3; have df := hY9.free 3; have HY10 := Lib.hid (hY9.put 3 (.slice (some ⟨g', 0, none⟩) (t + 1) cap')); have HO10 := Lib.hid (ownsRow_setCell_other (a := ⟨Y, 3, none⟩) hown' (fun e => hY9.apart hown' (by decide) e.symm) (.slice (some ⟨g', 0, none⟩) (t + 1) cap')); have HG10 := Lib.hid (hG9.put 3 (.slice (some ⟨g', 0, none⟩) (t + 1) cap')); have KA := Lib.hid (HS3.out _ hG9); have KB := Lib.hid (HS3.out _ HG10.out); clear hown' hgrow hY9 hG9)
              refine hK.out _ _ ?_ (fun hHeld => ?_)
              · ((try dsimp only); (first | exact hHeld | exact HS3.out _ HGD.out | exact HS3.out _ HGA.out | exact KA.out | exact KB.out))
              clear hK K
              try simp only [Act.put, List.setIfInBounds_toArray, List.set_cons_zero, List.set_cons_succ]
              refine take_in (i := 19) (v := ?_) (d := (some 125)) rfl rfl ?_ ?_ ?_ ?_ ?_ ?_ ?_ ?_
              rotate_left
              · kernel_rfl
              · kernel_rfl
              · kernel_rfl
              · (intro _ _ _ hq; exact hq)
              · rfl
              · (intro _w hSw; (try dsimp only at hSw); go_simp; try with_reducible rfl)
              · assumption
              try simp only [Act.put, List.setIfInBounds_toArray, List.set_cons_zero, List.set_cons_succ]
              refine wpAnyH_ready (rs := [20]) ?_ ?_ ?_
              · kernel_rfl
              · simp
              refine (AllReadyH.cons rfl (fun K hK => ?_) AllReadyH.nil)
              go_simp
              refine hK.out _ _ ?_ (fun hHeld => ?_)
              · ((try dsimp only); (first | exact hHeld | exact HS3.out _ HGD.out | exact HS3.out _ HGA.out | exact KA.out | exact KB.out))
              clear hK K
              try simp only [Act.put, List.setIfInBounds_toArray, List.set_cons_zero, List.set_cons_succ]
              refine wpAnyH_done ?_ ?_ _
              · kernel_rfl
              rotate_left
              go_simp
              refine hK.out _ _ ?_ (fun hHeld => ?_)
              · ((try dsimp only); (first | exact hHeld | exact HS3.out _ HGD.out | exact HS3.out _ HGA.out | exact KA.out | exact KB.out))
              clear hK K
              try simp only [Act.put, List.setIfInBounds_toArray, List.set_cons_zero, List.set_cons_succ]
              refine wpAnyH_ready (rs := [1]) ?_ ?_ ?_
              · kernel_rfl
              · simp
              refine (AllReadyH.cons rfl (fun K hK => ?_) AllReadyH.nil)
              go_simp
              refine hK.out _ _ ?_ (fun hHeld => ?_)
              · ((try dsimp only); (first | exact hHeld | exact HS3.out _ HGD.out | exact HS3.out _ HGA.out | exact KA.out | exact KB.out))
              clear hK K
              try simp only [Act.put, List.setIfInBounds_toArray, List.set_cons_zero, List.set_cons_succ]
              refine wpAnyH_ready (rs := [18]) ?_ ?_ ?_
              · kernel_rfl
              · simp
              refine (AllReadyH.cons rfl (fun K hK => ?_) AllReadyH.nil)
              first | (refine step_append_lies _ (by rfl) (.tmp 107) (.tmp 123) 26 (by rfl) w8.heap.size 46 i2 _ 2 16 Try.underlying26 hj jz0 jz1 jz2 rfl (by decide) (.slice A3 t q3) t (flatE enc2 ((S.reverse.map tuP).take t)) (by rfl) HOA.out ⟨wr.heap.size, 0, none⟩ 1 1 [.int .i64 (1048576 - xb), .int .i64 (1048576 - xa)] (by rfl) rfl (World.news_of_block (heap_alloc_new _ _)) (enc2_one (1048576 - xb, 1048576 - xa)) (by decide) (by unfold maxLen; omega) (by omega) (by simp; omega) _ rfl ?_; intro g' cap' w9 hown' hgrow _ _; have hY9 := HYA.out.grown hgrow (HYA.out.apart HOA.out (by decide)); have hG9 : Gb Y w8 w9 := HGA.out.app hgrow (fun t ht => (HOA.out.lt t ht).1); have d3 : w9.cell? ⟨Y, 3, none⟩ = some (.slice A3 t q3) := hY9.cell 3; have df := hY9.free 3; have HY10 := Lib.hid (hY9.put 3 (.slice (some ⟨g', 0, none⟩) (t + 1) cap')); have HO10 := Lib.hid (ownsRow_setCell_other (a := ⟨Y, 3, none⟩) hown' (fun e => hY9.apart hown' (by decide) e.symm) (.slice (some ⟨g', 0, none⟩) (t + 1) cap')); have HG10 := Lib.hid (hG9.put 3 (.slice (some ⟨g', 0, none⟩) (t + 1) cap')); have KA := Lib.hid (HS3.out _ hG9); have KB := Lib.hid (HS3.out _ HG10.out); clear hown' hgrow hY9 hG9)
              refine hK.out _ _ ?_ (fun hHeld => ?_)
              · ((try dsimp only); (first | exact hHeld | exact HS3.out _ HGD.out | exact HS3.out _ HGA.out | exact KA.out | exact KB.out))
              clear hK K
              try simp only [Act.put, List.setIfInBounds_toArray, List.set_cons_zero, List.set_cons_succ]
              refine take_in (i := 19) (v := ?_) (d := (some 125)) rfl rfl ?_ ?_ ?_ ?_ ?_ ?_ ?_ ?_
              rotate_left
              · kernel_rfl
              · kernel_rfl
              · kernel_rfl
              · (intro _ _ _ hq; exact hq)
              · rfl
              · (intro _w hSw; (try dsimp only at hSw); go_simp; try with_reducible rfl)
              · assumption
              try simp only [Act.put, List.setIfInBounds_toArray, List.set_cons_zero, List.set_cons_succ]
              refine wpAnyH_ready (rs := [20]) ?_ ?_ ?_
              · kernel_rfl
              · simp
              refine (AllReadyH.cons rfl (fun K hK => ?_) AllReadyH.nil)
              go_simp
              refine hK.out _ _ ?_ (fun hHeld => ?_)
              · ((try dsimp only); (first | exact hHeld | exact HS3.out _ HGD.out | exact HS3.out _ HGA.out | exact KA.out | exact KB.out))
              clear hK K
              try simp only [Act.put, List.setIfInBounds_toArray, List.set_cons_zero, List.set_cons_succ]
              refine wpAnyH_done ?_ ?_ _
              · kernel_rfl
              rotate_left
              all_goals
                have HO6 : Hid ((w9.setCell ⟨Y, 3, none⟩ (.slice (some ⟨g', 0, none⟩) (t + 1) cap')).ownsRow w8.heap.size 46 2 (.slice (some ⟨g', 0, none⟩) (t + 1) cap') (t + 1) (flatE enc2 ((S.reverse.map tuP).take (t + 1)))) := Lib.hid (by rw [HQ.out]; exact HO10.out)
                clear hHeld HO10 hj jz0 jz1 jz2 d3 df KA KB
                go_wp2_with fail
                go_roundw
                case rel => exact ⟨t + 1, _, _, by omega, by (have := HIE.out; first | go_num | (congr 1; omega)), HY10, HO6, HG10⟩
                case measure => have := HIE.out; (simp [intOf]) <;> omega
            · obtain rfl : m2 = t := by omega
              rw [List.take_of_length_le (by rw [List.length_map, List.length_reverse, HM2.out]; exact Nat.le_refl _)] at hown
              have hl2 : (S.reverse.map tuP).length = m2 := by rw [List.length_map, List.length_reverse, HM2.out]
              have hSP : Pts wr A3 (S.reverse.map tuP) := by
                obtain ⟨A5, c5, he5, -, g2, -⟩ := own_row enc2_len hl2 hown.out
                cases he5
                exact g2
              have hsl := HSL8.out.ans enc4_int HY8.out ans_noint4 hG.out
              have hjl := HJL8.out.ans enc1_int HY8.out ans_noint4 hG.out
              have HRX : Hid (AnsR wr A1 m q1 (s.reverse.map tuS) AJ m1 J A3 m2 (S.reverse.map tuP)) := Lib.hid ⟨HLR.out, by omega, HFS.out.nil, HFS.out.spot, hsl, hm1, hb1, hjl, hl2, by omega, hSP⟩
              have HRTT : Hid (RightP N (L.map tuJ) p (s.reverse.map tuS) J (S.reverse.map tuP)) := Lib.hid (right_turn HRT.out)
              have HTT := Lib.hid (okT_turn HT.out)
              have HT9 := Lib.hid k1
              have HB9 := Lib.hid k2
              have HY9 := hYb
              have hgr9 := k5
              have HF9 := Lib.hid (HFW.out A' c' wr k1)
              clear hown hl2 hSP hsl hjl k1 k2 k3 k4 k5 hG HKEEP hlt2 HSL8 HJL8 HY8 HFW
              rename World => W9
              go_wp2_with fail
              refine HF9.out.mono ?_
              intro e w10 hf
              rcases hf with ⟨h, -⟩ | ⟨-, u, rfl, hg10, hu8, hu0, hu1⟩
              · have h2 := okT_ben HT.out (C := 1) ⟨by omega, by omega⟩
                rw [h2] at h
                cases h
              · have HB10 := Lib.hid (HB9.out.keep hg10)
                have HF10 := Lib.hid (HFB.out A9 c9 w10 HB10.out)
                have HU := Lib.hid (And.intro hu8 (And.intro hu0 hu1))
                have HY10 := Lib.hid (HY9.out.keep hg10)
                have HR10 := Lib.hid (HRX.out.keep hg10)
                have hgr10 := hgr9.trans hg10
                clear hu8 hu0 hu1 hg10 HF9
                go_wp2_with fail
                refine HF10.out.mono ?_
                intro e w11 hf
                rcases hf with ⟨h, -⟩ | ⟨-, v, rfl, hg11, hv8, hv0, hv1⟩
                · have h2 := okT_ben HTT.out (C := 1) ⟨by omega, by omega⟩
                  rw [h2] at h
                  cases h
                · have huv : u = v := FewP.turn HU.out.1 HU.out.2.1 HU.out.2.2 hv8 hv0 hv1
                  subst huv
                  have HB11 := Lib.hid (HB10.out.keep hg11)
                  have HR11 := Lib.hid (HR10.out.keep hg11)
                  have hY11 := HY10.out.keep hg11
                  have hgr11 := hgr10.trans hg11
                  have q0 := hY11.cell 0
                  have q1' := hY11.cell 1
                  have q2 := hY11.cell 2
                  have q3' := hY11.cell 3
                  have HC11 := Lib.hid (HCB.out A9 c9 p A1 m q1 (s.reverse.map tuS) AJ m1 cJ J A3 m2 q3 (S.reverse.map tuP) w11 HB11.out HR11.out)
                  clear hv8 hv0 hv1 hg11 HF10 hY11 HCB
                  go_wp2_with fail
                  refine HC11.out.mono ?_
                  rintro e w12 ⟨r, rfl, hg12, -, hr, -⟩
                  obtain rfl : r = 0 := hr HTT.out HRTT.out
                  clear hr HC11 q0 q1' q2 q3'
                  go_wp2_with fail
                  refine (bawake_any _).mono ?_
                  rintro e w13 ⟨rfl, hg13⟩
                  go_wp2_with fail
                  go_ret
                  exact ⟨rfl, (hgr11.trans hg12).trans hg13⟩

end Go.Proofs.Ytngcgienhdifaaa
