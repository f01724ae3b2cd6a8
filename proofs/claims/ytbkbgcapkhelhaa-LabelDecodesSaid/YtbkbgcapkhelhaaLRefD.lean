/- Layer 3: the reference's products of polynomials, and its codewords. -/
import Derived.Test.YtbkbgcapkhelhaaLRefC
import Derived.Test.YtbkbgcapkhelhaaLMany
import Derived.Test.YtbkbgcapkhelhaaLChk
namespace Go.Proofs.Ytbkbgcapkhelhaa
open Go.RowKit
set_option linter.unusedSimpArgs false

/-- A block that is just these elements, as ints. -/
def ics (xs : List G) : Array Value := ⟨xs.map fun x => .int .i64 (x.v : Int)⟩
def BI (w : World) (g : Nat) (xs : List G) : Prop := Blk w g 3 (ics xs)
theorem BI.keep {w w' : World} {g : Nat} {xs : List G} (h : BI w g xs) (hg : Gr w w') : BI w' g xs := Blk.keep h hg
theorem BI.at {w : World} {g : Nat} {xs : List G} (h : BI w g xs) {i : Nat} (hi : i < xs.length) : w.cell? ⟨g, i, none⟩ = some (.int .i64 ((xs.getD i g0).v : Int)) := by
  rw [Blk.cell h, show (ics xs)[i]? = xs[i]?.map fun x => .int .i64 (x.v : Int) by simp [ics], getD_of g0 hi]; rfl
theorem BI.free {w : World} {g : Nat} {xs : List G} (h : BI w g xs) (i : Nat) : w.frozen? ⟨g, i, none⟩ = false := Blk.free h i
theorem BI.put {w : World} {g : Nat} {xs : List G} (h : BI w g xs) (i : Nat) (y : G) : BI (w.setCell ⟨g, i, none⟩ (.int .i64 (y.v : Int))) g (xs.set i y) := by
  have := Blk.put h i (.int .i64 (y.v : Int))
  have e : (ics xs).setIfInBounds i (.int .i64 (y.v : Int)) = ics (xs.set i y) := by
    unfold ics
    simp [List.map_set]
  rw [e] at this
  exact this
theorem flatI (xs : List G) : flatE enc1 (gints xs) = xs.map fun x => .int .i64 (x.v : Int) := by
  induction xs with
  | nil => rfl
  | cons x r ih =>
    rw [show gints (x :: r) = [(x.v : Int)] ++ gints r from rfl, flatE_app, ih]; rfl
theorem BI.pts {w : World} {g : Nat} {xs : List G} (h : BI w g xs) : Ints w (some ⟨g, 0, none⟩) (gints xs) :=
  Rd_lit enc1_len h (by rw [flatI]; rfl)
theorem BI.new (w : World) (xs : List G) {g : Nat} (h : w.heap.size = g) : BI (w.alloc (.cells (ics xs) 3)) g xs := Blk.new w _ _ h
theorem BI.gb {w w' : World} {g g' : Nat} {xs : List G} (h : BI w g xs) (hg : Gb g' w w') (hne : g ≠ g') : BI w' g xs := Blk.gb h hg hne
theorem BI.lt {w : World} {g : Nat} {xs : List G} (h : BI w g xs) : g < w.heap.size := Blk.lt h
theorem made_ints (n : Nat) : madeCells #[Value.int .i64 0] (n * 1) = ics (List.replicate n g0) := by
  have hs : (madeCells #[Value.int .i64 0] (n * 1)).size = n := by have := size_madeCells #[Value.int .i64 0] (n * 1); simpa using this
  apply Array.ext
  · rw [hs]; simp [ics]
  · intro i h1 h2
    simp [madeCells, ics, Nat.mod_one, g0]
theorem mk_ints (n : Nat) (hl : n ≤ 1048576) (w : World) : (Instr.makeSlice 34 (.int .i64 (n : Int)) (.int .i64 (n : Int))).run Try.prog w =
    .ok (.slice (some ⟨w.heap.size, 0, none⟩) n n) (w.alloc (.cells (ics (List.replicate n g0)) 3)) := by
  obtain ⟨i0, hi, hz0, hz1, hz2⟩ := info_parts Try.infoInt
  have h := run_make (P := Try.prog) w 34 3 i0 _ Try.underlying34 hi hz0 .i64 .i64 (n : Int) (n : Int) (by omega) (by omega) (by rw [hz2]; omega) (by omega)
  rw [hz1] at h
  simp only [Int.toNat_natCast] at h
  rw [h, show (Value.int IntKind.i64 0).cells = #[Value.int .i64 0] from rfl, made_ints]

set_option maxRecDepth 100000 in
set_option maxHeartbeats 4000000 in
theorem rTimes_any (A B : Option Addr) (n ca cb : Nat) (xs : List G) (r : G) (w : World) (h1n : 1 ≤ n) (hl : n ≤ 1000) (hn : xs.length = n) (hA : Ints w A (gints xs)) (hB : Ints w B (gints [g1, r])) :
    Calls Try.prog 38 #[.slice A n ca, .slice B 2 cb] w fun e w' => ∃ g, e = .returned (.slice (some ⟨g, 0, none⟩) (n + 1) (n + 1)) ∧ w.heap.size ≤ g ∧ BI w' g (timesR xs r) ∧ Gr w w' := by
  have hmk : ∀ w, (Instr.makeSlice 34 (.int .i64 ((n : Int) + 2 - 1)) (.int .i64 ((n : Int) + 2 - 1))).run Try.prog w = .ok (.slice (some ⟨w.heap.size, 0, none⟩) (n + 1) (n + 1)) (w.alloc (.cells (ics (List.replicate (n + 1) g0)) 3)) := fun w => by
    have := mk_ints (n + 1) (by omega) w
    rw [show (((n + 1 : Nat)) : Int) = (n : Int) + 2 - 1 by omega] at this
    exact this
  have j0 : IntKind.i64.wrap ((n : Int) + 2) = (n : Int) + 2 := IntWalk.i64_in _ (by omega)
  have HG0 := Lib.hid ((Gr.refl w).alloc (.cells (ics (List.replicate (n + 1) g0)) 3))
  have HB0 := Lib.hid (BI.new w (List.replicate (n + 1) g0) rfl)
  have HA := Lib.hid hA
  have HB := Lib.hid hB
  have HLN := Lib.hid hn
  clear hA hB hn
  go_enter Try.func38, Try.ntmps38
  go_wp2_with fail
  generalize World.alloc w _ = W0 at HG0 HB0 ⊢
  clear hmk
  generalize hS : w.heap.size = S at HB0 ⊢
  have HS : Hid (w.heap.size ≤ S) := Lib.hid (by omega)
  clear hS
  go_loopw [6] (fun z wr => ∃ i : Nat, i ≤ n ∧ z = .int .i64 i ∧ Hid (BI wr S (tsL xs r i)) ∧ Hid (Gb S W0 wr)) (fun z _ => n - (intOf z).toNat)
  case atStart => exact ⟨0, Nat.zero_le _, rfl, by rw [tsL_zero, HLN.out]; exact HB0, Lib.hid (Gb.refl _ _)⟩
  case round =>
    obtain ⟨i, hi, rfl, hR, hG⟩ := hrel
    by_cases hlt : i < n
    · have hix : i < xs.length := by have := HLN.out; omega
      obtain ⟨l, e1, e2, e3⟩ := tsL_step xs r hix
      have E1 := Lib.hid e1
      have E2 := Lib.hid e2
      have E3 := Lib.hid e3
      have hxx := gints_at hix
      obtain ⟨x, hxe⟩ : ∃ x, xs.getD i g0 = x := ⟨_, rfl⟩
      rw [hxe] at E2 E3 hxx
      have HXX := Lib.hid hxx
      clear e1 e2 e3 hxe hxx
      go_wp2_with fail
      go_loopw [7] (fun z wx => ∃ j : Nat, j ≤ 2 ∧ z = .int .i64 j ∧ Hid (BI wx S (if j = 0 then tsL xs r i else if j = 1 then (tsL xs r i).set i (l + x * g1) else tsL xs r (i + 1))) ∧ Hid (Gb S W0 wx)) (fun z _ => 2 - (intOf z).toNat)
      case atStart => exact ⟨0, by omega, rfl, hR, hG⟩
      case round =>
        clear hR hG
        obtain ⟨j, hj, rfl, hR, hG⟩ := hrel
        have hgw := hG.out.gr HG0.out HS.out
        obtain ⟨ba, oa, rfl, a0⟩ := Ints_at (HA.out.keep hgw) (i := i) (by rw [gints_len]; exact hix)
        rw [HXX.out] at a0
        have hjc : j = 0 ∨ j = 1 ∨ j = 2 := by omega
        rcases hjc with rfl | rfl | rfl
        · obtain ⟨b0, o0, rfl, f0⟩ := Ints_at (HB.out.keep hgw) (i := 0) (by simp [gints])
          have r1 := hR.out.at (i := i) (by rw [if_pos rfl, tsL_len _ _ (by omega)]; omega)
          rw [if_pos rfl] at hR r1
          have r2 := hR.out.free i
          rw [E1.out] at r1
          have HPR := Lib.hid (fun W' => rMul_g x g1 W')
          have hx := i64_xor_gg l (x * g1)
          have h1 : ((gints [g1, r]).getD 0 0) = ((g1.v : Nat) : Int) := rfl
          rw [h1, Nat.add_zero] at f0
          have j1 : IntKind.i64.wrap (i : Int) = (i : Int) := IntWalk.i64_in _ (by omega)
          have j2 : (0 : Int) ≤ (i : Int) := by omega
          have j3 : (i : Int) < (n : Int) + 1 := by omega
          clear h1
          go_wp2_with fail
          go_region_law (first | (go_simp; go_at_call 15; refine (HPR.out _).mono ?_; rintro e w2 ⟨rfl, rfl⟩))
          all_goals
            go_wp2_with fail
            go_roundw
            case rel =>
              refine ⟨1, by omega, by go_num, Lib.hid ?_, Lib.hid ?_⟩
              · rw [if_neg (by omega), if_pos rfl]
                first
                | exact ((hR.out.put (i) (l + x * g1)).keep (Gr.refl _).drew)
                | exact (hR.out.keep (Gr.refl _).drew).put (i) (l + x * g1)
                | exact hR.out.put (i) (l + x * g1)
              · first
                | exact ((hG.out.put (i) _).drew)
                | exact ((hG.out.drew).put (i) _)
                | exact hG.out.put (i) _
            case measure => simp [intOf] <;> omega
        · obtain ⟨b0, o0, rfl, f0⟩ := Ints_at (HB.out.keep hgw) (i := 1) (by simp [gints])
          have r1 := hR.out.at (i := i + 1) (by rw [if_neg (by omega), if_pos rfl, List.length_set, tsL_len _ _ (by omega)]; omega)
          rw [if_neg (by omega), if_pos rfl] at hR r1
          have r2 := hR.out.free (i + 1)
          rw [E2.out] at r1
          have HPR := Lib.hid (fun W' => rMul_g x r W')
          have hx := i64_xor_gg g0 (x * r)
          have h1 : ((gints [g1, r]).getD 1 0) = ((r.v : Nat) : Int) := rfl
          rw [h1] at f0
          have j1 : IntKind.i64.wrap ((i : Int) + 1) = (i : Int) + 1 := IntWalk.i64_in _ (by omega)
          have j2 : (0 : Int) ≤ (i : Int) + 1 := by omega
          have j3 : (i : Int) + 1 < (n : Int) + 1 := by omega
          have j4 : (i : Int) < (n : Int) := by omega
          have j5 : ((i : Int) + 1).toNat = i + 1 := by omega
          clear h1
          go_wp2_with fail
          go_region_law (first | (go_simp; go_at_call 15; refine (HPR.out _).mono ?_; rintro e w2 ⟨rfl, rfl⟩))
          all_goals
            go_wp2_with fail
            go_roundw
            case rel =>
              refine ⟨2, by omega, by go_num, Lib.hid ?_, Lib.hid ?_⟩
              · rw [if_neg (by omega), if_neg (by omega), E3.out]
                first
                | exact ((hR.out.put (i + 1) (g0 + x * r)).keep (Gr.refl _).drew)
                | exact (hR.out.keep (Gr.refl _).drew).put (i + 1) (g0 + x * r)
                | exact hR.out.put (i + 1) (g0 + x * r)
              · first
                | exact ((hG.out.put (i + 1) _).drew)
                | exact ((hG.out.drew).put (i + 1) _)
                | exact hG.out.put (i + 1) _
            case measure => simp [intOf] <;> omega
        · rw [if_neg (by omega), if_neg (by omega)] at hR
          go_wp2_with fail
          go_roundw
          case rel => exact ⟨i + 1, by omega, by go_num, hR, hG⟩
          case measure => simp [intOf] <;> omega
    · obtain rfl : i = n := by omega
      have HT : Hid (tsL xs r i = timesR xs r) := Lib.hid (by rw [← HLN.out, tsL_all])
      rw [HT.out] at hR
      go_wp2_with fail
      try rw [Exit.noGoto_ret]
      go_ret
      exact ⟨S, rfl, HS.out, hR.out, hG.out.gr HG0.out HS.out⟩
end Go.Proofs.Ytbkbgcapkhelhaa
