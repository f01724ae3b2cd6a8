/- Covers, as the reference says it. -/
import Derived.Test.YtjkdjfagaakijaaCovM
import Derived.Test.YtjkdjfagaakijaaRArea
import Derived.Test.YtjkdjfagaakijaaCross
import Derived.Test.YtjkdjfagaakijaaSidesF
import Derived.Deep.CutRange
namespace Go.Proofs.Ytjkdjfagaakijaa
open Go.RowKit
set_option linter.unusedSimpArgs false

theorem Try.info3c : (Try.prog.info? 3).map (fun i => (i.zero, i.size, i.bytes)) = some (some (.int .i64 0), 1, 8) := by kernel_rfl
theorem mk_counts (n : Nat) (hl : n ≤ 1048576) (w : World) : (Instr.makeSlice 50 (.int .i64 (n : Int)) (.int .i64 (n : Int))).run Try.prog w =
    .ok (.slice (some ⟨w.heap.size, 0, none⟩) n n) (w.alloc (.cells (madeCells #[.int .i64 0] (n * 1)) 3)) := by
  obtain ⟨i0, hi, hz0, hz1, hz2⟩ := info_parts Try.info3c
  have h := run_make (P := Try.prog) w 50 3 i0 _ Try.underlying50 hi hz0 .i64 .i64 (n : Int) (n : Int) (by omega) (by omega) (by rw [hz2]; omega) (by omega)
  rw [hz1] at h
  simp only [Int.toNat_natCast] at h
  exact h
/-- The counts lie in a row, n to a line. -/
def CRow (n : Nat) (cs : Array Value) (S : List (Int × Int)) : Prop := ∀ a b : Nat, a < n → b < n → cs[a * n + b]? = some (.int .i64 (cntI S a b))
theorem line_lt {n a b : Nat} (ha : a < n) (hb : b < n) : a * n + b < n * n := by
  have : (a + 1) * n ≤ n * n := Nat.mul_le_mul_right n ha
  rw [Nat.add_mul] at this
  omega
theorem line_inj {n a b a' b' : Nat} (hb : b < n) (hb' : b' < n) (h : a * n + b = a' * n + b') : a = a' ∧ b = b' := by
  have h1 : (a * n + b) / n = a := by rw [Nat.mul_comm, Nat.mul_add_div (by omega), Nat.div_eq_of_lt hb]; rfl
  have h2 : (a' * n + b') / n = a' := by rw [Nat.mul_comm, Nat.mul_add_div (by omega), Nat.div_eq_of_lt hb']; rfl
  have e : a = a' := by rw [← h1, h, h2]
  subst e
  exact ⟨rfl, by omega⟩
theorem CRow.step {n : Nat} {cs : Array Value} {S : List (Int × Int)} (h : CRow n cs S) (hs : cs.size = n * n) {u v : Nat} (hu : u < n) (hv : v < n) : CRow n (cs.setIfInBounds (u * n + v) (.int .i64 (cntI S u v + 1))) (S ++ [((u : Int), (v : Int))]) := fun a b ha hb => by
  rw [Array.getElem?_setIfInBounds]
  by_cases e : u * n + v = a * n + b
  · obtain ⟨rfl, rfl⟩ := line_inj hv hb e
    rw [if_pos rfl, if_pos (by rw [hs]; exact line_lt hu hv)]
    unfold cntI
    rw [List.count_append]
    simp
  · rw [if_neg e, h a b ha hb]
    unfold cntI
    rw [List.count_append]
    have : List.count ((a : Int), (b : Int)) [((u : Int), (v : Int))] = 0 := by
      rw [List.count_eq_zero]
      intro hm
      have := List.mem_singleton.1 hm
      injection this with e1 e2
      apply e
      rw [show a = u by omega, show b = v by omega]
    rw [this]
    simp
theorem CRow.nil (n : Nat) : CRow n (madeCells #[.int .i64 0] (n * n)) [] := fun a b ha hb => by
  have := line_lt ha hb
  simp [madeCells, this, Nat.mod_one]
  rfl

theorem TriP.at {ps : List (Int × Int)} {t : Int × Int × Int} (h : TriP ps t) {i : Nat} (hi : i < 3) : 0 ≤ tcs t i ∧ tcs t i < ps.length := by
  obtain ⟨h1, h2, h3, -⟩ := h
  rcases (by omega : i = 0 ∨ i = 1 ∨ i = 2) with rfl | rfl | rfl
  · exact h1
  · exact h2
  · exact h3

/-- What is asked of one pair of positions. -/
def PairP (n : Nat) (S : List (Int × Int)) (a b : Nat) : Prop := (b = (a + 1) % n → cntI S a b = 1 ∧ cntI S b a = 0) ∧ (b ≠ (a + 1) % n → a ≠ (b + 1) % n → cntI S a b = cntI S b a)

set_option maxRecDepth 100000 in
set_option maxHeartbeats 8000000 in
theorem rCovers_any (A : Option Addr) (n c : Nat) (ps : List (Int × Int)) (B : Option Addr) (n' c' : Nat) (ts : List (Int × Int × Int)) (w : World) (hn : ps.length = n) (h3 : 3 ≤ n) (hl : n ≤ 512) (hp : Pts w A ps) (hv : Cos ps) (hn' : ts.length = n') (hl' : n' ≤ 281474976710656) (ht : Tris w B ts) :
    Calls Try.prog 15 #[.slice A n c, .slice B n' c'] w (BoolPost (CovP ps ts) w) := by
  have HN := Lib.hid hn
  have HN' := Lib.hid hn'
  have HP := Lib.hid hp
  have HT := Lib.hid ht
  have HV := Lib.hid hv
  have HD := Lib.hid (fun W (hW : Gr w W) => rArea_any A n c ps W hn (by omega) (hp.keep hW) hv)
  clear hn hn' hp ht hv
  by_cases hlen : n' + 2 = n
  · have hne : ((n' : Int) != (n : Int) - 2) = false := by simp; omega
    have hsq : n * n ≤ 262144 := Nat.mul_le_mul hl hl
    obtain ⟨N, hN⟩ : ∃ N, n * n = N := ⟨_, rfl⟩
    have hmk := fun w => mk_counts N (by omega) w
    have hnn : (n : Int) * (n : Int) = (N : Int) := by rw [← hN]; push_cast; rfl
    have HNN := Lib.hid hN
    rw [hN] at hsq
    clear hN
    go_enter Try.func15, Try.ntmps15
    go_wp2_with fail
    refine (HD.out _ (by (repeat (first | exact Gr.refl _ | assumption | (refine Gr.drew ?_) | (refine Gr.drewN ?_ _) | (refine Gr.alloc ?_ _) | (refine Gr.trans ?_ (by assumption)))))).mono ?_
    rintro e w1 ⟨rfl, hg1⟩
    go_wp2_with fail
    refine (rSign_any _ _).mono ?_
    rintro e w2 ⟨rfl, rfl⟩
    obtain ⟨way, hway⟩ : ∃ way, sgn (areaL ps) = way := ⟨_, rfl⟩
    rw [hway]
    have HWAY := Lib.hid hway
    clear hway HD
    go_wp2_with fail
    generalize hW : World.alloc w1 _ = w2
    have hB0 : Blk w2 w1.heap.size 3 (madeCells #[.int .i64 0] N) := by rw [← hW]; exact heap_alloc_new w1 _
    have hg2 : Gr w w2 := by rw [← hW]; exact hg1.alloc _
    have hMg := hg1.size
    generalize w1.heap.size = M at hB0 hMg ⊢
    have hR0 : CRow n (madeCells #[.int .i64 0] N) [] := by rw [← HNN.out]; exact CRow.nil n
    have hs0 : (madeCells #[.int .i64 0] N).size = N := by rw [size_madeCells]
    generalize madeCells #[.int .i64 0] N = cs0 at hB0 hR0 hs0
    have HB0 := Lib.hid hB0
    have HR0 := Lib.hid hR0
    have HS0 := Lib.hid hs0
    clear hW hB0 hmk hR0 hs0
    go_loopw [8] (fun i wr => ∃ (k : Nat) (cs : Array Value), k ≤ n' ∧ i = .int .i64 k ∧ Hid (Blk wr M 3 cs) ∧ Hid (cs.size = N) ∧ Hid (CRow n cs (sidesL (ts.take k))) ∧ Hid (∀ t ∈ ts.take k, TriP ps t) ∧ Gr w wr) (fun i _ => n' - (intOf i).toNat)
    case atStart => exact ⟨0, cs0, by omega, rfl, HB0, HS0, HR0, Lib.hid (fun t h => by cases h), hg2⟩
    case round =>
      obtain ⟨k, cs, hk, rfl, hm, hsz, hc, htr, hgr⟩ := hrel
      clear HB0 HS0 HR0 hg2
      by_cases hlt : k < n'
      · obtain ⟨bt, ot, rfl, t0, t1, t2⟩ := Tris_at (HT.out.keep hgr) (i := k) (by rw [HN'.out]; exact hlt)
        obtain ⟨tt, htt⟩ : ∃ t, ts.getD k (0, 0, 0) = t := ⟨_, rfl⟩
        have HT3 : Hid (∀ i, i < 3 → wr.cell? ⟨bt, ot + k * 3 + i, none⟩ = some (.int .i64 (tcs tt i))) := Lib.hid (fun i hi => by
          subst htt
          rcases (by omega : i = 0 ∨ i = 1 ∨ i = 2) with rfl | rfl | rfl
          · exact t0
          · exact t1
          · exact t2)
        have HX := Lib.hid htt
        have HT4 : Hid (∀ W, Gr w W → ∀ i, i < 3 → W.cell? ⟨bt, ot + k * 3 + i, none⟩ = some (.int .i64 (tcs tt i))) := Lib.hid (fun W hW i hi => by
          obtain ⟨_, _, e1, s0, s1, s2⟩ := Tris_at (HT.out.keep hW) (i := k) (by rw [HN'.out]; exact hlt)
          cases e1
          subst htt
          rcases (by omega : i = 0 ∨ i = 1 ∨ i = 2) with rfl | rfl | rfl
          · exact s0
          · exact s1
          · exact s2)
        clear htt t0 t1 t2
        have hltI : (k : Int) < (n' : Int) := by omega
        go_wp2_with fail
        go_loopw [9] (fun i wx => ∃ j : Nat, j ≤ 3 ∧ i = .int .i64 j ∧ Hid (∀ i, i < j → 0 ≤ tcs tt i ∧ tcs tt i < n) ∧ wr = wx) (fun i _ => 3 - (intOf i).toNat)
        case atStart => exact ⟨0, by omega, rfl, Lib.hid (fun i h => by omega), rfl⟩
        case round =>
          obtain ⟨j, hj, rfl, hin, rfl⟩ := hrel
          by_cases hj3 : j < 3
          · have c0 := HT3.out j hj3
            obtain ⟨x, hx⟩ : ∃ x, tcs tt j = x := ⟨_, rfl⟩
            rw [hx] at c0
            have HXX := Lib.hid hx
            clear hx
            have hji : (j : Int) < 3 := by omega
            by_cases hr : 0 ≤ x ∧ x < n
            · have d0 : decide (x < 0) = false := by simp; omega
              have d1 : decide ((n : Int) ≤ x) = false := by simp; omega
              go_wp2_with fail
              go_roundw
              case rel => exact ⟨j + 1, by omega, by go_num, Lib.hid (fun i hi => by
                rcases Nat.lt_succ_iff_lt_or_eq.1 hi with h | rfl
                · exact hin.out i h
                · rw [HXX.out]; exact hr), by trivial⟩
              case measure => simp [intOf]; omega
            · go_wp2_with fail
              all_goals
                go_ret
                refine ⟨false, rfl, ⟨fun h => absurd h (by decide), fun h => ?_⟩, hgr⟩
                have h1 := h.2.1 tt (by rw [← HX.out]; exact List.mem_of_getElem? (getD_of _ (by rw [HN'.out]; exact hlt)))
                have h2 := TriP.at h1 hj3
                rw [HN.out, HXX.out] at h2
                exact absurd h2 hr
          · obtain rfl : j = 3 := by omega
            have hj3' : ¬ (((3 : Nat) : Int) < 3) := by omega
            have c0 := HT3.out 0 (by omega)
            have c1 := HT3.out 1 (by omega)
            have c2 := HT3.out 2 (by omega)
            have hx := hin.out 0 (by omega)
            have hy := hin.out 1 (by omega)
            have hz := hin.out 2 (by omega)
            obtain ⟨x, ex⟩ : ∃ a : Nat, tcs tt 0 = a := ⟨(tcs tt 0).toNat, by omega⟩
            obtain ⟨y, ey⟩ : ∃ a : Nat, tcs tt 1 = a := ⟨(tcs tt 1).toNat, by omega⟩
            obtain ⟨z, ez⟩ : ∃ a : Nat, tcs tt 2 = a := ⟨(tcs tt 2).toNat, by omega⟩
            rw [ex] at c0 hx
            rw [ey] at c1 hy
            rw [ez] at c2 hz
            rw [Nat.add_zero] at c0
            have hx' : x < n := by omega
            have hy' : y < n := by omega
            have hz' : z < n := by omega
            obtain ⟨bp, op, rfl, x1c, x2c⟩ := Pts_at (HP.out.keep hgr) (k := x) (by rw [HN.out]; exact hx')
            obtain ⟨_, _, e1, y1c, y2c⟩ := Pts_at (HP.out.keep hgr) (k := y) (by rw [HN.out]; exact hy')
            cases e1
            obtain ⟨_, _, e1, z1c, z2c⟩ := Pts_at (HP.out.keep hgr) (k := z) (by rw [HN.out]; exact hz')
            cases e1
            have cx := HV.out x
            have cy := HV.out y
            have cz := HV.out z
            have HTR : Hid (TriP ps tt ↔ sgn (crs (ps.getD x (0, 0)).1 (ps.getD x (0, 0)).2 (ps.getD y (0, 0)).1 (ps.getD y (0, 0)).2 (ps.getD z (0, 0)).1 (ps.getD z (0, 0)).2) = way) := Lib.hid (by
              unfold TriP
              rw [HWAY.out, HN.out, show tt.1 = (x : Int) from ex, show tt.2.1 = (y : Int) from ey, show tt.2.2 = (z : Int) from ez]
              exact ⟨fun h => h.2.2.2, fun h => ⟨hx, hy, hz, h⟩⟩)
            generalize (ps.getD x (0, 0)).1 = x1 at x1c cx HTR
            generalize (ps.getD x (0, 0)).2 = x2 at x2c cx HTR
            generalize (ps.getD y (0, 0)).1 = y1 at y1c cy HTR
            generalize (ps.getD y (0, 0)).2 = y2 at y2c cy HTR
            generalize (ps.getD z (0, 0)).1 = z1 at z1c cz HTR
            generalize (ps.getD z (0, 0)).2 = z2 at z2c cz HTR
            have HTN := Lib.hid (fun W => rTurn_any x1 x2 y1 y2 z1 z2 W cx.1 cx.2 cy.1 cy.2 cz.1 cz.2)
            generalize sgn (crs x1 x2 y1 y2 z1 z2) = tn at HTR HTN
            have HIN := hin
            clear hin cx cy cz ex ey ez
            have hxI : (x : Int) < (n : Int) := by omega
            have hyI : (y : Int) < (n : Int) := by omega
            have hzI : (z : Int) < (n : Int) := by omega
            go_upto_region 14 with fail
            by_cases htw : tn = way
            · have htb : (tn != way) = false := by simpa using htw
              have HTW := Lib.hid htw
              clear htw
              refine wp_region_held_drew (S := (fun W' => Gr wr W' ∧ W'.cell? ⟨bt, ot + k * 3, none⟩ = some (.int .i64 x) ∧ W'.cell? ⟨bt, ot + k * 3 + 1, none⟩ = some (.int .i64 y) ∧ W'.cell? ⟨bt, ot + k * 3 + 2, none⟩ = some (.int .i64 z) ∧ W'.cell? ⟨bp, op + x * 2, none⟩ = some (.int .i64 x1) ∧ W'.cell? ⟨bp, op + x * 2 + 1, none⟩ = some (.int .i64 x2) ∧ W'.cell? ⟨bp, op + y * 2, none⟩ = some (.int .i64 y1) ∧ W'.cell? ⟨bp, op + y * 2 + 1, none⟩ = some (.int .i64 y2) ∧ W'.cell? ⟨bp, op + z * 2, none⟩ = some (.int .i64 z1) ∧ W'.cell? ⟨bp, op + z * 2 + 1, none⟩ = some (.int .i64 z2))) ?_ ?_ (fun hHeld => ?_)
              · kernel_rfl
              · ((try dsimp only); ((try go_split_ands); (repeat' apply And.intro) <;> (repeat (first | assumption | (exact Gr.refl _) | (refine Gr.drew ?_) | (refine Gr.alloc ?_ _) | (refine alloc_old ?_) | (refine Gr.keep (by assumption) ?_) | (refine Gr.trans ?_ (by assumption))))))
              refine take_in (i := 0) (v := ?_) (d := (some 55)) rfl rfl ?_ ?_ ?_ ?_ ?_ ?_ ?_ ?_
              rotate_left
              · kernel_rfl
              · kernel_rfl
              · kernel_rfl
              · (intro _ _ _ hq; exact hq)
              · rfl
              · (intro _w hSw; (try dsimp only at hSw); go_simp; try with_reducible rfl)
              · assumption
              try simp only [Act.put, List.setIfInBounds_toArray, List.set_cons_zero, List.set_cons_succ]
              refine take_in (i := 1) (v := ?_) (d := (some 56)) rfl rfl ?_ ?_ ?_ ?_ ?_ ?_ ?_ ?_
              rotate_left
              · kernel_rfl
              · kernel_rfl
              · kernel_rfl
              · (intro _ _ _ hq; exact hq)
              · rfl
              · (intro _w hSw; (try dsimp only at hSw); go_simp; try with_reducible rfl)
              · assumption
              try simp only [Act.put, List.setIfInBounds_toArray, List.set_cons_zero, List.set_cons_succ]
              refine take_in (i := 2) (v := ?_) (d := (some 57)) rfl rfl ?_ ?_ ?_ ?_ ?_ ?_ ?_ ?_
              rotate_left
              · kernel_rfl
              · kernel_rfl
              · kernel_rfl
              · (intro _ _ _ hq; exact hq)
              · rfl
              · (intro _w hSw; (try dsimp only at hSw); go_simp; try with_reducible rfl)
              · assumption
              try simp only [Act.put, List.setIfInBounds_toArray, List.set_cons_zero, List.set_cons_succ]
              refine take_in (i := 3) (v := ?_) (d := (some 58)) rfl rfl ?_ ?_ ?_ ?_ ?_ ?_ ?_ ?_
              rotate_left
              · kernel_rfl
              · kernel_rfl
              · kernel_rfl
              · (intro _ _ _ hq; exact hq)
              · rfl
              · (intro _w hSw; (try dsimp only at hSw); go_simp; try with_reducible rfl)
              · assumption
              try simp only [Act.put, List.setIfInBounds_toArray, List.set_cons_zero, List.set_cons_succ]
              refine take_in (i := 4) (v := ?_) (d := (some 59)) rfl rfl ?_ ?_ ?_ ?_ ?_ ?_ ?_ ?_
              rotate_left
              · kernel_rfl
              · kernel_rfl
              · kernel_rfl
              · (intro _ _ _ hq; exact hq)
              · rfl
              · (intro _w hSw; (try dsimp only at hSw); go_simp; try with_reducible rfl)
              · assumption
              try simp only [Act.put, List.setIfInBounds_toArray, List.set_cons_zero, List.set_cons_succ]
              refine take_in (i := 5) (v := ?_) (d := (some 60)) rfl rfl ?_ ?_ ?_ ?_ ?_ ?_ ?_ ?_
              rotate_left
              · kernel_rfl
              · kernel_rfl
              · kernel_rfl
              · (intro _ _ _ hq; exact hq)
              · rfl
              · (intro _w hSw; (try dsimp only at hSw); go_simp; try with_reducible rfl)
              · assumption
              try simp only [Act.put, List.setIfInBounds_toArray, List.set_cons_zero, List.set_cons_succ]
              refine take_in (i := 6) (v := ?_) (d := (some 61)) rfl rfl ?_ ?_ ?_ ?_ ?_ ?_ ?_ ?_
              rotate_left
              · kernel_rfl
              · kernel_rfl
              · kernel_rfl
              · (intro _ _ _ hq; exact hq)
              · rfl
              · (intro _w hSw; (try dsimp only at hSw); go_simp; try with_reducible rfl)
              · assumption
              try simp only [Act.put, List.setIfInBounds_toArray, List.set_cons_zero, List.set_cons_succ]
              refine take_in (i := 7) (v := ?_) (d := (some 62)) rfl rfl ?_ ?_ ?_ ?_ ?_ ?_ ?_ ?_
              rotate_left
              · kernel_rfl
              · kernel_rfl
              · kernel_rfl
              · (intro _ _ _ hq; exact hq)
              · rfl
              · (intro _w hSw; (try dsimp only at hSw); go_simp; try with_reducible rfl)
              · assumption
              try simp only [Act.put, List.setIfInBounds_toArray, List.set_cons_zero, List.set_cons_succ]
              refine take_in (i := 8) (v := ?_) (d := (some 63)) rfl rfl ?_ ?_ ?_ ?_ ?_ ?_ ?_ ?_
              rotate_left
              · kernel_rfl
              · kernel_rfl
              · kernel_rfl
              · (intro _ _ _ hq; exact hq)
              · rfl
              · (intro _w hSw; (try dsimp only at hSw); go_simp; try with_reducible rfl)
              · assumption
              try simp only [Act.put, List.setIfInBounds_toArray, List.set_cons_zero, List.set_cons_succ]
              refine take_in (i := 9) (v := ?_) (d := (some 64)) rfl rfl ?_ ?_ ?_ ?_ ?_ ?_ ?_ ?_
              rotate_left
              · kernel_rfl
              · kernel_rfl
              · kernel_rfl
              · (intro _ _ _ hq; exact hq)
              · rfl
              · (intro _w hSw; (try dsimp only at hSw); go_simp; try with_reducible rfl)
              · assumption
              try simp only [Act.put, List.setIfInBounds_toArray, List.set_cons_zero, List.set_cons_succ]
              refine take_in (i := 10) (v := ?_) (d := (some 65)) rfl rfl ?_ ?_ ?_ ?_ ?_ ?_ ?_ ?_
              rotate_left
              · kernel_rfl
              · kernel_rfl
              · kernel_rfl
              · (intro _ _ _ hq; exact hq)
              · rfl
              · (intro _w hSw; (try dsimp only at hSw); go_simp; try with_reducible rfl)
              · assumption
              try simp only [Act.put, List.setIfInBounds_toArray, List.set_cons_zero, List.set_cons_succ]
              refine take_in (i := 11) (v := ?_) (d := (some 66)) rfl rfl ?_ ?_ ?_ ?_ ?_ ?_ ?_ ?_
              rotate_left
              · kernel_rfl
              · kernel_rfl
              · kernel_rfl
              · (intro _ _ _ hq; exact hq)
              · rfl
              · (intro _w hSw; (try dsimp only at hSw); go_simp; try with_reducible rfl)
              · assumption
              try simp only [Act.put, List.setIfInBounds_toArray, List.set_cons_zero, List.set_cons_succ]
              refine take_in (i := 12) (v := ?_) (d := (some 67)) rfl rfl ?_ ?_ ?_ ?_ ?_ ?_ ?_ ?_
              rotate_left
              · kernel_rfl
              · kernel_rfl
              · kernel_rfl
              · (intro _ _ _ hq; exact hq)
              · rfl
              · (intro _w hSw; (try dsimp only at hSw); go_simp; try with_reducible rfl)
              · assumption
              try simp only [Act.put, List.setIfInBounds_toArray, List.set_cons_zero, List.set_cons_succ]
              refine take_in (i := 13) (v := ?_) (d := (some 68)) rfl rfl ?_ ?_ ?_ ?_ ?_ ?_ ?_ ?_
              rotate_left
              · kernel_rfl
              · kernel_rfl
              · kernel_rfl
              · (intro _ _ _ hq; exact hq)
              · rfl
              · (intro _w hSw; (try dsimp only at hSw); go_simp; try with_reducible rfl)
              · assumption
              try simp only [Act.put, List.setIfInBounds_toArray, List.set_cons_zero, List.set_cons_succ]
              refine take_in (i := 14) (v := ?_) (d := (some 69)) rfl rfl ?_ ?_ ?_ ?_ ?_ ?_ ?_ ?_
              rotate_left
              · kernel_rfl
              · kernel_rfl
              · kernel_rfl
              · (intro _ _ _ hq; exact hq)
              · rfl
              · (intro _w hSw; (try dsimp only at hSw); go_simp; try with_reducible rfl)
              · assumption
              try simp only [Act.put, List.setIfInBounds_toArray, List.set_cons_zero, List.set_cons_succ]
              refine take_in (i := 15) (v := ?_) (d := (some 70)) rfl rfl ?_ ?_ ?_ ?_ ?_ ?_ ?_ ?_
              rotate_left
              · kernel_rfl
              · kernel_rfl
              · kernel_rfl
              · (intro _ _ _ hq; exact hq)
              · rfl
              · (intro _w hSw; (try dsimp only at hSw); go_simp; try with_reducible rfl)
              · assumption
              try simp only [Act.put, List.setIfInBounds_toArray, List.set_cons_zero, List.set_cons_succ]
              refine take_in (i := 16) (v := ?_) (d := (some 71)) rfl rfl ?_ ?_ ?_ ?_ ?_ ?_ ?_ ?_
              rotate_left
              · kernel_rfl
              · kernel_rfl
              · kernel_rfl
              · (intro _ _ _ hq; exact hq)
              · rfl
              · (intro _w hSw; (try dsimp only at hSw); go_simp; try with_reducible rfl)
              · assumption
              try simp only [Act.put, List.setIfInBounds_toArray, List.set_cons_zero, List.set_cons_succ]
              refine take_in (i := 17) (v := ?_) (d := (some 72)) rfl rfl ?_ ?_ ?_ ?_ ?_ ?_ ?_ ?_
              rotate_left
              · kernel_rfl
              · kernel_rfl
              · kernel_rfl
              · (intro _ _ _ hq; exact hq)
              · rfl
              · (intro _w hSw; (try dsimp only at hSw); go_simp; try with_reducible rfl)
              · assumption
              try simp only [Act.put, List.setIfInBounds_toArray, List.set_cons_zero, List.set_cons_succ]
              refine take_in (i := 18) (v := ?_) (d := (some 73)) rfl rfl ?_ ?_ ?_ ?_ ?_ ?_ ?_ ?_
              rotate_left
              · kernel_rfl
              · kernel_rfl
              · kernel_rfl
              · (intro _ _ _ hq; exact hq)
              · rfl
              · (intro _w hSw; (try dsimp only at hSw); go_simp; try with_reducible rfl)
              · assumption
              try simp only [Act.put, List.setIfInBounds_toArray, List.set_cons_zero, List.set_cons_succ]
              refine take_in (i := 19) (v := ?_) (d := (some 74)) rfl rfl ?_ ?_ ?_ ?_ ?_ ?_ ?_ ?_
              rotate_left
              · kernel_rfl
              · kernel_rfl
              · kernel_rfl
              · (intro _ _ _ hq; exact hq)
              · rfl
              · (intro _w hSw; (try dsimp only at hSw); go_simp; try with_reducible rfl)
              · assumption
              try simp only [Act.put, List.setIfInBounds_toArray, List.set_cons_zero, List.set_cons_succ]
              refine take_in (i := 20) (v := ?_) (d := (some 75)) rfl rfl ?_ ?_ ?_ ?_ ?_ ?_ ?_ ?_
              rotate_left
              · kernel_rfl
              · kernel_rfl
              · kernel_rfl
              · (intro _ _ _ hq; exact hq)
              · rfl
              · (intro _w hSw; (try dsimp only at hSw); go_simp; try with_reducible rfl)
              · assumption
              try simp only [Act.put, List.setIfInBounds_toArray, List.set_cons_zero, List.set_cons_succ]
              refine take_in (i := 21) (v := ?_) (d := (some 76)) rfl rfl ?_ ?_ ?_ ?_ ?_ ?_ ?_ ?_
              rotate_left
              · kernel_rfl
              · kernel_rfl
              · kernel_rfl
              · (intro _ _ _ hq; exact hq)
              · rfl
              · (intro _w hSw; (try dsimp only at hSw); go_simp; try with_reducible rfl)
              · assumption
              try simp only [Act.put, List.setIfInBounds_toArray, List.set_cons_zero, List.set_cons_succ]
              refine take_in (i := 22) (v := ?_) (d := (some 77)) rfl rfl ?_ ?_ ?_ ?_ ?_ ?_ ?_ ?_
              rotate_left
              · kernel_rfl
              · kernel_rfl
              · kernel_rfl
              · (intro _ _ _ hq; exact hq)
              · rfl
              · (intro _w hSw; (try dsimp only at hSw); go_simp; try with_reducible rfl)
              · assumption
              try simp only [Act.put, List.setIfInBounds_toArray, List.set_cons_zero, List.set_cons_succ]
              refine take_in (i := 23) (v := ?_) (d := (some 78)) rfl rfl ?_ ?_ ?_ ?_ ?_ ?_ ?_ ?_
              rotate_left
              · kernel_rfl
              · kernel_rfl
              · kernel_rfl
              · (intro _ _ _ hq; exact hq)
              · rfl
              · (intro _w hSw; (try dsimp only at hSw); go_simp; try with_reducible rfl)
              · assumption
              try simp only [Act.put, List.setIfInBounds_toArray, List.set_cons_zero, List.set_cons_succ]
              refine take_in (i := 25) (v := ?_) (d := (some 80)) rfl rfl ?_ ?_ ?_ ?_ ?_ ?_ ?_ ?_
              rotate_left
              · kernel_rfl
              · kernel_rfl
              · kernel_rfl
              · (intro _ _ _ hq; exact hq)
              · rfl
              · (intro _w hSw; (try dsimp only at hSw); go_simp; try with_reducible rfl)
              · assumption
              try simp only [Act.put, List.setIfInBounds_toArray, List.set_cons_zero, List.set_cons_succ]
              refine wpAnyH_ready (rs := [24]) ?_ ?_ ?_
              · kernel_rfl
              · simp
              refine (AllReadyH.cons rfl (fun K hK => ?_) AllReadyH.nil)
              go_simp
              first | (go_at_call 34; (with_reducible refine (HTN.out _).mono ?_); rintro e w3 ⟨rfl, hb3⟩)
              refine hK.out _ _ ?_ (fun hHeld => ?_)
              · ((try dsimp only); ((try go_split_ands); (repeat' apply And.intro) <;> (repeat (first | assumption | (exact Gr.refl _) | (refine Gr.drew ?_) | (refine Gr.alloc ?_ _) | (refine alloc_old ?_) | (refine Gr.keep (by assumption) ?_) | (refine Gr.trans ?_ (by assumption))))))
              clear hK K
              try simp only [Act.put, List.setIfInBounds_toArray, List.set_cons_zero, List.set_cons_succ]
              refine take_in (i := 26) (v := ?_) (d := (some 81)) rfl rfl ?_ ?_ ?_ ?_ ?_ ?_ ?_ ?_
              rotate_left
              · kernel_rfl
              · kernel_rfl
              · kernel_rfl
              · (intro _ _ _ hq; exact hq)
              · rfl
              · (intro _w hSw; (try dsimp only at hSw); go_simp; try with_reducible rfl)
              · assumption
              try simp only [Act.put, List.setIfInBounds_toArray, List.set_cons_zero, List.set_cons_succ]
              refine wpAnyH_done ?_ ?_ _
              · kernel_rfl
              rotate_left
              all_goals
                obtain ⟨hB, -⟩ := hHeld
                have hgr3 := hgr.trans hB
                have hm3 := Lib.hid (hm.out.keep hB)
                clear c0 c1 c2 x1c x2c y1c y2c z1c z2c htb HTN hx hy hz hx' hy' hz' hxI hyI hzI hB hm hgr HT3 hj3'
                go_wp2_with fail
                go_loopw [10] (fun i wx => ∃ (j : Nat) (cs2 : Array Value), j ≤ 3 ∧ i = .int .i64 j ∧ Hid (Blk wx M 3 cs2) ∧ Hid (cs2.size = N) ∧ Hid (CRow n cs2 (sidesL (ts.take k) ++ (side3 tt).take j)) ∧ Gr w wx) (fun i _ => 3 - (intOf i).toNat)
                case atStart => exact ⟨0, cs, by omega, rfl, hm3, hsz, Lib.hid (by rw [List.take_zero, List.append_nil]; exact hc.out), hgr3⟩
                case round =>
                  obtain ⟨j, cs2, hj, rfl, hm2, hsz2, hc2, hgr2⟩ := hrel
                  clear hm3 hgr3 hsz hc
                  by_cases hj3 : j < 3
                  · obtain ⟨m, hmm⟩ : ∃ m, (j + 1) % 3 = m := ⟨_, rfl⟩
                    have hm3 : m < 3 := by omega
                    have HNX := Lib.hid (fun W => (show Calls Try.prog 33 #[.int .i64 (j : Int), .int .i64 3] W _ from next_is j 3 m W hmm hj3 (by omega)))
                    have c0 := HT4.out _ hgr2 j hj3
                    have c1 := HT4.out _ hgr2 m hm3
                    have hu := HIN.out j hj3
                    have hv := HIN.out m hm3
                    have HTK : Hid ((side3 tt).take (j + 1) = (side3 tt).take j ++ [(tcs tt j, tcs tt m)]) := Lib.hid (by rw [side3_take tt hj3, hmm])
                    obtain ⟨a, ha⟩ : ∃ a : Nat, tcs tt j = a := ⟨(tcs tt j).toNat, by omega⟩
                    obtain ⟨b, hb⟩ : ∃ b : Nat, tcs tt m = b := ⟨(tcs tt m).toNat, by omega⟩
                    rw [ha] at c0 hu HTK
                    rw [hb] at c1 hv HTK
                    have hua : a < n := by omega
                    have hvb : b < n := by omega
                    have hline := line_lt hua hvb
                    rw [HNN.out] at hline
                    obtain ⟨q, hq⟩ : ∃ q, a * n = q := ⟨_, rfl⟩
                    rw [hq] at hline
                    obtain ⟨p, hp⟩ : ∃ p, q + b = p := ⟨_, rfl⟩
                    have e1 : (a : Int) * (n : Int) = (q : Int) := by rw [← hq]; push_cast; rfl
                    have e2 : (q : Int) + (b : Int) = (p : Int) := by omega
                    rw [hp] at hline
                    have w1' : IntKind.i64.wrap (q : Int) = (q : Int) := IntWalk.i64_in _ (by omega)
                    have w2' : IntKind.i64.wrap (p : Int) = (p : Int) := IntWalk.i64_in _ (by omega)
                    have hcell := hc2.out a b hua hvb
                    rw [hq, hp] at hcell
                    have hbd := cntI_bd (sidesL (ts.take k) ++ (side3 tt).take j) a b
                    have hlb := side_bd (t := tt) HN'.out hl (by omega : k ≤ n') hlen j
                    have HST := Lib.hid (hc2.out.step (by rw [hsz2.out, HNN.out]) hua hvb)
                    rw [hq, hp] at HST
                    generalize cntI (sidesL (ts.take k) ++ (side3 tt).take j) a b = old at hcell hbd HST
                    have HST2 : Hid (CRow n (cs2.setIfInBounds p (.int .i64 (old + 1))) (sidesL (ts.take k) ++ (side3 tt).take (j + 1))) := Lib.hid (by rw [HTK.out, ← List.append_assoc]; exact HST.out)
                    have HPQ := Lib.hid (And.intro hq hp)
                    clear HST hmm hu hv ha hb HTK hq hp
                    have hji : (j : Int) < 3 := by omega
                    have hmi : (m : Int) < 3 := by omega
                    go_upto_region 19 with fail
                    refine wp_region_held_drew (S := (fun W' => Gr wr W' ∧ W'.cell? ⟨bt, ot + k * 3 + j, none⟩ = some (.int .i64 (a : Int)) ∧ W'.cell? ⟨bt, ot + k * 3 + m, none⟩ = some (.int .i64 (b : Int)))) ?_ ?_ (fun hHeld => ?_)
                    · kernel_rfl
                    · ((try dsimp only); ((try go_split_ands); (repeat' apply And.intro) <;> (repeat (first | assumption | (exact Gr.refl _) | (refine Gr.drew ?_) | (refine Gr.alloc ?_ _) | (refine alloc_old ?_) | (refine Gr.keep (by assumption) ?_) | (refine Gr.trans ?_ (by assumption))))))
                    refine take_in (i := 0) (v := ?_) (d := (some 86)) rfl rfl ?_ ?_ ?_ ?_ ?_ ?_ ?_ ?_
                    rotate_left
                    · kernel_rfl
                    · kernel_rfl
                    · kernel_rfl
                    · (intro _ _ _ hq; exact hq)
                    · rfl
                    · (intro _w hSw; (try dsimp only at hSw); go_simp; try with_reducible rfl)
                    · assumption
                    try simp only [Act.put, List.setIfInBounds_toArray, List.set_cons_zero, List.set_cons_succ]
                    refine take_in (i := 1) (v := ?_) (d := (some 87)) rfl rfl ?_ ?_ ?_ ?_ ?_ ?_ ?_ ?_
                    rotate_left
                    · kernel_rfl
                    · kernel_rfl
                    · kernel_rfl
                    · (intro _ _ _ hq; exact hq)
                    · rfl
                    · (intro _w hSw; (try dsimp only at hSw); go_simp; try with_reducible rfl)
                    · assumption
                    try simp only [Act.put, List.setIfInBounds_toArray, List.set_cons_zero, List.set_cons_succ]
                    refine take_in (i := 2) (v := ?_) (d := (some 88)) rfl rfl ?_ ?_ ?_ ?_ ?_ ?_ ?_ ?_
                    rotate_left
                    · kernel_rfl
                    · kernel_rfl
                    · kernel_rfl
                    · (intro _ _ _ hq; exact hq)
                    · rfl
                    · (intro _w hSw; (try dsimp only at hSw); go_simp; try with_reducible rfl)
                    · assumption
                    try simp only [Act.put, List.setIfInBounds_toArray, List.set_cons_zero, List.set_cons_succ]
                    refine take_in (i := 3) (v := ?_) (d := (some 89)) rfl rfl ?_ ?_ ?_ ?_ ?_ ?_ ?_ ?_
                    rotate_left
                    · kernel_rfl
                    · kernel_rfl
                    · kernel_rfl
                    · (intro _ _ _ hq; exact hq)
                    · rfl
                    · (intro _w hSw; (try dsimp only at hSw); go_simp; try with_reducible rfl)
                    · assumption
                    try simp only [Act.put, List.setIfInBounds_toArray, List.set_cons_zero, List.set_cons_succ]
                    refine take_in (i := 4) (v := ?_) (d := (some 90)) rfl rfl ?_ ?_ ?_ ?_ ?_ ?_ ?_ ?_
                    rotate_left
                    · kernel_rfl
                    · kernel_rfl
                    · kernel_rfl
                    · (intro _ _ _ hq; exact hq)
                    · rfl
                    · (intro _w hSw; (try dsimp only at hSw); go_simp; try with_reducible rfl)
                    · assumption
                    try simp only [Act.put, List.setIfInBounds_toArray, List.set_cons_zero, List.set_cons_succ]
                    refine take_in (i := 5) (v := ?_) (d := (some 91)) rfl rfl ?_ ?_ ?_ ?_ ?_ ?_ ?_ ?_
                    rotate_left
                    · kernel_rfl
                    · kernel_rfl
                    · kernel_rfl
                    · (intro _ _ _ hq; exact hq)
                    · rfl
                    · (intro _w hSw; (try dsimp only at hSw); go_simp; try with_reducible rfl)
                    · assumption
                    try simp only [Act.put, List.setIfInBounds_toArray, List.set_cons_zero, List.set_cons_succ]
                    refine take_in (i := 6) (v := ?_) (d := (some 92)) rfl rfl ?_ ?_ ?_ ?_ ?_ ?_ ?_ ?_
                    rotate_left
                    · kernel_rfl
                    · kernel_rfl
                    · kernel_rfl
                    · (intro _ _ _ hq; exact hq)
                    · rfl
                    · (intro _w hSw; (try dsimp only at hSw); go_simp; try with_reducible rfl)
                    · assumption
                    try simp only [Act.put, List.setIfInBounds_toArray, List.set_cons_zero, List.set_cons_succ]
                    refine take_in (i := 7) (v := ?_) (d := (some 93)) rfl rfl ?_ ?_ ?_ ?_ ?_ ?_ ?_ ?_
                    rotate_left
                    · kernel_rfl
                    · kernel_rfl
                    · kernel_rfl
                    · (intro _ _ _ hq; exact hq)
                    · rfl
                    · (intro _w hSw; (try dsimp only at hSw); go_simp; try with_reducible rfl)
                    · assumption
                    try simp only [Act.put, List.setIfInBounds_toArray, List.set_cons_zero, List.set_cons_succ]
                    refine take_in (i := 8) (v := ?_) (d := (some 94)) rfl rfl ?_ ?_ ?_ ?_ ?_ ?_ ?_ ?_
                    rotate_left
                    · kernel_rfl
                    · kernel_rfl
                    · kernel_rfl
                    · (intro _ _ _ hq; exact hq)
                    · rfl
                    · (intro _w hSw; (try dsimp only at hSw); go_simp; try with_reducible rfl)
                    · assumption
                    try simp only [Act.put, List.setIfInBounds_toArray, List.set_cons_zero, List.set_cons_succ]
                    refine take_in (i := 9) (v := ?_) (d := (some 95)) rfl rfl ?_ ?_ ?_ ?_ ?_ ?_ ?_ ?_
                    rotate_left
                    · kernel_rfl
                    · kernel_rfl
                    · kernel_rfl
                    · (intro _ _ _ hq; exact hq)
                    · rfl
                    · (intro _w hSw; (try dsimp only at hSw); go_simp; try with_reducible rfl)
                    · assumption
                    try simp only [Act.put, List.setIfInBounds_toArray, List.set_cons_zero, List.set_cons_succ]
                    refine take_in (i := 10) (v := ?_) (d := (some 96)) rfl rfl ?_ ?_ ?_ ?_ ?_ ?_ ?_ ?_
                    rotate_left
                    · kernel_rfl
                    · kernel_rfl
                    · kernel_rfl
                    · (intro _ _ _ hq; exact hq)
                    · rfl
                    · (intro _w hSw; (try dsimp only at hSw); go_simp; try with_reducible rfl)
                    · assumption
                    try simp only [Act.put, List.setIfInBounds_toArray, List.set_cons_zero, List.set_cons_succ]
                    refine take_in (i := 12) (v := ?_) (d := (some 98)) rfl rfl ?_ ?_ ?_ ?_ ?_ ?_ ?_ ?_
                    rotate_left
                    · kernel_rfl
                    · kernel_rfl
                    · kernel_rfl
                    · (intro _ _ _ hq; exact hq)
                    · rfl
                    · (intro _w hSw; (try dsimp only at hSw); go_simp; try with_reducible rfl)
                    · assumption
                    try simp only [Act.put, List.setIfInBounds_toArray, List.set_cons_zero, List.set_cons_succ]
                    refine wpAnyH_ready (rs := [11]) ?_ ?_ ?_
                    · kernel_rfl
                    · simp
                    refine (AllReadyH.cons rfl (fun K hK => ?_) AllReadyH.nil)
                    go_simp
                    first | (go_at_call 33; (with_reducible refine (HNX.out _).mono ?_); rintro e w5 ⟨rfl, rfl⟩)
                    refine hK.out _ _ ?_ (fun hHeld => ?_)
                    · ((try dsimp only); ((try go_split_ands); (repeat' apply And.intro) <;> (repeat (first | assumption | (exact Gr.refl _) | (refine Gr.drew ?_) | (refine Gr.alloc ?_ _) | (refine alloc_old ?_) | (refine Gr.keep (by assumption) ?_) | (refine Gr.trans ?_ (by assumption))))))
                    clear hK K
                    try simp only [Act.put, List.setIfInBounds_toArray, List.set_cons_zero, List.set_cons_succ]
                    refine take_in (i := 13) (v := ?_) (d := (some 99)) rfl rfl ?_ ?_ ?_ ?_ ?_ ?_ ?_ ?_
                    rotate_left
                    · kernel_rfl
                    · kernel_rfl
                    · kernel_rfl
                    · (intro _ _ _ hq; exact hq)
                    · rfl
                    · (intro _w hSw; (try dsimp only at hSw); go_simp; try with_reducible rfl)
                    · assumption
                    try simp only [Act.put, List.setIfInBounds_toArray, List.set_cons_zero, List.set_cons_succ]
                    refine take_in (i := 14) (v := ?_) (d := (some 100)) rfl rfl ?_ ?_ ?_ ?_ ?_ ?_ ?_ ?_
                    rotate_left
                    · kernel_rfl
                    · kernel_rfl
                    · kernel_rfl
                    · (intro _ _ _ hq; exact hq)
                    · rfl
                    · (intro _w hSw; (try dsimp only at hSw); go_simp; try with_reducible rfl)
                    · assumption
                    try simp only [Act.put, List.setIfInBounds_toArray, List.set_cons_zero, List.set_cons_succ]
                    refine take_in (i := 15) (v := ?_) (d := (some 101)) rfl rfl ?_ ?_ ?_ ?_ ?_ ?_ ?_ ?_
                    rotate_left
                    · kernel_rfl
                    · kernel_rfl
                    · kernel_rfl
                    · (intro _ _ _ hq; exact hq)
                    · rfl
                    · (intro _w hSw; (try dsimp only at hSw); go_simp; try with_reducible rfl)
                    · assumption
                    try simp only [Act.put, List.setIfInBounds_toArray, List.set_cons_zero, List.set_cons_succ]
                    refine take_in (i := 16) (v := ?_) (d := (some 11)) rfl rfl ?_ ?_ ?_ ?_ ?_ ?_ ?_ ?_
                    rotate_left
                    · kernel_rfl
                    · kernel_rfl
                    · kernel_rfl
                    · (intro _ _ _ hq; exact hq)
                    · rfl
                    · (intro _w hSw; (try dsimp only at hSw); go_simp; try with_reducible rfl)
                    · assumption
                    try simp only [Act.put, List.setIfInBounds_toArray, List.set_cons_zero, List.set_cons_succ]
                    refine wpAnyH_done ?_ ?_ _
                    · kernel_rfl
                    rotate_left
                    all_goals
                      obtain ⟨hB, -⟩ := hHeld
                      have hb5 := hm2.out.keep hB
                      have hg5 := hgr2.trans hB
                      clear c0 c1 e1 e2 w1' w2' hB
                      generalize World.drew _ = w5 at hb5 hg5 ⊢
                      have d0 : w5.cell? ⟨M, p, none⟩ = some (.int .i64 old) := by rw [hb5.cell]; exact hcell
                      have d1 := hb5.free p
                      have hpi : (p : Int) < (N : Int) := by omega
                      have HP5 := Lib.hid (hb5.put p (.int .i64 (old + 1)))
                      have HG5 := Lib.hid (hg5.setCell (p := ⟨M, p, none⟩) hMg (.int .i64 (old + 1)))
                      go_wp2_with fail
                      go_roundw
                      case rel => exact ⟨j + 1, _, by omega, by go_num, HP5, Lib.hid (by rw [Array.size_setIfInBounds]; exact hsz2.out), HST2, HG5.out⟩
                      case measure => simp [intOf]; omega
                  · obtain rfl : j = 3 := by omega
                    have hj3' : ¬ (((3 : Nat) : Int) < 3) := by omega
                    go_wp2_with fail
                    go_roundw
                    case rel => exact ⟨k + 1, cs2, by omega, by go_num, hm2, hsz2, Lib.hid (by
                      have h := hc2.out
                      rw [show (side3 tt).take 3 = side3 tt from rfl] at h
                      rw [List.take_add_one, getD_of (0, 0, 0) (by rw [HN'.out]; exact hlt), HX.out, Option.toList_some, sidesL_snoc]
                      exact h), Lib.hid (fun t ht => by
                      rw [List.take_add_one, getD_of (0, 0, 0) (by rw [HN'.out]; exact hlt), HX.out, Option.toList_some] at ht
                      rcases List.mem_append.1 ht with h | h
                      · exact htr.out t h
                      · rw [List.mem_singleton.1 h]
                        exact HTR.out.2 HTW.out), hgr2⟩
                    case measure => simp [intOf]; omega
            · have htb : (tn != way) = true := by simpa using htw
              refine wp_region_held_drew (S := (fun W' => Gr wr W' ∧ W'.cell? ⟨bt, ot + k * 3, none⟩ = some (.int .i64 x) ∧ W'.cell? ⟨bt, ot + k * 3 + 1, none⟩ = some (.int .i64 y) ∧ W'.cell? ⟨bt, ot + k * 3 + 2, none⟩ = some (.int .i64 z) ∧ W'.cell? ⟨bp, op + x * 2, none⟩ = some (.int .i64 x1) ∧ W'.cell? ⟨bp, op + x * 2 + 1, none⟩ = some (.int .i64 x2) ∧ W'.cell? ⟨bp, op + y * 2, none⟩ = some (.int .i64 y1) ∧ W'.cell? ⟨bp, op + y * 2 + 1, none⟩ = some (.int .i64 y2) ∧ W'.cell? ⟨bp, op + z * 2, none⟩ = some (.int .i64 z1) ∧ W'.cell? ⟨bp, op + z * 2 + 1, none⟩ = some (.int .i64 z2))) ?_ ?_ (fun hHeld => ?_)
              · kernel_rfl
              · ((try dsimp only); ((try go_split_ands); (repeat' apply And.intro) <;> (repeat (first | assumption | (exact Gr.refl _) | (refine Gr.drew ?_) | (refine Gr.alloc ?_ _) | (refine alloc_old ?_) | (refine Gr.keep (by assumption) ?_) | (refine Gr.trans ?_ (by assumption))))))
              refine take_in (i := 0) (v := ?_) (d := (some 55)) rfl rfl ?_ ?_ ?_ ?_ ?_ ?_ ?_ ?_
              rotate_left
              · kernel_rfl
              · kernel_rfl
              · kernel_rfl
              · (intro _ _ _ hq; exact hq)
              · rfl
              · (intro _w hSw; (try dsimp only at hSw); go_simp; try with_reducible rfl)
              · assumption
              try simp only [Act.put, List.setIfInBounds_toArray, List.set_cons_zero, List.set_cons_succ]
              refine take_in (i := 1) (v := ?_) (d := (some 56)) rfl rfl ?_ ?_ ?_ ?_ ?_ ?_ ?_ ?_
              rotate_left
              · kernel_rfl
              · kernel_rfl
              · kernel_rfl
              · (intro _ _ _ hq; exact hq)
              · rfl
              · (intro _w hSw; (try dsimp only at hSw); go_simp; try with_reducible rfl)
              · assumption
              try simp only [Act.put, List.setIfInBounds_toArray, List.set_cons_zero, List.set_cons_succ]
              refine take_in (i := 2) (v := ?_) (d := (some 57)) rfl rfl ?_ ?_ ?_ ?_ ?_ ?_ ?_ ?_
              rotate_left
              · kernel_rfl
              · kernel_rfl
              · kernel_rfl
              · (intro _ _ _ hq; exact hq)
              · rfl
              · (intro _w hSw; (try dsimp only at hSw); go_simp; try with_reducible rfl)
              · assumption
              try simp only [Act.put, List.setIfInBounds_toArray, List.set_cons_zero, List.set_cons_succ]
              refine take_in (i := 3) (v := ?_) (d := (some 58)) rfl rfl ?_ ?_ ?_ ?_ ?_ ?_ ?_ ?_
              rotate_left
              · kernel_rfl
              · kernel_rfl
              · kernel_rfl
              · (intro _ _ _ hq; exact hq)
              · rfl
              · (intro _w hSw; (try dsimp only at hSw); go_simp; try with_reducible rfl)
              · assumption
              try simp only [Act.put, List.setIfInBounds_toArray, List.set_cons_zero, List.set_cons_succ]
              refine take_in (i := 4) (v := ?_) (d := (some 59)) rfl rfl ?_ ?_ ?_ ?_ ?_ ?_ ?_ ?_
              rotate_left
              · kernel_rfl
              · kernel_rfl
              · kernel_rfl
              · (intro _ _ _ hq; exact hq)
              · rfl
              · (intro _w hSw; (try dsimp only at hSw); go_simp; try with_reducible rfl)
              · assumption
              try simp only [Act.put, List.setIfInBounds_toArray, List.set_cons_zero, List.set_cons_succ]
              refine take_in (i := 5) (v := ?_) (d := (some 60)) rfl rfl ?_ ?_ ?_ ?_ ?_ ?_ ?_ ?_
              rotate_left
              · kernel_rfl
              · kernel_rfl
              · kernel_rfl
              · (intro _ _ _ hq; exact hq)
              · rfl
              · (intro _w hSw; (try dsimp only at hSw); go_simp; try with_reducible rfl)
              · assumption
              try simp only [Act.put, List.setIfInBounds_toArray, List.set_cons_zero, List.set_cons_succ]
              refine take_in (i := 6) (v := ?_) (d := (some 61)) rfl rfl ?_ ?_ ?_ ?_ ?_ ?_ ?_ ?_
              rotate_left
              · kernel_rfl
              · kernel_rfl
              · kernel_rfl
              · (intro _ _ _ hq; exact hq)
              · rfl
              · (intro _w hSw; (try dsimp only at hSw); go_simp; try with_reducible rfl)
              · assumption
              try simp only [Act.put, List.setIfInBounds_toArray, List.set_cons_zero, List.set_cons_succ]
              refine take_in (i := 7) (v := ?_) (d := (some 62)) rfl rfl ?_ ?_ ?_ ?_ ?_ ?_ ?_ ?_
              rotate_left
              · kernel_rfl
              · kernel_rfl
              · kernel_rfl
              · (intro _ _ _ hq; exact hq)
              · rfl
              · (intro _w hSw; (try dsimp only at hSw); go_simp; try with_reducible rfl)
              · assumption
              try simp only [Act.put, List.setIfInBounds_toArray, List.set_cons_zero, List.set_cons_succ]
              refine take_in (i := 8) (v := ?_) (d := (some 63)) rfl rfl ?_ ?_ ?_ ?_ ?_ ?_ ?_ ?_
              rotate_left
              · kernel_rfl
              · kernel_rfl
              · kernel_rfl
              · (intro _ _ _ hq; exact hq)
              · rfl
              · (intro _w hSw; (try dsimp only at hSw); go_simp; try with_reducible rfl)
              · assumption
              try simp only [Act.put, List.setIfInBounds_toArray, List.set_cons_zero, List.set_cons_succ]
              refine take_in (i := 9) (v := ?_) (d := (some 64)) rfl rfl ?_ ?_ ?_ ?_ ?_ ?_ ?_ ?_
              rotate_left
              · kernel_rfl
              · kernel_rfl
              · kernel_rfl
              · (intro _ _ _ hq; exact hq)
              · rfl
              · (intro _w hSw; (try dsimp only at hSw); go_simp; try with_reducible rfl)
              · assumption
              try simp only [Act.put, List.setIfInBounds_toArray, List.set_cons_zero, List.set_cons_succ]
              refine take_in (i := 10) (v := ?_) (d := (some 65)) rfl rfl ?_ ?_ ?_ ?_ ?_ ?_ ?_ ?_
              rotate_left
              · kernel_rfl
              · kernel_rfl
              · kernel_rfl
              · (intro _ _ _ hq; exact hq)
              · rfl
              · (intro _w hSw; (try dsimp only at hSw); go_simp; try with_reducible rfl)
              · assumption
              try simp only [Act.put, List.setIfInBounds_toArray, List.set_cons_zero, List.set_cons_succ]
              refine take_in (i := 11) (v := ?_) (d := (some 66)) rfl rfl ?_ ?_ ?_ ?_ ?_ ?_ ?_ ?_
              rotate_left
              · kernel_rfl
              · kernel_rfl
              · kernel_rfl
              · (intro _ _ _ hq; exact hq)
              · rfl
              · (intro _w hSw; (try dsimp only at hSw); go_simp; try with_reducible rfl)
              · assumption
              try simp only [Act.put, List.setIfInBounds_toArray, List.set_cons_zero, List.set_cons_succ]
              refine take_in (i := 12) (v := ?_) (d := (some 67)) rfl rfl ?_ ?_ ?_ ?_ ?_ ?_ ?_ ?_
              rotate_left
              · kernel_rfl
              · kernel_rfl
              · kernel_rfl
              · (intro _ _ _ hq; exact hq)
              · rfl
              · (intro _w hSw; (try dsimp only at hSw); go_simp; try with_reducible rfl)
              · assumption
              try simp only [Act.put, List.setIfInBounds_toArray, List.set_cons_zero, List.set_cons_succ]
              refine take_in (i := 13) (v := ?_) (d := (some 68)) rfl rfl ?_ ?_ ?_ ?_ ?_ ?_ ?_ ?_
              rotate_left
              · kernel_rfl
              · kernel_rfl
              · kernel_rfl
              · (intro _ _ _ hq; exact hq)
              · rfl
              · (intro _w hSw; (try dsimp only at hSw); go_simp; try with_reducible rfl)
              · assumption
              try simp only [Act.put, List.setIfInBounds_toArray, List.set_cons_zero, List.set_cons_succ]
              refine take_in (i := 14) (v := ?_) (d := (some 69)) rfl rfl ?_ ?_ ?_ ?_ ?_ ?_ ?_ ?_
              rotate_left
              · kernel_rfl
              · kernel_rfl
              · kernel_rfl
              · (intro _ _ _ hq; exact hq)
              · rfl
              · (intro _w hSw; (try dsimp only at hSw); go_simp; try with_reducible rfl)
              · assumption
              try simp only [Act.put, List.setIfInBounds_toArray, List.set_cons_zero, List.set_cons_succ]
              refine take_in (i := 15) (v := ?_) (d := (some 70)) rfl rfl ?_ ?_ ?_ ?_ ?_ ?_ ?_ ?_
              rotate_left
              · kernel_rfl
              · kernel_rfl
              · kernel_rfl
              · (intro _ _ _ hq; exact hq)
              · rfl
              · (intro _w hSw; (try dsimp only at hSw); go_simp; try with_reducible rfl)
              · assumption
              try simp only [Act.put, List.setIfInBounds_toArray, List.set_cons_zero, List.set_cons_succ]
              refine take_in (i := 16) (v := ?_) (d := (some 71)) rfl rfl ?_ ?_ ?_ ?_ ?_ ?_ ?_ ?_
              rotate_left
              · kernel_rfl
              · kernel_rfl
              · kernel_rfl
              · (intro _ _ _ hq; exact hq)
              · rfl
              · (intro _w hSw; (try dsimp only at hSw); go_simp; try with_reducible rfl)
              · assumption
              try simp only [Act.put, List.setIfInBounds_toArray, List.set_cons_zero, List.set_cons_succ]
              refine take_in (i := 17) (v := ?_) (d := (some 72)) rfl rfl ?_ ?_ ?_ ?_ ?_ ?_ ?_ ?_
              rotate_left
              · kernel_rfl
              · kernel_rfl
              · kernel_rfl
              · (intro _ _ _ hq; exact hq)
              · rfl
              · (intro _w hSw; (try dsimp only at hSw); go_simp; try with_reducible rfl)
              · assumption
              try simp only [Act.put, List.setIfInBounds_toArray, List.set_cons_zero, List.set_cons_succ]
              refine take_in (i := 18) (v := ?_) (d := (some 73)) rfl rfl ?_ ?_ ?_ ?_ ?_ ?_ ?_ ?_
              rotate_left
              · kernel_rfl
              · kernel_rfl
              · kernel_rfl
              · (intro _ _ _ hq; exact hq)
              · rfl
              · (intro _w hSw; (try dsimp only at hSw); go_simp; try with_reducible rfl)
              · assumption
              try simp only [Act.put, List.setIfInBounds_toArray, List.set_cons_zero, List.set_cons_succ]
              refine take_in (i := 19) (v := ?_) (d := (some 74)) rfl rfl ?_ ?_ ?_ ?_ ?_ ?_ ?_ ?_
              rotate_left
              · kernel_rfl
              · kernel_rfl
              · kernel_rfl
              · (intro _ _ _ hq; exact hq)
              · rfl
              · (intro _w hSw; (try dsimp only at hSw); go_simp; try with_reducible rfl)
              · assumption
              try simp only [Act.put, List.setIfInBounds_toArray, List.set_cons_zero, List.set_cons_succ]
              refine take_in (i := 20) (v := ?_) (d := (some 75)) rfl rfl ?_ ?_ ?_ ?_ ?_ ?_ ?_ ?_
              rotate_left
              · kernel_rfl
              · kernel_rfl
              · kernel_rfl
              · (intro _ _ _ hq; exact hq)
              · rfl
              · (intro _w hSw; (try dsimp only at hSw); go_simp; try with_reducible rfl)
              · assumption
              try simp only [Act.put, List.setIfInBounds_toArray, List.set_cons_zero, List.set_cons_succ]
              refine take_in (i := 21) (v := ?_) (d := (some 76)) rfl rfl ?_ ?_ ?_ ?_ ?_ ?_ ?_ ?_
              rotate_left
              · kernel_rfl
              · kernel_rfl
              · kernel_rfl
              · (intro _ _ _ hq; exact hq)
              · rfl
              · (intro _w hSw; (try dsimp only at hSw); go_simp; try with_reducible rfl)
              · assumption
              try simp only [Act.put, List.setIfInBounds_toArray, List.set_cons_zero, List.set_cons_succ]
              refine take_in (i := 22) (v := ?_) (d := (some 77)) rfl rfl ?_ ?_ ?_ ?_ ?_ ?_ ?_ ?_
              rotate_left
              · kernel_rfl
              · kernel_rfl
              · kernel_rfl
              · (intro _ _ _ hq; exact hq)
              · rfl
              · (intro _w hSw; (try dsimp only at hSw); go_simp; try with_reducible rfl)
              · assumption
              try simp only [Act.put, List.setIfInBounds_toArray, List.set_cons_zero, List.set_cons_succ]
              refine take_in (i := 23) (v := ?_) (d := (some 78)) rfl rfl ?_ ?_ ?_ ?_ ?_ ?_ ?_ ?_
              rotate_left
              · kernel_rfl
              · kernel_rfl
              · kernel_rfl
              · (intro _ _ _ hq; exact hq)
              · rfl
              · (intro _w hSw; (try dsimp only at hSw); go_simp; try with_reducible rfl)
              · assumption
              try simp only [Act.put, List.setIfInBounds_toArray, List.set_cons_zero, List.set_cons_succ]
              refine take_in (i := 25) (v := ?_) (d := (some 80)) rfl rfl ?_ ?_ ?_ ?_ ?_ ?_ ?_ ?_
              rotate_left
              · kernel_rfl
              · kernel_rfl
              · kernel_rfl
              · (intro _ _ _ hq; exact hq)
              · rfl
              · (intro _w hSw; (try dsimp only at hSw); go_simp; try with_reducible rfl)
              · assumption
              try simp only [Act.put, List.setIfInBounds_toArray, List.set_cons_zero, List.set_cons_succ]
              refine wpAnyH_ready (rs := [24]) ?_ ?_ ?_
              · kernel_rfl
              · simp
              refine (AllReadyH.cons rfl (fun K hK => ?_) AllReadyH.nil)
              go_simp
              first | (go_at_call 34; (with_reducible refine (HTN.out _).mono ?_); rintro e w3 ⟨rfl, hb3⟩)
              refine hK.out _ _ ?_ (fun hHeld => ?_)
              · ((try dsimp only); ((try go_split_ands); (repeat' apply And.intro) <;> (repeat (first | assumption | (exact Gr.refl _) | (refine Gr.drew ?_) | (refine Gr.alloc ?_ _) | (refine alloc_old ?_) | (refine Gr.keep (by assumption) ?_) | (refine Gr.trans ?_ (by assumption))))))
              clear hK K
              try simp only [Act.put, List.setIfInBounds_toArray, List.set_cons_zero, List.set_cons_succ]
              refine take_in (i := 26) (v := ?_) (d := (some 81)) rfl rfl ?_ ?_ ?_ ?_ ?_ ?_ ?_ ?_
              rotate_left
              · kernel_rfl
              · kernel_rfl
              · kernel_rfl
              · (intro _ _ _ hq; exact hq)
              · rfl
              · (intro _w hSw; (try dsimp only at hSw); go_simp; try with_reducible rfl)
              · assumption
              try simp only [Act.put, List.setIfInBounds_toArray, List.set_cons_zero, List.set_cons_succ]
              refine wpAnyH_done ?_ ?_ _
              · kernel_rfl
              rotate_left
              all_goals
                obtain ⟨hB, -⟩ := hHeld
                go_wp2_with fail
                go_ret
                refine ⟨false, rfl, ⟨fun h => absurd h (by decide), fun h => ?_⟩, hgr.trans hB⟩
                have h1 := h.2.1 tt (by rw [← HX.out]; exact List.mem_of_getElem? (getD_of _ (by rw [HN'.out]; exact hlt)))
                exact absurd (HTR.out.1 h1) htw
      · obtain rfl : k = n' := by omega
        have hlt' : ¬ ((k : Int) < (k : Int)) := by omega
        have HS : Hid (CRow n cs (sidesL ts)) := Lib.hid (by have h := hc.out; rw [List.take_of_length_le (by rw [HN'.out]; exact Nat.le_refl _)] at h; exact h)
        have HTR : Hid (∀ t ∈ ts, TriP ps t) := Lib.hid (by have h := htr.out; rw [List.take_of_length_le (by rw [HN'.out]; exact Nat.le_refl _)] at h; exact h)
        have HFIN : Hid (CovP ps ts ↔ ∀ x, x < n → ∀ y, y < n → PairP n (sidesL ts) x y) := Lib.hid (by
          unfold CovP
          rw [HN.out, HN'.out]
          exact ⟨fun h x hx y hy => h.2.2 x y hx hy, fun h => ⟨hlen, HTR.out, fun x y hx hy => h x hx y hy⟩⟩)
        clear hc htr HTR hlt
        go_wp2_with fail
        go_loopw [12] (fun i wx => ∃ a : Nat, a ≤ n ∧ i = .int .i64 a ∧ Hid (∀ x, x < a → ∀ y, y < n → PairP n (sidesL ts) x y) ∧ Hid (Blk wx M 3 cs) ∧ Gr w wx) (fun i _ => n - (intOf i).toNat)
        case atStart => exact ⟨0, by omega, rfl, Lib.hid (fun x h => by omega), hm, hgr⟩
        case round =>
          obtain ⟨a, ha, rfl, hda, hma, hga⟩ := hrel
          clear hlt' hm hgr
          by_cases hla : a < n
          · have hlaI : (a : Int) < (n : Int) := by omega
            go_wp2_with fail
            go_loopw [13] (fun i wx => ∃ b : Nat, b ≤ n ∧ i = .int .i64 b ∧ Hid (∀ y, y < b → PairP n (sidesL ts) a y) ∧ Hid (Blk wx M 3 cs) ∧ Gr w wx) (fun i _ => n - (intOf i).toNat)
            case atStart => exact ⟨0, by omega, rfl, Lib.hid (fun x h => by omega), hma, hga⟩
            case round =>
              obtain ⟨b, hb, rfl, hdb, hmb, hgb⟩ := hrel
              clear hga hma
              by_cases hlb : b < n
              · have hlbI : (b : Int) < (n : Int) := by omega
                obtain ⟨m, hmm⟩ : ∃ m, (a + 1) % n = m := ⟨_, rfl⟩
                obtain ⟨m2, hmm2⟩ : ∃ m, (b + 1) % n = m := ⟨_, rfl⟩
                have HN1 := Lib.hid (fun W => next_is a n m W hmm hla (by omega))
                have HN2 := Lib.hid (fun W => next_is b n m2 W hmm2 hlb (by omega))
                have hl1 := line_lt hla hlb
                have hl2 := line_lt hlb hla
                rw [HNN.out] at hl1 hl2
                obtain ⟨q1, hq1⟩ : ∃ q, a * n = q := ⟨_, rfl⟩
                obtain ⟨q2, hq2⟩ : ∃ q, b * n = q := ⟨_, rfl⟩
                have k1 := HS.out a b hla hlb
                have k2 := HS.out b a hlb hla
                rw [hq1] at hl1 k1
                rw [hq2] at hl2 k2
                obtain ⟨p1, hp1⟩ : ∃ p, q1 + b = p := ⟨_, rfl⟩
                obtain ⟨p2, hp2⟩ : ∃ p, q2 + a = p := ⟨_, rfl⟩
                have e1 : (a : Int) * (n : Int) = (q1 : Int) := by rw [← hq1]; push_cast; rfl
                have e2 : (q1 : Int) + (b : Int) = (p1 : Int) := by omega
                have e3 : (b : Int) * (n : Int) = (q2 : Int) := by rw [← hq2]; push_cast; rfl
                have e4 : (q2 : Int) + (a : Int) = (p2 : Int) := by omega
                rw [hp1] at hl1 k1
                rw [hp2] at hl2 k2
                have hP : Hid (PairP n (sidesL ts) a b ↔ (b = m → cntI (sidesL ts) a b = 1 ∧ cntI (sidesL ts) b a = 0) ∧ (b ≠ m → a ≠ m2 → cntI (sidesL ts) a b = cntI (sidesL ts) b a)) := Lib.hid (by unfold PairP; rw [hmm, hmm2])
                generalize cntI (sidesL ts) a b = c1 at k1 hP
                generalize cntI (sidesL ts) b a = c2 at k2 hP
                have HPQ := Lib.hid (And.intro (And.intro hq1 hq2) (And.intro hp1 hp2))
                have HMM := Lib.hid (And.intro hmm hmm2)
                clear hq1 hq2 hp1 hp2 hmm hmm2
                have w1' : IntKind.i64.wrap (q1 : Int) = (q1 : Int) := IntWalk.i64_in _ (by omega)
                have w2' : IntKind.i64.wrap (p1 : Int) = (p1 : Int) := IntWalk.i64_in _ (by omega)
                have w3' : IntKind.i64.wrap (q2 : Int) = (q2 : Int) := IntWalk.i64_in _ (by omega)
                have w4' : IntKind.i64.wrap (p2 : Int) = (p2 : Int) := IntWalk.i64_in _ (by omega)
                have hi1 : (p1 : Int) < (N : Int) := by omega
                have hi2 : (p2 : Int) < (N : Int) := by omega
                have hgw := hgb
                go_wp2_with fail
                refine (HN1.out _).mono ?_
                rintro e wx ⟨rfl, rfl⟩
                rename World => wx
                have d1 : wx.cell? ⟨M, p1, none⟩ = some (.int .i64 c1) := by rw [hmb.out.cell]; exact k1
                have d2 : wx.cell? ⟨M, p2, none⟩ = some (.int .i64 c2) := by rw [hmb.out.cell]; exact k2
                have hnext : Hid (((b = m → c1 = 1 ∧ c2 = 0) ∧ (b ≠ m → a ≠ m2 → c1 = c2)) → ∀ y, y < b + 1 → PairP n (sidesL ts) a y) := Lib.hid (fun h y hy => by
                  rcases Nat.lt_succ_iff_lt_or_eq.1 hy with h' | rfl
                  · exact hdb.out y h'
                  · exact hP.out.2 h)
                have hbad : Hid (¬ ((b = m → c1 = 1 ∧ c2 = 0) ∧ (b ≠ m → a ≠ m2 → c1 = c2)) → BoolPost (CovP ps ts) w (.returned (.bool false)) wx) := Lib.hid (fun h => ⟨false, rfl, ⟨fun h' => absurd h' (by decide), fun hcov => absurd (hP.out.1 (HFIN.out.1 hcov a hla b hlb)) h⟩, hgw⟩)
                clear hl1 hl2 k1 k2 HN1 HPQ hdb
                by_cases hbm : b = m
                · have hbb : ((b : Int) == (m : Int)) = true := by simp [hbm]
                  have HBM := Lib.hid hbm
                  clear hbm
                  by_cases h1 : c1 = 1
                  · have h1b : (c1 != 1) = false := by simp [h1]
                    by_cases h2 : c2 = 0
                    · have h2b : (c2 != 0) = false := by simp [h2]
                      have HN := Lib.hid (And.intro h1 h2)
                      clear h1 h2
                      go_wp2_with fail
                      go_roundw
                      case rel => exact ⟨b + 1, by omega, by go_num, Lib.hid (hnext.out ⟨fun _ => HN.out, fun h => absurd HBM.out h⟩), hmb, hgb⟩
                      case measure => simp [intOf]; omega
                    · have h2b : (c2 != 0) = true := by simpa using h2
                      have H2 := Lib.hid h2
                      have H1 := Lib.hid h1
                      clear h1 h2
                      go_wp2_with fail
                      go_ret
                      exact hbad.out (fun h => H2.out (h.1 HBM.out).2)
                  · have h1b : (c1 != 1) = true := by simpa using h1
                    have H1 := Lib.hid h1
                    clear h1
                    go_wp2_with fail
                    go_ret
                    exact hbad.out (fun h => H1.out (h.1 HBM.out).1)
                · have hbb : ((b : Int) == (m : Int)) = false := by simp; omega
                  have HBM := Lib.hid hbm
                  clear hbm
                  go_upto_region 30 with fail
                  by_cases ham : a = m2
                  · have hab : ((a : Int) != (m2 : Int)) = false := by simp [ham]
                    have HAM := Lib.hid ham
                    clear ham
                    refine wp_region_held_drew (S := (fun W' => Gr wx W' ∧ W'.cell? ⟨M, p1, none⟩ = some (.int .i64 c1) ∧ W'.cell? ⟨M, p2, none⟩ = some (.int .i64 c2))) ?_ ?_ (fun hHeld => ?_)
                    · kernel_rfl
                    · ((try dsimp only); ((try go_split_ands); (repeat' apply And.intro) <;> (repeat (first | assumption | (exact Gr.refl _) | (refine Gr.drew ?_) | (refine Gr.alloc ?_ _) | (refine alloc_old ?_) | (refine Gr.keep (by assumption) ?_) | (refine Gr.trans ?_ (by assumption))))))
                    refine take_in (i := 0) (v := ?_) (d := (some 145)) rfl rfl ?_ ?_ ?_ ?_ ?_ ?_ ?_ ?_
                    rotate_left
                    · kernel_rfl
                    · kernel_rfl
                    · kernel_rfl
                    · (intro _ _ _ hq; exact hq)
                    · rfl
                    · (intro _w hSw; (try dsimp only at hSw); go_simp; try with_reducible rfl)
                    · assumption
                    try simp only [Act.put, List.setIfInBounds_toArray, List.set_cons_zero, List.set_cons_succ]
                    refine take_in (i := 1) (v := ?_) (d := (some 146)) rfl rfl ?_ ?_ ?_ ?_ ?_ ?_ ?_ ?_
                    rotate_left
                    · kernel_rfl
                    · kernel_rfl
                    · kernel_rfl
                    · (intro _ _ _ hq; exact hq)
                    · rfl
                    · (intro _w hSw; (try dsimp only at hSw); go_simp; try with_reducible rfl)
                    · assumption
                    try simp only [Act.put, List.setIfInBounds_toArray, List.set_cons_zero, List.set_cons_succ]
                    refine take_in (i := 2) (v := ?_) (d := (some 147)) rfl rfl ?_ ?_ ?_ ?_ ?_ ?_ ?_ ?_
                    rotate_left
                    · kernel_rfl
                    · kernel_rfl
                    · kernel_rfl
                    · (intro _ _ _ hq; exact hq)
                    · rfl
                    · (intro _w hSw; (try dsimp only at hSw); go_simp; try with_reducible rfl)
                    · assumption
                    try simp only [Act.put, List.setIfInBounds_toArray, List.set_cons_zero, List.set_cons_succ]
                    refine wpAnyH_ready (rs := [3]) ?_ ?_ ?_
                    · kernel_rfl
                    · simp
                    refine (AllReadyH.cons rfl (fun K hK => ?_) AllReadyH.nil)
                    go_simp
                    first | (go_at_call 33; (with_reducible refine (HN2.out _).mono ?_); rintro e w5 ⟨rfl, rfl⟩)
                    refine hK.out _ _ ?_ (fun hHeld => ?_)
                    · ((try dsimp only); ((try go_split_ands); (repeat' apply And.intro) <;> (repeat (first | assumption | (exact Gr.refl _) | (refine Gr.drew ?_) | (refine Gr.alloc ?_ _) | (refine alloc_old ?_) | (refine Gr.keep (by assumption) ?_) | (refine Gr.trans ?_ (by assumption))))))
                    clear hK K
                    try simp only [Act.put, List.setIfInBounds_toArray, List.set_cons_zero, List.set_cons_succ]
                    refine take_in (i := 4) (v := ?_) (d := (some 149)) rfl rfl ?_ ?_ ?_ ?_ ?_ ?_ ?_ ?_
                    rotate_left
                    · kernel_rfl
                    · kernel_rfl
                    · kernel_rfl
                    · (intro _ _ _ hq; exact hq)
                    · rfl
                    · (intro _w hSw; (try dsimp only at hSw); go_simp; try with_reducible rfl)
                    · assumption
                    try simp only [Act.put, List.setIfInBounds_toArray, List.set_cons_zero, List.set_cons_succ]
                    refine take_in (i := 5) (v := ?_) (d := (some 150)) rfl rfl ?_ ?_ ?_ ?_ ?_ ?_ ?_ ?_
                    rotate_left
                    · kernel_rfl
                    · kernel_rfl
                    · kernel_rfl
                    · (intro _ _ _ hq; exact hq)
                    · rfl
                    · (intro _w hSw; (try dsimp only at hSw); go_simp; try with_reducible rfl)
                    · assumption
                    try simp only [Act.put, List.setIfInBounds_toArray, List.set_cons_zero, List.set_cons_succ]
                    refine take_un (i := 6) (d := (some 151)) rfl rfl ?_ ?_ ?_ ?_ ?_ ?_ ?_
                    · kernel_rfl
                    · kernel_rfl
                    · kernel_rfl
                    · (intro _ _ _ hq; exact hq)
                    · rfl
                    · assumption
                    try simp only [Act.put, List.setIfInBounds_toArray, List.set_cons_zero, List.set_cons_succ]
                    refine take_un (i := 7) (d := (some 152)) rfl rfl ?_ ?_ ?_ ?_ ?_ ?_ ?_
                    · kernel_rfl
                    · kernel_rfl
                    · kernel_rfl
                    · (intro _ _ _ hq; exact hq)
                    · rfl
                    · assumption
                    try simp only [Act.put, List.setIfInBounds_toArray, List.set_cons_zero, List.set_cons_succ]
                    refine take_un (i := 8) (d := (some 153)) rfl rfl ?_ ?_ ?_ ?_ ?_ ?_ ?_
                    · kernel_rfl
                    · kernel_rfl
                    · kernel_rfl
                    · (intro _ _ _ hq; exact hq)
                    · rfl
                    · assumption
                    try simp only [Act.put, List.setIfInBounds_toArray, List.set_cons_zero, List.set_cons_succ]
                    refine take_un (i := 9) (d := (some 154)) rfl rfl ?_ ?_ ?_ ?_ ?_ ?_ ?_
                    · kernel_rfl
                    · kernel_rfl
                    · kernel_rfl
                    · (intro _ _ _ hq; exact hq)
                    · rfl
                    · assumption
                    try simp only [Act.put, List.setIfInBounds_toArray, List.set_cons_zero, List.set_cons_succ]
                    refine take_un (i := 10) (d := (some 155)) rfl rfl ?_ ?_ ?_ ?_ ?_ ?_ ?_
                    · kernel_rfl
                    · kernel_rfl
                    · kernel_rfl
                    · (intro _ _ _ hq; exact hq)
                    · rfl
                    · assumption
                    try simp only [Act.put, List.setIfInBounds_toArray, List.set_cons_zero, List.set_cons_succ]
                    refine take_un (i := 11) (d := (some 156)) rfl rfl ?_ ?_ ?_ ?_ ?_ ?_ ?_
                    · kernel_rfl
                    · kernel_rfl
                    · kernel_rfl
                    · (intro _ _ _ hq; exact hq)
                    · rfl
                    · assumption
                    try simp only [Act.put, List.setIfInBounds_toArray, List.set_cons_zero, List.set_cons_succ]
                    refine take_un (i := 12) (d := (some 157)) rfl rfl ?_ ?_ ?_ ?_ ?_ ?_ ?_
                    · kernel_rfl
                    · kernel_rfl
                    · kernel_rfl
                    · (intro _ _ _ hq; exact hq)
                    · rfl
                    · assumption
                    try simp only [Act.put, List.setIfInBounds_toArray, List.set_cons_zero, List.set_cons_succ]
                    refine take_un (i := 13) (d := (some 158)) rfl rfl ?_ ?_ ?_ ?_ ?_ ?_ ?_
                    · kernel_rfl
                    · kernel_rfl
                    · kernel_rfl
                    · (intro _ _ _ hq; exact hq)
                    · rfl
                    · assumption
                    try simp only [Act.put, List.setIfInBounds_toArray, List.set_cons_zero, List.set_cons_succ]
                    refine take_un (i := 14) (d := (some 159)) rfl rfl ?_ ?_ ?_ ?_ ?_ ?_ ?_
                    · kernel_rfl
                    · kernel_rfl
                    · kernel_rfl
                    · (intro _ _ _ hq; exact hq)
                    · rfl
                    · assumption
                    try simp only [Act.put, List.setIfInBounds_toArray, List.set_cons_zero, List.set_cons_succ]
                    refine take_un (i := 15) (d := (some 160)) rfl rfl ?_ ?_ ?_ ?_ ?_ ?_ ?_
                    · kernel_rfl
                    · kernel_rfl
                    · kernel_rfl
                    · (intro _ _ _ hq; exact hq)
                    · rfl
                    · assumption
                    try simp only [Act.put, List.setIfInBounds_toArray, List.set_cons_zero, List.set_cons_succ]
                    refine take_un (i := 16) (d := (some 161)) rfl rfl ?_ ?_ ?_ ?_ ?_ ?_ ?_
                    · kernel_rfl
                    · kernel_rfl
                    · kernel_rfl
                    · (intro _ _ _ hq; exact hq)
                    · rfl
                    · assumption
                    try simp only [Act.put, List.setIfInBounds_toArray, List.set_cons_zero, List.set_cons_succ]
                    refine take_un (i := 17) (d := (some 162)) rfl rfl ?_ ?_ ?_ ?_ ?_ ?_ ?_
                    · kernel_rfl
                    · kernel_rfl
                    · kernel_rfl
                    · (intro _ _ _ hq; exact hq)
                    · rfl
                    · assumption
                    try simp only [Act.put, List.setIfInBounds_toArray, List.set_cons_zero, List.set_cons_succ]
                    refine take_un (i := 18) (d := (some 163)) rfl rfl ?_ ?_ ?_ ?_ ?_ ?_ ?_
                    · kernel_rfl
                    · kernel_rfl
                    · kernel_rfl
                    · (intro _ _ _ hq; exact hq)
                    · rfl
                    · assumption
                    try simp only [Act.put, List.setIfInBounds_toArray, List.set_cons_zero, List.set_cons_succ]
                    refine take_un (i := 19) (d := (some 164)) rfl rfl ?_ ?_ ?_ ?_ ?_ ?_ ?_
                    · kernel_rfl
                    · kernel_rfl
                    · kernel_rfl
                    · (intro _ _ _ hq; exact hq)
                    · rfl
                    · assumption
                    try simp only [Act.put, List.setIfInBounds_toArray, List.set_cons_zero, List.set_cons_succ]
                    refine take_un (i := 20) (d := (some 165)) rfl rfl ?_ ?_ ?_ ?_ ?_ ?_ ?_
                    · kernel_rfl
                    · kernel_rfl
                    · kernel_rfl
                    · (intro _ _ _ hq; exact hq)
                    · rfl
                    · assumption
                    try simp only [Act.put, List.setIfInBounds_toArray, List.set_cons_zero, List.set_cons_succ]
                    refine take_un (i := 21) (d := (some 166)) rfl rfl ?_ ?_ ?_ ?_ ?_ ?_ ?_
                    · kernel_rfl
                    · kernel_rfl
                    · kernel_rfl
                    · (intro _ _ _ hq; exact hq)
                    · rfl
                    · assumption
                    try simp only [Act.put, List.setIfInBounds_toArray, List.set_cons_zero, List.set_cons_succ]
                    refine take_un (i := 22) (d := (some 167)) rfl rfl ?_ ?_ ?_ ?_ ?_ ?_ ?_
                    · kernel_rfl
                    · kernel_rfl
                    · kernel_rfl
                    · (intro _ _ _ hq; exact hq)
                    · rfl
                    · assumption
                    try simp only [Act.put, List.setIfInBounds_toArray, List.set_cons_zero, List.set_cons_succ]
                    refine take_in (i := 23) (v := ?_) (d := (some 168)) rfl rfl ?_ ?_ ?_ ?_ ?_ ?_ ?_ ?_
                    rotate_left
                    · kernel_rfl
                    · kernel_rfl
                    · kernel_rfl
                    · (intro _ _ _ hq; exact hq)
                    · rfl
                    · (intro _w hSw; (try dsimp only at hSw); go_simp; try with_reducible rfl)
                    · assumption
                    try simp only [Act.put, List.setIfInBounds_toArray, List.set_cons_zero, List.set_cons_succ]
                    refine take_in (i := 24) (v := ?_) (d := (some 144)) rfl rfl ?_ ?_ ?_ ?_ ?_ ?_ ?_ ?_
                    rotate_left
                    · kernel_rfl
                    · kernel_rfl
                    · kernel_rfl
                    · (intro _ _ _ hq; exact hq)
                    · rfl
                    · (intro _w hSw; (try dsimp only at hSw); go_simp; try with_reducible rfl)
                    · assumption
                    try simp only [Act.put, List.setIfInBounds_toArray, List.set_cons_zero, List.set_cons_succ]
                    refine wpAnyH_done ?_ ?_ _
                    · kernel_rfl
                    rotate_left
                    all_goals
                      obtain ⟨hB, -⟩ := hHeld
                      go_wp2_with fail
                      go_roundw
                      case rel => exact ⟨b + 1, by omega, by go_num, Lib.hid (hnext.out ⟨fun h => absurd h HBM.out, fun _ h => absurd HAM.out h⟩), Lib.hid (hmb.out.keep hB), hgb.trans hB⟩
                      case measure => simp [intOf]; omega
                  · have hab : ((a : Int) != (m2 : Int)) = true := by simp; omega
                    have HAM := Lib.hid ham
                    clear ham
                    by_cases h12 : c1 = c2
                    · have h12b : (c1 != c2) = false := by simp [h12]
                      have H12 := Lib.hid h12
                      clear h12
                      refine wp_region_held_drew (S := (fun W' => Gr wx W' ∧ W'.cell? ⟨M, p1, none⟩ = some (.int .i64 c1) ∧ W'.cell? ⟨M, p2, none⟩ = some (.int .i64 c2))) ?_ ?_ (fun hHeld => ?_)
                      · kernel_rfl
                      · ((try dsimp only); ((try go_split_ands); (repeat' apply And.intro) <;> (repeat (first | assumption | (exact Gr.refl _) | (refine Gr.drew ?_) | (refine Gr.alloc ?_ _) | (refine alloc_old ?_) | (refine Gr.keep (by assumption) ?_) | (refine Gr.trans ?_ (by assumption))))))
                      refine take_in (i := 0) (v := ?_) (d := (some 145)) rfl rfl ?_ ?_ ?_ ?_ ?_ ?_ ?_ ?_
                      rotate_left
                      · kernel_rfl
                      · kernel_rfl
                      · kernel_rfl
                      · (intro _ _ _ hq; exact hq)
                      · rfl
                      · (intro _w hSw; (try dsimp only at hSw); go_simp; try with_reducible rfl)
                      · assumption
                      try simp only [Act.put, List.setIfInBounds_toArray, List.set_cons_zero, List.set_cons_succ]
                      refine take_in (i := 1) (v := ?_) (d := (some 146)) rfl rfl ?_ ?_ ?_ ?_ ?_ ?_ ?_ ?_
                      rotate_left
                      · kernel_rfl
                      · kernel_rfl
                      · kernel_rfl
                      · (intro _ _ _ hq; exact hq)
                      · rfl
                      · (intro _w hSw; (try dsimp only at hSw); go_simp; try with_reducible rfl)
                      · assumption
                      try simp only [Act.put, List.setIfInBounds_toArray, List.set_cons_zero, List.set_cons_succ]
                      refine take_in (i := 2) (v := ?_) (d := (some 147)) rfl rfl ?_ ?_ ?_ ?_ ?_ ?_ ?_ ?_
                      rotate_left
                      · kernel_rfl
                      · kernel_rfl
                      · kernel_rfl
                      · (intro _ _ _ hq; exact hq)
                      · rfl
                      · (intro _w hSw; (try dsimp only at hSw); go_simp; try with_reducible rfl)
                      · assumption
                      try simp only [Act.put, List.setIfInBounds_toArray, List.set_cons_zero, List.set_cons_succ]
                      refine wpAnyH_ready (rs := [3]) ?_ ?_ ?_
                      · kernel_rfl
                      · simp
                      refine (AllReadyH.cons rfl (fun K hK => ?_) AllReadyH.nil)
                      go_simp
                      first | (go_at_call 33; (with_reducible refine (HN2.out _).mono ?_); rintro e w5 ⟨rfl, rfl⟩)
                      refine hK.out _ _ ?_ (fun hHeld => ?_)
                      · ((try dsimp only); ((try go_split_ands); (repeat' apply And.intro) <;> (repeat (first | assumption | (exact Gr.refl _) | (refine Gr.drew ?_) | (refine Gr.alloc ?_ _) | (refine alloc_old ?_) | (refine Gr.keep (by assumption) ?_) | (refine Gr.trans ?_ (by assumption))))))
                      clear hK K
                      try simp only [Act.put, List.setIfInBounds_toArray, List.set_cons_zero, List.set_cons_succ]
                      refine take_in (i := 4) (v := ?_) (d := (some 149)) rfl rfl ?_ ?_ ?_ ?_ ?_ ?_ ?_ ?_
                      rotate_left
                      · kernel_rfl
                      · kernel_rfl
                      · kernel_rfl
                      · (intro _ _ _ hq; exact hq)
                      · rfl
                      · (intro _w hSw; (try dsimp only at hSw); go_simp; try with_reducible rfl)
                      · assumption
                      try simp only [Act.put, List.setIfInBounds_toArray, List.set_cons_zero, List.set_cons_succ]
                      refine take_in (i := 5) (v := ?_) (d := (some 150)) rfl rfl ?_ ?_ ?_ ?_ ?_ ?_ ?_ ?_
                      rotate_left
                      · kernel_rfl
                      · kernel_rfl
                      · kernel_rfl
                      · (intro _ _ _ hq; exact hq)
                      · rfl
                      · (intro _w hSw; (try dsimp only at hSw); go_simp; try with_reducible rfl)
                      · assumption
                      try simp only [Act.put, List.setIfInBounds_toArray, List.set_cons_zero, List.set_cons_succ]
                      refine take_in (i := 6) (v := ?_) (d := (some 151)) rfl rfl ?_ ?_ ?_ ?_ ?_ ?_ ?_ ?_
                      rotate_left
                      · kernel_rfl
                      · kernel_rfl
                      · kernel_rfl
                      · (intro _ _ _ hq; exact hq)
                      · rfl
                      · (intro _w hSw; (try dsimp only at hSw); go_simp; try with_reducible rfl)
                      · assumption
                      try simp only [Act.put, List.setIfInBounds_toArray, List.set_cons_zero, List.set_cons_succ]
                      refine take_in (i := 7) (v := ?_) (d := (some 152)) rfl rfl ?_ ?_ ?_ ?_ ?_ ?_ ?_ ?_
                      rotate_left
                      · kernel_rfl
                      · kernel_rfl
                      · kernel_rfl
                      · (intro _ _ _ hq; exact hq)
                      · rfl
                      · (intro _w hSw; (try dsimp only at hSw); go_simp; try with_reducible rfl)
                      · assumption
                      try simp only [Act.put, List.setIfInBounds_toArray, List.set_cons_zero, List.set_cons_succ]
                      refine take_in (i := 8) (v := ?_) (d := (some 153)) rfl rfl ?_ ?_ ?_ ?_ ?_ ?_ ?_ ?_
                      rotate_left
                      · kernel_rfl
                      · kernel_rfl
                      · kernel_rfl
                      · (intro _ _ _ hq; exact hq)
                      · rfl
                      · (intro _w hSw; (try dsimp only at hSw); go_simp; try with_reducible rfl)
                      · assumption
                      try simp only [Act.put, List.setIfInBounds_toArray, List.set_cons_zero, List.set_cons_succ]
                      refine take_in (i := 9) (v := ?_) (d := (some 154)) rfl rfl ?_ ?_ ?_ ?_ ?_ ?_ ?_ ?_
                      rotate_left
                      · kernel_rfl
                      · kernel_rfl
                      · kernel_rfl
                      · (intro _ _ _ hq; exact hq)
                      · rfl
                      · (intro _w hSw; (try dsimp only at hSw); go_simp; try with_reducible rfl)
                      · assumption
                      try simp only [Act.put, List.setIfInBounds_toArray, List.set_cons_zero, List.set_cons_succ]
                      refine take_in (i := 10) (v := ?_) (d := (some 155)) rfl rfl ?_ ?_ ?_ ?_ ?_ ?_ ?_ ?_
                      rotate_left
                      · kernel_rfl
                      · kernel_rfl
                      · kernel_rfl
                      · (intro _ _ _ hq; exact hq)
                      · rfl
                      · (intro _w hSw; (try dsimp only at hSw); go_simp; try with_reducible rfl)
                      · assumption
                      try simp only [Act.put, List.setIfInBounds_toArray, List.set_cons_zero, List.set_cons_succ]
                      refine take_in (i := 11) (v := ?_) (d := (some 156)) rfl rfl ?_ ?_ ?_ ?_ ?_ ?_ ?_ ?_
                      rotate_left
                      · kernel_rfl
                      · kernel_rfl
                      · kernel_rfl
                      · (intro _ _ _ hq; exact hq)
                      · rfl
                      · (intro _w hSw; (try dsimp only at hSw); go_simp; try with_reducible rfl)
                      · assumption
                      try simp only [Act.put, List.setIfInBounds_toArray, List.set_cons_zero, List.set_cons_succ]
                      refine take_in (i := 12) (v := ?_) (d := (some 157)) rfl rfl ?_ ?_ ?_ ?_ ?_ ?_ ?_ ?_
                      rotate_left
                      · kernel_rfl
                      · kernel_rfl
                      · kernel_rfl
                      · (intro _ _ _ hq; exact hq)
                      · rfl
                      · (intro _w hSw; (try dsimp only at hSw); go_simp; try with_reducible rfl)
                      · assumption
                      try simp only [Act.put, List.setIfInBounds_toArray, List.set_cons_zero, List.set_cons_succ]
                      refine take_in (i := 13) (v := ?_) (d := (some 158)) rfl rfl ?_ ?_ ?_ ?_ ?_ ?_ ?_ ?_
                      rotate_left
                      · kernel_rfl
                      · kernel_rfl
                      · kernel_rfl
                      · (intro _ _ _ hq; exact hq)
                      · rfl
                      · (intro _w hSw; (try dsimp only at hSw); go_simp; try with_reducible rfl)
                      · assumption
                      try simp only [Act.put, List.setIfInBounds_toArray, List.set_cons_zero, List.set_cons_succ]
                      refine take_in (i := 14) (v := ?_) (d := (some 159)) rfl rfl ?_ ?_ ?_ ?_ ?_ ?_ ?_ ?_
                      rotate_left
                      · kernel_rfl
                      · kernel_rfl
                      · kernel_rfl
                      · (intro _ _ _ hq; exact hq)
                      · rfl
                      · (intro _w hSw; (try dsimp only at hSw); go_simp; try with_reducible rfl)
                      · assumption
                      try simp only [Act.put, List.setIfInBounds_toArray, List.set_cons_zero, List.set_cons_succ]
                      refine take_in (i := 15) (v := ?_) (d := (some 160)) rfl rfl ?_ ?_ ?_ ?_ ?_ ?_ ?_ ?_
                      rotate_left
                      · kernel_rfl
                      · kernel_rfl
                      · kernel_rfl
                      · (intro _ _ _ hq; exact hq)
                      · rfl
                      · (intro _w hSw; (try dsimp only at hSw); go_simp; try with_reducible rfl)
                      · assumption
                      try simp only [Act.put, List.setIfInBounds_toArray, List.set_cons_zero, List.set_cons_succ]
                      refine take_in (i := 16) (v := ?_) (d := (some 161)) rfl rfl ?_ ?_ ?_ ?_ ?_ ?_ ?_ ?_
                      rotate_left
                      · kernel_rfl
                      · kernel_rfl
                      · kernel_rfl
                      · (intro _ _ _ hq; exact hq)
                      · rfl
                      · (intro _w hSw; (try dsimp only at hSw); go_simp; try with_reducible rfl)
                      · assumption
                      try simp only [Act.put, List.setIfInBounds_toArray, List.set_cons_zero, List.set_cons_succ]
                      refine take_in (i := 17) (v := ?_) (d := (some 162)) rfl rfl ?_ ?_ ?_ ?_ ?_ ?_ ?_ ?_
                      rotate_left
                      · kernel_rfl
                      · kernel_rfl
                      · kernel_rfl
                      · (intro _ _ _ hq; exact hq)
                      · rfl
                      · (intro _w hSw; (try dsimp only at hSw); go_simp; try with_reducible rfl)
                      · assumption
                      try simp only [Act.put, List.setIfInBounds_toArray, List.set_cons_zero, List.set_cons_succ]
                      refine take_in (i := 18) (v := ?_) (d := (some 163)) rfl rfl ?_ ?_ ?_ ?_ ?_ ?_ ?_ ?_
                      rotate_left
                      · kernel_rfl
                      · kernel_rfl
                      · kernel_rfl
                      · (intro _ _ _ hq; exact hq)
                      · rfl
                      · (intro _w hSw; (try dsimp only at hSw); go_simp; try with_reducible rfl)
                      · assumption
                      try simp only [Act.put, List.setIfInBounds_toArray, List.set_cons_zero, List.set_cons_succ]
                      refine take_in (i := 19) (v := ?_) (d := (some 164)) rfl rfl ?_ ?_ ?_ ?_ ?_ ?_ ?_ ?_
                      rotate_left
                      · kernel_rfl
                      · kernel_rfl
                      · kernel_rfl
                      · (intro _ _ _ hq; exact hq)
                      · rfl
                      · (intro _w hSw; (try dsimp only at hSw); go_simp; try with_reducible rfl)
                      · assumption
                      try simp only [Act.put, List.setIfInBounds_toArray, List.set_cons_zero, List.set_cons_succ]
                      refine take_in (i := 20) (v := ?_) (d := (some 165)) rfl rfl ?_ ?_ ?_ ?_ ?_ ?_ ?_ ?_
                      rotate_left
                      · kernel_rfl
                      · kernel_rfl
                      · kernel_rfl
                      · (intro _ _ _ hq; exact hq)
                      · rfl
                      · (intro _w hSw; (try dsimp only at hSw); go_simp; try with_reducible rfl)
                      · assumption
                      try simp only [Act.put, List.setIfInBounds_toArray, List.set_cons_zero, List.set_cons_succ]
                      refine take_in (i := 21) (v := ?_) (d := (some 166)) rfl rfl ?_ ?_ ?_ ?_ ?_ ?_ ?_ ?_
                      rotate_left
                      · kernel_rfl
                      · kernel_rfl
                      · kernel_rfl
                      · (intro _ _ _ hq; exact hq)
                      · rfl
                      · (intro _w hSw; (try dsimp only at hSw); go_simp; try with_reducible rfl)
                      · assumption
                      try simp only [Act.put, List.setIfInBounds_toArray, List.set_cons_zero, List.set_cons_succ]
                      refine take_in (i := 22) (v := ?_) (d := (some 167)) rfl rfl ?_ ?_ ?_ ?_ ?_ ?_ ?_ ?_
                      rotate_left
                      · kernel_rfl
                      · kernel_rfl
                      · kernel_rfl
                      · (intro _ _ _ hq; exact hq)
                      · rfl
                      · (intro _w hSw; (try dsimp only at hSw); go_simp; try with_reducible rfl)
                      · assumption
                      try simp only [Act.put, List.setIfInBounds_toArray, List.set_cons_zero, List.set_cons_succ]
                      refine take_in (i := 23) (v := ?_) (d := (some 168)) rfl rfl ?_ ?_ ?_ ?_ ?_ ?_ ?_ ?_
                      rotate_left
                      · kernel_rfl
                      · kernel_rfl
                      · kernel_rfl
                      · (intro _ _ _ hq; exact hq)
                      · rfl
                      · (intro _w hSw; (try dsimp only at hSw); go_simp; try with_reducible rfl)
                      · assumption
                      try simp only [Act.put, List.setIfInBounds_toArray, List.set_cons_zero, List.set_cons_succ]
                      refine take_in (i := 24) (v := ?_) (d := (some 144)) rfl rfl ?_ ?_ ?_ ?_ ?_ ?_ ?_ ?_
                      rotate_left
                      · kernel_rfl
                      · kernel_rfl
                      · kernel_rfl
                      · (intro _ _ _ hq; exact hq)
                      · rfl
                      · (intro _w hSw; (try dsimp only at hSw); go_simp; try with_reducible rfl)
                      · assumption
                      try simp only [Act.put, List.setIfInBounds_toArray, List.set_cons_zero, List.set_cons_succ]
                      refine wpAnyH_done ?_ ?_ _
                      · kernel_rfl
                      rotate_left
                      all_goals
                        obtain ⟨hB, -⟩ := hHeld
                        go_wp2_with fail
                        go_roundw
                        case rel => exact ⟨b + 1, by omega, by go_num, Lib.hid (hnext.out ⟨fun h => absurd h HBM.out, fun _ _ => H12.out⟩), Lib.hid (hmb.out.keep hB), hgb.trans hB⟩
                        case measure => simp [intOf]; omega
                    · have h12b : (c1 != c2) = true := by simpa using h12
                      have H12 := Lib.hid h12
                      clear h12
                      refine wp_region_held_drew (S := (fun W' => Gr wx W' ∧ W'.cell? ⟨M, p1, none⟩ = some (.int .i64 c1) ∧ W'.cell? ⟨M, p2, none⟩ = some (.int .i64 c2))) ?_ ?_ (fun hHeld => ?_)
                      · kernel_rfl
                      · ((try dsimp only); ((try go_split_ands); (repeat' apply And.intro) <;> (repeat (first | assumption | (exact Gr.refl _) | (refine Gr.drew ?_) | (refine Gr.alloc ?_ _) | (refine alloc_old ?_) | (refine Gr.keep (by assumption) ?_) | (refine Gr.trans ?_ (by assumption))))))
                      refine take_in (i := 0) (v := ?_) (d := (some 145)) rfl rfl ?_ ?_ ?_ ?_ ?_ ?_ ?_ ?_
                      rotate_left
                      · kernel_rfl
                      · kernel_rfl
                      · kernel_rfl
                      · (intro _ _ _ hq; exact hq)
                      · rfl
                      · (intro _w hSw; (try dsimp only at hSw); go_simp; try with_reducible rfl)
                      · assumption
                      try simp only [Act.put, List.setIfInBounds_toArray, List.set_cons_zero, List.set_cons_succ]
                      refine take_in (i := 1) (v := ?_) (d := (some 146)) rfl rfl ?_ ?_ ?_ ?_ ?_ ?_ ?_ ?_
                      rotate_left
                      · kernel_rfl
                      · kernel_rfl
                      · kernel_rfl
                      · (intro _ _ _ hq; exact hq)
                      · rfl
                      · (intro _w hSw; (try dsimp only at hSw); go_simp; try with_reducible rfl)
                      · assumption
                      try simp only [Act.put, List.setIfInBounds_toArray, List.set_cons_zero, List.set_cons_succ]
                      refine take_in (i := 2) (v := ?_) (d := (some 147)) rfl rfl ?_ ?_ ?_ ?_ ?_ ?_ ?_ ?_
                      rotate_left
                      · kernel_rfl
                      · kernel_rfl
                      · kernel_rfl
                      · (intro _ _ _ hq; exact hq)
                      · rfl
                      · (intro _w hSw; (try dsimp only at hSw); go_simp; try with_reducible rfl)
                      · assumption
                      try simp only [Act.put, List.setIfInBounds_toArray, List.set_cons_zero, List.set_cons_succ]
                      refine wpAnyH_ready (rs := [3]) ?_ ?_ ?_
                      · kernel_rfl
                      · simp
                      refine (AllReadyH.cons rfl (fun K hK => ?_) AllReadyH.nil)
                      go_simp
                      first | (go_at_call 33; (with_reducible refine (HN2.out _).mono ?_); rintro e w5 ⟨rfl, rfl⟩)
                      refine hK.out _ _ ?_ (fun hHeld => ?_)
                      · ((try dsimp only); ((try go_split_ands); (repeat' apply And.intro) <;> (repeat (first | assumption | (exact Gr.refl _) | (refine Gr.drew ?_) | (refine Gr.alloc ?_ _) | (refine alloc_old ?_) | (refine Gr.keep (by assumption) ?_) | (refine Gr.trans ?_ (by assumption))))))
                      clear hK K
                      try simp only [Act.put, List.setIfInBounds_toArray, List.set_cons_zero, List.set_cons_succ]
                      refine take_in (i := 4) (v := ?_) (d := (some 149)) rfl rfl ?_ ?_ ?_ ?_ ?_ ?_ ?_ ?_
                      rotate_left
                      · kernel_rfl
                      · kernel_rfl
                      · kernel_rfl
                      · (intro _ _ _ hq; exact hq)
                      · rfl
                      · (intro _w hSw; (try dsimp only at hSw); go_simp; try with_reducible rfl)
                      · assumption
                      try simp only [Act.put, List.setIfInBounds_toArray, List.set_cons_zero, List.set_cons_succ]
                      refine take_in (i := 5) (v := ?_) (d := (some 150)) rfl rfl ?_ ?_ ?_ ?_ ?_ ?_ ?_ ?_
                      rotate_left
                      · kernel_rfl
                      · kernel_rfl
                      · kernel_rfl
                      · (intro _ _ _ hq; exact hq)
                      · rfl
                      · (intro _w hSw; (try dsimp only at hSw); go_simp; try with_reducible rfl)
                      · assumption
                      try simp only [Act.put, List.setIfInBounds_toArray, List.set_cons_zero, List.set_cons_succ]
                      refine take_in (i := 6) (v := ?_) (d := (some 151)) rfl rfl ?_ ?_ ?_ ?_ ?_ ?_ ?_ ?_
                      rotate_left
                      · kernel_rfl
                      · kernel_rfl
                      · kernel_rfl
                      · (intro _ _ _ hq; exact hq)
                      · rfl
                      · (intro _w hSw; (try dsimp only at hSw); go_simp; try with_reducible rfl)
                      · assumption
                      try simp only [Act.put, List.setIfInBounds_toArray, List.set_cons_zero, List.set_cons_succ]
                      refine take_in (i := 7) (v := ?_) (d := (some 152)) rfl rfl ?_ ?_ ?_ ?_ ?_ ?_ ?_ ?_
                      rotate_left
                      · kernel_rfl
                      · kernel_rfl
                      · kernel_rfl
                      · (intro _ _ _ hq; exact hq)
                      · rfl
                      · (intro _w hSw; (try dsimp only at hSw); go_simp; try with_reducible rfl)
                      · assumption
                      try simp only [Act.put, List.setIfInBounds_toArray, List.set_cons_zero, List.set_cons_succ]
                      refine take_in (i := 8) (v := ?_) (d := (some 153)) rfl rfl ?_ ?_ ?_ ?_ ?_ ?_ ?_ ?_
                      rotate_left
                      · kernel_rfl
                      · kernel_rfl
                      · kernel_rfl
                      · (intro _ _ _ hq; exact hq)
                      · rfl
                      · (intro _w hSw; (try dsimp only at hSw); go_simp; try with_reducible rfl)
                      · assumption
                      try simp only [Act.put, List.setIfInBounds_toArray, List.set_cons_zero, List.set_cons_succ]
                      refine take_in (i := 9) (v := ?_) (d := (some 154)) rfl rfl ?_ ?_ ?_ ?_ ?_ ?_ ?_ ?_
                      rotate_left
                      · kernel_rfl
                      · kernel_rfl
                      · kernel_rfl
                      · (intro _ _ _ hq; exact hq)
                      · rfl
                      · (intro _w hSw; (try dsimp only at hSw); go_simp; try with_reducible rfl)
                      · assumption
                      try simp only [Act.put, List.setIfInBounds_toArray, List.set_cons_zero, List.set_cons_succ]
                      refine take_in (i := 10) (v := ?_) (d := (some 155)) rfl rfl ?_ ?_ ?_ ?_ ?_ ?_ ?_ ?_
                      rotate_left
                      · kernel_rfl
                      · kernel_rfl
                      · kernel_rfl
                      · (intro _ _ _ hq; exact hq)
                      · rfl
                      · (intro _w hSw; (try dsimp only at hSw); go_simp; try with_reducible rfl)
                      · assumption
                      try simp only [Act.put, List.setIfInBounds_toArray, List.set_cons_zero, List.set_cons_succ]
                      refine take_in (i := 11) (v := ?_) (d := (some 156)) rfl rfl ?_ ?_ ?_ ?_ ?_ ?_ ?_ ?_
                      rotate_left
                      · kernel_rfl
                      · kernel_rfl
                      · kernel_rfl
                      · (intro _ _ _ hq; exact hq)
                      · rfl
                      · (intro _w hSw; (try dsimp only at hSw); go_simp; try with_reducible rfl)
                      · assumption
                      try simp only [Act.put, List.setIfInBounds_toArray, List.set_cons_zero, List.set_cons_succ]
                      refine take_in (i := 12) (v := ?_) (d := (some 157)) rfl rfl ?_ ?_ ?_ ?_ ?_ ?_ ?_ ?_
                      rotate_left
                      · kernel_rfl
                      · kernel_rfl
                      · kernel_rfl
                      · (intro _ _ _ hq; exact hq)
                      · rfl
                      · (intro _w hSw; (try dsimp only at hSw); go_simp; try with_reducible rfl)
                      · assumption
                      try simp only [Act.put, List.setIfInBounds_toArray, List.set_cons_zero, List.set_cons_succ]
                      refine take_in (i := 13) (v := ?_) (d := (some 158)) rfl rfl ?_ ?_ ?_ ?_ ?_ ?_ ?_ ?_
                      rotate_left
                      · kernel_rfl
                      · kernel_rfl
                      · kernel_rfl
                      · (intro _ _ _ hq; exact hq)
                      · rfl
                      · (intro _w hSw; (try dsimp only at hSw); go_simp; try with_reducible rfl)
                      · assumption
                      try simp only [Act.put, List.setIfInBounds_toArray, List.set_cons_zero, List.set_cons_succ]
                      refine take_in (i := 14) (v := ?_) (d := (some 159)) rfl rfl ?_ ?_ ?_ ?_ ?_ ?_ ?_ ?_
                      rotate_left
                      · kernel_rfl
                      · kernel_rfl
                      · kernel_rfl
                      · (intro _ _ _ hq; exact hq)
                      · rfl
                      · (intro _w hSw; (try dsimp only at hSw); go_simp; try with_reducible rfl)
                      · assumption
                      try simp only [Act.put, List.setIfInBounds_toArray, List.set_cons_zero, List.set_cons_succ]
                      refine take_in (i := 15) (v := ?_) (d := (some 160)) rfl rfl ?_ ?_ ?_ ?_ ?_ ?_ ?_ ?_
                      rotate_left
                      · kernel_rfl
                      · kernel_rfl
                      · kernel_rfl
                      · (intro _ _ _ hq; exact hq)
                      · rfl
                      · (intro _w hSw; (try dsimp only at hSw); go_simp; try with_reducible rfl)
                      · assumption
                      try simp only [Act.put, List.setIfInBounds_toArray, List.set_cons_zero, List.set_cons_succ]
                      refine take_in (i := 16) (v := ?_) (d := (some 161)) rfl rfl ?_ ?_ ?_ ?_ ?_ ?_ ?_ ?_
                      rotate_left
                      · kernel_rfl
                      · kernel_rfl
                      · kernel_rfl
                      · (intro _ _ _ hq; exact hq)
                      · rfl
                      · (intro _w hSw; (try dsimp only at hSw); go_simp; try with_reducible rfl)
                      · assumption
                      try simp only [Act.put, List.setIfInBounds_toArray, List.set_cons_zero, List.set_cons_succ]
                      refine take_in (i := 17) (v := ?_) (d := (some 162)) rfl rfl ?_ ?_ ?_ ?_ ?_ ?_ ?_ ?_
                      rotate_left
                      · kernel_rfl
                      · kernel_rfl
                      · kernel_rfl
                      · (intro _ _ _ hq; exact hq)
                      · rfl
                      · (intro _w hSw; (try dsimp only at hSw); go_simp; try with_reducible rfl)
                      · assumption
                      try simp only [Act.put, List.setIfInBounds_toArray, List.set_cons_zero, List.set_cons_succ]
                      refine take_in (i := 18) (v := ?_) (d := (some 163)) rfl rfl ?_ ?_ ?_ ?_ ?_ ?_ ?_ ?_
                      rotate_left
                      · kernel_rfl
                      · kernel_rfl
                      · kernel_rfl
                      · (intro _ _ _ hq; exact hq)
                      · rfl
                      · (intro _w hSw; (try dsimp only at hSw); go_simp; try with_reducible rfl)
                      · assumption
                      try simp only [Act.put, List.setIfInBounds_toArray, List.set_cons_zero, List.set_cons_succ]
                      refine take_in (i := 19) (v := ?_) (d := (some 164)) rfl rfl ?_ ?_ ?_ ?_ ?_ ?_ ?_ ?_
                      rotate_left
                      · kernel_rfl
                      · kernel_rfl
                      · kernel_rfl
                      · (intro _ _ _ hq; exact hq)
                      · rfl
                      · (intro _w hSw; (try dsimp only at hSw); go_simp; try with_reducible rfl)
                      · assumption
                      try simp only [Act.put, List.setIfInBounds_toArray, List.set_cons_zero, List.set_cons_succ]
                      refine take_in (i := 20) (v := ?_) (d := (some 165)) rfl rfl ?_ ?_ ?_ ?_ ?_ ?_ ?_ ?_
                      rotate_left
                      · kernel_rfl
                      · kernel_rfl
                      · kernel_rfl
                      · (intro _ _ _ hq; exact hq)
                      · rfl
                      · (intro _w hSw; (try dsimp only at hSw); go_simp; try with_reducible rfl)
                      · assumption
                      try simp only [Act.put, List.setIfInBounds_toArray, List.set_cons_zero, List.set_cons_succ]
                      refine take_in (i := 21) (v := ?_) (d := (some 166)) rfl rfl ?_ ?_ ?_ ?_ ?_ ?_ ?_ ?_
                      rotate_left
                      · kernel_rfl
                      · kernel_rfl
                      · kernel_rfl
                      · (intro _ _ _ hq; exact hq)
                      · rfl
                      · (intro _w hSw; (try dsimp only at hSw); go_simp; try with_reducible rfl)
                      · assumption
                      try simp only [Act.put, List.setIfInBounds_toArray, List.set_cons_zero, List.set_cons_succ]
                      refine take_in (i := 22) (v := ?_) (d := (some 167)) rfl rfl ?_ ?_ ?_ ?_ ?_ ?_ ?_ ?_
                      rotate_left
                      · kernel_rfl
                      · kernel_rfl
                      · kernel_rfl
                      · (intro _ _ _ hq; exact hq)
                      · rfl
                      · (intro _w hSw; (try dsimp only at hSw); go_simp; try with_reducible rfl)
                      · assumption
                      try simp only [Act.put, List.setIfInBounds_toArray, List.set_cons_zero, List.set_cons_succ]
                      refine take_in (i := 23) (v := ?_) (d := (some 168)) rfl rfl ?_ ?_ ?_ ?_ ?_ ?_ ?_ ?_
                      rotate_left
                      · kernel_rfl
                      · kernel_rfl
                      · kernel_rfl
                      · (intro _ _ _ hq; exact hq)
                      · rfl
                      · (intro _w hSw; (try dsimp only at hSw); go_simp; try with_reducible rfl)
                      · assumption
                      try simp only [Act.put, List.setIfInBounds_toArray, List.set_cons_zero, List.set_cons_succ]
                      refine take_in (i := 24) (v := ?_) (d := (some 144)) rfl rfl ?_ ?_ ?_ ?_ ?_ ?_ ?_ ?_
                      rotate_left
                      · kernel_rfl
                      · kernel_rfl
                      · kernel_rfl
                      · (intro _ _ _ hq; exact hq)
                      · rfl
                      · (intro _w hSw; (try dsimp only at hSw); go_simp; try with_reducible rfl)
                      · assumption
                      try simp only [Act.put, List.setIfInBounds_toArray, List.set_cons_zero, List.set_cons_succ]
                      refine wpAnyH_done ?_ ?_ _
                      · kernel_rfl
                      rotate_left
                      all_goals
                        obtain ⟨hB, -⟩ := hHeld
                        go_wp2_with fail
                        go_ret
                        obtain ⟨r, hr, hr2, hr3⟩ := hbad.out (fun h => H12.out (h.2 HBM.out HAM.out))
                        exact ⟨r, hr, hr2, hr3.trans hB⟩
              · obtain rfl : b = n := by omega
                have hlb' : ¬ ((b : Int) < (b : Int)) := by omega
                clear hlb
                go_wp2_with fail
                go_roundw
                case rel => exact ⟨a + 1, by omega, by go_num, Lib.hid (fun x hx => by
                  rcases Nat.lt_succ_iff_lt_or_eq.1 hx with h | rfl
                  · exact hda.out x h
                  · exact hdb.out), hmb, hgb⟩
                case measure => simp [intOf]; omega
          · obtain rfl : a = n := by omega
            have hla' : ¬ ((a : Int) < (a : Int)) := by omega
            clear hla
            go_wp2_with fail
            go_ret
            exact ⟨true, rfl, ⟨fun _ => HFIN.out.2 hda.out, fun _ => rfl⟩, hga⟩
  · have hne : ((n' : Int) != (n : Int) - 2) = true := by simp; omega
    go_enter Try.func15, Try.ntmps15
    go_wp2_with fail
    go_ret
    refine ⟨false, rfl, ⟨fun h => absurd h (by decide), fun h => ?_⟩, Gr.refl _⟩
    have := h.1
    rw [HN.out, HN'.out] at this
    exact absurd this hlen

end Go.Proofs.Ytjkdjfagaakijaa
