/- isTriangulation and Covers of the program. -/
import Derived.Test.YtjkdjfagaakijaaSidesF
import Derived.Test.YtjkdjfagaakijaaSimple
import Derived.Test.YtjkdjfagaakijaaHeld
namespace Go.Proofs.Ytjkdjfagaakijaa
open Go.RowKit
set_option linter.unusedSimpArgs false

theorem direction_any (A : Option Addr) (n c : Nat) (ps : List (Int × Int)) (w : World) (hn : ps.length = n) (hl : n ≤ 1048576) (hp : Pts w A ps) (hv : Cos ps) :
    Calls Try.prog 30 #[.slice A n c] w fun e w' => e = .returned (.int .i64 (sgn (areaL ps))) ∧ Gr w w' := by
  have HC := Lib.hid (doubleArea_any A n c ps w hn hl hp hv)
  clear hn hl hp hv
  go_enter Try.func30, Try.ntmps30
  go_wp2_with fail
  refine HC.out.mono ?_
  rintro e w1 ⟨rfl, hg⟩
  go_wp2_with fail
  refine (cmp_any _ _ _).mono ?_
  rintro e w2 ⟨rfl, rfl⟩
  rw [Int.sub_zero]
  go_wp2_with fail
  go_ret
  exact ⟨rfl, hg⟩
theorem box3t {w W : World} {t : TypeId} {a b c : Value} (hW : w.alloc (.cells #[a, b, c] t) = W) : Gr w W ∧ Blk W w.heap.size t #[a, b, c] := by
  subst hW; exact ⟨(Gr.refl _).alloc _, heap_alloc_new w _⟩

theorem cell_gb {g G i : Nat} {w w' : World} {v : Value} (hb : Gb g w w') (h : w.cell? ⟨G, i, none⟩ = some v) (hne : G ≠ g) : w'.cell? ⟨G, i, none⟩ = some v := by
  rw [hb.cell (World.block_lt_of_cell? w _ h) hne]
  exact h
/-- 'm[p]++' on a map that counts sides. -/
theorem CMp.enter {w : World} {g : Nat} {l : List ((Int × Int) × Int)} (h : CMp w g l) {n : Nat} (hn : n ≤ 1048576) {a b : Int} (ha : 0 ≤ a ∧ a < n) (hb : 0 ≤ b ∧ b < n) :
    ∃ (st : Nat) (w1 : World), (Instr.mapEntry 78 (.map (some g)) (.agg #[.int .i64 a, .int .i64 b])).run Try.prog w = .ok (.tuple #[.int .i64 ((mget l (a, b)).getD 0), goInt st]) w1 ∧ CMp w1 g (mput l (a, b) ((mget l (a, b)).getD 0)) ∧ Gb g w w1 ∧ w1.heap.size = w.heap.size ∧
      ∀ (w2 : World) (y : Int), Gr w1 w2 → ∃ w3, (Instr.entryStore 78 (.map (some g)) (goInt st) (.int .i64 y)).run Try.prog w2 = .ok () w3 ∧ CMp w3 g (mput l (a, b) y) ∧ Gb g w2 w3 ∧ w3.heap.size = w2.heap.size := by
  obtain ⟨kl, hk⟩ := pair_key (p := (a, b)) (by dsimp only; omega) (by dsimp only; omega)
  have hz : ∀ u : World, (zeroValue 3).run Try.prog u = .ok (intV 0) u := zero_int
  have h1 := Mp.enter h pairK_inj pair_keyed Try.underlying78 hz hk
  exact h1
theorem CMp.look' {w : World} {g : Nat} {l : List ((Int × Int) × Int)} (h : CMp w g l) {n : Nat} (hn : n ≤ 1048576) {a b : Int} (ha : 0 ≤ a ∧ a < n) (hb : 0 ≤ b ∧ b < n) {o : Int} (ho : (mget l (a, b)).getD 0 = o) :
    (Instr.lookup 78 (.map (some g)) (.agg #[.int .i64 a, .int .i64 b]) false).run Try.prog w = .ok (.int .i64 o) w := by
  obtain ⟨kl, hk⟩ := pair_key (p := (a, b)) (by dsimp only; omega) (by dsimp only; omega)
  have h1 := Mp.look h pairK_inj pair_keyed Try.underlying78 (zero_int w) false hk
  have h2 : ((mget l (a, b)).map intV).getD (.int .i64 0) = .int .i64 o := by
    rw [← ho]
    cases mget l (a, b) <;> rfl
  rw [h2] at h1
  exact h1

set_option maxRecDepth 100000 in
set_option maxHeartbeats 8000000 in
theorem isTri_any (A : Option Addr) (n c : Nat) (ps : List (Int × Int)) (B : Option Addr) (n' c' : Nat) (ts : List (Int × Int × Int)) (w : World) (hn : ps.length = n) (h3 : 3 ≤ n) (hl : n ≤ 512) (hp : Pts w A ps) (hv : Cos ps) (hn' : ts.length = n') (hl' : n' ≤ 281474976710656) (ht : Tris w B ts) :
    Calls Try.prog 37 #[.slice A n c, .slice B n' c'] w (BoolPost (CovP ps ts) w) := by
  have HN := Lib.hid hn
  have HN' := Lib.hid hn'
  have HP := Lib.hid hp
  have HT := Lib.hid ht
  have HV := Lib.hid hv
  have HD := Lib.hid (fun W (hW : Gr w W) => direction_any A n c ps W hn (by omega) (hp.keep hW) hv)
  clear hn hn' hp ht hv
  by_cases hlen : n' + 2 = n
  · have hne : ((n' : Int) != (n : Int) - 2) = false := by simp; omega
    have hmm := @run_makeMap Try.prog
    go_enter Try.func37, Try.ntmps37
    go_wp2_with fail
    refine (HD.out _ (by (repeat (first | exact Gr.refl _ | assumption | (refine Gr.drew ?_) | (refine Gr.drewN ?_ _) | (refine Gr.alloc ?_ _) | (refine Gr.trans ?_ (by assumption)))))).mono ?_
    rintro e w1 ⟨rfl, hg1⟩
    have HWAY := Lib.hid (rfl : sgn (areaL ps) = sgn (areaL ps))
    obtain ⟨way, hway⟩ : ∃ way, sgn (areaL ps) = way := ⟨_, rfl⟩
    rw [hway]
    replace HWAY := Lib.hid hway
    clear hway HD
    go_wp2_with fail
    generalize hW : World.alloc w1 _ = w2
    have hM0 : CMp w2 w1.heap.size [] := by rw [← hW]; exact Mp_made w1
    have hg2 : Gr w w2 := by rw [← hW]; exact hg1.alloc _
    have hMg := hg1.size
    generalize w1.heap.size = M at hM0 hMg ⊢
    have HM0 := Lib.hid hM0
    clear hW hM0 hmm
    go_loopw [23] (fun i wr => ∃ (k : Nat) (l : List ((Int × Int) × Int)), k ≤ n' ∧ i = .int .i64 k ∧ Hid (CMp wr M l) ∧ Hid (CInv n l (sidesL (ts.take k))) ∧ Hid (∀ t ∈ ts.take k, TriP ps t) ∧ Gr w wr) (fun i _ => n' - (intOf i).toNat)
    case atStart => exact ⟨0, [], by omega, rfl, HM0, Lib.hid (CInv.nil n), Lib.hid (fun t h => by cases h), hg2⟩
    case round =>
      obtain ⟨k, l, hk, rfl, hm, hc, htr, hgr⟩ := hrel
      clear HM0 hg2
      by_cases hlt : k < n'
      · obtain ⟨bt, ot, rfl, t0, t1, t2⟩ := Tris_at (HT.out.keep hgr) (i := k) (by rw [HN'.out]; exact hlt)
        obtain ⟨x, y, z, hxyz⟩ : ∃ x y z, ts.getD k (0, 0, 0) = (x, y, z) := ⟨_, _, _, rfl⟩
        rw [hxyz] at t0 t1 t2
        dsimp only at t0 t1 t2
        have HX := Lib.hid hxyz
        clear hxyz
        have hltI : (k : Int) < (n' : Int) := by omega
        go_upto_region 9 with fail
        generalize hW : World.alloc wr _ = wa
        obtain ⟨hga, hBa⟩ := box3t hW
        have HBA := Lib.hid hBa
        clear hW hBa
        have hMG := hm.out.lt
        generalize wr.heap.size = G at HBA hMG ⊢
        have b0 : wa.cell? ⟨G, 0, none⟩ = some (.int .i64 x) := HBA.out.cell 0
        have b1 : wa.cell? ⟨G, 1, none⟩ = some (.int .i64 y) := HBA.out.cell 1
        have b2 : wa.cell? ⟨G, 2, none⟩ = some (.int .i64 z) := HBA.out.cell 2
        clear t0 t1 t2
        go_cut [45] from 27 to 44 (fun v wx => ∃ q : Bool, v = .bool q ∧ (q = true ↔ ¬((0 ≤ x ∧ x < n) ∧ (0 ≤ y ∧ y < n) ∧ (0 ≤ z ∧ z < n))) ∧ wa = wx)
        case first =>
          go_wp2_with fail
          all_goals
            go_meet
            exact ⟨_, rfl, by simp only [Bool.or_eq_true, decide_eq_true_eq, eq_self, true_iff]; omega, rfl⟩
        case rest =>
          obtain ⟨q, rfl, hq, rfl⟩ := hcut
          cases q with
          | true =>
            have hq' := Lib.hid (hq.1 rfl)
            clear hq
            go_wp2_with fail
            go_ret
            refine ⟨false, rfl, ⟨fun h => absurd h (by decide), fun h => ?_⟩, hgr.trans hga⟩
            obtain ⟨p1, p2, p3, -⟩ := h.2.1 (x, y, z) (by rw [← HX.out]; exact List.mem_of_getElem? (getD_of _ (by rw [HN'.out]; exact hlt)))
            rw [HN.out] at p1 p2 p3
            exact absurd ⟨p1, p2, p3⟩ hq'.out
          | false =>
            have hin : (0 ≤ x ∧ x < n) ∧ (0 ≤ y ∧ y < n) ∧ (0 ≤ z ∧ z < n) := by
              rcases Classical.em ((0 ≤ x ∧ x < n) ∧ (0 ≤ y ∧ y < n) ∧ (0 ≤ z ∧ z < n)) with h | h
              · exact h
              · exact absurd (hq.2 h) (by decide)
            clear hq
            obtain ⟨x, rfl⟩ : ∃ a' : Nat, x = a' := ⟨x.toNat, by omega⟩
            obtain ⟨y, rfl⟩ : ∃ a' : Nat, y = a' := ⟨y.toNat, by omega⟩
            obtain ⟨z, rfl⟩ : ∃ a' : Nat, z = a' := ⟨z.toNat, by omega⟩
            have hx : x < n := by omega
            have hy : y < n := by omega
            have hz : z < n := by omega
            have hgra := hgr.trans hga
            obtain ⟨bp, op, rfl, x1c, x2c⟩ := Pts_at (HP.out.keep hgra) (k := x) (by rw [HN.out]; exact hx)
            obtain ⟨_, _, e1, y1c, y2c⟩ := Pts_at (HP.out.keep hgra) (k := y) (by rw [HN.out]; exact hy)
            cases e1
            obtain ⟨_, _, e1, z1c, z2c⟩ := Pts_at (HP.out.keep hgra) (k := z) (by rw [HN.out]; exact hz)
            cases e1
            have cx := HV.out x
            have cy := HV.out y
            have cz := HV.out z
            have HTR : Hid (TriP ps ((x : Int), (y : Int), (z : Int)) ↔ sgn (crs (ps.getD x (0, 0)).1 (ps.getD x (0, 0)).2 (ps.getD y (0, 0)).1 (ps.getD y (0, 0)).2 (ps.getD z (0, 0)).1 (ps.getD z (0, 0)).2) = way) := Lib.hid (by
              unfold TriP
              rw [HWAY.out, HN.out]
              exact ⟨fun h => h.2.2.2, fun h => ⟨hin.1, hin.2.1, hin.2.2, h⟩⟩)
            generalize (ps.getD x (0, 0)).1 = x1 at x1c cx HTR
            generalize (ps.getD x (0, 0)).2 = x2 at x2c cx HTR
            generalize (ps.getD y (0, 0)).1 = y1 at y1c cy HTR
            generalize (ps.getD y (0, 0)).2 = y2 at y2c cy HTR
            generalize (ps.getD z (0, 0)).1 = z1 at z1c cz HTR
            generalize (ps.getD z (0, 0)).2 = z2 at z2c cz HTR
            have HTN := Lib.hid (fun W => turn_any x1 x2 y1 y2 z1 z2 W cx.1 cx.2 cy.1 cy.2 cz.1 cz.2)
            generalize sgn (crs x1 x2 y1 y2 z1 z2) = tn at HTR HTN
            have HIN := Lib.hid hin
            clear hin cx cy cz
            have hxI : (x : Int) < (n : Int) := by omega
            have hyI : (y : Int) < (n : Int) := by omega
            have hzI : (z : Int) < (n : Int) := by omega
            go_upto_region 11 with fail
            by_cases htw : tn = way
            · have htb : (tn != way) = false := by simpa using htw
              have HTW := Lib.hid htw
              clear htw
              refine wp_region_held_drew (S := (fun W' => Gr wa W' ∧ W'.cell? ⟨G, 0, none⟩ = some (.int .i64 x) ∧ W'.cell? ⟨G, 1, none⟩ = some (.int .i64 y) ∧ W'.cell? ⟨G, 2, none⟩ = some (.int .i64 z) ∧ W'.cell? ⟨bp, op + x * 2, none⟩ = some (.int .i64 x1) ∧ W'.cell? ⟨bp, op + x * 2 + 1, none⟩ = some (.int .i64 x2) ∧ W'.cell? ⟨bp, op + y * 2, none⟩ = some (.int .i64 y1) ∧ W'.cell? ⟨bp, op + y * 2 + 1, none⟩ = some (.int .i64 y2) ∧ W'.cell? ⟨bp, op + z * 2, none⟩ = some (.int .i64 z1) ∧ W'.cell? ⟨bp, op + z * 2 + 1, none⟩ = some (.int .i64 z2))) ?_ ?_ (fun hHeld => ?_)
              · kernel_rfl
              · ((try dsimp only); ((try go_split_ands); (repeat' apply And.intro) <;> (repeat (first | assumption | (exact Gr.refl _) | (refine Gr.drew ?_) | (refine Gr.alloc ?_ _) | (refine alloc_old ?_) | (refine Gr.keep (by assumption) ?_) | (refine Gr.trans ?_ (by assumption))))))
              refine take_in (i := 0) (v := ?_) (d := (some 46)) rfl rfl ?_ ?_ ?_ ?_ ?_ ?_ ?_ ?_
              rotate_left
              · kernel_rfl
              · kernel_rfl
              · kernel_rfl
              · (intro _ _ _ hq; exact hq)
              · rfl
              · (intro _w hSw; (try dsimp only at hSw); go_simp; try with_reducible rfl)
              · assumption
              try simp only [Act.put, List.setIfInBounds_toArray, List.set_cons_zero, List.set_cons_succ]
              refine take_in (i := 1) (v := ?_) (d := (some 47)) rfl rfl ?_ ?_ ?_ ?_ ?_ ?_ ?_ ?_
              rotate_left
              · kernel_rfl
              · kernel_rfl
              · kernel_rfl
              · (intro _ _ _ hq; exact hq)
              · rfl
              · (intro _w hSw; (try dsimp only at hSw); go_simp; try with_reducible rfl)
              · assumption
              try simp only [Act.put, List.setIfInBounds_toArray, List.set_cons_zero, List.set_cons_succ]
              refine take_in (i := 2) (v := ?_) (d := (some 48)) rfl rfl ?_ ?_ ?_ ?_ ?_ ?_ ?_ ?_
              rotate_left
              · kernel_rfl
              · kernel_rfl
              · kernel_rfl
              · (intro _ _ _ hq; exact hq)
              · rfl
              · (intro _w hSw; (try dsimp only at hSw); go_simp; try with_reducible rfl)
              · assumption
              try simp only [Act.put, List.setIfInBounds_toArray, List.set_cons_zero, List.set_cons_succ]
              refine take_in (i := 3) (v := ?_) (d := (some 49)) rfl rfl ?_ ?_ ?_ ?_ ?_ ?_ ?_ ?_
              rotate_left
              · kernel_rfl
              · kernel_rfl
              · kernel_rfl
              · (intro _ _ _ hq; exact hq)
              · rfl
              · (intro _w hSw; (try dsimp only at hSw); go_simp; try with_reducible rfl)
              · assumption
              try simp only [Act.put, List.setIfInBounds_toArray, List.set_cons_zero, List.set_cons_succ]
              refine take_in (i := 4) (v := ?_) (d := (some 50)) rfl rfl ?_ ?_ ?_ ?_ ?_ ?_ ?_ ?_
              rotate_left
              · kernel_rfl
              · kernel_rfl
              · kernel_rfl
              · (intro _ _ _ hq; exact hq)
              · rfl
              · (intro _w hSw; (try dsimp only at hSw); go_simp; try with_reducible rfl)
              · assumption
              try simp only [Act.put, List.setIfInBounds_toArray, List.set_cons_zero, List.set_cons_succ]
              refine take_in (i := 5) (v := ?_) (d := (some 51)) rfl rfl ?_ ?_ ?_ ?_ ?_ ?_ ?_ ?_
              rotate_left
              · kernel_rfl
              · kernel_rfl
              · kernel_rfl
              · (intro _ _ _ hq; exact hq)
              · rfl
              · (intro _w hSw; (try dsimp only at hSw); go_simp; try with_reducible rfl)
              · assumption
              try simp only [Act.put, List.setIfInBounds_toArray, List.set_cons_zero, List.set_cons_succ]
              refine take_in (i := 6) (v := ?_) (d := (some 52)) rfl rfl ?_ ?_ ?_ ?_ ?_ ?_ ?_ ?_
              rotate_left
              · kernel_rfl
              · kernel_rfl
              · kernel_rfl
              · (intro _ _ _ hq; exact hq)
              · rfl
              · (intro _w hSw; (try dsimp only at hSw); go_simp; try with_reducible rfl)
              · assumption
              try simp only [Act.put, List.setIfInBounds_toArray, List.set_cons_zero, List.set_cons_succ]
              refine take_in (i := 7) (v := ?_) (d := (some 53)) rfl rfl ?_ ?_ ?_ ?_ ?_ ?_ ?_ ?_
              rotate_left
              · kernel_rfl
              · kernel_rfl
              · kernel_rfl
              · (intro _ _ _ hq; exact hq)
              · rfl
              · (intro _w hSw; (try dsimp only at hSw); go_simp; try with_reducible rfl)
              · assumption
              try simp only [Act.put, List.setIfInBounds_toArray, List.set_cons_zero, List.set_cons_succ]
              refine take_in (i := 8) (v := ?_) (d := (some 54)) rfl rfl ?_ ?_ ?_ ?_ ?_ ?_ ?_ ?_
              rotate_left
              · kernel_rfl
              · kernel_rfl
              · kernel_rfl
              · (intro _ _ _ hq; exact hq)
              · rfl
              · (intro _w hSw; (try dsimp only at hSw); go_simp; try with_reducible rfl)
              · assumption
              try simp only [Act.put, List.setIfInBounds_toArray, List.set_cons_zero, List.set_cons_succ]
              refine take_in (i := 9) (v := ?_) (d := (some 55)) rfl rfl ?_ ?_ ?_ ?_ ?_ ?_ ?_ ?_
              rotate_left
              · kernel_rfl
              · kernel_rfl
              · kernel_rfl
              · (intro _ _ _ hq; exact hq)
              · rfl
              · (intro _w hSw; (try dsimp only at hSw); go_simp; try with_reducible rfl)
              · assumption
              try simp only [Act.put, List.setIfInBounds_toArray, List.set_cons_zero, List.set_cons_succ]
              refine take_in (i := 10) (v := ?_) (d := (some 56)) rfl rfl ?_ ?_ ?_ ?_ ?_ ?_ ?_ ?_
              rotate_left
              · kernel_rfl
              · kernel_rfl
              · kernel_rfl
              · (intro _ _ _ hq; exact hq)
              · rfl
              · (intro _w hSw; (try dsimp only at hSw); go_simp; try with_reducible rfl)
              · assumption
              try simp only [Act.put, List.setIfInBounds_toArray, List.set_cons_zero, List.set_cons_succ]
              refine take_in (i := 11) (v := ?_) (d := (some 57)) rfl rfl ?_ ?_ ?_ ?_ ?_ ?_ ?_ ?_
              rotate_left
              · kernel_rfl
              · kernel_rfl
              · kernel_rfl
              · (intro _ _ _ hq; exact hq)
              · rfl
              · (intro _w hSw; (try dsimp only at hSw); go_simp; try with_reducible rfl)
              · assumption
              try simp only [Act.put, List.setIfInBounds_toArray, List.set_cons_zero, List.set_cons_succ]
              refine take_in (i := 12) (v := ?_) (d := (some 58)) rfl rfl ?_ ?_ ?_ ?_ ?_ ?_ ?_ ?_
              rotate_left
              · kernel_rfl
              · kernel_rfl
              · kernel_rfl
              · (intro _ _ _ hq; exact hq)
              · rfl
              · (intro _w hSw; (try dsimp only at hSw); go_simp; try with_reducible rfl)
              · assumption
              try simp only [Act.put, List.setIfInBounds_toArray, List.set_cons_zero, List.set_cons_succ]
              refine take_in (i := 13) (v := ?_) (d := (some 59)) rfl rfl ?_ ?_ ?_ ?_ ?_ ?_ ?_ ?_
              rotate_left
              · kernel_rfl
              · kernel_rfl
              · kernel_rfl
              · (intro _ _ _ hq; exact hq)
              · rfl
              · (intro _w hSw; (try dsimp only at hSw); go_simp; try with_reducible rfl)
              · assumption
              try simp only [Act.put, List.setIfInBounds_toArray, List.set_cons_zero, List.set_cons_succ]
              refine take_in (i := 14) (v := ?_) (d := (some 60)) rfl rfl ?_ ?_ ?_ ?_ ?_ ?_ ?_ ?_
              rotate_left
              · kernel_rfl
              · kernel_rfl
              · kernel_rfl
              · (intro _ _ _ hq; exact hq)
              · rfl
              · (intro _w hSw; (try dsimp only at hSw); go_simp; try with_reducible rfl)
              · assumption
              try simp only [Act.put, List.setIfInBounds_toArray, List.set_cons_zero, List.set_cons_succ]
              refine take_in (i := 16) (v := ?_) (d := (some 62)) rfl rfl ?_ ?_ ?_ ?_ ?_ ?_ ?_ ?_
              rotate_left
              · kernel_rfl
              · kernel_rfl
              · kernel_rfl
              · (intro _ _ _ hq; exact hq)
              · rfl
              · (intro _w hSw; (try dsimp only at hSw); go_simp; try with_reducible rfl)
              · assumption
              try simp only [Act.put, List.setIfInBounds_toArray, List.set_cons_zero, List.set_cons_succ]
              refine wpAnyH_ready (rs := [15]) ?_ ?_ ?_
              · kernel_rfl
              · simp
              refine (AllReadyH.cons rfl (fun K hK => ?_) AllReadyH.nil)
              go_simp
              first | (go_at_call 64; (with_reducible refine (HTN.out _).mono ?_); rintro e w3 ⟨rfl, hb3⟩)
              refine hK.out _ _ ?_ (fun hHeld => ?_)
              · ((try dsimp only); ((try go_split_ands); (repeat' apply And.intro) <;> (repeat (first | assumption | (exact Gr.refl _) | (refine Gr.drew ?_) | (refine Gr.alloc ?_ _) | (refine alloc_old ?_) | (refine Gr.keep (by assumption) ?_) | (refine Gr.trans ?_ (by assumption))))))
              clear hK K
              try simp only [Act.put, List.setIfInBounds_toArray, List.set_cons_zero, List.set_cons_succ]
              refine take_in (i := 17) (v := ?_) (d := (some 63)) rfl rfl ?_ ?_ ?_ ?_ ?_ ?_ ?_ ?_
              rotate_left
              · kernel_rfl
              · kernel_rfl
              · kernel_rfl
              · (intro _ _ _ hq; exact hq)
              · rfl
              · (intro _w hSw; (try dsimp only at hSw); go_simp; try with_reducible rfl)
              · assumption
              try simp only [Act.put, List.setIfInBounds_toArray, List.set_cons_zero, List.set_cons_succ]
              refine wpAnyH_done ?_ ?_ _
              · kernel_rfl
              rotate_left
              obtain ⟨hB, b0', b1', b2', -⟩ := hHeld
              clear b0 b1 b2 x1c x2c y1c y2c z1c z2c htb HTN
              have hga3 := hga.trans hB
              have hm3 := Lib.hid (hm.out.keep hga3)
              have hgr3 := hgr.trans hga3
              go_wp2_with fail
              obtain ⟨tt, htt⟩ : ∃ t, t = ((x : Int), (y : Int), (z : Int)) := ⟨_, rfl⟩
              have HTC : Hid (∀ i, i < 3 → 0 ≤ tcs tt i ∧ tcs tt i < n) := Lib.hid (fun i hi => by
                subst htt
                rcases (by omega : i = 0 ∨ i = 1 ∨ i = 2) with rfl | rfl | rfl
                · exact HIN.out.1
                · exact HIN.out.2.1
                · exact HIN.out.2.2)
              have HC0 : Hid (∀ i, i < 3 → w3.cell? ⟨G, i, none⟩ = some (.int .i64 (tcs tt i))) := Lib.hid (fun i hi => by
                subst htt
                rcases (by omega : i = 0 ∨ i = 1 ∨ i = 2) with rfl | rfl | rfl
                · exact b0'
                · exact b1'
                · exact b2')
              have HTT := Lib.hid htt
              clear htt b0' b1' b2'
              go_loopw [64] (fun i wr => ∃ (j : Nat) (l2 : List ((Int × Int) × Int)), j ≤ 3 ∧ i = .int .i64 j ∧ Hid (CMp wr M l2) ∧ Hid (CInv n l2 (sidesL (ts.take k) ++ (side3 tt).take j)) ∧ Gr w wr ∧ Hid (∀ i, i < 3 → wr.cell? ⟨G, i, none⟩ = some (.int .i64 (tcs tt i)))) (fun i _ => 3 - (intOf i).toNat)
              case atStart => exact ⟨0, l, by omega, rfl, hm3, Lib.hid (by rw [List.take_zero, List.append_nil]; exact hc.out), hgr3, HC0⟩
              case round =>
                obtain ⟨j, l2, hj, rfl, hm2, hc2, hgr2, hcs⟩ := hrel
                clear HC0 hm3 hgr3 hga3 hB hm hc hgr hga
                by_cases hj3 : j < 3
                · obtain ⟨m, hmm⟩ : ∃ m, (j + 1) % 3 = m := ⟨_, rfl⟩
                  have hm3 : m < 3 := by omega
                  have et : ((j : Int) + 1).tmod 3 = (m : Int) := by rw [Int.tmod_eq_emod_of_nonneg (by omega), ← hmm]; push_cast; rfl
                  have c0 := hcs.out j hj3
                  have c1 := hcs.out m hm3
                  have hu := HTC.out j hj3
                  have hv := HTC.out m hm3
                  have HTK : Hid ((side3 tt).take (j + 1) = (side3 tt).take j ++ [(tcs tt j, tcs tt m)]) := Lib.hid (by rw [side3_take tt hj3, hmm])
                  obtain ⟨a, ha⟩ : ∃ a : Nat, tcs tt j = a := ⟨(tcs tt j).toNat, by omega⟩
                  obtain ⟨b, hb⟩ : ∃ b : Nat, tcs tt m = b := ⟨(tcs tt m).toNat, by omega⟩
                  rw [ha] at c0 hu HTK
                  rw [hb] at c1 hv HTK
                  have HEN : Hid (∀ W, CMp W M l2 → _) := Lib.hid (fun W (hW : CMp W M l2) => CMp.enter hW (n := n) (by omega) hu hv)
                  obtain ⟨old, hold⟩ : ∃ o, (mget l2 ((a : Int), (b : Int))).getD 0 = o := ⟨_, rfl⟩
                  have hob := hc2.out.bd ((a : Int), (b : Int))
                  have HSTEP := Lib.hid (hc2.out.step (p := ((a : Int), (b : Int))) hu hv)
                  have HLA : Hid (∀ W, CMp W M l2 → _) := Lib.hid (fun W (hW : CMp W M l2) => CMp.look' hW (n := n) (by omega) hu hv hold)
                  have HLB : Hid (∀ W, CMp W M (mput l2 ((a : Int), (b : Int)) old) → _) := Lib.hid (fun W (hW : CMp W M (mput l2 ((a : Int), (b : Int)) old)) => CMp.look' hW (n := n) (by omega) hu hv (o := old) (by rw [mget_put, if_pos rfl]; rfl))
                  rw [hold] at HEN HSTEP hob
                  have hlb := side_bd (t := tt) HN'.out hl (by omega : k ≤ n') hlen j
                  have ew : IntKind.i64.wrap (old + 1) = old + 1 := IntWalk.i64_in _ (by omega)
                  have ej : IntKind.i64.wrap ((j : Int) + 1) = (j : Int) + 1 := IntWalk.i64_in _ (by omega)
                  have HAPP : Hid (CInv n (mput l2 ((a : Int), (b : Int)) (old + 1)) (sidesL (ts.take k) ++ (side3 tt).take (j + 1))) := Lib.hid (by rw [HTK.out, ← List.append_assoc]; exact HSTEP.out)
                  have hji : (j : Int) < 3 := by omega
                  have hmi : (m : Int) < 3 := by omega
                  clear hu hv hob hlb hold ha hb HTK HSTEP hc2 hmm
                  go_upto_region 16 with fail
                  have hm2d := Lib.hid (show CMp (World.drew _) M l2 from hm2.out)
                  refine wp_region_held_drew (S := (fun W' => W'.cell? ⟨G, j, none⟩ = some (.int .i64 (a : Int)) ∧ W'.cell? ⟨G, m, none⟩ = some (.int .i64 (b : Int)))) ?_ ?_ (fun hHeld => ?_)
                  · kernel_rfl
                  · ((try dsimp only); ((try go_split_ands); (repeat' apply And.intro) <;> (repeat (first | assumption | (exact Gr.refl _) | (refine Gr.drew ?_) | (refine Gr.alloc ?_ _) | (refine alloc_old ?_) | (refine Gr.keep (by assumption) ?_) | (refine Gr.trans ?_ (by assumption))))))
                  refine take_in (i := 0) (v := ?_) (d := (some 67)) rfl rfl ?_ ?_ ?_ ?_ ?_ ?_ ?_ ?_
                  rotate_left
                  · kernel_rfl
                  · kernel_rfl
                  · kernel_rfl
                  · (intro _ _ _ hq; exact hq)
                  · rfl
                  · (intro _w hSw; (try dsimp only at hSw); go_simp; try with_reducible rfl)
                  · assumption
                  try simp only [Act.put, List.setIfInBounds_toArray, List.set_cons_zero, List.set_cons_succ]
                  refine take_in (i := 1) (v := ?_) (d := (some 68)) rfl rfl ?_ ?_ ?_ ?_ ?_ ?_ ?_ ?_
                  rotate_left
                  · kernel_rfl
                  · kernel_rfl
                  · kernel_rfl
                  · (intro _ _ _ hq; exact hq)
                  · rfl
                  · (intro _w hSw; (try dsimp only at hSw); go_simp; try with_reducible rfl)
                  · assumption
                  try simp only [Act.put, List.setIfInBounds_toArray, List.set_cons_zero, List.set_cons_succ]
                  refine take_in (i := 2) (v := ?_) (d := (some 69)) rfl rfl ?_ ?_ ?_ ?_ ?_ ?_ ?_ ?_
                  rotate_left
                  · kernel_rfl
                  · kernel_rfl
                  · kernel_rfl
                  · (intro _ _ _ hq; exact hq)
                  · rfl
                  · (intro _w hSw; (try dsimp only at hSw); go_simp; try with_reducible rfl)
                  · assumption
                  try simp only [Act.put, List.setIfInBounds_toArray, List.set_cons_zero, List.set_cons_succ]
                  refine take_in (i := 3) (v := ?_) (d := (some 70)) rfl rfl ?_ ?_ ?_ ?_ ?_ ?_ ?_ ?_
                  rotate_left
                  · kernel_rfl
                  · kernel_rfl
                  · kernel_rfl
                  · (intro _ _ _ hq; exact hq)
                  · rfl
                  · (intro _w hSw; (try dsimp only at hSw); go_simp; try with_reducible rfl)
                  · assumption
                  try simp only [Act.put, List.setIfInBounds_toArray, List.set_cons_zero, List.set_cons_succ]
                  refine take_in (i := 4) (v := ?_) (d := (some 71)) rfl rfl ?_ ?_ ?_ ?_ ?_ ?_ ?_ ?_
                  rotate_left
                  · kernel_rfl
                  · kernel_rfl
                  · kernel_rfl
                  · (intro _ _ _ hq; exact hq)
                  · rfl
                  · (intro _w hSw; (try dsimp only at hSw); go_simp; try with_reducible rfl)
                  · assumption
                  try simp only [Act.put, List.setIfInBounds_toArray, List.set_cons_zero, List.set_cons_succ]
                  refine take_in (i := 5) (v := ?_) (d := (some 72)) rfl rfl ?_ ?_ ?_ ?_ ?_ ?_ ?_ ?_
                  rotate_left
                  · kernel_rfl
                  · kernel_rfl
                  · kernel_rfl
                  · (intro _ _ _ hq; exact hq)
                  · rfl
                  · (intro _w hSw; (try dsimp only at hSw); go_simp; try with_reducible rfl)
                  · assumption
                  try simp only [Act.put, List.setIfInBounds_toArray, List.set_cons_zero, List.set_cons_succ]
                  refine take_in (i := 6) (v := ?_) (d := (some 73)) rfl rfl ?_ ?_ ?_ ?_ ?_ ?_ ?_ ?_
                  rotate_left
                  · kernel_rfl
                  · kernel_rfl
                  · kernel_rfl
                  · (intro _ _ _ hq; exact hq)
                  · rfl
                  · (intro _w hSw; (try dsimp only at hSw); go_simp; try with_reducible rfl)
                  · assumption
                  try simp only [Act.put, List.setIfInBounds_toArray, List.set_cons_zero, List.set_cons_succ]
                  refine take_in (i := 7) (v := ?_) (d := (some 74)) rfl rfl ?_ ?_ ?_ ?_ ?_ ?_ ?_ ?_
                  rotate_left
                  · kernel_rfl
                  · kernel_rfl
                  · kernel_rfl
                  · (intro _ _ _ hq; exact hq)
                  · rfl
                  · (intro _w hSw; (try dsimp only at hSw); go_simp; try with_reducible rfl)
                  · assumption
                  try simp only [Act.put, List.setIfInBounds_toArray, List.set_cons_zero, List.set_cons_succ]
                  refine take_in (i := 8) (v := ?_) (d := (some 75)) rfl rfl ?_ ?_ ?_ ?_ ?_ ?_ ?_ ?_
                  rotate_left
                  · kernel_rfl
                  · kernel_rfl
                  · kernel_rfl
                  · (intro _ _ _ hq; exact hq)
                  · rfl
                  · (intro _w hSw; (try dsimp only at hSw); go_simp; try with_reducible rfl)
                  · assumption
                  try simp only [Act.put, List.setIfInBounds_toArray, List.set_cons_zero, List.set_cons_succ]
                  refine take_in (i := 9) (v := ?_) (d := (some 76)) rfl rfl ?_ ?_ ?_ ?_ ?_ ?_ ?_ ?_
                  rotate_left
                  · kernel_rfl
                  · kernel_rfl
                  · kernel_rfl
                  · (intro _ _ _ hq; exact hq)
                  · rfl
                  · (intro _w hSw; (try dsimp only at hSw); go_simp; try with_reducible rfl)
                  · assumption
                  try simp only [Act.put, List.setIfInBounds_toArray, List.set_cons_zero, List.set_cons_succ]
                  refine wpAnyH_ready (rs := [10, 12]) ?_ ?_ ?_
                  · kernel_rfl
                  · simp
                  refine (AllReadyH.cons rfl (fun K hK => ?_) (AllReadyH.cons rfl (fun K hK => ?_) AllReadyH.nil))
                  first | (refine held_look (by rfl) (.tmp 67) (.tmp 76) _ _ (by rfl) (.map (some M)) (.agg #[.int .i64 (a : Int), .int .i64 (b : Int)]) (.int .i64 old) (by rfl) (by rfl) (HLB.out _ HM5.out) ?_) | (refine held_look (by rfl) (.tmp 67) (.tmp 76) _ _ (by rfl) (.map (some M)) (.agg #[.int .i64 (a : Int), .int .i64 (b : Int)]) (.int .i64 old) (by rfl) (by rfl) (HLA.out _ hm2d.out) ?_)
                  refine hK.out _ _ ?_ (fun hHeld => ?_)
                  · ((try dsimp only); ((try go_split_ands); (repeat' apply And.intro) <;> (repeat (first | assumption | (exact Gr.refl _) | (refine Gr.drew ?_) | (refine Gr.alloc ?_ _) | (refine alloc_old ?_) | (refine Gr.keep (by assumption) ?_) | (refine Gr.trans ?_ (by assumption))))))
                  clear hK K
                  try simp only [Act.put, List.setIfInBounds_toArray, List.set_cons_zero, List.set_cons_succ]
                  refine take_in (i := 11) (v := ?_) (d := (some 78)) rfl rfl ?_ ?_ ?_ ?_ ?_ ?_ ?_ ?_
                  rotate_left
                  · kernel_rfl
                  · kernel_rfl
                  · kernel_rfl
                  · (intro _ _ _ hq; exact hq)
                  · rfl
                  · (intro _w hSw; (try dsimp only at hSw); go_simp; try with_reducible rfl)
                  · assumption
                  try simp only [Act.put, List.setIfInBounds_toArray, List.set_cons_zero, List.set_cons_succ]
                  refine wpAnyH_ready (rs := [12]) ?_ ?_ ?_
                  · kernel_rfl
                  · simp
                  refine (AllReadyH.cons rfl (fun K hK => ?_) AllReadyH.nil)
                  first | (obtain ⟨st, w5, hrunE, hM5, hb5, -, hst⟩ := HEN.out _ hm2d.out; have HM5 := Lib.hid hM5; have HST := Lib.hid hst; have g5 : Gr w w5 := Gb.gr (hgr2.drew) hb5 hMg; have q0 := cell_gb hb5 hHeld.1 (by omega); have q1 := cell_gb hb5 hHeld.2 (by omega); have HCS5 := Lib.hid (fun i hi => cell_gb hb5 (show (World.drew _).cell? _ = _ from hcs.out i hi) (by omega : G ≠ M)); clear hM5 hst hb5; refine held_entry (by rfl) (.tmp 67) (.tmp 76) _ (by rfl) (.map (some M)) (.agg #[.int .i64 (a : Int), .int .i64 (b : Int)]) _ w5 (by rfl) (by rfl) hrunE ?_; clear hrunE)
                  refine hK.out _ _ ?_ (fun hHeld => ?_)
                  · ((try dsimp only); ((try go_split_ands); (repeat' apply And.intro) <;> (repeat (first | assumption | (exact Gr.refl _) | (refine Gr.drew ?_) | (refine Gr.alloc ?_ _) | (refine alloc_old ?_) | (refine Gr.keep (by assumption) ?_) | (refine Gr.trans ?_ (by assumption))))))
                  clear hK K
                  try simp only [Act.put, List.setIfInBounds_toArray, List.set_cons_zero, List.set_cons_succ]
                  refine take_in (i := 13) (v := ?_) (d := (some 80)) rfl rfl ?_ ?_ ?_ ?_ ?_ ?_ ?_ ?_
                  rotate_left
                  · kernel_rfl
                  · kernel_rfl
                  · kernel_rfl
                  · (intro _ _ _ hq; exact hq)
                  · rfl
                  · (intro _w hSw; (try dsimp only at hSw); go_simp; try with_reducible rfl)
                  · assumption
                  try simp only [Act.put, List.setIfInBounds_toArray, List.set_cons_zero, List.set_cons_succ]
                  refine wpAnyH_ready (rs := [14]) ?_ ?_ ?_
                  · kernel_rfl
                  · simp
                  refine (AllReadyH.cons rfl (fun K hK => ?_) AllReadyH.nil)
                  first | (obtain ⟨w6, hrunS, hM6, hb6, -⟩ := HST.out _ (old + 1) (Gr.refl _); have HM6 := Lib.hid hM6; have g6 : Gr w w6 := Gb.gr g5 hb6 hMg; have r0 := cell_gb hb6 hHeld.1 (by omega); have r1 := cell_gb hb6 hHeld.2 (by omega); have HCS6 := Lib.hid (fun i hi => cell_gb hb6 (HCS5.out i hi) (by omega : G ≠ M)); clear hM6 hb6; refine held_entryStore (by rfl) (.tmp 67) (.tmp 80) (.tmp 78) _ (by rfl) (.map (some M)) (goInt st) (.int .i64 (old + 1)) w6 (by rfl) (by rfl) (by rfl) hrunS ?_; clear hrunS)
                  refine hK.out _ _ ?_ (fun hHeld => ?_)
                  · ((try dsimp only); ((try go_split_ands); (repeat' apply And.intro) <;> (repeat (first | assumption | (exact Gr.refl _) | (refine Gr.drew ?_) | (refine Gr.alloc ?_ _) | (refine alloc_old ?_) | (refine Gr.keep (by assumption) ?_) | (refine Gr.trans ?_ (by assumption))))))
                  clear hK K
                  try simp only [Act.put, List.setIfInBounds_toArray, List.set_cons_zero, List.set_cons_succ]
                  refine wpAnyH_done ?_ ?_ _
                  · kernel_rfl
                  rotate_left
                  first | (obtain ⟨st, w5, hrunE, hM5, hb5, -, hst⟩ := HEN.out _ hm2d.out; have HM5 := Lib.hid hM5; have HST := Lib.hid hst; have g5 : Gr w w5 := Gb.gr (hgr2.drew) hb5 hMg; have q0 := cell_gb hb5 hHeld.1 (by omega); have q1 := cell_gb hb5 hHeld.2 (by omega); have HCS5 := Lib.hid (fun i hi => cell_gb hb5 (show (World.drew _).cell? _ = _ from hcs.out i hi) (by omega : G ≠ M)); clear hM5 hst hb5; refine held_entry (by rfl) (.tmp 67) (.tmp 76) _ (by rfl) (.map (some M)) (.agg #[.int .i64 (a : Int), .int .i64 (b : Int)]) _ w5 (by rfl) (by rfl) hrunE ?_; clear hrunE)
                  refine hK.out _ _ ?_ (fun hHeld => ?_)
                  · ((try dsimp only); ((try go_split_ands); (repeat' apply And.intro) <;> (repeat (first | assumption | (exact Gr.refl _) | (refine Gr.drew ?_) | (refine Gr.alloc ?_ _) | (refine alloc_old ?_) | (refine Gr.keep (by assumption) ?_) | (refine Gr.trans ?_ (by assumption))))))
                  clear hK K
                  try simp only [Act.put, List.setIfInBounds_toArray, List.set_cons_zero, List.set_cons_succ]
                  refine take_in (i := 13) (v := ?_) (d := (some 80)) rfl rfl ?_ ?_ ?_ ?_ ?_ ?_ ?_ ?_
                  rotate_left
                  · kernel_rfl
                  · kernel_rfl
                  · kernel_rfl
                  · (intro _ _ _ hq; exact hq)
                  · rfl
                  · (intro _w hSw; (try dsimp only at hSw); go_simp; try with_reducible rfl)
                  · assumption
                  try simp only [Act.put, List.setIfInBounds_toArray, List.set_cons_zero, List.set_cons_succ]
                  refine wpAnyH_ready (rs := [10]) ?_ ?_ ?_
                  · kernel_rfl
                  · simp
                  refine (AllReadyH.cons rfl (fun K hK => ?_) AllReadyH.nil)
                  first | (refine held_look (by rfl) (.tmp 67) (.tmp 76) _ _ (by rfl) (.map (some M)) (.agg #[.int .i64 (a : Int), .int .i64 (b : Int)]) (.int .i64 old) (by rfl) (by rfl) (HLB.out _ HM5.out) ?_) | (refine held_look (by rfl) (.tmp 67) (.tmp 76) _ _ (by rfl) (.map (some M)) (.agg #[.int .i64 (a : Int), .int .i64 (b : Int)]) (.int .i64 old) (by rfl) (by rfl) (HLA.out _ hm2d.out) ?_)
                  refine hK.out _ _ ?_ (fun hHeld => ?_)
                  · ((try dsimp only); ((try go_split_ands); (repeat' apply And.intro) <;> (repeat (first | assumption | (exact Gr.refl _) | (refine Gr.drew ?_) | (refine Gr.alloc ?_ _) | (refine alloc_old ?_) | (refine Gr.keep (by assumption) ?_) | (refine Gr.trans ?_ (by assumption))))))
                  clear hK K
                  try simp only [Act.put, List.setIfInBounds_toArray, List.set_cons_zero, List.set_cons_succ]
                  refine take_in (i := 11) (v := ?_) (d := (some 78)) rfl rfl ?_ ?_ ?_ ?_ ?_ ?_ ?_ ?_
                  rotate_left
                  · kernel_rfl
                  · kernel_rfl
                  · kernel_rfl
                  · (intro _ _ _ hq; exact hq)
                  · rfl
                  · (intro _w hSw; (try dsimp only at hSw); go_simp; try with_reducible rfl)
                  · assumption
                  try simp only [Act.put, List.setIfInBounds_toArray, List.set_cons_zero, List.set_cons_succ]
                  refine wpAnyH_ready (rs := [14]) ?_ ?_ ?_
                  · kernel_rfl
                  · simp
                  refine (AllReadyH.cons rfl (fun K hK => ?_) AllReadyH.nil)
                  first | (obtain ⟨w6, hrunS, hM6, hb6, -⟩ := HST.out _ (old + 1) (Gr.refl _); have HM6 := Lib.hid hM6; have g6 : Gr w w6 := Gb.gr g5 hb6 hMg; have r0 := cell_gb hb6 hHeld.1 (by omega); have r1 := cell_gb hb6 hHeld.2 (by omega); have HCS6 := Lib.hid (fun i hi => cell_gb hb6 (HCS5.out i hi) (by omega : G ≠ M)); clear hM6 hb6; refine held_entryStore (by rfl) (.tmp 67) (.tmp 80) (.tmp 78) _ (by rfl) (.map (some M)) (goInt st) (.int .i64 (old + 1)) w6 (by rfl) (by rfl) (by rfl) hrunS ?_; clear hrunS)
                  refine hK.out _ _ ?_ (fun hHeld => ?_)
                  · ((try dsimp only); ((try go_split_ands); (repeat' apply And.intro) <;> (repeat (first | assumption | (exact Gr.refl _) | (refine Gr.drew ?_) | (refine Gr.alloc ?_ _) | (refine alloc_old ?_) | (refine Gr.keep (by assumption) ?_) | (refine Gr.trans ?_ (by assumption))))))
                  clear hK K
                  try simp only [Act.put, List.setIfInBounds_toArray, List.set_cons_zero, List.set_cons_succ]
                  refine wpAnyH_done ?_ ?_ _
                  · kernel_rfl
                  rotate_left
                  all_goals
                    clear q0 q1 r0 r1 c0 c1 et ew ej hmi
                    go_wp2_with fail
                    go_roundw
                    case rel => exact ⟨j + 1, _, by omega, by go_num, HM6, HAPP, g6, HCS6⟩
                    case measure => simp [intOf]; omega
                · obtain rfl : j = 3 := by omega
                  have hj3' : ¬ (((3 : Nat) : Int) < 3) := by omega
                  go_wp2_with fail
                  go_roundw
                  case rel => exact ⟨k + 1, l2, by omega, by go_num, hm2, Lib.hid (by
                    have h := hc2.out
                    rw [show (side3 tt).take 3 = side3 tt from rfl, HTT.out] at h
                    rw [List.take_add_one, getD_of (0, 0, 0) (by rw [HN'.out]; exact hlt), HX.out, Option.toList_some, sidesL_snoc]
                    exact h), Lib.hid (fun t ht => by
                    rw [List.take_add_one, getD_of (0, 0, 0) (by rw [HN'.out]; exact hlt), HX.out, Option.toList_some] at ht
                    rcases List.mem_append.1 ht with h | h
                    · exact htr.out t h
                    · rw [List.mem_singleton.1 h]
                      exact HTR.out.2 HTW.out), hgr2⟩
                  case measure => simp [intOf]; omega
            · have htb : (tn != way) = true := by simpa using htw
              refine wp_region_held_drew (S := (fun W' => Gr wa W' ∧ W'.cell? ⟨G, 0, none⟩ = some (.int .i64 x) ∧ W'.cell? ⟨G, 1, none⟩ = some (.int .i64 y) ∧ W'.cell? ⟨G, 2, none⟩ = some (.int .i64 z) ∧ W'.cell? ⟨bp, op + x * 2, none⟩ = some (.int .i64 x1) ∧ W'.cell? ⟨bp, op + x * 2 + 1, none⟩ = some (.int .i64 x2) ∧ W'.cell? ⟨bp, op + y * 2, none⟩ = some (.int .i64 y1) ∧ W'.cell? ⟨bp, op + y * 2 + 1, none⟩ = some (.int .i64 y2) ∧ W'.cell? ⟨bp, op + z * 2, none⟩ = some (.int .i64 z1) ∧ W'.cell? ⟨bp, op + z * 2 + 1, none⟩ = some (.int .i64 z2))) ?_ ?_ (fun hHeld => ?_)
              · kernel_rfl
              · ((try dsimp only); ((try go_split_ands); (repeat' apply And.intro) <;> (repeat (first | assumption | (exact Gr.refl _) | (refine Gr.drew ?_) | (refine Gr.alloc ?_ _) | (refine alloc_old ?_) | (refine Gr.keep (by assumption) ?_) | (refine Gr.trans ?_ (by assumption))))))
              refine take_in (i := 0) (v := ?_) (d := (some 46)) rfl rfl ?_ ?_ ?_ ?_ ?_ ?_ ?_ ?_
              rotate_left
              · kernel_rfl
              · kernel_rfl
              · kernel_rfl
              · (intro _ _ _ hq; exact hq)
              · rfl
              · (intro _w hSw; (try dsimp only at hSw); go_simp; try with_reducible rfl)
              · assumption
              try simp only [Act.put, List.setIfInBounds_toArray, List.set_cons_zero, List.set_cons_succ]
              refine take_in (i := 1) (v := ?_) (d := (some 47)) rfl rfl ?_ ?_ ?_ ?_ ?_ ?_ ?_ ?_
              rotate_left
              · kernel_rfl
              · kernel_rfl
              · kernel_rfl
              · (intro _ _ _ hq; exact hq)
              · rfl
              · (intro _w hSw; (try dsimp only at hSw); go_simp; try with_reducible rfl)
              · assumption
              try simp only [Act.put, List.setIfInBounds_toArray, List.set_cons_zero, List.set_cons_succ]
              refine take_in (i := 2) (v := ?_) (d := (some 48)) rfl rfl ?_ ?_ ?_ ?_ ?_ ?_ ?_ ?_
              rotate_left
              · kernel_rfl
              · kernel_rfl
              · kernel_rfl
              · (intro _ _ _ hq; exact hq)
              · rfl
              · (intro _w hSw; (try dsimp only at hSw); go_simp; try with_reducible rfl)
              · assumption
              try simp only [Act.put, List.setIfInBounds_toArray, List.set_cons_zero, List.set_cons_succ]
              refine take_in (i := 3) (v := ?_) (d := (some 49)) rfl rfl ?_ ?_ ?_ ?_ ?_ ?_ ?_ ?_
              rotate_left
              · kernel_rfl
              · kernel_rfl
              · kernel_rfl
              · (intro _ _ _ hq; exact hq)
              · rfl
              · (intro _w hSw; (try dsimp only at hSw); go_simp; try with_reducible rfl)
              · assumption
              try simp only [Act.put, List.setIfInBounds_toArray, List.set_cons_zero, List.set_cons_succ]
              refine take_in (i := 4) (v := ?_) (d := (some 50)) rfl rfl ?_ ?_ ?_ ?_ ?_ ?_ ?_ ?_
              rotate_left
              · kernel_rfl
              · kernel_rfl
              · kernel_rfl
              · (intro _ _ _ hq; exact hq)
              · rfl
              · (intro _w hSw; (try dsimp only at hSw); go_simp; try with_reducible rfl)
              · assumption
              try simp only [Act.put, List.setIfInBounds_toArray, List.set_cons_zero, List.set_cons_succ]
              refine take_in (i := 5) (v := ?_) (d := (some 51)) rfl rfl ?_ ?_ ?_ ?_ ?_ ?_ ?_ ?_
              rotate_left
              · kernel_rfl
              · kernel_rfl
              · kernel_rfl
              · (intro _ _ _ hq; exact hq)
              · rfl
              · (intro _w hSw; (try dsimp only at hSw); go_simp; try with_reducible rfl)
              · assumption
              try simp only [Act.put, List.setIfInBounds_toArray, List.set_cons_zero, List.set_cons_succ]
              refine take_in (i := 6) (v := ?_) (d := (some 52)) rfl rfl ?_ ?_ ?_ ?_ ?_ ?_ ?_ ?_
              rotate_left
              · kernel_rfl
              · kernel_rfl
              · kernel_rfl
              · (intro _ _ _ hq; exact hq)
              · rfl
              · (intro _w hSw; (try dsimp only at hSw); go_simp; try with_reducible rfl)
              · assumption
              try simp only [Act.put, List.setIfInBounds_toArray, List.set_cons_zero, List.set_cons_succ]
              refine take_in (i := 7) (v := ?_) (d := (some 53)) rfl rfl ?_ ?_ ?_ ?_ ?_ ?_ ?_ ?_
              rotate_left
              · kernel_rfl
              · kernel_rfl
              · kernel_rfl
              · (intro _ _ _ hq; exact hq)
              · rfl
              · (intro _w hSw; (try dsimp only at hSw); go_simp; try with_reducible rfl)
              · assumption
              try simp only [Act.put, List.setIfInBounds_toArray, List.set_cons_zero, List.set_cons_succ]
              refine take_in (i := 8) (v := ?_) (d := (some 54)) rfl rfl ?_ ?_ ?_ ?_ ?_ ?_ ?_ ?_
              rotate_left
              · kernel_rfl
              · kernel_rfl
              · kernel_rfl
              · (intro _ _ _ hq; exact hq)
              · rfl
              · (intro _w hSw; (try dsimp only at hSw); go_simp; try with_reducible rfl)
              · assumption
              try simp only [Act.put, List.setIfInBounds_toArray, List.set_cons_zero, List.set_cons_succ]
              refine take_in (i := 9) (v := ?_) (d := (some 55)) rfl rfl ?_ ?_ ?_ ?_ ?_ ?_ ?_ ?_
              rotate_left
              · kernel_rfl
              · kernel_rfl
              · kernel_rfl
              · (intro _ _ _ hq; exact hq)
              · rfl
              · (intro _w hSw; (try dsimp only at hSw); go_simp; try with_reducible rfl)
              · assumption
              try simp only [Act.put, List.setIfInBounds_toArray, List.set_cons_zero, List.set_cons_succ]
              refine take_in (i := 10) (v := ?_) (d := (some 56)) rfl rfl ?_ ?_ ?_ ?_ ?_ ?_ ?_ ?_
              rotate_left
              · kernel_rfl
              · kernel_rfl
              · kernel_rfl
              · (intro _ _ _ hq; exact hq)
              · rfl
              · (intro _w hSw; (try dsimp only at hSw); go_simp; try with_reducible rfl)
              · assumption
              try simp only [Act.put, List.setIfInBounds_toArray, List.set_cons_zero, List.set_cons_succ]
              refine take_in (i := 11) (v := ?_) (d := (some 57)) rfl rfl ?_ ?_ ?_ ?_ ?_ ?_ ?_ ?_
              rotate_left
              · kernel_rfl
              · kernel_rfl
              · kernel_rfl
              · (intro _ _ _ hq; exact hq)
              · rfl
              · (intro _w hSw; (try dsimp only at hSw); go_simp; try with_reducible rfl)
              · assumption
              try simp only [Act.put, List.setIfInBounds_toArray, List.set_cons_zero, List.set_cons_succ]
              refine take_in (i := 12) (v := ?_) (d := (some 58)) rfl rfl ?_ ?_ ?_ ?_ ?_ ?_ ?_ ?_
              rotate_left
              · kernel_rfl
              · kernel_rfl
              · kernel_rfl
              · (intro _ _ _ hq; exact hq)
              · rfl
              · (intro _w hSw; (try dsimp only at hSw); go_simp; try with_reducible rfl)
              · assumption
              try simp only [Act.put, List.setIfInBounds_toArray, List.set_cons_zero, List.set_cons_succ]
              refine take_in (i := 13) (v := ?_) (d := (some 59)) rfl rfl ?_ ?_ ?_ ?_ ?_ ?_ ?_ ?_
              rotate_left
              · kernel_rfl
              · kernel_rfl
              · kernel_rfl
              · (intro _ _ _ hq; exact hq)
              · rfl
              · (intro _w hSw; (try dsimp only at hSw); go_simp; try with_reducible rfl)
              · assumption
              try simp only [Act.put, List.setIfInBounds_toArray, List.set_cons_zero, List.set_cons_succ]
              refine take_in (i := 14) (v := ?_) (d := (some 60)) rfl rfl ?_ ?_ ?_ ?_ ?_ ?_ ?_ ?_
              rotate_left
              · kernel_rfl
              · kernel_rfl
              · kernel_rfl
              · (intro _ _ _ hq; exact hq)
              · rfl
              · (intro _w hSw; (try dsimp only at hSw); go_simp; try with_reducible rfl)
              · assumption
              try simp only [Act.put, List.setIfInBounds_toArray, List.set_cons_zero, List.set_cons_succ]
              refine take_in (i := 16) (v := ?_) (d := (some 62)) rfl rfl ?_ ?_ ?_ ?_ ?_ ?_ ?_ ?_
              rotate_left
              · kernel_rfl
              · kernel_rfl
              · kernel_rfl
              · (intro _ _ _ hq; exact hq)
              · rfl
              · (intro _w hSw; (try dsimp only at hSw); go_simp; try with_reducible rfl)
              · assumption
              try simp only [Act.put, List.setIfInBounds_toArray, List.set_cons_zero, List.set_cons_succ]
              refine wpAnyH_ready (rs := [15]) ?_ ?_ ?_
              · kernel_rfl
              · simp
              refine (AllReadyH.cons rfl (fun K hK => ?_) AllReadyH.nil)
              go_simp
              first | (go_at_call 64; (with_reducible refine (HTN.out _).mono ?_); rintro e w3 ⟨rfl, hb3⟩)
              refine hK.out _ _ ?_ (fun hHeld => ?_)
              · ((try dsimp only); ((try go_split_ands); (repeat' apply And.intro) <;> (repeat (first | assumption | (exact Gr.refl _) | (refine Gr.drew ?_) | (refine Gr.alloc ?_ _) | (refine alloc_old ?_) | (refine Gr.keep (by assumption) ?_) | (refine Gr.trans ?_ (by assumption))))))
              clear hK K
              try simp only [Act.put, List.setIfInBounds_toArray, List.set_cons_zero, List.set_cons_succ]
              refine take_in (i := 17) (v := ?_) (d := (some 63)) rfl rfl ?_ ?_ ?_ ?_ ?_ ?_ ?_ ?_
              rotate_left
              · kernel_rfl
              · kernel_rfl
              · kernel_rfl
              · (intro _ _ _ hq; exact hq)
              · rfl
              · (intro _w hSw; (try dsimp only at hSw); go_simp; try with_reducible rfl)
              · assumption
              try simp only [Act.put, List.setIfInBounds_toArray, List.set_cons_zero, List.set_cons_succ]
              refine wpAnyH_done ?_ ?_ _
              · kernel_rfl
              rotate_left
              obtain ⟨hB, -⟩ := hHeld
              go_wp2_with fail
              go_ret
              refine ⟨false, rfl, ⟨fun h => absurd h (by decide), fun h => ?_⟩, hgra.trans hB⟩
              have := h.2.1 ((x : Int), (y : Int), (z : Int)) (by rw [← HX.out]; exact List.mem_of_getElem? (getD_of _ (by rw [HN'.out]; exact hlt)))
              exact absurd (HTR.out.1 this) htw
      · obtain rfl : k = n' := by omega
        have hlt' : ¬ ((k : Int) < (k : Int)) := by omega
        clear hlt
        go_wp2_with fail
        refine (sidesFit_any M n l (sidesL ts) _ h3 hl hm.out (by have h := hc.out; rw [List.take_of_length_le (by rw [HN'.out]; exact Nat.le_refl _)] at h; exact h)).mono ?_
        rintro e w5 ⟨r, rfl, hr, hg5⟩
        have HR := Lib.hid hr
        clear hr
        go_wp2_with fail
        go_ret
        refine ⟨r, rfl, ?_, hgr.trans hg5⟩
        rw [HR.out]
        unfold CovP
        rw [HN.out, HN'.out]
        refine ⟨fun h => ⟨hlen, fun t ht => htr.out t (by rw [List.take_of_length_le (by rw [HN'.out]; exact Nat.le_refl _)]; exact ht), h⟩, fun h => h.2.2⟩
  · have hne : ((n' : Int) != (n : Int) - 2) = true := by simp; omega
    go_enter Try.func37, Try.ntmps37
    go_wp2_with fail
    go_ret
    refine ⟨false, rfl, ⟨fun h => absurd h (by decide), fun h => ?_⟩, Gr.refl _⟩
    have := h.1
    rw [HN.out, HN'.out] at this
    exact absurd this hlen

end Go.Proofs.Ytjkdjfagaakijaa
