/- Layer 2: a valid task out of any. -/
import Derived.Test.YtcojionipffanabCMod
import Derived.Test.YtcojionipffanabCSame
import Derived.Deep.CutRange
import Derived.StillTailTactics
namespace Go.Proofs.Ytcojionipffanab
open Go.RowKit
set_option linter.unusedSimpArgs false

def sideT (M x : Int) : Int := if x < 1 ∨ M < x then 1 + modL x M else x
theorem sideT_in {M x : Int} (h1 : 1 ≤ M) (h2 : M ≤ 48) : 1 ≤ sideT M x ∧ sideT M x ≤ M := by
  have := modL_le (x := x) (n := M) (by omega) (by omega)
  unfold sideT; split <;> omega
def fixB (b : Bl) : Bl := if blB b = true then b else (1 + modL b.1 9, 1 + modL b.2.1 9, modL b.2.2 50)
theorem fixB_ok (b : Bl) : blB (fixB b) = true := by
  unfold fixB
  split
  · assumption
  · have h1 := modL_le (x := b.1) (n := 9) (by omega) (by omega)
    have h2 := modL_le (x := b.2.1) (n := 9) (by omega) (by omega)
    have h3 := modL_le (x := b.2.2) (n := 50) (by omega) (by omega)
    exact (blB_iff _).2 (by dsimp only; omega)

/-- The law's task in the making: the argument (S), the result (S + 1), the task (S + 2). -/
structure TkS (w0 : World) (S : Nat) (bx : Array Value) (x y : Int) (v : Value) (w : World) : Prop where
  box : Blk w S 24 bx
  res : Blk w (S + 1) 24 #[.int .i64 0, .int .i64 0, .slice none 0 0]
  out : Blk w (S + 1 + 1) 24 #[.int .i64 x, .int .i64 y, v]
  gr : Gr w0 w
  le : w0.heap.size ≤ S
theorem TkS.start (w : World) (bx : Array Value) (x y : Int) (v : Value) : TkS w w.heap.size bx x y v (((w.alloc (.cells bx 24)).alloc (.cells #[.int .i64 0, .int .i64 0, .slice none 0 0] 24)).alloc (.cells #[.int .i64 x, .int .i64 y, v] 24)) :=
  ⟨((Blk.new w _ _ rfl).alloc _).alloc _, (Blk.new _ _ _ (by simp)).alloc _, Blk.new _ _ _ (by simp), (((Gr.refl w).alloc _).alloc _).alloc _, Nat.le_refl _⟩
theorem TkS.keep {w0 w w' : World} {S : Nat} {bx : Array Value} {x y : Int} {v : Value} (h : TkS w0 S bx x y v w) (hg : Gr w w') : TkS w0 S bx x y v w' :=
  ⟨h.box.keep hg, h.res.keep hg, h.out.keep hg, h.gr.trans hg, h.le⟩
theorem TkS.other {w0 w : World} {S : Nat} {bx : Array Value} {x y : Int} {v : Value} (h : TkS w0 S bx x y v w) (i : Nat) (u : Value) (x' y' : Int) (v' : Value) (e : (#[.int .i64 x, .int .i64 y, v] : Array Value).setIfInBounds i u = #[.int .i64 x', .int .i64 y', v']) : TkS w0 S bx x' y' v' (w.setCell ⟨S + 1 + 1, i, none⟩ u) :=
  ⟨h.box.other (by simp; omega) u, h.res.other (by simp) u, by have := h.out.put i u; rwa [e] at this, (Gb.put (Gb.of (Gr.refl w) _) i u).gr h.gr (by have := h.le; omega), h.le⟩
theorem TkS.cells {w0 w : World} {S : Nat} {a b c : Value} {x y : Int} {v : Value} (h : TkS w0 S #[a, b, c] x y v w) :
    (w.cell? ⟨S, 0, none⟩ = some a ∧ w.cell? ⟨S, 1, none⟩ = some b ∧ w.cell? ⟨S, 2, none⟩ = some c) ∧
    (w.cell? ⟨S + 1 + 1, 0, none⟩ = some (.int .i64 x) ∧ w.cell? ⟨S + 1 + 1, 1, none⟩ = some (.int .i64 y) ∧ w.cell? ⟨S + 1 + 1, 2, none⟩ = some v) ∧
    w.frozen? ⟨S + 1 + 1, 0, none⟩ = false ∧ w.frozen? ⟨S + 1 + 1, 1, none⟩ = false ∧ w.frozen? ⟨S + 1 + 1, 2, none⟩ = false :=
  ⟨⟨h.box.cell 0, h.box.cell 1, h.box.cell 2⟩, ⟨h.out.cell 0, h.out.cell 1, h.out.cell 2⟩, h.out.free 0, h.out.free 1, h.out.free 2⟩
theorem TkS.far {w0 w : World} {S T : Nat} {bx : Array Value} {x y : Int} {v : Value} (h : TkS w0 S bx x y v w) (hT : S + 1 + 1 < T) (i : Nat) (u : Value) : TkS w0 S bx x y v (w.setCell ⟨T, i, none⟩ u) :=
  ⟨h.box.other (by simp; omega) u, h.res.other (by simp; omega) u, h.out.other (by simp; omega) u, (Gb.put (Gb.of (Gr.refl w) _) i u).gr h.gr (by have := h.le; omega), h.le⟩
/-- What the law's tame returns. -/
def TamePost (x y : Int) (qs : List Bl) (w : World) (e : Ending) (w' : World) : Prop :=
  ∃ A c, e = .returned (.agg #[.int .i64 x, .int .i64 y, .slice A qs.length c]) ∧ qs.length ≤ c ∧ Tris w' A qs ∧ (A = none → c = 0) ∧ w'.ownsRow w.heap.size 49 3 (.slice A qs.length c) qs.length (flatE enc3 qs) ∧ Gr w w'
def tameL (bs : List Bl) : List Bl := (bs.take 16).map fixB
def outB (M x : Int) : Bool := decide (x < 1) || decide (M < x)
theorem ways3 (M x : Int) : ((decide (x < 1) = true) ∧ outB M x = true) ∨ (decide (x < 1) = false ∧ decide (M < x) = true ∧ outB M x = true) ∨ (decide (x < 1) = false ∧ decide (M < x) = false ∧ outB M x = false) := by
  unfold outB
  rcases decide (x < 1) with _ | _ <;> rcases decide (M < x) with _ | _ <;> simp
theorem sideT_out {M x : Int} (h : outB M x = true) : sideT M x = 1 + modL x M := by
  unfold outB at h; unfold sideT; rw [if_pos (by simpa using h)]
theorem sideT_same {M x : Int} (h : outB M x = false) : sideT M x = x := by
  unfold outB at h; unfold sideT; rw [if_neg (by simp at h; omega)]

set_option maxRecDepth 100000 in
set_option maxHeartbeats 1000000 in
theorem tame_any (W H : Int) (A : Option Addr) (n c : Nat) (bs : List Bl) (M : Int) (w : World) (hM1 : 1 ≤ M) (hM2 : M ≤ 48) (hn : bs.length = n) (hl : n ≤ 9223372036854775807) (hp : Tris w A bs) :
    Calls Try.prog 23 #[.agg #[.int .i64 W, .int .i64 H, .slice A n c], .int .i64 M] w (TamePost (sideT M W) (sideT M H) (tameL bs) w) := by
  have HN := Lib.hid hn
  have HP := Lib.hid hp
  have HI := Lib.hid (fun x => IntWalk.wrap64_in (1 + modL x M) (by have := modL_le (x := x) (n := M) (by omega) (by omega); omega))
  have hK : TkS w w.heap.size #[.int .i64 W, .int .i64 H, .slice A n c] W H (.slice none 0 0) _ := TkS.start w _ W H _
  have HK := Lib.hid hK
  have HIB := Lib.hid (info_parts Try.infoBl)
  have HM9 := Lib.hid (fun x => IntWalk.wrap64_in (1 + modL x 9) (by have := modL_le (x := x) (n := 9) (by omega) (by omega); omega))
  clear hn hp hK
  go_enter Try.func23, Try.ntmps23
  go_upto_region 2 with fail
  generalize (((w.alloc _).alloc _).alloc _) = W0 at HK ⊢
  generalize hS : w.heap.size = S at HK ⊢
  clear hS
  go_cut [21] from 13 to 21 (fun t wx => t = .bool (outB M W) ∧ Hid (TkS w S #[.int .i64 W, .int .i64 H, .slice A n c] W H (.slice none 0 0) wx))
  case first =>
    obtain ⟨⟨b0, b1, b2⟩, ⟨o0, o1, o2⟩, f0, f1, f2⟩ := HK.out.cells
    rcases ways3 M W with ⟨d1, d2⟩ | ⟨d1, d3, d2⟩ | ⟨d1, d3, d2⟩
    all_goals
      have D := Lib.hid d2
      clear d2
      go_wp2_with fail
      go_meet
      exact ⟨by rw [D.out], HK⟩
  case rest =>
    obtain ⟨rfl, HX⟩ := hcut
    clear HK
    generalize hr : outB M W = r
    have HR := Lib.hid hr
    clear hr
    go_upto_if 21 with fail
    go_cut [] from 22 to 27 (fun wx => Hid (TkS w S #[.int .i64 W, .int .i64 H, .slice A n c] (sideT M W) H (.slice none 0 0) wx))
    case first =>
      obtain ⟨⟨b0, b1, b2⟩, ⟨o0, o1, o2⟩, f0, f1, f2⟩ := HX.out.cells
      cases r
      · have D := Lib.hid (sideT_same HR.out)
        go_wp2_with fail
        go_meet
        exact Lib.hid (by rw [D.out]; exact HX.out)
      · have D := Lib.hid (sideT_out HR.out)
        go_wp2_with fail
        refine (mod_any W M _ (by omega) (by omega)).mono ?_
        rintro e w1 ⟨rfl, rfl⟩
        go_wp2_with fail
        rw [HI.out]
        go_meet
        exact Lib.hid (HX.out.other 0 _ _ _ _ (by rw [D.out]; rfl))
    case rest =>
      have HK2 := hcut
      clear hcut HX HR
      go_upto_region 4 with fail
      go_cut [36] from 28 to 36 (fun t wx => t = .bool (outB M H) ∧ Hid (TkS w S #[.int .i64 W, .int .i64 H, .slice A n c] (sideT M W) H (.slice none 0 0) wx))
      case first =>
        obtain ⟨⟨b0, b1, b2⟩, ⟨o0, o1, o2⟩, f0, f1, f2⟩ := HK2.out.cells
        rcases ways3 M H with ⟨d1, d2⟩ | ⟨d1, d3, d2⟩ | ⟨d1, d3, d2⟩
        all_goals
          have D := Lib.hid d2
          clear d2
          go_wp2_with fail
          go_meet
          exact ⟨by rw [D.out], HK2⟩
      case rest =>
        obtain ⟨rfl, HX⟩ := hcut
        clear HK2
        generalize hr : outB M H = r
        have HR := Lib.hid hr
        clear hr
        go_upto_if 36 with fail
        go_cut [] from 37 to 42 (fun wx => Hid (TkS w S #[.int .i64 W, .int .i64 H, .slice A n c] (sideT M W) (sideT M H) (.slice none 0 0) wx))
        case first =>
          obtain ⟨⟨b0, b1, b2⟩, ⟨o0, o1, o2⟩, f0, f1, f2⟩ := HX.out.cells
          cases r
          · have D := Lib.hid (sideT_same HR.out)
            go_wp2_with fail
            go_meet
            exact Lib.hid (by rw [D.out]; exact HX.out)
          · have D := Lib.hid (sideT_out HR.out)
            go_wp2_with fail
            refine (mod_any H M _ (by omega) (by omega)).mono ?_
            rintro e w1 ⟨rfl, rfl⟩
            go_wp2_with fail
            rw [HI.out]
            go_meet
            exact Lib.hid (HX.out.other 1 _ _ _ _ (by rw [D.out]; rfl))
        case rest =>
          have HK3 := hcut
          clear hcut HX HR
          go_wp2_with fail
          go_loopw [6, 7] (fun z p wr => ∃ (k : Nat) (v : Value), k ≤ n ∧ k ≤ 16 ∧ z = .int .i64 k ∧ Hid (TkS w S #[.int .i64 W, .int .i64 H, .slice A n c] (sideT M W) (sideT M H) v wr) ∧ Hid (wr.ownsRow w.heap.size 49 3 v k (flatE enc3 ((bs.take k).map fixB)))) (fun z _ _ => n - (intOf z).toNat)
          case atStart => exact ⟨0, _, Nat.zero_le _, Nat.zero_le _, rfl, HK3, Lib.hid (World.ownsRow_nil _ _ _ _)⟩
          case round =>
            obtain ⟨k, v, hkn, hk16, rfl, hK, hown⟩ := hrel
            by_cases hlt : k < n ∧ k < 16
            · obtain ⟨h1, h2⟩ := hlt
              have e1 : decide ((k : Int) < (n : Int)) = true := decide_eq_true (by omega)
              have e2 : decide ((k : Int) < 16) = true := decide_eq_true (by omega)
              obtain ⟨⟨b0, b1, b2⟩, ⟨o0, o1, o2⟩, f0, f1, f2⟩ := hK.out.cells
              obtain ⟨bb, boff, rfl, q0, q1, q2⟩ := Tris_at (HP.out.keep hK.out.gr) (show k < bs.length by have := HN.out; omega)
              rw [bl_getD] at q0 q1 q2
              have HQ : Hid (flatE enc3 ((bs.take (k + 1)).map fixB) = flatE enc3 ((bs.take k).map fixB) ++ enc3 (fixB (bl bs k))) := Lib.hid (by rw [List.take_add_one, getD_of (0, 0, 0) (show k < bs.length by have := HN.out; omega), bl_getD, Option.toList_some, List.map_append, flatE_app]; simp [flatE])
              generalize bl bs k = q at q0 q1 q2 HQ
              go_wp2_with fail
              obtain ⟨w1, hw1⟩ : ∃ w1, wr.alloc (.cells #[.int .i64 q.1, .int .i64 q.2.1, .int .i64 q.2.2] 49) = w1 := ⟨_, rfl⟩
              have hg1 : Gr wr w1 := by rw [← hw1]; exact (Gr.refl _).alloc _
              have hB1 : Blk w1 wr.heap.size 49 #[.int .i64 q.1, .int .i64 q.2.1, .int .i64 q.2.2] := by rw [← hw1]; exact Blk.new _ _ _ rfl
              have hs1 : w1.heap.size = wr.heap.size + 1 := by rw [← hw1]; simp
              rw [hw1]
              have hg2 : Gr w1 (w1.alloc (.cells #[.int .i64 q.1, .int .i64 q.2.1, .int .i64 q.2.2] 49)) := (Gr.refl _).alloc _
              have hT2 : Tris (w1.alloc (.cells #[.int .i64 q.1, .int .i64 q.2.1, .int .i64 q.2.2] 49)) (some ⟨wr.heap.size + 1, 0, none⟩) [q] := by
                refine Rd_of_cells enc3_len fun j u hu => ?_
                rw [Nat.zero_add]
                exact alloc_new hs1.symm (by simpa [flatE, enc3] using hu)
              have hST := hK.out.out.lt
              have hOT : ∀ t, v.ownBlock = some t → t < wr.heap.size := fun t ht => (hown.out.lt t ht).2
              obtain ⟨T, hT⟩ : ∃ T, wr.heap.size = T := ⟨_, rfl⟩
              rw [hT] at hB1 hT2 hST hOT ⊢
              have HOT := Lib.hid hOT
              clear hOT
              have HB2 := Lib.hid (hB1.keep hg2)
              have HK2 := Lib.hid ((hK.out.keep hg1).keep hg2)
              have HO2 := Lib.hid (owns_gr (owns_gr hown.out hg1) hg2)
              obtain ⟨r2, hr2⟩ : ∃ r, blB q = r := ⟨_, rfl⟩
              have HR2 := Lib.hid hr2
              have hcall := rTask_any 1 1 (some ⟨T + 1, 0, none⟩) 1 1 [q] _ rfl (by omega) hT2 r2 (by rw [← hr2]; simp [taskB, sideB])
              clear hw1 hg1 hB1 hs1 hT2 hT hr2 b0 b1 b2 o0 o1 o2 f0 f1 f2 q0 q1 q2 hK hown
              generalize w1.alloc _ = w2 at hcall HB2 HK2 HO2 ⊢
              refine hcall.mono ?_
              rintro e w3 ⟨rfl, hg3⟩
              clear hcall hg2
              have HB3 := Lib.hid (HB2.out.keep hg3)
              have HK3 := Lib.hid (HK2.out.keep hg3)
              have HO3 := Lib.hid (owns_gr HO2.out hg3)
              clear HB2 HK2 HO2 hg3
              go_upto_if 62 with fail
              go_cut [] from 63 to 74 (fun wx => Hid (Blk wx T 49 #[.int .i64 (fixB q).1, .int .i64 (fixB q).2.1, .int .i64 (fixB q).2.2]) ∧ Hid (TkS w S #[.int .i64 W, .int .i64 H, .slice (some ⟨bb, boff, none⟩) n c] (sideT M W) (sideT M H) v wx) ∧ Hid (wx.ownsRow w.heap.size 49 3 v k (flatE enc3 ((bs.take k).map fixB))))
              case first =>
                cases r2
                · have HF : Hid (fixB q = (1 + modL q.1 9, 1 + modL q.2.1 9, modL q.2.2 50)) := Lib.hid (by unfold fixB; rw [if_neg (by rw [HR2.out]; simp)])
                  obtain ⟨p0, p1, p2⟩ : w3.cell? ⟨T, 0, none⟩ = some (.int .i64 q.1) ∧ w3.cell? ⟨T, 1, none⟩ = some (.int .i64 q.2.1) ∧ w3.cell? ⟨T, 2, none⟩ = some (.int .i64 q.2.2) := ⟨HB3.out.cell 0, HB3.out.cell 1, HB3.out.cell 2⟩
                  have hdr := (Gr.refl w3).drew
                  have HFZ := Lib.hid (fun W' (h : Gr w3 W') => And.intro ((HB3.out.keep h).free 0) (And.intro ((HB3.out.keep h).free 1) ((HB3.out.keep h).free 2)))
                  obtain ⟨z0, z1, z2⟩ := HFZ.out _ (Gr.refl w3)
                  go_wp2_with fail
                  go_still_tail 12, (by kernel_rfl)
                  refine wpStill_step (fun K hK => ?_)
                  go_simp
                  refine ⟨_, mod_any (q.1) 9 _ (by omega) (by omega), hK _ ?_⟩
                  clear hK K
                  repeat still_step
                  refine wpStill_step (fun K hK => ?_)
                  go_simp
                  refine ⟨_, mod_any (q.2.1) 9 _ (by omega) (by omega), hK _ ?_⟩
                  clear hK K
                  repeat still_step
                  refine wpStill_step (fun K hK => ?_)
                  go_simp
                  refine ⟨_, mod_any (q.2.2) 50 _ (by omega) (by omega), hK _ ?_⟩
                  clear hK K
                  repeat still_step
                  try refine wpStill_nil ?_
                  change wpList _ _ _ _ _ w3.drew
                  have HB5 := Lib.hid (HB3.out.keep hdr)
                  have HK5 := Lib.hid (HK3.out.keep hdr)
                  have HO5 := Lib.hid (owns_gr HO3.out hdr)
                  have hst : S + 1 + 1 < T := by omega
                  generalize w3.drew = w5 at HB5 HK5 HO5 ⊢
                  clear p0 p1 p2 z0 z1 z2 HFZ hdr
                  have z0 : w5.frozen? ⟨T, 0, none⟩ = false := HB5.out.free 0
                  have z1 : w5.frozen? ⟨T, 1, none⟩ = false := HB5.out.free 1
                  have z2 : w5.frozen? ⟨T, 2, none⟩ = false := HB5.out.free 2
                  have p0 := HB5.out.cell 0
                  have p1 := HB5.out.cell 1
                  have p2 := HB5.out.cell 2
                  have hput := ((HB5.out.put 0 (.int .i64 (1 + modL q.1 9))).put 1 (.int .i64 (1 + modL q.2.1 9))).put 2 (.int .i64 (modL q.2.2 50))
                  have hk6 := ((HK5.out.far hst 0 (.int .i64 (1 + modL q.1 9))).far hst 1 (.int .i64 (1 + modL q.2.1 9))).far hst 2 (.int .i64 (modL q.2.2 50))
                  have hne : v.ownBlock ≠ some T := fun e => Nat.lt_irrefl _ (HOT.out T e)
                  have ho6 := ownsRow_setCell_other (a := ⟨T, 2, none⟩) (ownsRow_setCell_other (a := ⟨T, 1, none⟩) (ownsRow_setCell_other (a := ⟨T, 0, none⟩) HO5.out hne (.int .i64 (1 + modL q.1 9))) hne (.int .i64 (1 + modL q.2.1 9))) hne (.int .i64 (modL q.2.2 50))
                  have HPUT := Lib.hid hput
                  have HK6 := Lib.hid hk6
                  have HO6 := Lib.hid ho6
                  clear hput hk6 ho6
                  have m1 := HM9.out q.1
                  have m2 := HM9.out q.2.1
                  go_wp2_with fail
                  go_meet
                  rw [HF.out, HM9.out, HM9.out]
                  exact ⟨Lib.hid (by simpa using HPUT.out), HK6, HO6⟩
                · have HF : Hid (fixB q = q) := Lib.hid (by unfold fixB; rw [if_pos HR2.out])
                  go_wp2_with fail
                  go_meet
                  exact ⟨by rw [HF.out]; exact HB3, HK3, HO3⟩
              case rest =>
                obtain ⟨HB4, HK4, HO4⟩ := hcut
                clear HB3 HK3 HO3
                obtain ⟨p0, p1, p2⟩ : wc.cell? ⟨T, 0, none⟩ = some (.int .i64 (fixB q).1) ∧ wc.cell? ⟨T, 1, none⟩ = some (.int .i64 (fixB q).2.1) ∧ wc.cell? ⟨T, 2, none⟩ = some (.int .i64 (fixB q).2.2) := ⟨HB4.out.cell 0, HB4.out.cell 1, HB4.out.cell 2⟩
                obtain ⟨⟨b0, b1, b2⟩, ⟨o0, o1, o2⟩, f0, f1, f2⟩ := HK4.out.cells
                generalize fixB q = q' at HB4 p0 p1 p2 HQ
                obtain ⟨i0, hi, hz0, hz1, hz2⟩ := HIB.out
                go_wp2_with (at_builtin; refine wpList_append_own _ rfl _ _ 22 rfl w.heap.size 49 i0 _ 3 24 Try.underlying22 hi hz0 hz1 hz2 rfl (by decide) _ _ _ rfl (HO4.out.alloc _) ⟨wc.heap.size, 0, none⟩ 1 1 (enc3 q') rfl rfl ?a1 ?a2 ?a3 ?a4 ?a5 ?_)
                case a1 =>
                  intro t u ht
                  rw [Addr.add_lit]
                  exact alloc_new rfl (by rw [Nat.zero_add]; simpa [enc3] using ht)
                case a2 => exact fun u hu => enc3_one _ u hu
                case a3 => unfold maxLen; omega
                case a4 => omega
                case a5 => have := HK4.out.gr.size; simp; omega
                intro v' w4 hown' hgrow _
                have hal : Gr wc (wc.alloc (.cells #[.int .i64 q'.1, .int .i64 q'.2.1, .int .i64 q'.2.2] 49)) := (Gr.refl _).alloc _
                have ho3 := HO4.out.alloc (.cells #[.int .i64 q'.1, .int .i64 q'.2.1, .int .i64 q'.2.2] 49)
                have hk3 := HK4.out.keep hal
                have hk5 : TkS w S #[.int .i64 W, .int .i64 H, .slice (some ⟨bb, boff, none⟩) n c] (sideT M W) (sideT M H) v w4 := ⟨hk3.box.grown hgrow (hk3.box.apart ho3 (by decide)), hk3.res.grown hgrow (hk3.res.apart ho3 (by decide)), hk3.out.grown hgrow (hk3.out.apart ho3 (by decide)), Below.grown hk3.gr hgrow hk3.gr.size (fun t ht => (ho3.lt t ht).1), hk3.le⟩
                have hown5 : w4.ownsRow w.heap.size 49 3 v' (k + 1) (flatE enc3 ((bs.take (k + 1)).map fixB)) := by rw [HQ.out, List.map_take]; exact hown'
                obtain ⟨A5, c5, rfl, -, -, -⟩ := own_row enc3_len (xs := (bs.take (k + 1)).map fixB) (by have := HN.out; simp; omega) hown5
                have HK5 := Lib.hid (hk5.other 2 (.slice A5 (k + 1) c5) _ _ (.slice A5 (k + 1) c5) rfl)
                have HO5 := Lib.hid (ownsRow_setCell_other (a := ⟨S + 1 + 1, 2, none⟩) hown5 (fun e => hk5.out.apart hown5 (by decide) e.symm) (.slice A5 (k + 1) c5))
                clear b0 b1 b2 o0 o1 o2 f0 f1 f2 p0 p1 p2
                obtain ⟨-, ⟨o0, o1, o2⟩, f0, f1, f2⟩ := hk5.cells
                clear hi hz0 hz1 hz2 hown' hgrow hal ho3 hk3 hk5 hown5 HK4 HO4 HB4
                go_wp2_with fail
                go_roundw
                case rel => exact ⟨k + 1, _, by omega, by omega, by go_num, HK5, HO5⟩
                case measure => simp [intOf]; omega
            · have HL : Hid (bs.take k = bs.take 16) := Lib.hid (by have := HN.out; by_cases e : k = 16; (· rw [e]); (· rw [List.take_of_length_le (by omega), List.take_of_length_le (by omega)]))
              have hv : decide ((k : Int) < (n : Int)) = false ∨ (decide ((k : Int) < (n : Int)) = true ∧ decide ((k : Int) < 16) = false) := by
                by_cases e : k < n
                · exact Or.inr ⟨decide_eq_true (by omega), decide_eq_false (by omega)⟩
                · exact Or.inl (decide_eq_false (by omega))
              obtain ⟨A5, c5, rfl, g1, g2, g3⟩ := own_row enc3_len (xs := (bs.take k).map fixB) (by have := HN.out; simp; omega) hown.out
              have HGG := Lib.hid (And.intro g1 (And.intro g2 g3))
              obtain ⟨⟨b0, b1, b2⟩, ⟨o0, o1, o2⟩, f0, f1, f2⟩ := hK.out.cells
              have z0 : wr.frozen? ⟨S + 1, 0, none⟩ = false := hK.out.res.free 0
              have z1 : wr.frozen? ⟨S + 1, 1, none⟩ = false := hK.out.res.free 1
              have z2 : wr.frozen? ⟨S + 1, 2, none⟩ = false := hK.out.res.free 2
              have y0 : wr.cell? ⟨S + 1, 0, none⟩ = some (.int .i64 0) := hK.out.res.cell 0
              have y1 : wr.cell? ⟨S + 1, 1, none⟩ = some (.int .i64 0) := hK.out.res.cell 1
              have y2 : wr.cell? ⟨S + 1, 2, none⟩ = some (.slice none 0 0) := hK.out.res.cell 2
              clear hlt g1 g2 g3
              have hLn : ((bs.take k).map fixB).length = k := by have := HN.out; simp; omega
              have hfin := ownsRow_setCell_other (a := ⟨S + 1, 2, none⟩) (ownsRow_setCell_other (a := ⟨S + 1, 1, none⟩) (ownsRow_setCell_other (a := ⟨S + 1, 0, none⟩) hown.out (fun e => hK.out.res.apart hown.out (by decide) e.symm) (.int .i64 (sideT M W))) (fun e => hK.out.res.apart hown.out (by decide) e.symm) (.int .i64 (sideT M H))) (fun e => hK.out.res.apart hown.out (by decide) e.symm) (.slice A5 k c5)
              have hput := ((hK.out.res.put 0 (.int .i64 (sideT M W))).put 1 (.int .i64 (sideT M H))).put 2 (.slice A5 k c5)
              have hgf := ((((Gb.of (Gr.refl wr) (S + 1)).put 0 (.int .i64 (sideT M W))).put 1 (.int .i64 (sideT M H))).put 2 (.slice A5 k c5)).gr hK.out.gr (by have := hK.out.le; omega)
              obtain ⟨A6, c6, e6, -, hrd, -⟩ := own_row enc3_len hLn hfin
              cases e6
              have HPOST : Hid (TamePost (sideT M W) (sideT M H) (tameL bs) w (.returned (.agg #[.int .i64 (sideT M W), .int .i64 (sideT M H), .slice A5 k c5])) (((wr.setCell ⟨S + 1, 0, none⟩ (.int .i64 (sideT M W))).setCell ⟨S + 1, 1, none⟩ (.int .i64 (sideT M H))).setCell ⟨S + 1, 2, none⟩ (.slice A5 k c5))) := Lib.hid (by unfold TamePost tameL; rw [← HL.out]; exact ⟨A5, c5, by rw [hLn], by rw [hLn]; exact HGG.out.1, hrd, HGG.out.2.2, by rw [hLn]; exact hfin, hgf⟩)
              have HPUT := Lib.hid (And.intro (hput.cell 0) (And.intro (hput.cell 1) (hput.cell 2)))
              clear hLn hfin hput hgf hrd
              have hw : (¬ k < n ∧ decide ((k : Int) < (n : Int)) = false) ∨ ((k < n ∧ decide ((k : Int) < (n : Int)) = true) ∧ ¬ k < 16 ∧ decide ((k : Int) < 16) = false) := by
                rcases hv with d1 | ⟨d1, d2⟩
                · exact Or.inl ⟨by have := of_decide_eq_false d1; omega, d1⟩
                · exact Or.inr ⟨⟨by have := of_decide_eq_true d1; omega, d1⟩, by have := of_decide_eq_false d2; omega, d2⟩
              clear hv
              rcases hw with ⟨d1, d2⟩ | ⟨⟨d1, d2⟩, d3, d4⟩
              all_goals
                go_wp2_with fail
                obtain ⟨u0, u1, u2⟩ := HPUT.out
                simp at u0 u1 u2
                refine bodyPost_ret (v := .agg #[.int .i64 (sideT M W), .int .i64 (sideT M H), .slice A5 k c5]) ?_ ?_ ?_
                · simp [results, Try.results23, go_sem, u0, u1, u2]
                · rfl
                · exact HPOST.out

end Go.Proofs.Ytcojionipffanab

