/- A line between two hulls. -/
import Derived.Test.YtjkdjfagaakijaaShared
namespace Go.Proofs.Ytjkdjfagaakijaa
open Go.RowKit
set_option linter.unusedSimpArgs false

def two {α : Type} (a b : α) : Nat → α
  | 0 => a
  | _ + 1 => b
def lineE (ps qs : List (Int × Int)) (v : Int × Int) : Option (Int × Int × Int) :=
  if hiL v ps < loL v qs then some (2 * v.1, 2 * v.2, hiL v ps + loL v qs)
  else if hiL v qs < loL v ps then some (-2 * v.1, -2 * v.2, -(hiL v qs + loL v ps)) else none
def lineL (ps qs : List (Int × Int)) : Option (Int × Int × Int) :=
  firstN (fun k => lineE ps qs ((dirsL (two ps qs)).getD k (0, 0))) (dirsL (two ps qs)).length
def apartV (m : Bool) (x y d u v w : Int) : Value := .agg #[.bool m, .int .i64 x, .int .i64 y, .int .i64 d, .int .i64 u, .int .i64 v, .int .i64 w]
def lineV : Option (Int × Int × Int) → Value
  | some t => .tuple #[apartV false 0 0 0 t.1 t.2.1 t.2.2, .bool true]
  | none => .tuple #[apartV false 0 0 0 0 0 0, .bool false]
def Vd (v : Int × Int) : Prop := (-8192 ≤ v.1 ∧ v.1 ≤ 8192) ∧ (-8192 ≤ v.2 ∧ v.2 ≤ 8192)
theorem nrm_bd {ps : List (Int × Int)} (h : Cos ps) : ∀ v ∈ (edgesL ps).map nrm, Vd v := by
  intro v hv
  obtain ⟨e, he, rfl⟩ := List.mem_map.1 hv
  unfold edgesL at he
  obtain ⟨i, -, rfl⟩ := List.mem_map.1 he
  obtain ⟨h1, h2, h3, h4⟩ := ed_co h i
  unfold Co at h1 h2 h3 h4
  unfold Vd nrm
  dsimp only
  omega
theorem dirs_bd {ps qs : List (Int × Int)} (h : Cos ps) (h' : Cos qs) : ∀ v ∈ dirsL (two ps qs), Vd v := by
  intro v hv
  have e : dirsL (two ps qs) = ([((qs.getD 0 (0, 0)).1 - (ps.getD 0 (0, 0)).1, (qs.getD 0 (0, 0)).2 - (ps.getD 0 (0, 0)).2)] ++ (edgesL ps).map nrm) ++ (edgesL qs).map nrm := rfl
  rw [e, List.mem_append, List.mem_append] at hv
  rcases hv with (hv | hv) | hv
  · obtain rfl := List.mem_singleton.1 hv
    obtain ⟨h1, h2⟩ := h 0
    obtain ⟨h3, h4⟩ := h' 0
    unfold Co at h1 h2 h3 h4
    unfold Vd
    dsimp only
    omega
  · exact nrm_bd h v hv
  · exact nrm_bd h' v hv
theorem dirs_at {ps qs : List (Int × Int)} (h : Cos ps) (h' : Cos qs) (k : Nat) : Vd ((dirsL (two ps qs)).getD k (0, 0)) := by
  rw [List.getD_eq_getElem?_getD]
  rcases hk : (dirsL (two ps qs))[k]? with _ | v
  · exact ⟨⟨by decide, by decide⟩, by decide, by decide⟩
  · exact dirs_bd h h' v (List.mem_of_getElem? hk)
theorem dirs_len (ps qs : List (Int × Int)) : (dirsL (two ps qs)).length = 1 + ps.length + qs.length := by
  have e : dirsL (two ps qs) = ([((qs.getD 0 (0, 0)).1 - (ps.getD 0 (0, 0)).1, (qs.getD 0 (0, 0)).2 - (ps.getD 0 (0, 0)).2)] ++ (edgesL ps).map nrm) ++ (edgesL qs).map nrm := rfl
  rw [e, List.length_append, List.length_append, List.length_map, List.length_map, edgesL_len, edgesL_len]; rfl
theorem Vd.vc {v : Int × Int} (h : Vd v) : Vc v := by unfold Vd at h; unfold Vc; omega
theorem Blk7 {w : World} {g : Nat} {t : TypeId} {a0 a1 a2 a3 a4 a5 a6 : Value} (h : Blk w g t #[a0, a1, a2, a3, a4, a5, a6]) :
    (w.cell? ⟨g, 0, none⟩ = some a0 ∧ w.cell? ⟨g, 1, none⟩ = some a1 ∧ w.cell? ⟨g, 2, none⟩ = some a2 ∧ w.cell? ⟨g, 3, none⟩ = some a3 ∧ w.cell? ⟨g, 4, none⟩ = some a4 ∧ w.cell? ⟨g, 5, none⟩ = some a5 ∧ w.cell? ⟨g, 6, none⟩ = some a6) ∧ w.frozen? ⟨g, 0, none⟩ = false ∧ w.frozen? ⟨g, 1, none⟩ = false ∧ w.frozen? ⟨g, 2, none⟩ = false ∧ w.frozen? ⟨g, 3, none⟩ = false ∧ w.frozen? ⟨g, 4, none⟩ = false ∧ w.frozen? ⟨g, 5, none⟩ = false ∧ w.frozen? ⟨g, 6, none⟩ = false :=
  ⟨⟨h.cell _, h.cell _, h.cell _, h.cell _, h.cell _, h.cell _, h.cell _⟩, h.free _, h.free _, h.free _, h.free _, h.free _, h.free _, h.free _⟩
theorem Gr.set7 {a W : World} {b : Nat} {v0 v1 v2 v3 v4 v5 v6 : Value} (h : Gr a W) (hb : a.heap.size ≤ b) :
    Gr a (((((((W.setCell ⟨b, 0, none⟩ v0).setCell ⟨b, 1, none⟩ v1).setCell ⟨b, 2, none⟩ v2).setCell ⟨b, 3, none⟩ v3).setCell ⟨b, 4, none⟩ v4).setCell ⟨b, 5, none⟩ v5).setCell ⟨b, 6, none⟩ v6) :=
  ((((((h.setCell (p := ⟨b, 0, none⟩) hb v0).setCell (p := ⟨b, 1, none⟩) hb v1).setCell (p := ⟨b, 2, none⟩) hb v2).setCell (p := ⟨b, 3, none⟩) hb v3).setCell (p := ⟨b, 4, none⟩) hb v4).setCell (p := ⟨b, 5, none⟩) hb v5).setCell (p := ⟨b, 6, none⟩) hb v6
theorem box2h {w W : World} {t : TypeId} {a b : Value} (hW : w.alloc (.cells #[a, b] t) = W) : Gr w W ∧ W.cell? ⟨w.heap.size, 0, none⟩ = some a ∧ W.cell? ⟨w.heap.size, 1, none⟩ = some b := by
  subst hW; exact ⟨(Gr.refl _).alloc _, alloc_new rfl rfl, alloc_new rfl rfl⟩

set_option maxRecDepth 100000 in
set_option maxHeartbeats 4000000 in
theorem line_any (g n c g' n' c' : Nat) (ps qs : List (Int × Int)) (w : World) (hn : ps.length = n) (hn' : qs.length = n') (h1 : 1 ≤ n) (h1' : 1 ≤ n') (hl : n ≤ 1024) (hl' : n' ≤ 1024) (hc : n ≤ c) (hc' : n' ≤ c')
    (hp : Pts w (some ⟨g, 0, none⟩) ps) (hq : Pts w (some ⟨g', 0, none⟩) qs) (hv : Cos ps) (hv' : Cos qs) :
    Calls Try.prog 42 #[.slice (some ⟨g, 0, none⟩) n c, .slice (some ⟨g', 0, none⟩) n' c'] w fun e w' => e = .returned (lineV (lineL ps qs)) ∧ Gr w w' := by
  have HN := Lib.hid hn
  have HN' := Lib.hid hn'
  have HP := Lib.hid hp
  have HQ := Lib.hid hq
  have HV := Lib.hid hv
  have HV' := Lib.hid hv'
  have HD : Hid (∀ W, Gr w W → Calls Try.prog 72 #[.slice (some ⟨g, 0, none⟩) n c, .slice (some ⟨g', 0, none⟩) n' c'] W (DirsPost (two ps qs) W)) := Lib.hid (fun W hW => by
    have h := dirs_any (two g g') (two n n') (two c c') (two ps qs) W (fun k hk => by
      match k, hk with
      | 0, _ => exact ⟨hn, ⟨h1, hl⟩, hp.keep hW, hv⟩
      | 1, _ => exact ⟨hn', ⟨h1', hl'⟩, hq.keep hW, hv'⟩)
    exact h)
  have HDB := Lib.hid (dirs_at hv hv')
  have HDN := Lib.hid (dirs_len ps qs)
  have HLL : Hid (lineL ps qs = firstN (fun k => lineE ps qs ((dirsL (two ps qs)).getD k (0, 0))) (dirsL (two ps qs)).length) := Lib.hid rfl
  clear hn hn' hp hq hv hv'
  go_enter Try.func42, Try.ntmps42
  go_wp2_with fail
  generalize hW : World.alloc w _ = W
  have hgW : Gr w W := by rw [← hW]; exact (Gr.refl _).alloc _
  have hBk : Blk W w.heap.size 33 #[.bool false, .int .i64 0, .int .i64 0, .int .i64 0, .int .i64 0, .int .i64 0, .int .i64 0] := by rw [← hW]; exact heap_alloc_new w _
  clear hW
  refine (HD.out W hgW).mono ?_
  rintro e w3 ⟨gd, cd, rfl, hD, hg3⟩
  replace hBk := hBk.keep hg3
  replace hgW := hgW.trans hg3
  clear hg3 HD
  have HB := Lib.hid hBk
  clear hBk
  generalize dirsL (two ps qs) = ds at HDB HDN HLL hD ⊢
  obtain ⟨N, hN⟩ : ∃ N, ds.length = N := ⟨_, rfl⟩
  have hNb : N ≤ 2049 := by rw [← hN, HDN.out, HN.out, HN'.out]; omega
  rw [hN] at HLL ⊢
  have HNN := Lib.hid hN
  have HDD := Lib.hid hD
  clear hN hD HDN
  go_wp2_with fail
  go_loopw [16] (fun i wr => ∃ k : Nat, k ≤ N ∧ i = .int .i64 k ∧ Hid (firstN (fun k => lineE ps qs (ds.getD k (0, 0))) k = none) ∧ Gr w3 wr) (fun i _ => N - (intOf i).toNat)
  case atStart => exact ⟨0, Nat.zero_le _, rfl, Lib.hid rfl, Gr.refl _⟩
  case round =>
    obtain ⟨k, hk, rfl, hok, hg⟩ := hrel
    by_cases hlt : k < N
    · obtain ⟨b', o', e', x0, x1⟩ := Pts_at (HDD.out.keep hg) (k := k) (by have := HNN.out; omega)
      obtain ⟨rfl, rfl⟩ : gd = b' ∧ 0 = o' := by simpa using e'
      clear e'
      have HST : Hid (lineE ps qs (ds.getD k (0, 0)) = none → firstN (fun k => lineE ps qs (ds.getD k (0, 0))) (k + 1) = none) := Lib.hid (fun h => (firstN_step hok.out).trans h)
      have HFD : Hid (∀ t, lineE ps qs (ds.getD k (0, 0)) = some t → lineL ps qs = some t) := Lib.hid (fun t h => by rw [HLL.out]; exact firstN_at hok.out h hlt)
      have HVD := Lib.hid (HDB.out k)
      generalize ds.getD k (0, 0) = p at x0 x1 HST HFD HVD
      obtain ⟨x, y⟩ := p
      dsimp only at x0 x1
      simp only [Nat.zero_add] at x0 x1
      go_wp2_with fail
      generalize hW : World.alloc wr _ = W2
      obtain ⟨hWg, l0, l1⟩ := box2h hW
      clear hW x0 x1
      refine (reach_any g n c ps x y _ HN.out (by omega) (by omega) (by omega) (HP.out.keep ((hgW.trans hg).trans hWg)) HV.out HVD.out.vc).mono ?_
      rintro e w5 ⟨rfl, hb⟩
      replace l0 := hb.keep l0
      replace l1 := hb.keep l1
      replace hg := (hg.trans hWg).trans hb
      clear hWg hb
      go_wp2_with fail
      refine (reach_any g' n' c' qs x y _ HN'.out (by omega) (by omega) (by omega) (HQ.out.keep (hgW.trans hg)) HV'.out HVD.out.vc).mono ?_
      rintro e w6 ⟨rfl, hb⟩
      replace l0 := hb.keep l0
      replace l1 := hb.keep l1
      replace hg := hg.trans hb
      clear hb
      have q1 := hiT_bd HVD.out.vc HV.out (ps.length - 1)
      have q2 := hiT_bd HVD.out.vc HV'.out (qs.length - 1)
      have q3 := loT_bd HVD.out.vc HV.out (ps.length - 1)
      have q4 := loT_bd HVD.out.vc HV'.out (qs.length - 1)
      have HLE : Hid (lineE ps qs (x, y) = if hiL (x, y) ps < loL (x, y) qs then some (2 * x, 2 * y, hiL (x, y) ps + loL (x, y) qs) else if hiL (x, y) qs < loL (x, y) ps then some (-2 * x, -2 * y, -(hiL (x, y) qs + loL (x, y) ps)) else none) := Lib.hid rfl
      obtain ⟨⟨u1, u2⟩, v1, v2⟩ : Vd (x, y) := HVD.out
      dsimp only at u1 u2 v1 v2
      change -8796093022208 ≤ hiL (x, y) ps ∧ hiL (x, y) ps ≤ 8796093022208 at q1
      change -8796093022208 ≤ hiL (x, y) qs ∧ hiL (x, y) qs ≤ 8796093022208 at q2
      change -8796093022208 ≤ loL (x, y) ps ∧ loL (x, y) ps ≤ 8796093022208 at q3
      change -8796093022208 ≤ loL (x, y) qs ∧ loL (x, y) qs ≤ 8796093022208 at q4
      generalize hiL (x, y) ps = h1 at q1 HLE ⊢
      generalize hiL (x, y) qs = h2 at q2 HLE ⊢
      generalize loL (x, y) ps = o1 at q3 HLE ⊢
      generalize loL (x, y) qs = o2 at q4 HLE ⊢
      obtain ⟨⟨r0, r1, r2, r3, r4, r5, r6⟩, z0, z1, z2, z3, z4, z5, z6⟩ := Blk7 (HB.out.keep hg)
      by_cases ha : h1 < o2
      · have HR := Lib.hid (HFD.out _ (HLE.out.trans (if_pos ha)))
        go_wp2_with fail
        refine bodyPost_ret (v := lineV (some (2 * x, 2 * y, h1 + o2))) ?_ rfl ⟨by rw [HR.out], ?_⟩
        · simp [results, Try.results42, r0, r1, r2, r3, r4, r5, r6, go_sem, lineV, apartV]
        · exact Gr.set7 (hgW.trans hg) (Nat.le_refl _)
      · by_cases hb : h2 < o1
        · have HR := Lib.hid (HFD.out _ (HLE.out.trans ((if_neg ha).trans (if_pos hb))))
          go_wp2_with fail
          refine bodyPost_ret (v := lineV (some (-2 * x, -2 * y, -(h2 + o1)))) ?_ rfl ⟨by rw [HR.out], ?_⟩
          · simp [results, Try.results42, r0, r1, r2, r3, r4, r5, r6, go_sem, lineV, apartV]
          · exact Gr.set7 (hgW.trans hg) (Nat.le_refl _)
        · have HR := Lib.hid (HST.out (HLE.out.trans ((if_neg ha).trans (if_neg hb))))
          go_wp2_with fail
          go_roundw
          case rel => exact ⟨k + 1, by omega, by go_num, HR, hg⟩
          case measure => simp [intOf]; omega
    · obtain ⟨⟨r0, r1, r2, r3, r4, r5, r6⟩, z0, z1, z2, z3, z4, z5, z6⟩ := Blk7 (HB.out.keep hg)
      go_wp2_with fail
      refine bodyPost_ret (v := lineV none) ?_ rfl ⟨?_, ?_⟩
      · simp [results, Try.results42, r0, r1, r2, r3, r4, r5, r6, go_sem, lineV, apartV]
      · obtain rfl : k = N := by omega
        rw [HLL.out, hok.out]
      · exact Gr.set7 (hgW.trans hg) (Nat.le_refl _)

end Go.Proofs.Ytjkdjfagaakijaa
