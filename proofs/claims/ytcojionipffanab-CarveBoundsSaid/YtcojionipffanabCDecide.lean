/- Layer 2: one entry of the table is decided. -/
import Derived.Test.YtcojionipffanabCOffer
import Derived.Test.YtcojionipffanabCTable
namespace Go.Proofs.Ytcojionipffanab
open Go.RowKit
set_option linter.unusedSimpArgs false

theorem upd_upd {α : Type} (f : Nat → Nat → α) (x y : Nat) (u v : α) : upd (upd f x y u) x y v = upd f x y v := by
  funext a b; unfold upd; split <;> simp_all
theorem upd_id {α : Type} {f : Nat → Nat → α} {x y : Nat} {v : α} (h : f x y = v) : upd f x y v = f := by
  funext a b; unfold upd; split
  · rename_i e; rw [e.1, e.2, h]
  · rfl

/-- The entry at x, y is v, and its first step is worth as much. -/
def ESt (bs : List Bl) (g x y : Nat) (wt : Nat → Nat → Int) (ft : Nat → Nat → St) (v : Int) (w : World) : Prop :=
  ∃ s, Tab w g (upd wt x y v) (upd ft x y s) ∧ goodS bs wt x y v s
theorem ESt.keep {bs : List Bl} {g x y : Nat} {wt : Nat → Nat → Int} {ft : Nat → Nat → St} {v : Int} {w w' : World} (h : ESt bs g x y wt ft v w) (hg : Gr w w') : ESt bs g x y wt ft v w' := by
  obtain ⟨s, h1, h2⟩ := h
  exact ⟨s, h1.keep hg, h2⟩
theorem ESt.other {bs : List Bl} {g x y : Nat} {wt : Nat → Nat → Int} {ft : Nat → Nat → St} {v : Int} {w : World} (h : ESt bs g x y wt ft v w) {g' : Nat} {t : TypeId} {cs : Array Value} (hb : Blk w g' t cs) (hne : t ≠ 111) : g' ≠ g := by
  obtain ⟨s, h1, -⟩ := h
  exact h1.other hb hne
theorem ESt.at {bs : List Bl} {g x y : Nat} {wt : Nat → Nat → Int} {ft : Nat → Nat → St} {v : Int} {w : World} (h : ESt bs g x y wt ft v w) {a b : Nat} (ha : a ≤ 48) (hb : b ≤ 48) (hne : ¬(a = x ∧ b = y)) : w.cell? ⟨g, a * 49 + b, none⟩ = some (.int .i64 (wt a b)) := by
  obtain ⟨s, h1, -⟩ := h
  rw [h1.worth ha hb, upd_other _ _ hne]

def OPost (bs : List Bl) (g x y : Nat) (wt : Nat → Nat → Int) (ft : Nat → Nat → St) (v : Int) (w : World) (e : Ending) (w' : World) : Prop :=
  e = .returned (.tuple #[]) ∧ ESt bs g x y wt ft v w' ∧ Gb g w w'

theorem offer_any (bs : List Bl) (g tb xb yb x y : Nat) (wt : Nat → Nat → Int) (ft : Nat → Nat → St) (kd arg worth v : Int) (w : World) (hx : x ≤ 48) (hy : y ≤ 48) (hT : ESt bs g x y wt ft v w)
    (h1 : Blk w tb 81 #[.pointer (some ⟨g, 0, none⟩)]) (h2 : Blk w xb 3 #[.int .i64 (x : Int)]) (h3 : Blk w yb 3 #[.int .i64 (y : Int)]) (hg : goodS bs wt x y worth (kd, arg)) (M : Int) (hM : max v worth = M) :
    Calls Try.prog 78 #[.int .i64 kd, .int .i64 arg, .int .i64 worth, .pointer (some ⟨tb, 0, none⟩), .pointer (some ⟨xb, 0, none⟩), .pointer (some ⟨yb, 0, none⟩)] w (OPost bs g x y wt ft M w) := by
  subst hM
  obtain ⟨s, hTab, hgs⟩ := hT
  by_cases hv : v < worth
  · refine (offer_yes g tb xb yb x y _ _ kd arg worth w hx hy hTab h1 h2 h3 (by rw [upd_same]; exact hv)).mono ?_
    rintro e w' ⟨rfl, ht, hb⟩
    rw [upd_upd, upd_upd] at ht
    rw [show max v worth = worth by omega]
    exact ⟨rfl, ⟨_, ht, hg⟩, hb⟩
  · refine (offer_no g tb xb yb x y _ _ kd arg worth w hx hy hTab h1 h2 h3 (by rw [upd_same]; omega)).mono ?_
    rintro e w' ⟨rfl, ht, hb⟩
    rw [show max v worth = v by omega]
    exact ⟨rfl, ⟨_, ht, hgs⟩, hb⟩

/-- The three boxes that the offers look into. -/
def Bxs (g tb x y : Nat) (w : World) : Prop := Blk w tb 81 #[.pointer (some ⟨g, 0, none⟩)] ∧ Blk w (tb + 1) 3 #[.int .i64 (x : Int)] ∧ Blk w (tb + 1 + 1) 3 #[.int .i64 (y : Int)]
theorem Bxs.keep {g tb x y : Nat} {w w' : World} (h : Bxs g tb x y w) (hg : Gr w w') : Bxs g tb x y w' := ⟨h.1.keep hg, h.2.1.keep hg, h.2.2.keep hg⟩
theorem Bxs.gb {bs : List Bl} {g tb x y : Nat} {wt : Nat → Nat → Int} {ft : Nat → Nat → St} {v : Int} {w w' : World} (h : Bxs g tb x y w) (hE : ESt bs g x y wt ft v w) (hg : Gb g w w') : Bxs g tb x y w' :=
  ⟨h.1.gb hg (hE.other h.1 (by decide)), h.2.1.gb hg (hE.other h.2.1 (by decide)), h.2.2.gb hg (hE.other h.2.2 (by decide))⟩
theorem Bxs.cells {g tb x y : Nat} {w : World} (h : Bxs g tb x y w) : w.cell? ⟨tb, 0, none⟩ = some (.pointer (some ⟨g, 0, none⟩)) ∧ w.cell? ⟨tb + 1, 0, none⟩ = some (.int .i64 (x : Int)) ∧ w.cell? ⟨tb + 1 + 1, 0, none⟩ = some (.int .i64 (y : Int)) :=
  ⟨cell_of_one h.1, cell_of_one h.2.1, cell_of_one h.2.2⟩
theorem Gb.rd {α : Type} {k : Nat} {enc : α → List Value} {w w' : World} {A : Option Addr} {xs : List α} {g : Nat} (h : Rd k enc w A xs) (hg : Gb g w w') (hne : xs ≠ [] → ∀ b off, A = some ⟨b, off, none⟩ → b ≠ g) : Rd k enc w' A xs := fun i x hx => by
  obtain ⟨b, off, e, hc⟩ := h i x hx
  refine ⟨b, off, e, fun j v hv => ?_⟩
  have h1 := hc j v hv
  rw [hg.cell (World.block_lt_of_cell? w _ h1) (hne (fun e0 => by rw [e0] at hx; simp at hx) b off e)]
  exact h1

set_option maxRecDepth 100000 in
set_option maxHeartbeats 4000000 in
theorem decide_any (g x0 y0 : Nat) (wt : Nat → Nat → Int) (ft : Nat → Nat → St) (BA : Option Addr) (bn bc : Nat) (bs : List Bl) (w : World) (hx1 : 1 ≤ x0) (hx : x0 ≤ 48) (hy1 : 1 ≤ y0) (hy : y0 ≤ 48) (hbn : bs.length = bn) (hbl : bn ≤ 16) (hbs : ∀ b ∈ bs, blB b = true)
    (hwt : ∀ a b, a ≤ 48 → b ≤ 48 → 0 ≤ wt a b ∧ wt a b ≤ 4294967296) (hB : Tris w BA bs) (hBg : bs ≠ [] → ∀ b off, BA = some ⟨b, off, none⟩ → b ≠ g) (hE : ESt bs g x0 y0 wt ft 0 w) :
    Calls Try.prog 60 #[.pointer (some ⟨g, 0, none⟩), .int .i64 (x0 : Int), .int .i64 (y0 : Int), .slice BA bn bc] w (OPost bs g x0 y0 wt ft (needT bs wt x0 y0) w) := by
  have HB := Lib.hid hB
  have HE := Lib.hid hE
  have HBN := Lib.hid hbn
  have HBS := Lib.hid hbs
  have HWT := Lib.hid hwt
  have HBG := Lib.hid hBg
  have hglt : g < w.heap.size := by obtain ⟨s, ⟨cs, hb, -⟩, -⟩ := hE; exact hb.lt
  obtain ⟨S, hS⟩ : ∃ S, w.heap.size = S := ⟨_, rfl⟩
  have hBx : Bxs g S x0 y0 (((w.alloc (.cells #[.pointer (some ⟨g, 0, none⟩)] 81)).alloc (.cells #[.int .i64 (x0 : Int)] 3)).alloc (.cells #[.int .i64 (y0 : Int)] 3)) := by
    subst hS
    exact ⟨Blk.alloc (Blk.alloc (Blk.new _ _ _ rfl) _) _, Blk.alloc (Blk.new _ _ _ (by simp)) _, Blk.new _ _ _ (by simp)⟩
  subst hS
  have HBX := Lib.hid hBx
  clear hB hE hbn hbs hwt hBg hBx
  go_enter Try.func60, Try.ntmps60
  go_wp2_with fail
  generalize hW0 : World.alloc (World.alloc (World.alloc w _) _) _ = W0 at HBX
  have hg0 : Gr w W0 := by rw [← hW0]; exact (((Gr.refl w).alloc _).alloc _).alloc _
  have HE0 := Lib.hid (HE.out.keep hg0)
  have HB0 := Lib.hid (HB.out.keep hg0)
  have hgW : g < W0.heap.size := Nat.lt_of_lt_of_le hglt hg0.size
  generalize w.heap.size = S at HBX ⊢
  have HG0 := Lib.hid hg0
  clear hg0 hglt hW0
  go_loopw [16] (fun i wr => ∃ k : Nat, k ≤ bn ∧ i = .int .i64 k ∧ Hid (ESt bs g x0 y0 wt ft (blT bs x0 y0 k) wr) ∧ Hid (Gb g W0 wr)) (fun i _ => bn - (intOf i).toNat)
  case atStart => exact ⟨0, Nat.zero_le _, rfl, HE0, Lib.hid (Gb.refl _ _)⟩
  case round =>
    obtain ⟨k, hk, rfl, hES, hgb⟩ := hrel
    have hBx := HBX.out.gb HE0.out hgb.out
    by_cases hlt : k < bn
    · have hkl : k < bs.length := by have := HBN.out; omega
      obtain ⟨b, off, hBA, q0, q1, q2⟩ := Tris_at (Gb.rd HB0.out hgb.out HBG.out) hkl
      subst hBA
      rw [bl_getD] at q0 q1 q2
      obtain ⟨-, -, v1, v2⟩ := (blB_iff _).1 (HBS.out _ (bl_mem hkl))
      have s1 := blT_bd HBS.out x0 y0 k (by omega)
      have HGD : fitsB (bl bs k) x0 y0 = true → Hid (goodS bs wt x0 y0 (bl bs k).2.2 (1, (k : Int))) := fun h => Lib.hid (Or.inr (Or.inl ⟨k, hkl, h, rfl, rfl⟩))
      have HS : Hid (blT bs x0 y0 (k + 1) = if fitsB (bl bs k) x0 y0 = true then max (blT bs x0 y0 k) (bl bs k).2.2 else blT bs x0 y0 k) := Lib.hid rfl
      rcases hf : fitsB (bl bs k) x0 y0 with _ | _
      · have HGX := fun h => HGD (hf.trans h)
        rw [hf] at HS
        first | rw [if_pos rfl] at HS | rw [if_neg (by simp)] at HS
        have HFF := Lib.hid (fun W' => fits_any (bl bs k) x0 y0 W' _ hf)
        generalize blT bs x0 y0 k = s at s1 HS hES ⊢
        generalize bl bs k = q at q0 q1 q2 v1 v2 HS HFF HGD HGX
        clear hf HGD
        obtain ⟨bx, by_, v⟩ := q
        dsimp only at q0 q1 q2 v1 v2 HS HFF HGX
        have hga : Gr wr (wr.alloc (.cells #[.int .i64 bx, .int .i64 by_, .int .i64 v] 49)) := (Gr.refl wr).alloc _
        obtain ⟨c1, c2, c3⟩ := (hBx.keep hga).cells
        have HBA := Lib.hid (hBx.keep hga)
        have HEA := Lib.hid (hES.out.keep hga)
        have d2 : (wr.alloc (.cells #[.int .i64 bx, .int .i64 by_, .int .i64 v] 49)).cell? ⟨wr.heap.size, 2, none⟩ = some (.int .i64 v) := alloc_new rfl rfl
        have HGA := Lib.hid (hgb.out.trans (Gb.of hga g))
        clear hga hBx
        go_wp2_with fail
        refine (HFF.out _).mono ?_
        rintro e w1 ⟨rfl, hb⟩
        have HE1 := Lib.hid (HEA.out.keep hb)
        have HG1 := Lib.hid (HGA.out.trans (Gb.of hb g))
        clear c1 c2 c3 d2 HGX
        go_wp2_with fail
        go_roundw
        case rel => exact ⟨k + 1, by omega, by go_num, by rw [HS.out]; exact HE1, HG1⟩
        case measure => simp [intOf]; omega
      · have HGX := fun h => HGD (hf.trans h)
        rw [hf] at HS
        first | rw [if_pos rfl] at HS | rw [if_neg (by simp)] at HS
        have HFF := Lib.hid (fun W' => fits_any (bl bs k) x0 y0 W' _ hf)
        generalize blT bs x0 y0 k = s at s1 HS hES ⊢
        generalize bl bs k = q at q0 q1 q2 v1 v2 HS HFF HGD HGX
        clear hf HGD
        obtain ⟨bx, by_, v⟩ := q
        dsimp only at q0 q1 q2 v1 v2 HS HFF HGX
        have hga : Gr wr (wr.alloc (.cells #[.int .i64 bx, .int .i64 by_, .int .i64 v] 49)) := (Gr.refl wr).alloc _
        obtain ⟨c1, c2, c3⟩ := (hBx.keep hga).cells
        have HBA := Lib.hid (hBx.keep hga)
        have HEA := Lib.hid (hES.out.keep hga)
        have d2 : (wr.alloc (.cells #[.int .i64 bx, .int .i64 by_, .int .i64 v] 49)).cell? ⟨wr.heap.size, 2, none⟩ = some (.int .i64 v) := alloc_new rfl rfl
        have HGA := Lib.hid (hgb.out.trans (Gb.of hga g))
        clear hga hBx
        have HGS := HGX rfl
        clear HGX
        go_wp2_with fail
        refine (HFF.out _).mono ?_
        rintro e w1 ⟨rfl, hb⟩
        have HO := Lib.hid (offer_any bs g _ _ _ x0 y0 wt ft 1 k v s w1 hx hy (HEA.out.keep hb) (HBA.out.keep hb).1 (HBA.out.keep hb).2.1 (HBA.out.keep hb).2.2 HGS.out _ HS.out.symm)
        replace d2 := hb.keep d2
        have HG1 := Lib.hid (HGA.out.trans (Gb.of hb g))
        clear c1 c2 c3 hb
        go_wp2_with fail
        refine HO.out.mono ?_
        rintro e w2 ⟨rfl, hE2, hG2⟩
        have HE2 := Lib.hid hE2
        have HG2 := Lib.hid (HG1.out.trans hG2)
        clear hE2 hG2 d2
        go_wp2_with fail
        go_roundw
        case rel => exact ⟨k + 1, by omega, by go_num, HE2, HG2⟩
        case measure => simp [intOf]; omega
    · obtain rfl : k = bn := by omega
      have HK : Hid (blT bs x0 y0 bs.length = blT bs x0 y0 k) := Lib.hid (by rw [HBN.out])
      have s1 := blT_bd HBS.out x0 y0 k (by have := HBN.out; omega)
      generalize blT bs x0 y0 k = s at s1 HK hES ⊢
      clear hlt hBx
      go_wp2_with fail
      go_loopw [11] (fun i wr => ∃ x : Nat, 1 ≤ x ∧ 2 * (x - 1) ≤ x0 ∧ i = .int .i64 x ∧ Hid (ESt bs g x0 y0 wt ft (max s (cutT (fun x => wt x y0) x0 x)) wr) ∧ Hid (Gb g W0 wr)) (fun i _ => x0 + 2 - (intOf i).toNat)
      case atStart => exact ⟨1, Nat.le_refl _, by omega, rfl, by (rw [show max s (cutT (fun x => wt x y0) x0 1) = s by simp [cutT]; omega]; exact hES), hgb⟩
      case round =>
        clear hES hgb
        obtain ⟨x, hxx1, hxx2, rfl, hES, hgb⟩ := hrel
        have hBx := HBX.out.gb HE0.out hgb.out
        obtain ⟨c1, c2, c3⟩ := hBx.cells
        have i1 : IntKind.i64.wrap ((x0 : Int) - (x : Int)) = (x0 : Int) - (x : Int) := IntWalk.i64_in _ (by omega)
        by_cases hlt : x ≤ x0 - x
        · have hd : decide ((x : Int) ≤ (x0 : Int) - (x : Int)) = true := decide_eq_true (by omega)
          have v1 := hES.out.at (a := x) (b := y0) (by omega) hy (by omega)
          have v2 := hES.out.at (a := x0 - x) (b := y0) (by omega) hy (by omega)
          have n1 := HWT.out x y0 (by omega) hy
          have n2 := HWT.out (x0 - x) y0 (by omega) hy
          have HGS : Hid (goodS bs wt x0 y0 (wt x y0 + wt (x0 - x) y0) (2, (x : Int))) := Lib.hid (Or.inr (Or.inr (Or.inl ⟨x, hxx1, by omega, rfl, rfl⟩)))
          have HC := Lib.hid (cutT_step (fun x => wt x y0) x0 x hxx1)
          generalize hp1 : wt x y0 = p1 at v1 n1 HC HGS
          generalize hp2 : wt (x0 - x) y0 = p2 at v2 n2 HC HGS
          have HP1 := Lib.hid hp1
          have HP2 := Lib.hid hp2
          clear hp1 hp2
          generalize cutT (fun x => wt x y0) x0 x = t at HC hES
          have i2 : IntKind.i64.wrap (p1 + p2) = p1 + p2 := IntWalk.i64_in _ (by omega)
          have i3 : ((x0 : Int) - (x : Int)).toNat = x0 - x := by omega
          have i4 : (0 : Int) ≤ (x0 : Int) - (x : Int) := by omega
          have i5 : (x0 : Int) - (x : Int) < 49 := by omega
          have i6 : (x : Int) < 49 := by omega
          have i7 : (0 : Int) ≤ (x : Int) := by omega
          have i8 : (y0 : Int) < 49 := by omega
          have j8 : (x0 : Int) < 49 := by omega
          have i9 : x ≤ x0 := by omega
          have HO := Lib.hid (fun W' (h : Gr wr W') => offer_any bs g _ _ _ x0 y0 wt ft 2 x (p1 + p2) (max s t) W' hx hy (hES.out.keep h) (hBx.keep h).1 (hBx.keep h).2.1 (hBx.keep h).2.2 HGS.out _ rfl)
          have KS : Hid (∀ W', Gb g wr W' → ESt bs g x0 y0 wt ft (max (max s t) (p1 + p2)) W' → W'.cell? ⟨S, 0, none⟩ = some (.pointer (some ⟨g, 0, none⟩)) ∧ W'.cell? ⟨S + 1, 0, none⟩ = some (.int .i64 (x0 : Int)) ∧ W'.cell? ⟨S + 1 + 1, 0, none⟩ = some (.int .i64 (y0 : Int)) ∧ W'.cell? ⟨g, x * 49 + y0, none⟩ = some (.int .i64 p1) ∧ W'.cell? ⟨g, (x0 - x) * 49 + y0, none⟩ = some (.int .i64 p2)) := Lib.hid (fun W' h1 h2 => by
            obtain ⟨k1, k2, k3⟩ := (hBx.gb hES.out h1).cells
            have k4 := h2.at (a := x) (b := y0) (by omega) (by omega) (by omega)
            have k5 := h2.at (a := x0 - x) (b := y0) (by omega) (by omega) (by omega)
            rw [HP1.out] at k4
            rw [HP2.out] at k5
            exact ⟨k1, k2, k3, k4, k5⟩)
          have hdr := (Gr.refl wr).drew
          clear hBx
          go_wp2_with fail
          refine wp_region_held_drew (S := (fun W' => W'.cell? ⟨S, 0, none⟩ = some (.pointer (some ⟨g, 0, none⟩)) ∧ W'.cell? ⟨S + 1, 0, none⟩ = some (.int .i64 (x0 : Int)) ∧ W'.cell? ⟨S + 1 + 1, 0, none⟩ = some (.int .i64 (y0 : Int)) ∧ W'.cell? ⟨g, x * 49 + y0, none⟩ = some (.int .i64 p1) ∧ W'.cell? ⟨g, (x0 - x) * 49 + y0, none⟩ = some (.int .i64 p2))) ?_ ?_ (fun hHeld => ?_)
          · kernel_rfl
          · ((try dsimp only); (first | exact ⟨hdr.keep c1, hdr.keep c2, hdr.keep c3, hdr.keep v1, hdr.keep v2⟩ | exact KS.out _ HG2.out HE2.out))
          refine take_in (i := 0) (v := ?_) (d := (some 38)) rfl rfl ?_ ?_ ?_ ?_ ?_ ?_ ?_ ?_
          rotate_left
          · kernel_rfl
          · kernel_rfl
          · kernel_rfl
          · (intro _ _ _ hq; exact hq)
          · rfl
          · (intro _w hSw; (try dsimp only at hSw); go_simp; try with_reducible rfl)
          · assumption
          try simp only [Act.put, List.setIfInBounds_toArray, List.set_cons_zero, List.set_cons_succ]
          refine take_in (i := 1) (v := ?_) (d := (some 39)) rfl rfl ?_ ?_ ?_ ?_ ?_ ?_ ?_ ?_
          rotate_left
          · kernel_rfl
          · kernel_rfl
          · kernel_rfl
          · (intro _ _ _ hq; exact hq)
          · rfl
          · (intro _w hSw; (try dsimp only at hSw); go_simp; try with_reducible rfl)
          · assumption
          try simp only [Act.put, List.setIfInBounds_toArray, List.set_cons_zero, List.set_cons_succ]
          refine take_in (i := 2) (v := ?_) (d := (some 40)) rfl rfl ?_ ?_ ?_ ?_ ?_ ?_ ?_ ?_
          rotate_left
          · kernel_rfl
          · kernel_rfl
          · kernel_rfl
          · (intro _ _ _ hq; exact hq)
          · rfl
          · (intro _w hSw; (try dsimp only at hSw); go_simp; try with_reducible rfl)
          · assumption
          try simp only [Act.put, List.setIfInBounds_toArray, List.set_cons_zero, List.set_cons_succ]
          refine take_in (i := 3) (v := ?_) (d := (some 41)) rfl rfl ?_ ?_ ?_ ?_ ?_ ?_ ?_ ?_
          rotate_left
          · kernel_rfl
          · kernel_rfl
          · kernel_rfl
          · (intro _ _ _ hq; exact hq)
          · rfl
          · (intro _w hSw; (try dsimp only at hSw); go_simp; try with_reducible rfl)
          · assumption
          try simp only [Act.put, List.setIfInBounds_toArray, List.set_cons_zero, List.set_cons_succ]
          refine take_in (i := 4) (v := ?_) (d := (some 42)) rfl rfl ?_ ?_ ?_ ?_ ?_ ?_ ?_ ?_
          rotate_left
          · kernel_rfl
          · kernel_rfl
          · kernel_rfl
          · (intro _ _ _ hq; exact hq)
          · rfl
          · (intro _w hSw; (try dsimp only at hSw); go_simp; try with_reducible rfl)
          · assumption
          try simp only [Act.put, List.setIfInBounds_toArray, List.set_cons_zero, List.set_cons_succ]
          refine take_in (i := 5) (v := ?_) (d := (some 43)) rfl rfl ?_ ?_ ?_ ?_ ?_ ?_ ?_ ?_
          rotate_left
          · kernel_rfl
          · kernel_rfl
          · kernel_rfl
          · (intro _ _ _ hq; exact hq)
          · rfl
          · (intro _w hSw; (try dsimp only at hSw); go_simp; try with_reducible rfl)
          · assumption
          try simp only [Act.put, List.setIfInBounds_toArray, List.set_cons_zero, List.set_cons_succ]
          refine take_in (i := 6) (v := ?_) (d := (some 44)) rfl rfl ?_ ?_ ?_ ?_ ?_ ?_ ?_ ?_
          rotate_left
          · kernel_rfl
          · kernel_rfl
          · kernel_rfl
          · (intro _ _ _ hq; exact hq)
          · rfl
          · (intro _w hSw; (try dsimp only at hSw); go_simp; try with_reducible rfl)
          · assumption
          try simp only [Act.put, List.setIfInBounds_toArray, List.set_cons_zero, List.set_cons_succ]
          refine take_in (i := 7) (v := ?_) (d := (some 45)) rfl rfl ?_ ?_ ?_ ?_ ?_ ?_ ?_ ?_
          rotate_left
          · kernel_rfl
          · kernel_rfl
          · kernel_rfl
          · (intro _ _ _ hq; exact hq)
          · rfl
          · (intro _w hSw; (try dsimp only at hSw); go_simp; try with_reducible rfl)
          · assumption
          try simp only [Act.put, List.setIfInBounds_toArray, List.set_cons_zero, List.set_cons_succ]
          refine take_in (i := 8) (v := ?_) (d := (some 46)) rfl rfl ?_ ?_ ?_ ?_ ?_ ?_ ?_ ?_
          rotate_left
          · kernel_rfl
          · kernel_rfl
          · kernel_rfl
          · (intro _ _ _ hq; exact hq)
          · rfl
          · (intro _w hSw; (try dsimp only at hSw); go_simp; try with_reducible rfl)
          · assumption
          try simp only [Act.put, List.setIfInBounds_toArray, List.set_cons_zero, List.set_cons_succ]
          refine take_in (i := 9) (v := ?_) (d := (some 47)) rfl rfl ?_ ?_ ?_ ?_ ?_ ?_ ?_ ?_
          rotate_left
          · kernel_rfl
          · kernel_rfl
          · kernel_rfl
          · (intro _ _ _ hq; exact hq)
          · rfl
          · (intro _w hSw; (try dsimp only at hSw); go_simp; try with_reducible rfl)
          · assumption
          try simp only [Act.put, List.setIfInBounds_toArray, List.set_cons_zero, List.set_cons_succ]
          refine take_in (i := 10) (v := ?_) (d := (some 48)) rfl rfl ?_ ?_ ?_ ?_ ?_ ?_ ?_ ?_
          rotate_left
          · kernel_rfl
          · kernel_rfl
          · kernel_rfl
          · (intro _ _ _ hq; exact hq)
          · rfl
          · (intro _w hSw; (try dsimp only at hSw); go_simp; try with_reducible rfl)
          · assumption
          try simp only [Act.put, List.setIfInBounds_toArray, List.set_cons_zero, List.set_cons_succ]
          refine take_in (i := 11) (v := ?_) (d := (some 49)) rfl rfl ?_ ?_ ?_ ?_ ?_ ?_ ?_ ?_
          rotate_left
          · kernel_rfl
          · kernel_rfl
          · kernel_rfl
          · (intro _ _ _ hq; exact hq)
          · rfl
          · (intro _w hSw; (try dsimp only at hSw); go_simp; try with_reducible rfl)
          · assumption
          try simp only [Act.put, List.setIfInBounds_toArray, List.set_cons_zero, List.set_cons_succ]
          refine take_in (i := 12) (v := ?_) (d := (some 50)) rfl rfl ?_ ?_ ?_ ?_ ?_ ?_ ?_ ?_
          rotate_left
          · kernel_rfl
          · kernel_rfl
          · kernel_rfl
          · (intro _ _ _ hq; exact hq)
          · rfl
          · (intro _w hSw; (try dsimp only at hSw); go_simp; try with_reducible rfl)
          · assumption
          try simp only [Act.put, List.setIfInBounds_toArray, List.set_cons_zero, List.set_cons_succ]
          refine take_in (i := 13) (v := ?_) (d := (some 51)) rfl rfl ?_ ?_ ?_ ?_ ?_ ?_ ?_ ?_
          rotate_left
          · kernel_rfl
          · kernel_rfl
          · kernel_rfl
          · (intro _ _ _ hq; exact hq)
          · rfl
          · (intro _w hSw; (try dsimp only at hSw); go_simp; try with_reducible rfl)
          · assumption
          try simp only [Act.put, List.setIfInBounds_toArray, List.set_cons_zero, List.set_cons_succ]
          refine take_in (i := 14) (v := ?_) (d := (some 52)) rfl rfl ?_ ?_ ?_ ?_ ?_ ?_ ?_ ?_
          rotate_left
          · kernel_rfl
          · kernel_rfl
          · kernel_rfl
          · (intro _ _ _ hq; exact hq)
          · rfl
          · (intro _w hSw; (try dsimp only at hSw); go_simp; try with_reducible rfl)
          · assumption
          try simp only [Act.put, List.setIfInBounds_toArray, List.set_cons_zero, List.set_cons_succ]
          refine take_in (i := 15) (v := ?_) (d := (some 53)) rfl rfl ?_ ?_ ?_ ?_ ?_ ?_ ?_ ?_
          rotate_left
          · kernel_rfl
          · kernel_rfl
          · kernel_rfl
          · (intro _ _ _ hq; exact hq)
          · rfl
          · (intro _w hSw; (try dsimp only at hSw); go_simp; try with_reducible rfl)
          · assumption
          try simp only [Act.put, List.setIfInBounds_toArray, List.set_cons_zero, List.set_cons_succ]
          refine take_in (i := 16) (v := ?_) (d := (some 54)) rfl rfl ?_ ?_ ?_ ?_ ?_ ?_ ?_ ?_
          rotate_left
          · kernel_rfl
          · kernel_rfl
          · kernel_rfl
          · (intro _ _ _ hq; exact hq)
          · rfl
          · (intro _w hSw; (try dsimp only at hSw); go_simp; try with_reducible rfl)
          · assumption
          try simp only [Act.put, List.setIfInBounds_toArray, List.set_cons_zero, List.set_cons_succ]
          refine take_in (i := 17) (v := ?_) (d := (some 55)) rfl rfl ?_ ?_ ?_ ?_ ?_ ?_ ?_ ?_
          rotate_left
          · kernel_rfl
          · kernel_rfl
          · kernel_rfl
          · (intro _ _ _ hq; exact hq)
          · rfl
          · (intro _w hSw; (try dsimp only at hSw); go_simp; try with_reducible rfl)
          · assumption
          try simp only [Act.put, List.setIfInBounds_toArray, List.set_cons_zero, List.set_cons_succ]
          refine take_in (i := 18) (v := ?_) (d := (some 56)) rfl rfl ?_ ?_ ?_ ?_ ?_ ?_ ?_ ?_
          rotate_left
          · kernel_rfl
          · kernel_rfl
          · kernel_rfl
          · (intro _ _ _ hq; exact hq)
          · rfl
          · (intro _w hSw; (try dsimp only at hSw); go_simp; try with_reducible rfl)
          · assumption
          try simp only [Act.put, List.setIfInBounds_toArray, List.set_cons_zero, List.set_cons_succ]
          refine take_in (i := 19) (v := ?_) (d := (some 57)) rfl rfl ?_ ?_ ?_ ?_ ?_ ?_ ?_ ?_
          rotate_left
          · kernel_rfl
          · kernel_rfl
          · kernel_rfl
          · (intro _ _ _ hq; exact hq)
          · rfl
          · (intro _w hSw; (try dsimp only at hSw); go_simp; try with_reducible rfl)
          · assumption
          try simp only [Act.put, List.setIfInBounds_toArray, List.set_cons_zero, List.set_cons_succ]
          refine take_in (i := 20) (v := ?_) (d := (some 58)) rfl rfl ?_ ?_ ?_ ?_ ?_ ?_ ?_ ?_
          rotate_left
          · kernel_rfl
          · kernel_rfl
          · kernel_rfl
          · (intro _ _ _ hq; exact hq)
          · rfl
          · (intro _w hSw; (try dsimp only at hSw); go_simp; try with_reducible rfl)
          · assumption
          try simp only [Act.put, List.setIfInBounds_toArray, List.set_cons_zero, List.set_cons_succ]
          refine wpAnyH_ready (rs := [21]) ?_ ?_ ?_
          · kernel_rfl
          · simp
          refine (AllReadyH.cons rfl (fun K hK => ?_) AllReadyH.nil)
          go_simp
          first | (go_at_call 78; refine (HO.out _ hdr).mono ?_; rintro e w2 ⟨rfl, hE2, hG2⟩; have HE2 := Lib.hid hE2; have HG2 := Lib.hid ((Gb.of hdr g).trans hG2); clear hE2 hG2)
          refine hK.out _ _ ?_ (fun hHeld => ?_)
          · ((try dsimp only); (first | exact ⟨hdr.keep c1, hdr.keep c2, hdr.keep c3, hdr.keep v1, hdr.keep v2⟩ | exact KS.out _ HG2.out HE2.out))
          clear hK K
          try simp only [Act.put, List.setIfInBounds_toArray, List.set_cons_zero, List.set_cons_succ]
          refine wpAnyH_done ?_ ?_ _
          · kernel_rfl
          rotate_left
          go_wp2_with fail
          go_roundw
          case rel => exact ⟨x + 1, by omega, by omega, by go_num, by (rw [HC.out, ← Int.max_assoc]; exact HE2), Lib.hid (hgb.out.trans HG2.out)⟩
          case measure => simp [intOf]; omega
        · have hd : decide ((x : Int) ≤ (x0 : Int) - (x : Int)) = false := decide_eq_false (by omega)
          have HEQ : Hid (cutT (fun x => wt x y0) x0 x = cutT (fun x => wt x y0) x0 x0) := Lib.hid (cutT_end hxx1 hxx2 (by omega))
          rw [HEQ.out] at hES
          generalize hgt : cutT (fun x => wt x y0) x0 x0 = t at hES
          have HGT := Lib.hid hgt
          clear hgt hBx
          go_wp2_with fail
          go_loopw [12] (fun i wr => ∃ y : Nat, 1 ≤ y ∧ 2 * (y - 1) ≤ y0 ∧ i = .int .i64 y ∧ Hid (ESt bs g x0 y0 wt ft (max (max s t) (cutT (fun y => wt x0 y) y0 y)) wr) ∧ Hid (Gb g W0 wr)) (fun i _ => y0 + 2 - (intOf i).toNat)
          case atStart => exact ⟨1, Nat.le_refl _, by omega, rfl, by (rw [show max (max s t) (cutT (fun y => wt x0 y) y0 1) = max s t by simp [cutT]; omega]; exact hES), hgb⟩
          case round =>
            clear hES hgb c1 c2 c3 i1 hlt hd
            obtain ⟨y, hyy1, hyy2, rfl, hES, hgb⟩ := hrel
            have hBx := HBX.out.gb HE0.out hgb.out
            obtain ⟨c1, c2, c3⟩ := hBx.cells
            have i1 : IntKind.i64.wrap ((y0 : Int) - (y : Int)) = (y0 : Int) - (y : Int) := IntWalk.i64_in _ (by omega)
            by_cases hlt : y ≤ y0 - y
            · have hd : decide ((y : Int) ≤ (y0 : Int) - (y : Int)) = true := decide_eq_true (by omega)
              have v1 := hES.out.at (a := x0) (b := y) hx (by omega) (by omega)
              have v2 := hES.out.at (a := x0) (b := y0 - y) hx (by omega) (by omega)
              have n1 := HWT.out x0 y hx (by omega)
              have n2 := HWT.out x0 (y0 - y) hx (by omega)
              have HGS : Hid (goodS bs wt x0 y0 (wt x0 y + wt x0 (y0 - y)) (3, (y : Int))) := Lib.hid (Or.inr (Or.inr (Or.inr ⟨y, hyy1, by omega, rfl, rfl⟩)))
              have HC := Lib.hid (cutT_step (fun y => wt x0 y) y0 y hyy1)
              generalize hp1 : wt x0 y = p1 at v1 n1 HC HGS
              generalize hp2 : wt x0 (y0 - y) = p2 at v2 n2 HC HGS
              have HP1 := Lib.hid hp1
              have HP2 := Lib.hid hp2
              clear hp1 hp2
              generalize cutT (fun y => wt x0 y) y0 y = u at HC hES
              have i2 : IntKind.i64.wrap (p1 + p2) = p1 + p2 := IntWalk.i64_in _ (by omega)
              have i3 : ((y0 : Int) - (y : Int)).toNat = y0 - y := by omega
              have i4 : (0 : Int) ≤ (y0 : Int) - (y : Int) := by omega
              have i5 : (y0 : Int) - (y : Int) < 49 := by omega
              have i6 : (y : Int) < 49 := by omega
              have i7 : (0 : Int) ≤ (y : Int) := by omega
              have i8 : (y0 : Int) < 49 := by omega
              have j8 : (x0 : Int) < 49 := by omega
              have i9 : y ≤ y0 := by omega
              have HO := Lib.hid (fun W' (h : Gr wr W') => offer_any bs g _ _ _ x0 y0 wt ft 3 y (p1 + p2) (max (max s t) u) W' hx hy (hES.out.keep h) (hBx.keep h).1 (hBx.keep h).2.1 (hBx.keep h).2.2 HGS.out _ rfl)
              have KS : Hid (∀ W', Gb g wr W' → ESt bs g x0 y0 wt ft (max (max (max s t) u) (p1 + p2)) W' → W'.cell? ⟨S, 0, none⟩ = some (.pointer (some ⟨g, 0, none⟩)) ∧ W'.cell? ⟨S + 1, 0, none⟩ = some (.int .i64 (x0 : Int)) ∧ W'.cell? ⟨S + 1 + 1, 0, none⟩ = some (.int .i64 (y0 : Int)) ∧ W'.cell? ⟨g, x0 * 49 + y, none⟩ = some (.int .i64 p1) ∧ W'.cell? ⟨g, x0 * 49 + (y0 - y), none⟩ = some (.int .i64 p2)) := Lib.hid (fun W' h1 h2 => by
                obtain ⟨k1, k2, k3⟩ := (hBx.gb hES.out h1).cells
                have k4 := h2.at (a := x0) (b := y) (by omega) (by omega) (by omega)
                have k5 := h2.at (a := x0) (b := y0 - y) (by omega) (by omega) (by omega)
                rw [HP1.out] at k4
                rw [HP2.out] at k5
                exact ⟨k1, k2, k3, k4, k5⟩)
              have hdr := (Gr.refl wr).drew
              clear hBx
              go_wp2_with fail
              refine wp_region_held_drew (S := (fun W' => W'.cell? ⟨S, 0, none⟩ = some (.pointer (some ⟨g, 0, none⟩)) ∧ W'.cell? ⟨S + 1, 0, none⟩ = some (.int .i64 (x0 : Int)) ∧ W'.cell? ⟨S + 1 + 1, 0, none⟩ = some (.int .i64 (y0 : Int)) ∧ W'.cell? ⟨g, x0 * 49 + y, none⟩ = some (.int .i64 p1) ∧ W'.cell? ⟨g, x0 * 49 + (y0 - y), none⟩ = some (.int .i64 p2))) ?_ ?_ (fun hHeld => ?_)
              · kernel_rfl
              · ((try dsimp only); (first | exact ⟨hdr.keep c1, hdr.keep c2, hdr.keep c3, hdr.keep v1, hdr.keep v2⟩ | exact KS.out _ HG2.out HE2.out))
              refine take_in (i := 0) (v := ?_) (d := (some 67)) rfl rfl ?_ ?_ ?_ ?_ ?_ ?_ ?_ ?_
              rotate_left
              · kernel_rfl
              · kernel_rfl
              · kernel_rfl
              · (intro _ _ _ hq; exact hq)
              · rfl
              · (intro _w hSw; (try dsimp only at hSw); go_simp; try with_reducible rfl)
              · assumption
              try simp only [Act.put, List.setIfInBounds_toArray, List.set_cons_zero, List.set_cons_succ]
              refine take_in (i := 1) (v := ?_) (d := (some 68)) rfl rfl ?_ ?_ ?_ ?_ ?_ ?_ ?_ ?_
              rotate_left
              · kernel_rfl
              · kernel_rfl
              · kernel_rfl
              · (intro _ _ _ hq; exact hq)
              · rfl
              · (intro _w hSw; (try dsimp only at hSw); go_simp; try with_reducible rfl)
              · assumption
              try simp only [Act.put, List.setIfInBounds_toArray, List.set_cons_zero, List.set_cons_succ]
              refine take_in (i := 2) (v := ?_) (d := (some 69)) rfl rfl ?_ ?_ ?_ ?_ ?_ ?_ ?_ ?_
              rotate_left
              · kernel_rfl
              · kernel_rfl
              · kernel_rfl
              · (intro _ _ _ hq; exact hq)
              · rfl
              · (intro _w hSw; (try dsimp only at hSw); go_simp; try with_reducible rfl)
              · assumption
              try simp only [Act.put, List.setIfInBounds_toArray, List.set_cons_zero, List.set_cons_succ]
              refine take_in (i := 3) (v := ?_) (d := (some 70)) rfl rfl ?_ ?_ ?_ ?_ ?_ ?_ ?_ ?_
              rotate_left
              · kernel_rfl
              · kernel_rfl
              · kernel_rfl
              · (intro _ _ _ hq; exact hq)
              · rfl
              · (intro _w hSw; (try dsimp only at hSw); go_simp; try with_reducible rfl)
              · assumption
              try simp only [Act.put, List.setIfInBounds_toArray, List.set_cons_zero, List.set_cons_succ]
              refine take_in (i := 4) (v := ?_) (d := (some 71)) rfl rfl ?_ ?_ ?_ ?_ ?_ ?_ ?_ ?_
              rotate_left
              · kernel_rfl
              · kernel_rfl
              · kernel_rfl
              · (intro _ _ _ hq; exact hq)
              · rfl
              · (intro _w hSw; (try dsimp only at hSw); go_simp; try with_reducible rfl)
              · assumption
              try simp only [Act.put, List.setIfInBounds_toArray, List.set_cons_zero, List.set_cons_succ]
              refine take_in (i := 5) (v := ?_) (d := (some 72)) rfl rfl ?_ ?_ ?_ ?_ ?_ ?_ ?_ ?_
              rotate_left
              · kernel_rfl
              · kernel_rfl
              · kernel_rfl
              · (intro _ _ _ hq; exact hq)
              · rfl
              · (intro _w hSw; (try dsimp only at hSw); go_simp; try with_reducible rfl)
              · assumption
              try simp only [Act.put, List.setIfInBounds_toArray, List.set_cons_zero, List.set_cons_succ]
              refine take_in (i := 6) (v := ?_) (d := (some 73)) rfl rfl ?_ ?_ ?_ ?_ ?_ ?_ ?_ ?_
              rotate_left
              · kernel_rfl
              · kernel_rfl
              · kernel_rfl
              · (intro _ _ _ hq; exact hq)
              · rfl
              · (intro _w hSw; (try dsimp only at hSw); go_simp; try with_reducible rfl)
              · assumption
              try simp only [Act.put, List.setIfInBounds_toArray, List.set_cons_zero, List.set_cons_succ]
              refine take_in (i := 7) (v := ?_) (d := (some 74)) rfl rfl ?_ ?_ ?_ ?_ ?_ ?_ ?_ ?_
              rotate_left
              · kernel_rfl
              · kernel_rfl
              · kernel_rfl
              · (intro _ _ _ hq; exact hq)
              · rfl
              · (intro _w hSw; (try dsimp only at hSw); go_simp; try with_reducible rfl)
              · assumption
              try simp only [Act.put, List.setIfInBounds_toArray, List.set_cons_zero, List.set_cons_succ]
              refine take_in (i := 8) (v := ?_) (d := (some 75)) rfl rfl ?_ ?_ ?_ ?_ ?_ ?_ ?_ ?_
              rotate_left
              · kernel_rfl
              · kernel_rfl
              · kernel_rfl
              · (intro _ _ _ hq; exact hq)
              · rfl
              · (intro _w hSw; (try dsimp only at hSw); go_simp; try with_reducible rfl)
              · assumption
              try simp only [Act.put, List.setIfInBounds_toArray, List.set_cons_zero, List.set_cons_succ]
              refine take_in (i := 9) (v := ?_) (d := (some 76)) rfl rfl ?_ ?_ ?_ ?_ ?_ ?_ ?_ ?_
              rotate_left
              · kernel_rfl
              · kernel_rfl
              · kernel_rfl
              · (intro _ _ _ hq; exact hq)
              · rfl
              · (intro _w hSw; (try dsimp only at hSw); go_simp; try with_reducible rfl)
              · assumption
              try simp only [Act.put, List.setIfInBounds_toArray, List.set_cons_zero, List.set_cons_succ]
              refine take_in (i := 10) (v := ?_) (d := (some 77)) rfl rfl ?_ ?_ ?_ ?_ ?_ ?_ ?_ ?_
              rotate_left
              · kernel_rfl
              · kernel_rfl
              · kernel_rfl
              · (intro _ _ _ hq; exact hq)
              · rfl
              · (intro _w hSw; (try dsimp only at hSw); go_simp; try with_reducible rfl)
              · assumption
              try simp only [Act.put, List.setIfInBounds_toArray, List.set_cons_zero, List.set_cons_succ]
              refine take_in (i := 11) (v := ?_) (d := (some 78)) rfl rfl ?_ ?_ ?_ ?_ ?_ ?_ ?_ ?_
              rotate_left
              · kernel_rfl
              · kernel_rfl
              · kernel_rfl
              · (intro _ _ _ hq; exact hq)
              · rfl
              · (intro _w hSw; (try dsimp only at hSw); go_simp; try with_reducible rfl)
              · assumption
              try simp only [Act.put, List.setIfInBounds_toArray, List.set_cons_zero, List.set_cons_succ]
              refine take_in (i := 12) (v := ?_) (d := (some 79)) rfl rfl ?_ ?_ ?_ ?_ ?_ ?_ ?_ ?_
              rotate_left
              · kernel_rfl
              · kernel_rfl
              · kernel_rfl
              · (intro _ _ _ hq; exact hq)
              · rfl
              · (intro _w hSw; (try dsimp only at hSw); go_simp; try with_reducible rfl)
              · assumption
              try simp only [Act.put, List.setIfInBounds_toArray, List.set_cons_zero, List.set_cons_succ]
              refine take_in (i := 13) (v := ?_) (d := (some 80)) rfl rfl ?_ ?_ ?_ ?_ ?_ ?_ ?_ ?_
              rotate_left
              · kernel_rfl
              · kernel_rfl
              · kernel_rfl
              · (intro _ _ _ hq; exact hq)
              · rfl
              · (intro _w hSw; (try dsimp only at hSw); go_simp; try with_reducible rfl)
              · assumption
              try simp only [Act.put, List.setIfInBounds_toArray, List.set_cons_zero, List.set_cons_succ]
              refine take_in (i := 14) (v := ?_) (d := (some 81)) rfl rfl ?_ ?_ ?_ ?_ ?_ ?_ ?_ ?_
              rotate_left
              · kernel_rfl
              · kernel_rfl
              · kernel_rfl
              · (intro _ _ _ hq; exact hq)
              · rfl
              · (intro _w hSw; (try dsimp only at hSw); go_simp; try with_reducible rfl)
              · assumption
              try simp only [Act.put, List.setIfInBounds_toArray, List.set_cons_zero, List.set_cons_succ]
              refine take_in (i := 15) (v := ?_) (d := (some 82)) rfl rfl ?_ ?_ ?_ ?_ ?_ ?_ ?_ ?_
              rotate_left
              · kernel_rfl
              · kernel_rfl
              · kernel_rfl
              · (intro _ _ _ hq; exact hq)
              · rfl
              · (intro _w hSw; (try dsimp only at hSw); go_simp; try with_reducible rfl)
              · assumption
              try simp only [Act.put, List.setIfInBounds_toArray, List.set_cons_zero, List.set_cons_succ]
              refine take_in (i := 16) (v := ?_) (d := (some 83)) rfl rfl ?_ ?_ ?_ ?_ ?_ ?_ ?_ ?_
              rotate_left
              · kernel_rfl
              · kernel_rfl
              · kernel_rfl
              · (intro _ _ _ hq; exact hq)
              · rfl
              · (intro _w hSw; (try dsimp only at hSw); go_simp; try with_reducible rfl)
              · assumption
              try simp only [Act.put, List.setIfInBounds_toArray, List.set_cons_zero, List.set_cons_succ]
              refine take_in (i := 17) (v := ?_) (d := (some 84)) rfl rfl ?_ ?_ ?_ ?_ ?_ ?_ ?_ ?_
              rotate_left
              · kernel_rfl
              · kernel_rfl
              · kernel_rfl
              · (intro _ _ _ hq; exact hq)
              · rfl
              · (intro _w hSw; (try dsimp only at hSw); go_simp; try with_reducible rfl)
              · assumption
              try simp only [Act.put, List.setIfInBounds_toArray, List.set_cons_zero, List.set_cons_succ]
              refine take_in (i := 18) (v := ?_) (d := (some 85)) rfl rfl ?_ ?_ ?_ ?_ ?_ ?_ ?_ ?_
              rotate_left
              · kernel_rfl
              · kernel_rfl
              · kernel_rfl
              · (intro _ _ _ hq; exact hq)
              · rfl
              · (intro _w hSw; (try dsimp only at hSw); go_simp; try with_reducible rfl)
              · assumption
              try simp only [Act.put, List.setIfInBounds_toArray, List.set_cons_zero, List.set_cons_succ]
              refine take_in (i := 19) (v := ?_) (d := (some 86)) rfl rfl ?_ ?_ ?_ ?_ ?_ ?_ ?_ ?_
              rotate_left
              · kernel_rfl
              · kernel_rfl
              · kernel_rfl
              · (intro _ _ _ hq; exact hq)
              · rfl
              · (intro _w hSw; (try dsimp only at hSw); go_simp; try with_reducible rfl)
              · assumption
              try simp only [Act.put, List.setIfInBounds_toArray, List.set_cons_zero, List.set_cons_succ]
              refine take_in (i := 20) (v := ?_) (d := (some 87)) rfl rfl ?_ ?_ ?_ ?_ ?_ ?_ ?_ ?_
              rotate_left
              · kernel_rfl
              · kernel_rfl
              · kernel_rfl
              · (intro _ _ _ hq; exact hq)
              · rfl
              · (intro _w hSw; (try dsimp only at hSw); go_simp; try with_reducible rfl)
              · assumption
              try simp only [Act.put, List.setIfInBounds_toArray, List.set_cons_zero, List.set_cons_succ]
              refine wpAnyH_ready (rs := [21]) ?_ ?_ ?_
              · kernel_rfl
              · simp
              refine (AllReadyH.cons rfl (fun K hK => ?_) AllReadyH.nil)
              go_simp
              first | (go_at_call 78; refine (HO.out _ hdr).mono ?_; rintro e w2 ⟨rfl, hE2, hG2⟩; have HE2 := Lib.hid hE2; have HG2 := Lib.hid ((Gb.of hdr g).trans hG2); clear hE2 hG2)
              refine hK.out _ _ ?_ (fun hHeld => ?_)
              · ((try dsimp only); (first | exact ⟨hdr.keep c1, hdr.keep c2, hdr.keep c3, hdr.keep v1, hdr.keep v2⟩ | exact KS.out _ HG2.out HE2.out))
              clear hK K
              try simp only [Act.put, List.setIfInBounds_toArray, List.set_cons_zero, List.set_cons_succ]
              refine wpAnyH_done ?_ ?_ _
              · kernel_rfl
              rotate_left
              go_wp2_with fail
              go_roundw
              case rel => exact ⟨y + 1, by omega, by omega, by go_num, by (rw [HC.out, ← Int.max_assoc]; exact HE2), Lib.hid (hgb.out.trans HG2.out)⟩
              case measure => simp [intOf]; omega
            · have hd : decide ((y : Int) ≤ (y0 : Int) - (y : Int)) = false := decide_eq_false (by omega)
              have HEQ2 : Hid (cutT (fun y => wt x0 y) y0 y = cutT (fun y => wt x0 y) y0 y0) := Lib.hid (cutT_end hyy1 hyy2 (by omega))
              rw [HEQ2.out] at hES
              go_wp2_with fail
              go_end0
              have h := hES.out
              rw [← HGT.out, ← HK.out] at h
              exact ⟨rfl, h, (Gb.of HG0.out g).trans hgb.out⟩

end Go.Proofs.Ytcojionipffanab
