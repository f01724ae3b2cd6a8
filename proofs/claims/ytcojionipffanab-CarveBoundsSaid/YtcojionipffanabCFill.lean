/- Layer 2: the table is filled. -/
import Derived.Test.YtcojionipffanabCDecide
namespace Go.Proofs.Ytcojionipffanab
open Go.RowKit
set_option linter.unusedSimpArgs false

set_option maxRecDepth 1000000 in
theorem zero_cells : Try.zeroCells111 = Array.replicate 7203 (.int .i64 0) := by kernel_rfl

/-- What has been decided ahead of x, y. -/
def dn (H x y a b : Nat) : Bool := decide (1 ≤ a ∧ 1 ≤ b ∧ b ≤ H ∧ (a < x ∨ (a = x ∧ b < y)))
def wtD (bs : List Bl) (H x y : Nat) (a b : Nat) : Int := if dn H x y a b = true then mst bs a b else 0
def Fld (bs : List Bl) (H g x y : Nat) (w : World) : Prop :=
  ∃ ft, Tab w g (wtD bs H x y) ft ∧ ∀ a b, (dn H x y a b = true → goodS bs (mst bs) a b (mst bs a b) (ft a b)) ∧ (dn H x y a b = false → ft a b = (0, 0))
theorem dn_iff (H x y a b : Nat) : dn H x y a b = true ↔ 1 ≤ a ∧ 1 ≤ b ∧ b ≤ H ∧ (a < x ∨ (a = x ∧ b < y)) := by simp [dn]
theorem Fld.keep {bs : List Bl} {H g x y : Nat} {w w' : World} (h : Fld bs H g x y w) (hg : Gr w w') : Fld bs H g x y w' := by
  obtain ⟨ft, h1, h2⟩ := h
  exact ⟨ft, h1.keep hg, h2⟩
theorem dn_next (H x a b : Nat) : dn H x (H + 1) a b = dn H (x + 1) 1 a b := by
  rw [Bool.eq_iff_iff, dn_iff, dn_iff]; omega
theorem Fld.next {bs : List Bl} {H g x : Nat} {w : World} (h : Fld bs H g x (H + 1) w) : Fld bs H g (x + 1) 1 w := by
  obtain ⟨ft, h1, h2⟩ := h
  refine ⟨ft, ?_, fun a b => by rw [← dn_next]; exact h2 a b⟩
  have : wtD bs H x (H + 1) = wtD bs H (x + 1) 1 := by funext a b; unfold wtD; rw [dn_next]
  rw [← this]; exact h1
theorem goodS_congr {bs : List Bl} {T T' : Nat → Nat → Int} {x y : Nat} {v : Int} {s : St} (h1 : ∀ a, 1 ≤ a → a < x → T a y = T' a y) (h2 : ∀ b, 1 ≤ b → b < y → T x b = T' x b) (h : goodS bs T x y v s) : goodS bs T' x y v s := by
  rcases h with h | h | ⟨a, a1, a2, hs, hv⟩ | ⟨b, b1, b2, hs, hv⟩
  · exact Or.inl h
  · exact Or.inr (Or.inl h)
  · exact Or.inr (Or.inr (Or.inl ⟨a, a1, a2, hs, by rw [hv, h1 a a1 a2, h1 (x - a) (by omega) (by omega)]⟩))
  · exact Or.inr (Or.inr (Or.inr ⟨b, b1, b2, hs, by rw [hv, h2 b b1 b2, h2 (y - b) (by omega) (by omega)]⟩))
theorem wtD_in {bs : List Bl} {H x y a b : Nat} (h : 1 ≤ a ∧ 1 ≤ b ∧ b ≤ H ∧ (a < x ∨ (a = x ∧ b < y))) : wtD bs H x y a b = mst bs a b := by
  unfold wtD; rw [if_pos ((dn_iff _ _ _ _ _).2 h)]
theorem wtD_out {bs : List Bl} {H x y a b : Nat} (h : ¬(1 ≤ a ∧ 1 ≤ b ∧ b ≤ H ∧ (a < x ∨ (a = x ∧ b < y)))) : wtD bs H x y a b = 0 := by
  unfold wtD; rw [if_neg (fun e => h ((dn_iff _ _ _ _ _).1 e))]
theorem need_D {bs : List Bl} {H x y : Nat} (hx : 1 ≤ x) (hy : 1 ≤ y) (hyH : y ≤ H) : needT bs (wtD bs H x y) x y = mst bs x y := by
  rw [mst_eq bs hx hy]
  unfold needT
  rw [cutT_congr (f := fun a => wtD bs H x y a y) (g := fun a => mst bs a y) (fun a h1 h2 => wtD_in (by omega)) x (Nat.le_refl _),
    cutT_congr (f := fun b => wtD bs H x y x b) (g := fun b => mst bs x b) (fun b h1 h2 => wtD_in (by omega)) y (Nat.le_refl _)]
/-- One entry more. -/
theorem Fld.step {bs : List Bl} {H g x y : Nat} {w : World} (hx : 1 ≤ x) (hy : 1 ≤ y) (hyH : y ≤ H) {ft : Nat → Nat → St} (hft : ∀ a b, (dn H x y a b = true → goodS bs (mst bs) a b (mst bs a b) (ft a b)) ∧ (dn H x y a b = false → ft a b = (0, 0)))
    (h : ESt bs g x y (wtD bs H x y) ft (needT bs (wtD bs H x y) x y) w) : Fld bs H g x (y + 1) w := by
  rw [need_D hx hy hyH] at h
  obtain ⟨s, h1, h2⟩ := h
  have e : upd (wtD bs H x y) x y (mst bs x y) = wtD bs H x (y + 1) := by
    funext a b
    by_cases hab : a = x ∧ b = y
    · obtain ⟨rfl, rfl⟩ := hab
      rw [upd_same, wtD_in (by omega)]
    · rw [upd_other _ _ hab]
      by_cases hd : 1 ≤ a ∧ 1 ≤ b ∧ b ≤ H ∧ (a < x ∨ (a = x ∧ b < y))
      · rw [wtD_in hd, wtD_in (by omega)]
      · rw [wtD_out hd, wtD_out (by omega)]
  rw [e] at h1
  refine ⟨_, h1, fun a b => ?_⟩
  by_cases hab : a = x ∧ b = y
  · obtain ⟨rfl, rfl⟩ := hab
    rw [upd_same]
    refine ⟨fun _ => goodS_congr (fun c c1 c2 => wtD_in (by omega)) (fun c c1 c2 => wtD_in (by omega)) h2, fun hd => ?_⟩
    have : dn H a (b + 1) a b = true := (dn_iff _ _ _ _ _).2 (by omega)
    rw [this] at hd; cases hd
  · rw [upd_other _ _ hab]
    have e2 : dn H x (y + 1) a b = dn H x y a b := by rw [Bool.eq_iff_iff, dn_iff, dn_iff]; omega
    rw [e2]; exact hft a b

/-- The whole table. -/
def TFull (bs : List Bl) (W H g : Nat) (w : World) : Prop :=
  ∃ wt ft, Tab w g wt ft ∧ ∀ a b, a ≤ W → b ≤ H → wt a b = mst bs a b ∧ (1 ≤ a → 1 ≤ b → goodS bs (mst bs) a b (mst bs a b) (ft a b))
theorem TFull.keep {bs : List Bl} {W H g : Nat} {w w' : World} (h : TFull bs W H g w) (hg : Gr w w') : TFull bs W H g w' := by
  obtain ⟨wt, ft, h1, h2⟩ := h
  exact ⟨wt, ft, h1.keep hg, h2⟩
theorem Fld.full {bs : List Bl} {W H g : Nat} {w : World} (h : Fld bs H g (W + 1) 1 w) : TFull bs W H g w := by
  obtain ⟨ft, h1, h2⟩ := h
  refine ⟨_, ft, h1, fun a b ha hb => ⟨?_, fun h3 h4 => (h2 a b).1 ((dn_iff _ _ _ _ _).2 (by omega))⟩⟩
  by_cases e : 1 ≤ a ∧ 1 ≤ b
  · exact wtD_in (by omega)
  · rw [wtD_out (by omega), mst_zero bs (by omega)]

def FillPost (bs : List Bl) (W H : Nat) (w : World) (e : Ending) (w' : World) : Prop :=
  ∃ g, e = .returned (.pointer (some ⟨g, 0, none⟩)) ∧ w.heap.size ≤ g ∧ TFull bs W H g w' ∧ Gr w w'

set_option maxRecDepth 100000 in
set_option maxHeartbeats 1000000 in
theorem fill_any (W H : Nat) (BA : Option Addr) (bn bc : Nat) (bs : List Bl) (w : World) (hW : W ≤ 48) (hH : H ≤ 48) (hbn : bs.length = bn) (hbl : bn ≤ 16) (hbs : ∀ b ∈ bs, blB b = true) (hB : Tris w BA bs) :
    Calls Try.prog 41 #[.int .i64 (W : Int), .int .i64 (H : Int), .slice BA bn bc] w (FillPost bs W H w) := by
  have hBg : bs ≠ [] → ∀ b off, BA = some ⟨b, off, none⟩ → b < w.heap.size := fun hne b off e => by
    obtain ⟨x, r, rfl⟩ : ∃ x r, bs = x :: r := by cases bs with | nil => exact absurd rfl hne | cons x r => exact ⟨x, r, rfl⟩
    obtain ⟨b', off', e', h0, -⟩ := Tris_at hB (i := 0) (by simp)
    rw [e] at e'
    obtain ⟨rfl, rfl⟩ : b = b' ∧ off = off' := by simpa using e'
    exact World.block_lt_of_cell? w _ h0
  obtain ⟨S, hS⟩ : ∃ S, w.heap.size = S := ⟨_, rfl⟩
  have hblk : Blk (w.alloc (.cells Try.zeroCells111 111)) S 111 (Array.replicate 7203 (.int .i64 0)) := by rw [← zero_cells]; exact Blk.new _ _ _ hS
  have hg0 : Gr w (w.alloc (.cells Try.zeroCells111 111)) := (Gr.refl w).alloc _
  have hfld : Fld bs H S 1 1 (w.alloc (.cells Try.zeroCells111 111)) := by
    have hd : ∀ a b, dn H 1 1 a b = false := fun a b => by
      cases h : dn H 1 1 a b
      · rfl
      · rw [dn_iff] at h; omega
    have hz : ∀ i, i < 7203 → (Array.replicate 7203 (Value.int .i64 0))[i]? = some (.int .i64 0) := fun i hi => by rw [Array.getElem?_replicate, if_pos hi]
    refine ⟨fun _ _ => (0, 0), ⟨_, hblk, by simp, fun x y hx hy => ?_⟩, fun a b => ⟨fun h => absurd ((hd a b).symm.trans h) (by decide), fun _ => rfl⟩⟩
    have e : wtD bs H 1 1 x y = 0 := wtD_out (by omega)
    rw [e]
    exact ⟨hz _ (by omega), hz _ (by omega), hz _ (by omega)⟩
  have HFL := Lib.hid hfld
  have HDC := Lib.hid (fun g x0 y0 wt ft w' hx1 hx hy1 hy hwt hBg' (hg : Tris w' BA bs) hE => decide_any g x0 y0 wt ft BA bn bc bs w' hx1 hx hy1 hy hbn hbl hbs hwt hg hBg' hE)
  have HBG := Lib.hid hBg
  have HB := Lib.hid hB
  have HBS := Lib.hid hbs
  clear hB hbn hbs hBg hfld hblk
  subst hS
  go_enter Try.func41, Try.ntmps41
  go_wp2_with fail
  generalize hW0 : World.alloc w _ = W0 at HFL hg0
  have HG0 := Lib.hid hg0
  have hlt0 : w.heap.size < W0.heap.size := by rw [← hW0]; simp
  clear hg0 hW0
  go_loopw [8] (fun i wr => ∃ x : Nat, 1 ≤ x ∧ x ≤ W + 1 ∧ i = .int .i64 x ∧ Hid (Fld bs H w.heap.size x 1 wr) ∧ Hid (Gb w.heap.size W0 wr)) (fun i _ => W + 2 - (intOf i).toNat)
  case atStart => exact ⟨1, Nat.le_refl _, by omega, rfl, HFL, Lib.hid (Gb.refl _ _)⟩
  case round =>
    obtain ⟨x, hx1, hx2, rfl, hfl, hgb⟩ := hrel
    by_cases hlt : x ≤ W
    · go_wp2_with fail
      go_loopw [9] (fun i wr => ∃ y : Nat, 1 ≤ y ∧ y ≤ H + 1 ∧ i = .int .i64 y ∧ Hid (Fld bs H w.heap.size x y wr) ∧ Hid (Gb w.heap.size W0 wr)) (fun i _ => H + 2 - (intOf i).toNat)
      case atStart => exact ⟨1, Nat.le_refl _, by omega, rfl, hfl, hgb⟩
      case round =>
        clear hfl hgb
        obtain ⟨y, hy1, hy2, rfl, hfl, hgb⟩ := hrel
        by_cases hlt2 : y ≤ H
        · have HX : Hid (Calls Try.prog 60 #[.pointer (some ⟨w.heap.size, 0, none⟩), .int .i64 (x : Int), .int .i64 (y : Int), .slice BA bn bc] wr (fun e w' => e = .returned (.tuple #[]) ∧ Hid (Fld bs H w.heap.size x (y + 1) w') ∧ Hid (Gb w.heap.size W0 w'))) := by
            obtain ⟨ft, h1, h2⟩ := hfl.out
            have hd : dn H x y x y = false := by
              cases h : dn H x y x y
              · rfl
              · rw [dn_iff] at h; omega
            refine Lib.hid ((HDC.out w.heap.size x y (wtD bs H x y) ft wr hx1 (by omega) hy1 (by omega) (fun a b ha hb => ?_) (fun hne b off e => by have := HBG.out hne b off e; omega) (Gb.rd (HB.out.keep HG0.out) hgb.out (fun hne b off e => by have := HBG.out hne b off e; omega)) ⟨(0, 0), ?_, Or.inl ⟨rfl, rfl⟩⟩).mono ?_)
            · unfold wtD
              split
              · have := mst_bd HBS.out ha hb; omega
              · omega
            · rw [upd_id (wtD_out (by omega)), upd_id ((h2 x y).2 hd)]; exact h1
            · rintro e w' ⟨rfl, hE, hG⟩
              exact ⟨rfl, Lib.hid (Fld.step hx1 hy1 hlt2 h2 hE), Lib.hid (hgb.out.trans hG)⟩
          go_wp2_with fail
          refine HX.out.mono ?_
          rintro e w2 ⟨rfl, hf2, hg2⟩
          clear HX
          go_wp2_with fail
          go_roundw
          case rel => exact ⟨y + 1, by omega, by omega, by go_num, hf2, hg2⟩
          case measure => simp [intOf]; omega
        · obtain rfl : y = H + 1 := by omega
          have HN := Lib.hid hfl.out.next
          go_wp2_with fail
          go_roundw
          case rel => exact ⟨x + 1, by omega, by omega, by go_num, HN, hgb⟩
          case measure => simp [intOf]; omega
    · obtain rfl : x = W + 1 := by omega
      have HF := Lib.hid hfl.out.full
      go_wp2_with fail
      go_ret
      exact ⟨_, rfl, Nat.le_refl _, HF.out, Gb.gr HG0.out hgb.out (Nat.le_refl _)⟩

end Go.Proofs.Ytcojionipffanab
