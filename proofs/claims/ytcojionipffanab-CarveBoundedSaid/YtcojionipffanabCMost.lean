/- Layer 2: the reference's table of greatest worths. -/
import Derived.Test.YtcojionipffanabCBound
import Derived.Test.YtcojionipffanabCHolds
import Derived.Test.YtcojionipffanabCRBound
import Derived.Test.YtcojionipffanabHeld
namespace Go.Proofs.Ytcojionipffanab
open Go.RowKit
set_option linter.unusedSimpArgs false

/-- A row of H + 1 numbers in a block of its own. -/
def Rw (w : World) (base g H : Nat) (f : Nat → Int) : Prop := base ≤ g ∧ ∃ cs, Blk w g 3 cs ∧ cs.size = H + 1 ∧ ∀ b, b ≤ H → cs[b]? = some (.int .i64 (f b))
theorem Rw.keep {w w' : World} {base g H : Nat} {f : Nat → Int} (h : Rw w base g H f) (hg : Gr w w') : Rw w' base g H f := by
  obtain ⟨h0, cs, h1, h2, h3⟩ := h
  exact ⟨h0, cs, h1.keep hg, h2, h3⟩
theorem Rw.at {w : World} {base g H : Nat} {f : Nat → Int} (h : Rw w base g H f) {b : Nat} (hb : b ≤ H) : w.cell? ⟨g, b, none⟩ = some (.int .i64 (f b)) := by
  obtain ⟨h0, cs, h1, h2, h3⟩ := h
  rw [h1.cell]; exact h3 b hb
theorem Rw.free {w : World} {base g H : Nat} {f : Nat → Int} (h : Rw w base g H f) (b : Nat) : w.frozen? ⟨g, b, none⟩ = false := by
  obtain ⟨h0, cs, h1, h2, h3⟩ := h
  exact h1.free b
theorem Rw.lt {w : World} {base g H : Nat} {f : Nat → Int} (h : Rw w base g H f) : g < w.heap.size := by
  obtain ⟨h0, cs, h1, h2, h3⟩ := h
  exact h1.lt
theorem Rw.other {w : World} {base g H : Nat} {f : Nat → Int} (h : Rw w base g H f) {p : Addr} (hne : g ≠ p.block) (u : Value) : Rw (w.setCell p u) base g H f := by
  obtain ⟨h0, cs, h1, h2, h3⟩ := h
  exact ⟨h0, cs, h1.other hne u, h2, h3⟩
theorem Rw.put {w : World} {base g H : Nat} {f f' : Nat → Int} (h : Rw w base g H f) {k : Nat} (v : Int) (hk : f' k = v) (ho : ∀ b, b ≠ k → f' b = f b) : Rw (w.setCell ⟨g, k, none⟩ (.int .i64 v)) base g H f' := by
  obtain ⟨h0, cs, h1, h2, h3⟩ := h
  refine ⟨h0, _, h1.put k _, by simp [h2], fun b hb => ?_⟩
  by_cases e : b = k
  · subst e
    rw [Array.getElem?_setIfInBounds_self_of_lt (by omega), hk]
  · rw [Array.getElem?_setIfInBounds_ne (by omega), ho b e]
    exact h3 b hb
theorem Rw.grown {w w' : World} {base g H : Nat} {f : Nat → Int} {row : Option Nat} (h : Rw w base g H f) (hg : w.grownBy w' row) (hne : some g ≠ row) : Rw w' base g H f := by
  obtain ⟨h0, cs, h1, h2, h3⟩ := h
  exact ⟨h0, cs, h1.grown hg hne, h2, h3⟩
theorem Rw.apart {w : World} {base g H n : Nat} {f : Nat → Int} {v : Value} {xs : List Value} (h : Rw w base g H f) (ho : w.ownsRow base 41 1 v n xs) : some g ≠ v.ownBlock := by
  obtain ⟨h0, cs, h1, h2, h3⟩ := h
  exact h1.apart ho (by decide)

/-- The values of the rows' slices. -/
def slv (H : Nat) (G : Nat → Nat) (n : Nat) : List Value := (List.range n).map fun a => .slice (some ⟨G a, 0, none⟩) (H + 1) (H + 1)
theorem slv_snoc (H : Nat) (G : Nat → Nat) (n : Nat) : slv H G (n + 1) = slv H G n ++ [.slice (some ⟨G n, 0, none⟩) (H + 1) (H + 1)] := by
  simp [slv, List.range_succ]
theorem slv_congr {H : Nat} {G G' : Nat → Nat} {n : Nat} (h : ∀ a, a < n → G a = G' a) : slv H G n = slv H G' n := by
  unfold slv
  refine List.map_congr_left fun a ha => ?_
  rw [h a (List.mem_range.1 ha)]
theorem slv_at {H : Nat} {G : Nat → Nat} {n a : Nat} (h : a < n) : (slv H G n)[a]? = some (.slice (some ⟨G a, 0, none⟩) (H + 1) (H + 1)) := by
  unfold slv
  rw [List.getElem?_map, List.getElem?_range h]; rfl

theorem mk_row (n : Nat) (hl : n ≤ 1048576) (w : World) : (Instr.makeSlice 41 (.int .i64 (n : Int)) (.int .i64 (n : Int))).run Try.prog w =
    .ok (.slice (some ⟨w.heap.size, 0, none⟩) n n) (w.alloc (.cells (madeCells #[.int .i64 0] (n * 1)) 3)) := by
  obtain ⟨i0, hi, hz0, hz1, hz2⟩ := info_parts Try.infoInt
  have h := run_make (P := Try.prog) w 41 3 i0 _ Try.underlying41 hi hz0 .i64 .i64 (n : Int) (n : Int) (by omega) (by omega) (by rw [hz2]; omega) (by omega)
  rw [hz1] at h
  simp only [Int.toNat_natCast] at h
  exact h
theorem made_zero (n : Nat) : ∀ b, b < n → (madeCells #[Value.int .i64 0] (n * 1))[b]? = some (.int .i64 0) := fun b hb => by
  rw [Nat.mul_one]
  have hs : (madeCells #[Value.int .i64 0] n).size = n := by have := size_madeCells #[Value.int .i64 0] n; simpa using this
  have h := Array.getElem?_eq_getElem (xs := madeCells #[Value.int .i64 0] n) (i := b) (by omega)
  rw [h]
  simp [madeCells, Nat.mod_one]

/-- What the reference has made of the table ahead of row i. -/
def Made (w : World) (base H : Nat) (bs : List Bl) (G : Nat → Nat) (n : Nat) : Prop := ∀ a, a < n → Rw w base (G a) H (mst bs a)
def MostOwn (bs : List Bl) (W H : Nat) (w : World) (e : Ending) (w' : World) : Prop :=
  ∃ g c G, e = .returned (.slice (some ⟨g, 0, none⟩) (W + 1) c) ∧ w'.ownsRow w.heap.size 41 1 (.slice (some ⟨g, 0, none⟩) (W + 1) c) (W + 1) (slv H G (W + 1)) ∧ Made w' w.heap.size H bs G (W + 1) ∧ (∀ a b, a < W + 1 → b < W + 1 → G a = G b → a = b) ∧ Gr w w'
def MostPost (bs : List Bl) (W H : Nat) (w : World) (e : Ending) (w' : World) : Prop :=
  ∃ g c, e = .returned (.slice (some ⟨g, 0, none⟩) (W + 1) c) ∧ RdRows w' (some ⟨g, 0, none⟩) (mstTb bs W H) ∧ Gr w w'
theorem Made.rd {w : World} {base W H : Nat} {bs : List Bl} {G : Nat → Nat} {g c : Nat} (h : Made w base H bs G (W + 1)) (ho : w.ownsRow base 41 1 (.slice (some ⟨g, 0, none⟩) (W + 1) c) (W + 1) (slv H G (W + 1))) : RdRows w (some ⟨g, 0, none⟩) (mstTb bs W H) := fun i row hr => by
  have hi : i < W + 1 := by have := (List.getElem?_eq_some_iff.1 hr).1; rwa [mstTb_len] at this
  have e : row = mstR bs H i := by
    have h4 := mstTb_row bs W H (a := i) (by omega)
    rw [List.getD_eq_getElem?_getD, hr] at h4
    exact h4
  subst e
  refine ⟨g, 0, some ⟨G i, 0, none⟩, H + 1, rfl, ?_, ?_⟩
  · rw [Nat.zero_add, mstR_len]
    exact (ho.cellAt i (by omega)).trans (slv_at hi)
  · refine Rd_of_cells enc1_len fun j u hu => ?_
    obtain ⟨x, hx, hxu⟩ := flatE_inv enc1_len (by decide) hu
    rw [Nat.div_one] at hx
    rw [Nat.mod_one] at hxu
    have hj : j ≤ H := by have := (List.getElem?_eq_some_iff.1 hx).1; rw [mstR_len] at this; omega
    have e : x = mst bs i j := by
      unfold mstR at hx
      rw [List.getElem?_map, List.getElem?_range (by omega)] at hx
      simpa using hx.symm
    have e2 : u = .int .i64 x := by simpa [enc1] using hxu.symm
    rw [e2, e, Nat.zero_add]
    exact (h i hi).at hj

set_option maxRecDepth 100000 in
set_option maxHeartbeats 4000000 in
theorem Most_own (W H : Nat) (hW : W ≤ 48) (hH : H ≤ 48) (BA : Option Addr) (bn bc : Nat) (bs : List Bl) (w : World) (hbn : bs.length = bn) (hbl : bn ≤ 16) (hbs : ∀ b ∈ bs, blB b = true) (hB : Tris w BA bs) :
    Calls Try.prog 24 #[.int .i64 (W : Int), .int .i64 (H : Int), .slice BA bn bc] w (MostOwn bs W H w) := by
  obtain ⟨i0, hi0, hz0, hz1, hz2⟩ := info_parts Try.infoInts
  have HI := Lib.hid (And.intro hi0 (And.intro hz0 (And.intro hz1 hz2)))
  have hmk := fun w => mk_row (H + 1) (by omega) w
  push_cast at hmk
  have HB := Lib.hid hB
  have HBN := Lib.hid hbn
  have HBS := Lib.hid hbs
  clear hi0 hz0 hz1 hz2 hB hbn hbs
  go_enter Try.func24, Try.ntmps24
  go_wp2_with fail
  go_loopw [7, 8] (fun v z wr => ∃ (i : Nat) (G : Nat → Nat), i ≤ W + 1 ∧ z = .int .i64 i ∧ Hid (i = 0 → v = .slice none 0 0) ∧ Hid (wr.ownsRow w.heap.size 41 1 v i (slv H G i)) ∧ Hid (Made wr w.heap.size H bs G i) ∧ Hid (∀ a b, a < i → b < i → G a = G b → a = b) ∧ Gr w wr) (fun _ z _ => W + 1 - (intOf z).toNat)
  case atStart => exact ⟨0, fun _ => 0, Nat.zero_le _, rfl, Lib.hid (fun _ => rfl), Lib.hid (World.ownsRow_nil w _ _ _), Lib.hid (fun a ha => absurd ha (by omega)), Lib.hid (fun a b ha => absurd ha (by omega)), Gr.refl _⟩
  case round =>
    obtain ⟨wi, rfl⟩ : ∃ wi : World, wi = wr := ⟨_, rfl⟩
    obtain ⟨i, G, hi1, rfl, hnil, hown, hmade, hinj, hg⟩ := hrel
    by_cases hlt : i ≤ W
    · have hdi : decide ((i : Int) ≤ (W : Int)) = true := decide_eq_true (by omega)
      obtain ⟨S, hS⟩ : ∃ S, wi.heap.size = S := ⟨_, rfl⟩
      have hB0 : Blk (wi.alloc (.cells (madeCells #[.int .i64 0] (H + 1)) 3)) S 3 (madeCells #[.int .i64 0] ((H + 1) * 1)) := by
        rw [Nat.mul_one]; exact Blk.new _ _ _ hS
      have hgs := hg.size
      have hRw : Rw (wi.alloc (.cells (madeCells #[.int .i64 0] (H + 1)) 3)) w.heap.size S H (fun _ => 0) :=
        ⟨by omega, _, hB0, by have := size_madeCells #[Value.int .i64 0] (H + 1); simpa using this, fun b hb => made_zero (H + 1) b (by omega)⟩
      have HRW := Lib.hid hRw
      have hga : Gr wi (wi.alloc (.cells (madeCells #[.int .i64 0] (H + 1)) 3)) := (Gr.refl _).alloc _
      have HOW := Lib.hid (owns_gr hown.out hga)
      have HMD : Hid (Made (wi.alloc (.cells (madeCells #[.int .i64 0] (H + 1)) 3)) w.heap.size H bs G i) := Lib.hid (fun a ha => (hmade.out a ha).keep hga)
      have HNE : Hid (∀ a, a < i → G a ≠ S) := Lib.hid (fun a ha => by have := (hmade.out a ha).lt; omega)
      have HGA := Lib.hid (hg.trans hga)
      subst hS
      clear hB0 hRw hga hown hmade hgs hg
      obtain ⟨hi0, hz0, hz1, hz2⟩ := HI.out
      go_wp2_with (at_builtin; refine wpList_append_own _ rfl _ _ 36 rfl w.heap.size 41 i0 _ 1 24 Try.underlying36 hi0 hz0 hz1 hz2 rfl (by decide) _ _ _ rfl (HOW.out.alloc _) ⟨wi.heap.size + 1, 0, none⟩ 1 1 [.slice (some ⟨wi.heap.size, 0, none⟩) (H + 1) (H + 1)] rfl rfl ?a1 ?a2 ?a3 ?a4 ?a5 ?_)
      case a1 =>
        intro t u ht
        rw [Addr.add_lit]
        exact alloc_new (by simp) (by rw [Nat.zero_add]; simpa using ht)
      case a2 =>
        intro u hu
        simp at hu
        subst hu; rfl
      case a3 => unfold maxLen; omega
      case a4 => omega
      case a5 => have := HGA.out.size; simp at this ⊢; omega
      intro v' w2 hown' hgrow _
      obtain ⟨gv, cv, rfl, hcv⟩ := owns_shape hown' (by omega)
      have hal : Gr (wi.alloc (.cells (madeCells #[.int .i64 0] (H + 1)) 3)) ((wi.alloc (.cells (madeCells #[.int .i64 0] (H + 1)) 3)).alloc (.cells #[.slice (some ⟨wi.heap.size, 0, none⟩) (H + 1) (H + 1)] 41)) := (Gr.refl _).alloc _
      have ho3 := HOW.out.alloc (.cells #[.slice (some ⟨wi.heap.size, 0, none⟩) (H + 1) (H + 1)] 41)
      have hrw2 := (HRW.out.keep hal).grown hgrow ((HRW.out.keep hal).apart ho3)
      have hmd2 : Made w2 w.heap.size H bs G i := fun a ha => ((HMD.out a ha).keep hal).grown hgrow (((HMD.out a ha).keep hal).apart ho3)
      have hg2 : Gr w w2 := Below.grown (HGA.out.trans hal) hgrow (HGA.out.trans hal).size (fun t ht => (ho3.lt t ht).1)
      obtain ⟨G', hG'⟩ : ∃ G' : Nat → Nat, (∀ a, a < i → G' a = G a) ∧ G' i = wi.heap.size := ⟨fun a => if a = i then wi.heap.size else G a, fun a ha => by dsimp only; rw [if_neg (by omega)], by dsimp only; rw [if_pos rfl]⟩
      have hown2 : w2.ownsRow w.heap.size 41 1 (.slice (some ⟨gv, 0, none⟩) (i + 1) cv) (i + 1) (slv H G' (i + 1)) := by
        rw [slv_snoc, hG'.2, slv_congr hG'.1]; exact hown'
      have hmd3 : Made w2 w.heap.size H bs G' i := fun a ha => by rw [hG'.1 a ha]; exact hmd2 a ha
      have HNE2 : Hid (∀ a, a < i → G' a ≠ wi.heap.size) := Lib.hid (fun a ha => by rw [hG'.1 a ha]; exact HNE.out a ha)
      have HINJ : Hid (∀ a b, a < i + 1 → b < i + 1 → G' a = G' b → a = b) := Lib.hid (fun a b ha hb e => by
        by_cases ea : a = i
        · by_cases eb : b = i
          · omega
          · rw [ea, hG'.2] at e
            exact absurd e.symm (HNE2.out b (by omega))
        · by_cases eb : b = i
          · rw [eb, hG'.2] at e
            exact absurd e (HNE2.out a (by omega))
          · rw [hG'.1 a (by omega), hG'.1 b (by omega)] at e
            exact hinj.out a b (by omega) (by omega) e)
      clear hinj
      have hrow : Rw w2 w.heap.size wi.heap.size H (fun b => if b < 1 then mst bs i b else 0) := by
        obtain ⟨h0, cs, h1, h2, h3⟩ := hrw2
        refine ⟨h0, cs, h1, h2, fun b hb => ?_⟩
        have := h3 b hb
        dsimp only at this ⊢
        by_cases e : b < 1
        · rw [if_pos e, mst_zero bs (by omega)]; exact this
        · rw [if_neg e]; exact this
      have HOW2 := Lib.hid hown2
      have HMD2 := Lib.hid hmd3
      have HROW := Lib.hid hrow
      have HG2 := Lib.hid hg2
      have HGI := Lib.hid hG'.2
      clear hown' hgrow hal ho3 hrw2 hmd2 hg2 hG' hown2 hmd3 hrow hi0 hz0 hz1 hz2 HOW HMD HRW HNE HGA hnil
      generalize wi.heap.size = S at HROW HGI HNE2 ⊢
      go_wp2_with fail
      go_loopw [10] (fun z wr => ∃ k : Nat, 1 ≤ k ∧ k ≤ H + 1 ∧ (i = 0 → k = 1) ∧ z = .int .i64 k ∧ Hid (wr.ownsRow w.heap.size 41 1 (.slice (some ⟨gv, 0, none⟩) (i + 1) cv) (i + 1) (slv H G' (i + 1))) ∧ Hid (Made wr w.heap.size H bs G' i) ∧ Hid (Rw wr w.heap.size S H (fun b => if b < k then mst bs i b else 0)) ∧ Hid (Gr w wr)) (fun z _ => H + 1 - (intOf z).toNat)
      case atStart => exact ⟨1, Nat.le_refl _, by omega, fun _ => rfl, rfl, HOW2, HMD2, HROW, HG2⟩
      case round =>
        obtain ⟨wk, rfl⟩ : ∃ wk : World, wk = wr := ⟨_, rfl⟩
        obtain ⟨k, hk1, hk2, hk0, rfl, hown, hmade, hrow, hg⟩ := hrel
        by_cases hkH : k ≤ H ∧ 0 < i
        · obtain ⟨hkH, hi0⟩ := hkH
          have hdk : decide ((k : Int) ≤ (H : Int)) = true := decide_eq_true (by omega)
          have hdi0 : decide ((0 : Int) < (i : Int)) = true := decide_eq_true (by omega)
          clear hk0
          go_wp2_with fail
          go_loopw [11, 12] (fun bv z wr => ∃ j : Nat, j ≤ bn ∧ z = .int .i64 j ∧ bv = .int .i64 (blT bs i k j) ∧ Gr wk wr) (fun _ z _ => bn - (intOf z).toNat)
          case atStart => exact ⟨0, Nat.zero_le _, rfl, rfl, Gr.refl _⟩
          case round =>
            obtain ⟨j, hj, rfl, rfl, hgs⟩ := hrel
            by_cases hjl : j < bn
            · have hjb : j < bs.length := by have := HBN.out; omega
              obtain ⟨bb, boff, rfl, q0, q1, q2⟩ := Tris_at (HB.out.keep (hg.out.trans hgs)) hjb
              rw [bl_getD] at q0 q1 q2
              have s1 := blT_bd HBS.out i k j (by omega)
              obtain ⟨-, -, u1, u2⟩ := (blB_iff _).1 (HBS.out _ (bl_mem hjb))
              rcases hf : fitsB (bl bs j) i k with _ | _
              all_goals
                have HS : Hid (blT bs i k (j + 1) = if fitsB (bl bs j) i k = true then max (blT bs i k j) (bl bs j).2.2 else blT bs i k j) := Lib.hid rfl
                rw [hf] at HS
                first | rw [if_pos rfl] at HS | rw [if_neg (by simp)] at HS
                have HFF := Lib.hid (fun W' => rFits_any (bl bs j) i k W' _ hf)
                generalize blT bs i k j = s at s1 HS ⊢
                generalize bl bs j = q at q0 q1 q2 u1 u2 HS HFF
                clear hf
                obtain ⟨x, y, v⟩ := q
                dsimp only at q0 q1 q2 u1 u2 HS HFF
                go_wp2_with fail
                refine (HFF.out _).mono ?_
                rintro e w1 ⟨rfl, hb⟩
                replace q2 := hb.keep q2
                have hgx := hgs.trans hb
                go_wp2_with fail
                go_roundw
                case rel => exact ⟨j + 1, by omega, by go_num, congrArg (Value.int .i64) (by rw [HS.out]; first | done | rfl | (split <;> omega)), hgx⟩
                case measure => simp [intOf]; omega
            · obtain rfl : j = bn := by omega
              have s1 := blT_bd HBS.out i k j (by have := HBN.out; omega)
              have HK : Hid (blT bs i k bs.length = blT bs i k j) := Lib.hid (by rw [HBN.out])
              generalize blT bs i k j = s at s1 HK ⊢
              go_wp2_with fail
              go_loopw [11, 13] (fun bv z wr => ∃ x : Nat, 1 ≤ x ∧ x ≤ max 1 i ∧ z = .int .i64 x ∧ bv = .int .i64 (max s (cutT (fun a => mst bs a k) i x)) ∧ Gr wk wr) (fun _ z _ => i + 1 - (intOf z).toNat)
              case atStart => exact ⟨1, Nat.le_refl _, by omega, rfl, congrArg (Value.int .i64) (by simp only [cutT]; omega), hgs⟩
              case round =>
                clear hgs hjl
                obtain ⟨x, hv1, hv2, rfl, rfl, hgs⟩ := hrel
                have s2 := cutT_bd (f := (fun a => mst bs a k)) (s := i) (M := 2415919104) (fun z hz => by have := mst_bd HBS.out (w := z) (h := k) (by omega) (by omega); omega) x (by omega)
                by_cases hlt3 : x < i
                · have hd3 : decide ((x : Int) < (i : Int)) = true := decide_eq_true (by omega)
                  have a1 := ((hmade.out x (by omega)).keep hgs).at hkH
                  have a2 := ((hmade.out (i - x) (by omega)).keep hgs).at hkH
                  have o1 := ((owns_gr hown.out hgs).cellAt x (by omega)).trans (slv_at (H := H) (G := G') (by omega : x < i + 1))
                  have o2 := ((owns_gr hown.out hgs).cellAt (i - x) (by omega)).trans (slv_at (H := H) (G := G') (by omega : i - x < i + 1))
                  have v1 := a1
                  have v2 := a2
                  clear a1 a2
                  generalize G' x = gx at o1 v1
                  generalize G' (i - x) = gy at o2 v2
                  have HC := Lib.hid (cutT_step (fun a => mst bs a k) i x hv1)
                  have n1 := mst_bd HBS.out (w := x) (h := k) (by omega) (by omega)
                  have n2 := mst_bd HBS.out (w := i - x) (h := k) (by omega) (by omega)
                  generalize mst bs x k = p1 at v1 n1 HC
                  generalize mst bs (i - x) k = p2 at v2 n2 HC
                  generalize cutT (fun a => mst bs a k) i x = t at s2 HC ⊢
                  have j2 : IntKind.i64.wrap (p1 + p2) = p1 + p2 := IntWalk.i64_in _ (by omega)
                  have j1 : IntKind.i64.wrap ((i : Int) - (x : Int)) = (i : Int) - (x : Int) := IntWalk.i64_in _ (by omega)
                  have j3 : ((i : Int) - (x : Int)).toNat = i - x := by omega
                  have j4 : (0 : Int) ≤ (i : Int) - (x : Int) := by omega
                  have j5 : (i : Int) - (x : Int) < (i : Int) + 1 := by omega
                  have j6 : (x : Int) < (i : Int) + 1 := by omega
                  have j7 : (0 : Int) ≤ (x : Int) := by omega
                  have j8 : (k : Int) < (H : Int) + 1 := by omega
                  have j9 : x ≤ i := by omega
                  have hdr := (Gr.refl wr).drew
                  go_wp2_with fail
                  refine wp_region_held_drew (S := (fun W' => Gr wk W' ∧ W'.cell? ⟨gv, x, none⟩ = some (.slice (some ⟨gx, 0, none⟩) (H + 1) (H + 1)) ∧ W'.cell? ⟨gx, k, none⟩ = some (.int .i64 p1) ∧ W'.cell? ⟨gv, i - x, none⟩ = some (.slice (some ⟨gy, 0, none⟩) (H + 1) (H + 1)) ∧ W'.cell? ⟨gy, k, none⟩ = some (.int .i64 p2))) ?_ ?_ (fun hHeld => ?_)
                  · kernel_rfl
                  · ((try dsimp only); exact ⟨hgs.drew, hdr.keep o1, hdr.keep v1, hdr.keep o2, hdr.keep v2⟩)
                  refine take_in (i := 0) (v := ?_) (d := (some 61)) rfl rfl ?_ ?_ ?_ ?_ ?_ ?_ ?_ ?_
                  rotate_left
                  · kernel_rfl
                  · kernel_rfl
                  · kernel_rfl
                  · (intro _ _ _ hq; exact hq)
                  · rfl
                  · (intro _w hSw; (try dsimp only at hSw); go_simp; try with_reducible rfl)
                  · assumption
                  try simp only [Act.put, List.setIfInBounds_toArray, List.set_cons_zero, List.set_cons_succ]
                  refine take_in (i := 1) (v := ?_) (d := (some 62)) rfl rfl ?_ ?_ ?_ ?_ ?_ ?_ ?_ ?_
                  rotate_left
                  · kernel_rfl
                  · kernel_rfl
                  · kernel_rfl
                  · (intro _ _ _ hq; exact hq)
                  · rfl
                  · (intro _w hSw; (try dsimp only at hSw); go_simp; try with_reducible rfl)
                  · assumption
                  try simp only [Act.put, List.setIfInBounds_toArray, List.set_cons_zero, List.set_cons_succ]
                  refine take_in (i := 2) (v := ?_) (d := (some 63)) rfl rfl ?_ ?_ ?_ ?_ ?_ ?_ ?_ ?_
                  rotate_left
                  · kernel_rfl
                  · kernel_rfl
                  · kernel_rfl
                  · (intro _ _ _ hq; exact hq)
                  · rfl
                  · (intro _w hSw; (try dsimp only at hSw); go_simp; try with_reducible rfl)
                  · assumption
                  try simp only [Act.put, List.setIfInBounds_toArray, List.set_cons_zero, List.set_cons_succ]
                  refine take_in (i := 3) (v := ?_) (d := (some 64)) rfl rfl ?_ ?_ ?_ ?_ ?_ ?_ ?_ ?_
                  rotate_left
                  · kernel_rfl
                  · kernel_rfl
                  · kernel_rfl
                  · (intro _ _ _ hq; exact hq)
                  · rfl
                  · (intro _w hSw; (try dsimp only at hSw); go_simp; try with_reducible rfl)
                  · assumption
                  try simp only [Act.put, List.setIfInBounds_toArray, List.set_cons_zero, List.set_cons_succ]
                  refine take_in (i := 4) (v := ?_) (d := (some 65)) rfl rfl ?_ ?_ ?_ ?_ ?_ ?_ ?_ ?_
                  rotate_left
                  · kernel_rfl
                  · kernel_rfl
                  · kernel_rfl
                  · (intro _ _ _ hq; exact hq)
                  · rfl
                  · (intro _w hSw; (try dsimp only at hSw); go_simp; try with_reducible rfl)
                  · assumption
                  try simp only [Act.put, List.setIfInBounds_toArray, List.set_cons_zero, List.set_cons_succ]
                  refine take_in (i := 5) (v := ?_) (d := (some 66)) rfl rfl ?_ ?_ ?_ ?_ ?_ ?_ ?_ ?_
                  rotate_left
                  · kernel_rfl
                  · kernel_rfl
                  · kernel_rfl
                  · (intro _ _ _ hq; exact hq)
                  · rfl
                  · (intro _w hSw; (try dsimp only at hSw); go_simp; try with_reducible rfl)
                  · assumption
                  try simp only [Act.put, List.setIfInBounds_toArray, List.set_cons_zero, List.set_cons_succ]
                  refine take_in (i := 6) (v := ?_) (d := (some 67)) rfl rfl ?_ ?_ ?_ ?_ ?_ ?_ ?_ ?_
                  rotate_left
                  · kernel_rfl
                  · kernel_rfl
                  · kernel_rfl
                  · (intro _ _ _ hq; exact hq)
                  · rfl
                  · (intro _w hSw; (try dsimp only at hSw); go_simp; try with_reducible rfl)
                  · assumption
                  try simp only [Act.put, List.setIfInBounds_toArray, List.set_cons_zero, List.set_cons_succ]
                  refine take_in (i := 7) (v := ?_) (d := (some 68)) rfl rfl ?_ ?_ ?_ ?_ ?_ ?_ ?_ ?_
                  rotate_left
                  · kernel_rfl
                  · kernel_rfl
                  · kernel_rfl
                  · (intro _ _ _ hq; exact hq)
                  · rfl
                  · (intro _w hSw; (try dsimp only at hSw); go_simp; try with_reducible rfl)
                  · assumption
                  try simp only [Act.put, List.setIfInBounds_toArray, List.set_cons_zero, List.set_cons_succ]
                  refine take_in (i := 8) (v := ?_) (d := (some 69)) rfl rfl ?_ ?_ ?_ ?_ ?_ ?_ ?_ ?_
                  rotate_left
                  · kernel_rfl
                  · kernel_rfl
                  · kernel_rfl
                  · (intro _ _ _ hq; exact hq)
                  · rfl
                  · (intro _w hSw; (try dsimp only at hSw); go_simp; try with_reducible rfl)
                  · assumption
                  try simp only [Act.put, List.setIfInBounds_toArray, List.set_cons_zero, List.set_cons_succ]
                  refine take_in (i := 9) (v := ?_) (d := (some 70)) rfl rfl ?_ ?_ ?_ ?_ ?_ ?_ ?_ ?_
                  rotate_left
                  · kernel_rfl
                  · kernel_rfl
                  · kernel_rfl
                  · (intro _ _ _ hq; exact hq)
                  · rfl
                  · (intro _w hSw; (try dsimp only at hSw); go_simp; try with_reducible rfl)
                  · assumption
                  try simp only [Act.put, List.setIfInBounds_toArray, List.set_cons_zero, List.set_cons_succ]
                  refine take_in (i := 10) (v := ?_) (d := (some 71)) rfl rfl ?_ ?_ ?_ ?_ ?_ ?_ ?_ ?_
                  rotate_left
                  · kernel_rfl
                  · kernel_rfl
                  · kernel_rfl
                  · (intro _ _ _ hq; exact hq)
                  · rfl
                  · (intro _w hSw; (try dsimp only at hSw); go_simp; try with_reducible rfl)
                  · assumption
                  try simp only [Act.put, List.setIfInBounds_toArray, List.set_cons_zero, List.set_cons_succ]
                  refine take_in (i := 11) (v := ?_) (d := (some 72)) rfl rfl ?_ ?_ ?_ ?_ ?_ ?_ ?_ ?_
                  rotate_left
                  · kernel_rfl
                  · kernel_rfl
                  · kernel_rfl
                  · (intro _ _ _ hq; exact hq)
                  · rfl
                  · (intro _w hSw; (try dsimp only at hSw); go_simp; try with_reducible rfl)
                  · assumption
                  try simp only [Act.put, List.setIfInBounds_toArray, List.set_cons_zero, List.set_cons_succ]
                  refine take_in (i := 12) (v := ?_) (d := (some 73)) rfl rfl ?_ ?_ ?_ ?_ ?_ ?_ ?_ ?_
                  rotate_left
                  · kernel_rfl
                  · kernel_rfl
                  · kernel_rfl
                  · (intro _ _ _ hq; exact hq)
                  · rfl
                  · (intro _w hSw; (try dsimp only at hSw); go_simp; try with_reducible rfl)
                  · assumption
                  try simp only [Act.put, List.setIfInBounds_toArray, List.set_cons_zero, List.set_cons_succ]
                  refine take_in (i := 13) (v := ?_) (d := (some 74)) rfl rfl ?_ ?_ ?_ ?_ ?_ ?_ ?_ ?_
                  rotate_left
                  · kernel_rfl
                  · kernel_rfl
                  · kernel_rfl
                  · (intro _ _ _ hq; exact hq)
                  · rfl
                  · (intro _w hSw; (try dsimp only at hSw); go_simp; try with_reducible rfl)
                  · assumption
                  try simp only [Act.put, List.setIfInBounds_toArray, List.set_cons_zero, List.set_cons_succ]
                  refine take_in (i := 14) (v := ?_) (d := (some 75)) rfl rfl ?_ ?_ ?_ ?_ ?_ ?_ ?_ ?_
                  rotate_left
                  · kernel_rfl
                  · kernel_rfl
                  · kernel_rfl
                  · (intro _ _ _ hq; exact hq)
                  · rfl
                  · (intro _w hSw; (try dsimp only at hSw); go_simp; try with_reducible rfl)
                  · assumption
                  try simp only [Act.put, List.setIfInBounds_toArray, List.set_cons_zero, List.set_cons_succ]
                  refine take_in (i := 15) (v := ?_) (d := (some 76)) rfl rfl ?_ ?_ ?_ ?_ ?_ ?_ ?_ ?_
                  rotate_left
                  · kernel_rfl
                  · kernel_rfl
                  · kernel_rfl
                  · (intro _ _ _ hq; exact hq)
                  · rfl
                  · (intro _w hSw; (try dsimp only at hSw); go_simp; try with_reducible rfl)
                  · assumption
                  try simp only [Act.put, List.setIfInBounds_toArray, List.set_cons_zero, List.set_cons_succ]
                  refine take_in (i := 16) (v := ?_) (d := (some 77)) rfl rfl ?_ ?_ ?_ ?_ ?_ ?_ ?_ ?_
                  rotate_left
                  · kernel_rfl
                  · kernel_rfl
                  · kernel_rfl
                  · (intro _ _ _ hq; exact hq)
                  · rfl
                  · (intro _w hSw; (try dsimp only at hSw); go_simp; try with_reducible rfl)
                  · assumption
                  try simp only [Act.put, List.setIfInBounds_toArray, List.set_cons_zero, List.set_cons_succ]
                  refine take_in (i := 17) (v := ?_) (d := (some 78)) rfl rfl ?_ ?_ ?_ ?_ ?_ ?_ ?_ ?_
                  rotate_left
                  · kernel_rfl
                  · kernel_rfl
                  · kernel_rfl
                  · (intro _ _ _ hq; exact hq)
                  · rfl
                  · (intro _w hSw; (try dsimp only at hSw); go_simp; try with_reducible rfl)
                  · assumption
                  try simp only [Act.put, List.setIfInBounds_toArray, List.set_cons_zero, List.set_cons_succ]
                  refine take_in (i := 18) (v := ?_) (d := (some 79)) rfl rfl ?_ ?_ ?_ ?_ ?_ ?_ ?_ ?_
                  rotate_left
                  · kernel_rfl
                  · kernel_rfl
                  · kernel_rfl
                  · (intro _ _ _ hq; exact hq)
                  · rfl
                  · (intro _w hSw; (try dsimp only at hSw); go_simp; try with_reducible rfl)
                  · assumption
                  try simp only [Act.put, List.setIfInBounds_toArray, List.set_cons_zero, List.set_cons_succ]
                  refine take_in (i := 19) (v := ?_) (d := (some 11)) rfl rfl ?_ ?_ ?_ ?_ ?_ ?_ ?_ ?_
                  rotate_left
                  · kernel_rfl
                  · kernel_rfl
                  · kernel_rfl
                  · (intro _ _ _ hq; exact hq)
                  · rfl
                  · (intro _w hSw; (try dsimp only at hSw); go_simp; try with_reducible rfl)
                  · assumption
                  try simp only [Act.put, List.setIfInBounds_toArray, List.set_cons_zero, List.set_cons_succ]
                  refine wpAnyH_done ?_ ?_ _
                  · kernel_rfl
                  rotate_left
                  go_wp2_with fail
                  go_roundw
                  case rel => exact ⟨x + 1, by omega, by omega, by go_num, congrArg (Value.int .i64) (by rw [HC.out]; split <;> omega), hHeld.1⟩
                  case measure => simp [intOf]; omega
                · have hd3 : decide ((x : Int) < (i : Int)) = false := decide_eq_false (by omega)
                  have HEx : Hid (cutT (fun a => mst bs a k) i x = cutT (fun a => mst bs a k) i i) := Lib.hid (cutT_one hv1 hv2 (by omega))
                  rw [HEx.out] at s2 ⊢
                  generalize hgx : cutT (fun a => mst bs a k) i i = t at s2 ⊢
                  have HGx := Lib.hid hgx
                  clear hgx
                  go_wp2_with fail
                  go_loopw [11, 14] (fun bv z wr => ∃ y : Nat, 1 ≤ y ∧ y ≤ max 1 k ∧ z = .int .i64 y ∧ bv = .int .i64 (max (max s t) (cutT (fun b => mst bs i b) k y)) ∧ Gr wk wr) (fun _ z _ => k + 1 - (intOf z).toNat)
                  case atStart => exact ⟨1, Nat.le_refl _, by omega, rfl, congrArg (Value.int .i64) (by simp only [cutT]; omega), hgs⟩
                  case round =>
                    clear hgs hlt3 hd3 hv1 hv2
                    obtain ⟨y, hv1, hv2, rfl, rfl, hgs⟩ := hrel
                    have s2 := cutT_bd (f := (fun b => mst bs i b)) (s := k) (M := 2415919104) (fun z hz => by have := mst_bd HBS.out (w := i) (h := z) (by omega) (by omega); omega) y (by omega)
                    by_cases hlt3 : y < k
                    · have hd3 : decide ((y : Int) < (k : Int)) = true := decide_eq_true (by omega)
                      have v1 := (hrow.out.keep hgs).at (b := y) (by omega)
                      have v2 := (hrow.out.keep hgs).at (b := k - y) (by omega)
                      rw [if_pos (by omega)] at v1 v2
                      have HC := Lib.hid (cutT_step (fun b => mst bs i b) k y hv1)
                      have n1 := mst_bd HBS.out (w := i) (h := y) (by omega) (by omega)
                      have n2 := mst_bd HBS.out (w := i) (h := k - y) (by omega) (by omega)
                      generalize mst bs i y = p1 at v1 n1 HC
                      generalize mst bs i (k - y) = p2 at v2 n2 HC
                      generalize cutT (fun b => mst bs i b) k y = u at s2 HC ⊢
                      have j2 : IntKind.i64.wrap (p1 + p2) = p1 + p2 := IntWalk.i64_in _ (by omega)
                      have j1 : IntKind.i64.wrap ((k : Int) - (y : Int)) = (k : Int) - (y : Int) := IntWalk.i64_in _ (by omega)
                      have j3 : ((k : Int) - (y : Int)).toNat = k - y := by omega
                      have j4 : (0 : Int) ≤ (k : Int) - (y : Int) := by omega
                      have j5 : (k : Int) - (y : Int) < (H : Int) + 1 := by omega
                      have j6 : (y : Int) < (H : Int) + 1 := by omega
                      have j7 : (0 : Int) ≤ (y : Int) := by omega
                      have j8 : (k : Int) < (H : Int) + 1 := by omega
                      have j9 : y ≤ k := by omega
                      have hdr := (Gr.refl wr).drew
                      go_wp2_with fail
                      refine wp_region_held_drew (S := (fun W' => Gr wk W' ∧ W'.cell? ⟨S, y, none⟩ = some (.int .i64 p1) ∧ W'.cell? ⟨S, k - y, none⟩ = some (.int .i64 p2))) ?_ ?_ (fun hHeld => ?_)
                      · kernel_rfl
                      · ((try dsimp only); exact ⟨hgs.drew, hdr.keep v1, hdr.keep v2⟩)
                      refine take_in (i := 0) (v := ?_) (d := (some 85)) rfl rfl ?_ ?_ ?_ ?_ ?_ ?_ ?_ ?_
                      rotate_left
                      · kernel_rfl
                      · kernel_rfl
                      · kernel_rfl
                      · (intro _ _ _ hq; exact hq)
                      · rfl
                      · (intro _w hSw; (try dsimp only at hSw); go_simp; try with_reducible rfl)
                      · assumption
                      try simp only [Act.put, List.setIfInBounds_toArray, List.set_cons_zero, List.set_cons_succ]
                      refine take_in (i := 1) (v := ?_) (d := (some 86)) rfl rfl ?_ ?_ ?_ ?_ ?_ ?_ ?_ ?_
                      rotate_left
                      · kernel_rfl
                      · kernel_rfl
                      · kernel_rfl
                      · (intro _ _ _ hq; exact hq)
                      · rfl
                      · (intro _w hSw; (try dsimp only at hSw); go_simp; try with_reducible rfl)
                      · assumption
                      try simp only [Act.put, List.setIfInBounds_toArray, List.set_cons_zero, List.set_cons_succ]
                      refine take_in (i := 2) (v := ?_) (d := (some 87)) rfl rfl ?_ ?_ ?_ ?_ ?_ ?_ ?_ ?_
                      rotate_left
                      · kernel_rfl
                      · kernel_rfl
                      · kernel_rfl
                      · (intro _ _ _ hq; exact hq)
                      · rfl
                      · (intro _w hSw; (try dsimp only at hSw); go_simp; try with_reducible rfl)
                      · assumption
                      try simp only [Act.put, List.setIfInBounds_toArray, List.set_cons_zero, List.set_cons_succ]
                      refine take_in (i := 3) (v := ?_) (d := (some 88)) rfl rfl ?_ ?_ ?_ ?_ ?_ ?_ ?_ ?_
                      rotate_left
                      · kernel_rfl
                      · kernel_rfl
                      · kernel_rfl
                      · (intro _ _ _ hq; exact hq)
                      · rfl
                      · (intro _w hSw; (try dsimp only at hSw); go_simp; try with_reducible rfl)
                      · assumption
                      try simp only [Act.put, List.setIfInBounds_toArray, List.set_cons_zero, List.set_cons_succ]
                      refine take_in (i := 4) (v := ?_) (d := (some 89)) rfl rfl ?_ ?_ ?_ ?_ ?_ ?_ ?_ ?_
                      rotate_left
                      · kernel_rfl
                      · kernel_rfl
                      · kernel_rfl
                      · (intro _ _ _ hq; exact hq)
                      · rfl
                      · (intro _w hSw; (try dsimp only at hSw); go_simp; try with_reducible rfl)
                      · assumption
                      try simp only [Act.put, List.setIfInBounds_toArray, List.set_cons_zero, List.set_cons_succ]
                      refine take_in (i := 5) (v := ?_) (d := (some 90)) rfl rfl ?_ ?_ ?_ ?_ ?_ ?_ ?_ ?_
                      rotate_left
                      · kernel_rfl
                      · kernel_rfl
                      · kernel_rfl
                      · (intro _ _ _ hq; exact hq)
                      · rfl
                      · (intro _w hSw; (try dsimp only at hSw); go_simp; try with_reducible rfl)
                      · assumption
                      try simp only [Act.put, List.setIfInBounds_toArray, List.set_cons_zero, List.set_cons_succ]
                      refine take_in (i := 6) (v := ?_) (d := (some 91)) rfl rfl ?_ ?_ ?_ ?_ ?_ ?_ ?_ ?_
                      rotate_left
                      · kernel_rfl
                      · kernel_rfl
                      · kernel_rfl
                      · (intro _ _ _ hq; exact hq)
                      · rfl
                      · (intro _w hSw; (try dsimp only at hSw); go_simp; try with_reducible rfl)
                      · assumption
                      try simp only [Act.put, List.setIfInBounds_toArray, List.set_cons_zero, List.set_cons_succ]
                      refine take_in (i := 7) (v := ?_) (d := (some 92)) rfl rfl ?_ ?_ ?_ ?_ ?_ ?_ ?_ ?_
                      rotate_left
                      · kernel_rfl
                      · kernel_rfl
                      · kernel_rfl
                      · (intro _ _ _ hq; exact hq)
                      · rfl
                      · (intro _w hSw; (try dsimp only at hSw); go_simp; try with_reducible rfl)
                      · assumption
                      try simp only [Act.put, List.setIfInBounds_toArray, List.set_cons_zero, List.set_cons_succ]
                      refine take_in (i := 8) (v := ?_) (d := (some 93)) rfl rfl ?_ ?_ ?_ ?_ ?_ ?_ ?_ ?_
                      rotate_left
                      · kernel_rfl
                      · kernel_rfl
                      · kernel_rfl
                      · (intro _ _ _ hq; exact hq)
                      · rfl
                      · (intro _w hSw; (try dsimp only at hSw); go_simp; try with_reducible rfl)
                      · assumption
                      try simp only [Act.put, List.setIfInBounds_toArray, List.set_cons_zero, List.set_cons_succ]
                      refine take_in (i := 9) (v := ?_) (d := (some 94)) rfl rfl ?_ ?_ ?_ ?_ ?_ ?_ ?_ ?_
                      rotate_left
                      · kernel_rfl
                      · kernel_rfl
                      · kernel_rfl
                      · (intro _ _ _ hq; exact hq)
                      · rfl
                      · (intro _w hSw; (try dsimp only at hSw); go_simp; try with_reducible rfl)
                      · assumption
                      try simp only [Act.put, List.setIfInBounds_toArray, List.set_cons_zero, List.set_cons_succ]
                      refine take_in (i := 10) (v := ?_) (d := (some 95)) rfl rfl ?_ ?_ ?_ ?_ ?_ ?_ ?_ ?_
                      rotate_left
                      · kernel_rfl
                      · kernel_rfl
                      · kernel_rfl
                      · (intro _ _ _ hq; exact hq)
                      · rfl
                      · (intro _w hSw; (try dsimp only at hSw); go_simp; try with_reducible rfl)
                      · assumption
                      try simp only [Act.put, List.setIfInBounds_toArray, List.set_cons_zero, List.set_cons_succ]
                      refine take_in (i := 11) (v := ?_) (d := (some 96)) rfl rfl ?_ ?_ ?_ ?_ ?_ ?_ ?_ ?_
                      rotate_left
                      · kernel_rfl
                      · kernel_rfl
                      · kernel_rfl
                      · (intro _ _ _ hq; exact hq)
                      · rfl
                      · (intro _w hSw; (try dsimp only at hSw); go_simp; try with_reducible rfl)
                      · assumption
                      try simp only [Act.put, List.setIfInBounds_toArray, List.set_cons_zero, List.set_cons_succ]
                      refine take_in (i := 12) (v := ?_) (d := (some 97)) rfl rfl ?_ ?_ ?_ ?_ ?_ ?_ ?_ ?_
                      rotate_left
                      · kernel_rfl
                      · kernel_rfl
                      · kernel_rfl
                      · (intro _ _ _ hq; exact hq)
                      · rfl
                      · (intro _w hSw; (try dsimp only at hSw); go_simp; try with_reducible rfl)
                      · assumption
                      try simp only [Act.put, List.setIfInBounds_toArray, List.set_cons_zero, List.set_cons_succ]
                      refine take_in (i := 13) (v := ?_) (d := (some 11)) rfl rfl ?_ ?_ ?_ ?_ ?_ ?_ ?_ ?_
                      rotate_left
                      · kernel_rfl
                      · kernel_rfl
                      · kernel_rfl
                      · (intro _ _ _ hq; exact hq)
                      · rfl
                      · (intro _w hSw; (try dsimp only at hSw); go_simp; try with_reducible rfl)
                      · assumption
                      try simp only [Act.put, List.setIfInBounds_toArray, List.set_cons_zero, List.set_cons_succ]
                      refine wpAnyH_done ?_ ?_ _
                      · kernel_rfl
                      rotate_left
                      go_wp2_with fail
                      go_roundw
                      case rel => exact ⟨y + 1, by omega, by omega, by go_num, congrArg (Value.int .i64) (by rw [HC.out]; split <;> omega), hHeld.1⟩
                      case measure => simp [intOf]; omega
                    · have hd3 : decide ((y : Int) < (k : Int)) = false := decide_eq_false (by omega)
                      have HEy : Hid (cutT (fun b => mst bs i b) k y = cutT (fun b => mst bs i b) k k) := Lib.hid (cutT_one hv1 hv2 (by omega))
                      rw [HEy.out] at s2 ⊢
                      generalize hgy : cutT (fun b => mst bs i b) k k = u at s2 ⊢
                      have HGy := Lib.hid hgy
                      clear hgy
                      have hrowk := hrow.out.keep hgs
                      have c0 := hrowk.at (b := k) hkH
                      have f0 := hrowk.free k
                      have HV : Hid (mst bs i k = max s (max t u)) := Lib.hid (by rw [mst_eq bs hi0 hk1]; unfold needT; rw [HK.out, HGx.out, HGy.out, Int.max_assoc])
                      have HF1 := Lib.hid (hrowk.put (k := k) (f' := fun b => if b < k + 1 then mst bs i b else 0) (max s (max t u)) (by rw [if_pos (by omega)]; exact HV.out) (fun b hb => by
                        by_cases e : b < k
                        · rw [if_pos e, if_pos (by omega)]
                        · rw [if_neg e, if_neg (by omega)]))
                      have HF2 := Lib.hid (ownsRow_setCell_other (a := ⟨S, k, none⟩) (owns_gr hown.out hgs) (fun e => hrowk.apart (owns_gr hown.out hgs) e.symm) (.int .i64 (max s (max t u))))
                      have HF3 : Hid (Made (wr.setCell ⟨S, k, none⟩ (.int .i64 (max s (max t u)))) w.heap.size H bs G' i) := Lib.hid (fun a ha => ((hmade.out a ha).keep hgs).other (HNE2.out a ha) _)
                      have HF4 := Lib.hid (Gr.setCell (p := ⟨S, k, none⟩) (hg.out.trans hgs) hrowk.1 (.int .i64 (max s (max t u))))
                      generalize (if k < k then mst bs i k else 0) = old at c0
                      clear hrowk
                      go_wp2_with fail
                      go_roundw
                      case rel => exact ⟨k + 1, by omega, by omega, by omega, by go_num, HF2, HF3, HF1, HF4⟩
                      case measure => simp [intOf]; omega
        · have HFULL : Hid (Made wk w.heap.size H bs G' (i + 1)) := Lib.hid (fun a ha => by
            by_cases e : a = i
            · subst e
              obtain ⟨h0, cs, h1, h2, h3⟩ := hrow.out
              rw [HGI.out]
              refine ⟨h0, cs, h1, h2, fun b hb => ?_⟩
              have h4 := h3 b hb
              dsimp only at h4
              by_cases e2 : b < k
              · rw [if_pos e2] at h4; exact h4
              · rw [if_neg e2] at h4
                rw [mst_zero bs (by omega)]; exact h4
            · exact hmade.out a (by omega))
          clear HGI
          by_cases hkH2 : k ≤ H
          · have hi0 : i = 0 := by omega
            have hdk : decide ((k : Int) ≤ (H : Int)) = true := decide_eq_true (by omega)
            have hdi0 : decide ((0 : Int) < (i : Int)) = false := decide_eq_false (by omega)
            have HI0 := Lib.hid hi0
            clear hi0 hkH hk0
            have hi0' : ¬ 0 < i := by have := HI0.out; omega
            go_wp2_with fail
            go_roundw
            case rel => exact ⟨i + 1, G', by omega, by go_num, Lib.hid (fun h => by omega), hown, HFULL, HINJ, hg.out⟩
            case measure => simp [intOf]; omega
          · have hdk : decide ((k : Int) ≤ (H : Int)) = false := decide_eq_false (by omega)
            clear hkH hk0
            go_wp2_with fail
            go_roundw
            case rel => exact ⟨i + 1, G', by omega, by go_num, Lib.hid (fun h => by omega), hown, HFULL, HINJ, hg.out⟩
            case measure => simp [intOf]; omega
    · have hdi : decide ((i : Int) ≤ (W : Int)) = false := decide_eq_false (by omega)
      obtain ⟨gv, cv, rfl, hcv⟩ := owns_shape hown.out (by omega)
      have HIW : Hid (i = W + 1) := Lib.hid (by omega)
      go_wp2_with fail
      go_ret
      have h1 := hmade.out
      have h2 := hown.out
      have h3 := hinj.out
      rw [HIW.out] at h1 h2 h3
      exact ⟨gv, cv, G, by rw [HIW.out]; rfl, h2, h1, h3, hg⟩
theorem Most_any (W H : Nat) (hW : W ≤ 48) (hH : H ≤ 48) (BA : Option Addr) (bn bc : Nat) (bs : List Bl) (w : World) (hbn : bs.length = bn) (hbl : bn ≤ 16) (hbs : ∀ b ∈ bs, blB b = true) (hB : Tris w BA bs) :
    Calls Try.prog 24 #[.int .i64 (W : Int), .int .i64 (H : Int), .slice BA bn bc] w (MostPost bs W H w) := by
  refine (Most_own W H hW hH BA bn bc bs w hbn hbl hbs hB).mono ?_
  rintro e w' ⟨g, c, G, rfl, ho, hm, -, hg⟩
  exact ⟨g, c, rfl, hm.rd ho, hg⟩

end Go.Proofs.Ytcojionipffanab
