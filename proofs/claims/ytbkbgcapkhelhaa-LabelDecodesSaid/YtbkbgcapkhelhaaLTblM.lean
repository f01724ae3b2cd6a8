/- Layer 3: what is put in at known positions (mathematics of the reference's Mended); tables in the making. -/
import Derived.Test.YtbkbgcapkhelhaaLSolve
namespace Go.Proofs.Ytbkbgcapkhelhaa
open Go.RowKit
set_option linter.unusedSimpArgs false

theorem isum_list (F : Nat → G) : ∀ al : List Nat, isum (List.range al.length) (fun k => F (al.getD k 0)) = isum al F
  | [] => rfl
  | a :: r => by
    rw [List.length_cons, List.range_succ_eq_map, isum_cons, isum_cons]
    show _ + isum ((List.range r.length).map (· + 1)) _ = _
    rw [isum_map, ← isum_list F r]
    congr 1
theorem isum_nodup {n : Nat} (F : Nat → G) : ∀ al : List Nat, al.Nodup → (∀ i ∈ al, i < n) → isum (List.range n) (fun i => if i ∈ al then F i else g0) = isum al F
  | [], _, _ => isum_zero _ (fun i _ => by simp)
  | a :: r, hd, hl => by
    obtain ⟨h1, h2⟩ := List.nodup_cons.1 hd
    rw [isum_cons, ← isum_nodup F r h2 (fun i hi => hl i (List.mem_cons_of_mem _ hi))]
    have e : ∀ i ∈ List.range n, (if i ∈ a :: r then F i else g0) = (if i = a then F a else g0) + (if i ∈ r then F i else g0) := fun i _ => by
      by_cases ea : i = a
      · subst ea; rw [if_pos (List.mem_cons_self ..), if_pos rfl, if_neg h1, gadd_zero]
      · rw [if_neg ea, gzero_add]
        by_cases er : i ∈ r
        · rw [if_pos er, if_pos (List.mem_cons_of_mem _ er)]
        · rw [if_neg er, if_neg (fun h => by rcases List.mem_cons.1 h with h | h; exact ea h; exact er h)]
    rw [isum_congr _ e, isum_add, isum_one (i := a) _ List.nodup_range (by have := hl a (List.mem_cons_self ..); simpa using this) (fun j _ hj => by rw [if_neg hj]), if_pos rfl]
/-- One of the reference's rows: the powers of the places, and a syndrome. -/
def mdRow (n : Nat) (al : List Nat) (ss : List G) (i : Nat) : List G := (al.map fun a => gw (plc n a) i) ++ [ss.getD i g0]
def mdRows (n : Nat) (al : List Nat) (ss : List G) (p : Nat) : List (List G) := (List.range p).map (mdRow n al ss)
theorem mdRows_len (n : Nat) (al : List Nat) (ss : List G) (p : Nat) : (mdRows n al ss p).length = p := by simp [mdRows]
theorem mdRows_at {n : Nat} {al : List Nat} {ss : List G} {p i : Nat} (h : i < p) : (mdRows n al ss p).getD i [] = mdRow n al ss i := by
  unfold mdRows
  rw [List.getD_eq_getElem?_getD, List.getElem?_map, List.getElem?_range h]; rfl
theorem mdRows_snoc (n : Nat) (al : List Nat) (ss : List G) (p : Nat) : mdRows n al ss (p + 1) = mdRows n al ss p ++ [mdRow n al ss p] := by simp [mdRows, List.range_succ]
theorem mdRow_len (n : Nat) (al : List Nat) (ss : List G) (i : Nat) : (mdRow n al ss i).length = al.length + 1 := by simp [mdRow]
theorem mdRow_at {n : Nat} {al : List Nat} {ss : List G} {i k : Nat} (h : k < al.length) : (mdRow n al ss i).getD k g0 = gw (plc n (al.getD k 0)) i := by
  unfold mdRow
  rw [List.getD_eq_getElem?_getD, List.getElem?_append_left (by simpa using h), List.getElem?_map, getD_of 0 h]; rfl
theorem mdRow_end {n : Nat} {al : List Nat} {ss : List G} {i : Nat} : (mdRow n al ss i).getD al.length g0 = ss.getD i g0 := by
  unfold mdRow
  rw [List.getD_eq_getElem?_getD, List.getElem?_append_right (by simp)]
  simp
theorem mdRows_wid (n : Nat) (al : List Nat) (ss : List G) (p : Nat) : Wid (mdRows n al ss p) al.length := fun i hi => by
  rw [mdRows_len] at hi; rw [mdRows_at hi]; exact mdRow_len _ _ _ _
theorem md_dot {n : Nat} {al : List Nat} {ss : List G} {i : Nat} (F : Nat → G) : dotF al.length (mdRow n al ss i) (fun k => F (al.getD k 0)) = isum al (fun a => F a * gw (plc n a) i) := by
  rw [← isum_list (fun a => F a * gw (plc n a) i) al]
  unfold dotF
  refine isum_congr _ (fun k hk => ?_)
  rw [mdRow_at (by simpa using hk), gmul_comm]
theorem md_sat {ws cs : List G} {n p : Nat} {al : List Nat} (hw : ws.length = n) (hc : cs.length = n) (hB : isB cs p = true) (hd : al.Nodup) (hl : ∀ i ∈ al, i < n) (hf : ∀ i, i < n → i ∉ al → difB ws cs i = false) :
    SatF (mdRows n al (synL ws p) p) al.length (fun k => dlt ws cs (al.getD k 0)) := fun i hi => by
  rw [mdRows_len] at hi
  rw [mdRows_at hi, mdRow_end, md_dot (fun a => dlt ws cs a), ← isum_nodup _ al hd hl]
  have h := syn_dlt hw hc hB hi
  unfold sq at h
  rw [h]
  refine isum_congr _ (fun j hj => ?_)
  by_cases e : j ∈ al
  · rw [if_pos e]
  · rw [if_neg e, dlt_zero.2 (hf j (by simpa using hj) e), gzero_mul]
theorem pws_list (n : Nat) (v : Nat → G) (al : List Nat) (t : Nat) : pws ((List.range al.length).map fun k => (plc n (al.getD k 0), v k)) t = isum (List.range al.length) (fun k => v k * gw (plc n (al.getD k 0)) t) := by
  have : ∀ l : List Nat, es (l.map fun k => (plc n (al.getD k 0), v k)) (fun x => gw x t) = isum l (fun k => v k * gw (plc n (al.getD k 0)) t) := by
    intro l
    induction l with
    | nil => rfl
    | cons a r ih => rw [isum_cons, List.map_cons]; simp only [es]; rw [ih]
  exact this _
theorem map_getD_range (al : List Nat) (n : Nat) : (List.range al.length).map (fun k => plc n (al.getD k 0)) = al.map (plc n) := by
  refine List.ext_getElem? (fun i => ?_)
  rw [List.getElem?_map, List.getElem?_map]
  by_cases h : i < al.length
  · rw [List.getElem?_range h, getD_of 0 h]; rfl
  · rw [List.getElem?_eq_none (by simpa using h), List.getElem?_eq_none (by omega)]; rfl
theorem md_triv {n p : Nat} {al : List Nat} {ss : List G} (hn : n ≤ 255) (hd : al.Nodup) (hl : ∀ i ∈ al, i < n) (hm : al.length ≤ p) : TrivF (mdRows n al ss p) al.length := fun v hv k hk => by
  have hz := no_errors (E := (List.range al.length).map fun k => (plc n (al.getD k 0), v k)) (by
    rw [List.map_map]
    show ((List.range al.length).map (fun k => plc n (al.getD k 0))).Nodup
    rw [map_getD_range]
    exact plcs_nodup hn al hd hl) (fun t ht => by
    rw [List.length_map, List.length_range] at ht
    rw [pws_list]
    have h := hv t (by rw [mdRows_len]; omega)
    rw [mdRows_at (by omega)] at h
    rw [← h]
    unfold dotF
    refine isum_congr _ (fun j hj => ?_)
    rw [mdRow_at (by simpa using hj), gmul_comm])
  exact hz (plc n (al.getD k 0), v k) (List.mem_map.2 ⟨k, by simpa using hk, rfl⟩)
/-- The word with the values put in, one after the other. -/
def putK (al : List Nat) (by_ ws : List G) : Nat → List G
  | 0 => ws
  | k + 1 => (putK al by_ ws k).set (al.getD k 0) ((putK al by_ ws k).getD (al.getD k 0) g0 + by_.getD k g0)
theorem putK_len (al : List Nat) (by_ ws : List G) : ∀ k, (putK al by_ ws k).length = ws.length
  | 0 => rfl
  | k + 1 => by rw [putK, List.length_set, putK_len al by_ ws k]
theorem putK_eq {al : List Nat} {by_ ws : List G} {v : Nat → G} (h : ∀ k, k < al.length → by_.getD k g0 = v (al.getD k 0)) : ∀ k, k ≤ al.length → putK al by_ ws k = putS v ws (al.take k)
  | 0, _ => by simp [putK, putS]
  | k + 1, hk => by
    rw [putK, putK_eq h k (by omega), h k (by omega), List.take_add_one, getD_of 0 (by omega : k < al.length), Option.toList_some, putS_snoc]
theorem md_done {ws cs : List G} {n : Nat} {al : List Nat} {by_ : List G} (hw : ws.length = n) (hc : cs.length = n) (hd : al.Nodup) (hl : ∀ i ∈ al, i < n) (hf : ∀ i, i < n → i ∉ al → difB ws cs i = false)
    (h : ∀ k, k < al.length → by_.getD k g0 = dlt ws cs (al.getD k 0)) : putK al by_ ws al.length = cs := by
  rw [putK_eq (v := dlt ws cs) h _ (Nat.le_refl _), List.take_length]
  refine list_eq_getD (by rw [putS_len, hw, hc]) (fun j hj => ?_)
  rw [putS_len, hw] at hj
  rw [putS_at _ _ _ _ hd (by rw [hw]; exact hl)]
  by_cases e : j ∈ al
  · rw [if_pos e]; unfold dlt; rw [gadd_back]
  · rw [if_neg e]; exact gadd_eq (dlt_zero.2 (hf j hj e))

/-- Rows in the making: their slices vs, and what they read as. -/
def RowsV (w : World) (vs : List Value) (R : List (List G)) (n1 : Nat) : Prop :=
  vs.length = R.length ∧ ∀ i, i < R.length → ∃ B c, vs[i]? = some (.slice B n1 c) ∧ Ints w B (gints (R.getD i [])) ∧ (R.getD i []).length = n1 ∧ ∀ b o, B = some ⟨b, o, none⟩ → ∃ cur, Blk w b 3 cur
theorem RowsV.start (w : World) (n1 : Nat) : RowsV w [] [] n1 := ⟨rfl, fun i hi => by simp at hi⟩
theorem RowsV.keep {w w' : World} {vs : List Value} {R : List (List G)} {n1 : Nat} (h : RowsV w vs R n1) (hg : Gr w w') : RowsV w' vs R n1 :=
  ⟨h.1, fun i hi => by
    obtain ⟨B, c, h1, h2, h3, h4⟩ := h.2 i hi
    exact ⟨B, c, h1, h2.keep hg, h3, fun b o e => by obtain ⟨cur, hb⟩ := h4 b o e; exact ⟨cur, hb.keep hg⟩⟩⟩
theorem Rd.grown {α : Type} {k : Nat} {enc : α → List Value} {w w' : World} {B : Option Addr} {xs : List α} {row : Option Nat} (h : Rd k enc w B xs) (hg : w.grownBy w' row) (hne : ∀ b o, B = some ⟨b, o, none⟩ → some b ≠ row) : Rd k enc w' B xs := fun i x hx => by
  obtain ⟨b, off, e, hc⟩ := h i x hx
  exact ⟨b, off, e, fun j v hv => by
    have h1 := hc j v hv
    exact (World.cell?_of_block (hg.block b (World.block_lt_of_cell? w _ h1) (hne b off e))).trans h1⟩
theorem RowsV.more {w w' : World} {vs : List Value} {R : List (List G)} {n1 base j : Nat} {v : Value} {xs : List Value} {B : Option Addr} {c : Nat} {r : List G} (h : RowsV w vs R n1) (ho : w.ownsRow base 34 1 v j xs) (hg : w.grownBy w' v.ownBlock)
    (hr : Ints w B (gints r)) (hl : r.length = n1) (hb : ∀ b o, B = some ⟨b, o, none⟩ → ∃ cur, Blk w b 3 cur) : RowsV w' (vs ++ [.slice B n1 c]) (R ++ [r]) n1 := by
  have hne : ∀ b cur, Blk w b 3 cur → some b ≠ v.ownBlock := fun b cur hB => hB.apart ho (by decide)
  refine ⟨by simp [h.1], fun i hi => ?_⟩
  rw [List.length_append, List.length_singleton] at hi
  by_cases e : i < R.length
  · obtain ⟨B0, c0, h1, h2, h3, h4⟩ := h.2 i e
    have hR : (R ++ [r]).getD i [] = R.getD i [] := by
      rw [List.getD_eq_getElem?_getD, List.getElem?_append_left e, ← List.getD_eq_getElem?_getD]
    rw [hR]
    refine ⟨B0, c0, by rw [List.getElem?_append_left (by rw [h.1]; exact e)]; exact h1, h2.grown hg (fun b o e2 => ?_), h3, fun b o e2 => ?_⟩
    · obtain ⟨cur, hB⟩ := h4 b o e2; exact hne b cur hB
    · obtain ⟨cur, hB⟩ := h4 b o e2; exact ⟨cur, hB.grown hg (hne b cur hB)⟩
  · have hiR : i = R.length := by omega
    have hR : (R ++ [r]).getD i [] = r := by
      rw [hiR, List.getD_eq_getElem?_getD, List.getElem?_append_right (Nat.le_refl _)]; simp
    rw [hR]
    refine ⟨B, c, by rw [hiR, ← h.1, List.getElem?_append_right (Nat.le_refl _)]; simp, hr.grown hg (fun b o e2 => ?_), hl, fun b o e2 => ?_⟩
    · obtain ⟨cur, hB⟩ := hb b o e2; exact hne b cur hB
    · obtain ⟨cur, hB⟩ := hb b o e2; exact ⟨cur, hB.grown hg (hne b cur hB)⟩
theorem RowsV.tb {w : World} {vs : List Value} {R : List (List G)} {n1 base m : Nat} {v : Value} (h : RowsV w vs R n1) (ho : w.ownsRow base 34 1 v m vs) (hm : R.length = m) : ∃ A cap g, v = .slice A m cap ∧ Tb w g A R n1 ∧ base ≤ g := by
  rcases Nat.eq_zero_or_pos m with hz | hz
  · subst hz
    rcases ho.2 with ⟨rfl, _⟩ | ⟨g, cap, cur, rfl, hb, _⟩
    · exact ⟨none, 0, base, rfl, ⟨fun h0 => by omega, fun i hi => by omega⟩, Nat.le_refl _⟩
    · exact ⟨some ⟨g, 0, none⟩, cap, g, rfl, ⟨fun h0 => rfl, fun i hi => by omega⟩, hb⟩
  · rcases ho.2 with ⟨_, h0⟩ | ⟨g, cap, cur, rfl, hb, hh, _⟩
    · omega
    · refine ⟨some ⟨g, 0, none⟩, cap, g, rfl, ⟨fun _ => rfl, fun i hi => ?_⟩, hb⟩
      obtain ⟨B, c, h1, h2, h3, h4⟩ := h.2 i hi
      refine ⟨B, c, (ho.cellAt i (by omega)).trans h1, ho.frozenAt _, h2, h3, fun b o e => ?_⟩
      obtain ⟨cur2, hB⟩ := h4 b o e
      have := hB.apart ho (by decide)
      intro e2; exact this (by rw [e2]; rfl)
/-- A row of the call's own, given back: its block is one of ints. -/
theorem own_row3 {α : Type} {enc : α → List Value} {k : Nat} (hk : ∀ x, (enc x).length = k) {w1 : World} {base : Nat} {t : TypeId} {v : Value} {n : Nat} {xs : List α} (hn : xs.length = n) (h : w1.ownsRow base t k v n (flatE enc xs)) :
    ∃ A c, v = .slice A n c ∧ Rd k enc w1 A xs ∧ (∀ b o, A = some ⟨b, o, none⟩ → ∃ cur, Blk w1 b t cur) := by
  rcases h.2 with ⟨rfl, hz⟩ | ⟨g, cap, cur, rfl, _, hh, hnc, _⟩
  · have hq' : xs = [] := List.eq_nil_of_length_eq_zero (by rw [hn]; exact hz)
    subst hq'
    exact ⟨none, 0, by rw [hz], Rd_nil _ _, fun b o e => by cases e⟩
  · exact ⟨some ⟨g, 0, none⟩, cap, rfl, Rd_of_owns hk hn h, fun b o e => by obtain ⟨rfl, rfl⟩ : g = b ∧ 0 = o := by simpa using e
                                                                            exact ⟨cur, hh⟩⟩
theorem Try.infoSl : (Try.prog.info? 34).map (fun i => (i.zero, i.size, i.bytes)) = some (some (.slice none 0 0), 1, 24) := by kernel_rfl
end Go.Proofs.Ytbkbgcapkhelhaa
