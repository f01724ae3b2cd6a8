/- Layer 5: how large the reference's net is. -/
import Derived.Test.YtnoeiocbmhkmeaaGreatBu23
import Derived.Test.YtnoeiocbmhkmeaaGreatBu26
namespace Go.Proofs.YtnoeiocbmhkmeaaGreat
set_option linter.unusedSimpArgs false
set_option maxRecDepth 100000
set_option maxHeartbeats 80000000

structure XLe (X : XN) : Prop where
 s1 : 1 ≤ X.sites.length
 s8 : X.sites.length ≤ 8
 tx : X.txs.length ≤ 256
 ml : X.mail.length ≤ 1024
 mi : ∀ s ∈ X.sites, s.minds.length = X.txs.length
 pa : ∀ t ∈ X.txs, t.parts.length ≤ 8 ∧ t.heard.length = t.parts.length
section
variable {X : XN}
theorem XLe.send (h : XLe X) (m : Ml) : XLe (xSend X m) := by
 unfold xSend
 split
 ·exact h
 ·refine ⟨h.s1, h.s8, h.tx, ?_, h.mi, h.pa⟩
  show (X.mail ++ [m]).length ≤ 1024
  rw [List.length_append]
  simp
  omega
theorem XLe.sends (l : List Ml) : ∀ {X : XN}, XLe X → XLe (l.foldl xSend X) := by
 induction l with
 | nil => exact fun h => h
 | cons m r ih => exact fun h => ih (h.send m)
theorem XLe.tell (h : XLe X) (fr kd tx but : Int) (silent : Bool) : XLe (xTell X fr kd tx but silent) := XLe.sends _ h
theorem XLe.setTx (h : XLe X) (j : Nat) (t : XT) (ht : t.parts.length ≤ 8 ∧ t.heard.length = t.parts.length) : XLe { X with txs := X.txs.set j t } := by
 refine ⟨h.s1, h.s8, by show (X.txs.set j t).length ≤ 256; rw [List.length_set]; exact h.tx, h.ml, fun s hs => ?_, fun u hu => ?_⟩
 ·show _ = (X.txs.set j t).length
  rw [List.length_set]
  exact h.mi s hs
 ·rcases List.mem_or_eq_of_mem_set hu with h1 | h1
  ·exact h.pa u h1
  ·rw [h1]; exact ht
theorem xTx_pa (h : XLe X) (t : Int) : (xTx X t).parts.length ≤ 8 ∧ (xTx X t).heard.length = (xTx X t).parts.length := by
 unfold xTx
 rw [List.getD_eq_getElem?_getD]
 cases e : X.txs[(t - 1).toNat]? with
 | none => exact ⟨by decide, rfl⟩
 | some u => exact h.pa u (List.mem_of_getElem? e)
theorem XLe.turn (h : XLe X) (tx is : Int) : XLe (xTurn X tx is) := h.setTx _ _ ⟨(xTx_pa h tx).1, by show (List.replicate _ _).length = _; rw [List.length_replicate]⟩
theorem XLe.hear (h : XLe X) (tx k : Int) : XLe (xHear X tx k) := h.setTx _ _ ⟨(xTx_pa h tx).1, by show (List.set _ _ _).length = _; rw [List.length_set]; exact (xTx_pa h tx).2⟩
theorem XLe.setSite (h : XLe X) (j : Nat) (s : XS) (hs : j < X.sites.length → s.minds.length = X.txs.length) : XLe { X with sites := X.sites.set j s } := by
 refine ⟨by show 1 ≤ (X.sites.set j s).length; rw [List.length_set]; exact h.s1, by show (X.sites.set j s).length ≤ 8; rw [List.length_set]; exact h.s8, h.tx, h.ml, fun u hu => ?_, h.pa⟩
 obtain ⟨i, hi⟩ := List.getElem?_of_mem hu
 change (X.sites.set j s)[i]? = some u at hi
 rw [List.getElem?_set] at hi
 split at hi
 ·split at hi
  ·injection hi with hi
   rw [← hi]
   exact hs (by assumption)
  ·cases hi
 ·exact h.mi u (List.mem_of_getElem? hi)
theorem xSite_mi (h : XLe X) {s : Int} (hs : s.toNat < X.sites.length) : (xSite X s).minds.length = X.txs.length := by
 unfold xSite
 rw [List.getD_eq_getElem?_getD, List.getElem?_eq_getElem hs]
 exact h.mi _ (List.getElem_mem hs)
theorem XLe.mind (h : XLe X) (s tx : Int) (v : Int × (Int × Int)) : XLe (xMind X s tx v) := h.setSite _ _ (fun hj => by
 show (List.set _ _ _).length = _
 rw [List.length_set]
 exact xSite_mi h hj)
theorem XLe.add (h : XLe X) (s x : Int) : XLe (xAdd X s x) := h.setSite _ _ (fun hj => xSite_mi h hj)
theorem XLe.mail (h : XLe X) (l : List Ml) (hl : l.length ≤ 1024) : XLe { X with mail := l } := ⟨h.s1, h.s8, h.tx, hl, h.mi, h.pa⟩
end
def XRg (X : XN) : Prop := ∀ s ∈ X.sites, (0 ≤ s.stock ∧ s.stock ≤ 1099511627776) ∧ ∀ m ∈ s.minds, -1099511627776 ≤ m.2.2 ∧ m.2.2 ≤ 1099511627776
section
variable {N : Nx} {X : XN}
theorem Two.le (h : Two N X) : XLe X := by
 have hl := h.lens
 obtain ⟨co, pa, G, hd, h⟩ := h
 have hlo := h.ok.lo
 have hhi := h.ok.hi
 have hb := h.ok.beg
 have hr := h.ok.room
 refine ⟨by omega, by omega, by omega, by rw [h.mail]; exact hr, fun s hs => ?_, fun t ht => ?_⟩
 ·rw [h.txsLen]
  rw [h.eq] at hs
  unfold xOf at hs
  obtain ⟨k, -, rfl⟩ := List.mem_map.1 hs
  show (mindsA N _).length = _
  unfold mindsA
  simp
 ·rw [h.eq] at ht
  unfold xOf at ht
  obtain ⟨j, hj, rfl⟩ := List.mem_map.1 ht
  have hj' := List.mem_range.1 hj
  have h1 := (h.inv.ok ((j : Int) + 1) (by omega) (by omega)).2.few
  exact ⟨by show (pa _).length ≤ 8; omega, (h.hok ((j : Int) + 1) (by omega) (by omega)).1⟩
theorem Two.rg (h : Two N X) : XRg X := by
 obtain ⟨co, pa, G, hd, h⟩ := h
 intro s hs
 rw [h.eq] at hs
 unfold xOf at hs
 obtain ⟨k, hk, rfl⟩ := List.mem_map.1 hs
 have hk' := List.mem_range.1 hk
 obtain ⟨s, hsk⟩ : ∃ s, N.sites[k]? = some s := ⟨_, List.getElem?_eq_getElem hk'⟩
 refine ⟨?_, fun m hm => ?_⟩
 ·show 0 ≤ (N.sites.getD k _).stock ∧ _
  rw [List.getD_eq_getElem?_getD, hsk]
  exact (h.ok.site k s hsk).1.stock
 ·change m ∈ mindsA N (k : Int) at hm
  unfold mindsA at hm
  obtain ⟨j, hj, rfl⟩ := List.mem_map.1 hm
  have hj' := List.mem_range.1 hj
  have hb := h.ok.beg
  unfold mindA
  split
  ·rename_i c x e
   have h1 := ((h.inv.tx ((j : Int) + 1) (by omega) (by omega)).sit.prom (k : Int) c x e).2
   have h2 := (h.inv.ok ((j : Int) + 1) (by omega) (by omega)).2.part _ h1
   exact ⟨h2.2.2.2.1, h2.2.2.2.2⟩
  ·split
   ·exact ⟨by decide, by decide⟩
   ·split <;> exact ⟨by decide, by decide⟩
theorem Two.let5 (h : Two N X) {m : Ml} (hm : m ∈ X.mail) : OkM X.sites.length (X.txs.length : Int) m := by
 have hl := h.lens
 obtain ⟨co, pa, G, hd, h⟩ := h
 have := h.ok.mail m (by rw [← h.mail]; exact hm)
 rw [hl.1, hl.2]
 exact this
end
end Go.Proofs.YtnoeiocbmhkmeaaGreat

namespace Go.Proofs.YtnoeiocbmhkmeaaGreat
open Go.RowKit
set_option linter.unusedSimpArgs false
set_option maxRecDepth 100000
set_option maxHeartbeats 80000000

def StepX (S : List Nat) (w0 w : World) (L : LN) (X : XN) (e : Ending) (w' : World) : Prop := ∃ L', e = .returned L'.v ∧ XFr L w L' w' ∧ XOw S w0 w' L' ∧ L'.era = X
def StepB (S : List Nat) (w0 w : World) (L : LN) (X : XN) (b : Bool) (e : Ending) (w' : World) : Prop := ∃ L', e = .returned (.tuple #[L'.v, .bool b]) ∧ XFr L w L' w' ∧ XOw S w0 w' L' ∧ L'.era = X
section
variable {S : List Nat} {w0 w w' : World} {L : LN}
theorem lens_era : L.era.sites.length = L.sites.length ∧ L.era.txs.length = L.txs.length ∧ L.era.mail = L.mail := ⟨List.length_map _, List.length_map _, rfl⟩
structure Shp (L : LN) (As At Al : Option Addr) (n m l cs ct cl : Nat) : Prop where
 sv : L.sv = .slice As n cs
 tv : L.tv = .slice At m ct
 lv : L.lv = .slice Al l cl
 n : L.sites.length = n
 m : L.txs.length = m
 l : L.mail.length = l
theorem XRd.shp (h : XRd w L) : ∃ As At Al n m l cs ct cl, Shp L As At Al n m l cs ct cl := by
 obtain ⟨As, cs, e1, -⟩ := h.sv
 obtain ⟨At, ct, e2, -⟩ := h.tv
 obtain ⟨Al, cl, e3, -⟩ := h.lv
 exact ⟨As, At, Al, _, _, _, cs, ct, cl, e1, e2, e3, rfl, rfl, rfl⟩
theorem XOw.rd0 (h : XOw S w0 w L) : XRd w L := by
 have own := h.rws.all
 exact ⟨RdV.of encLS_len (own L.sRow (by simp [LN.rows])), RdV.of encLT_len (own L.tRow (by simp [LN.rows])), RdV.of enc5m_len (own L.lRow (by simp [LN.rows])),
  fun s hs => RdV.of encMi_len (own s.row (by simp only [LN.rows, List.mem_cons, List.mem_append, List.mem_map]; exact Or.inr (Or.inr (Or.inr (Or.inl ⟨s, hs, rfl⟩))))),
  fun t ht => RdV.of encBo5_len (own t.row (by simp only [LN.rows, List.mem_cons, List.mem_append, List.mem_map]; exact Or.inr (Or.inr (Or.inr (Or.inr ⟨t, ht, rfl⟩))))),
  fun t ht => (h.parts t ht).rd h.gr⟩
theorem Shp.v {As At Al : Option Addr} {n m l cs ct cl : Nat} (h : Shp L As At Al n m l cs ct cl) : L.v = .agg #[.slice As n cs, .slice At m ct, .slice Al l cl] := by
 unfold LN.v
 rw [h.sv, h.tv, h.lv]
theorem site_at (k : Nat) (hk : k < L.sites.length) : ∃ s, L.sites[k]? = some s := ⟨_, List.getElem?_eq_getElem hk⟩
theorem tx_at (k : Nat) (hk : k < L.txs.length) : ∃ x, L.txs[k]? = some x := ⟨_, List.getElem?_eq_getElem hk⟩
theorem XLe.minds (h : XLe L.era) {k : Nat} {s : LS} (hk : L.sites[k]? = some s) : s.minds.length = L.txs.length := by
 have := h.mi s.era (List.mem_map_of_mem (List.mem_of_getElem? hk))
 rw [lens_era.2.1] at this
 exact this
theorem XLe.parts (h : XLe L.era) {k : Nat} {x : LT} (hk : L.txs[k]? = some x) : x.parts.length ≤ 8 ∧ x.heard.length = x.parts.length := h.pa x.era (List.mem_map_of_mem (List.mem_of_getElem? hk))
theorem xsendS (h : XOw S w0 w L) (hl : XLe L.era) (fr dst kd tx ch : Int) : Calls Tryz.prog 62 #[L.v, .int .i64 fr, .int .i64 dst, .int .i64 kd, .int .i64 tx, .int .i64 ch] w (StepX S w0 w L (xSend L.era (fr, dst, kd, tx, ch))) :=
 (xsend_any S w0 L fr dst kd tx ch w h hl.ml).mono (fun _ _ ⟨ml, lv, he, hf, ho, hera, _⟩ => ⟨{ L with mail := ml, lv := lv }, he, hf, ho, hera⟩)
theorem xtellS (h : XOw S w0 w L) (hl : XLe L.era) (fr kd but : Int) (silent : Bool) (k : Nat) (hk : k < L.txs.length) : Calls Tryz.prog 60 #[L.v, .int .i64 fr, .int .i64 kd, .int .i64 ((k : Int) + 1), .int .i64 but, .bool silent] w (StepX S w0 w L (xTell L.era fr kd ((k : Int) + 1) but silent)) := by
 obtain ⟨x, hx⟩ := tx_at k hk
 exact (xtell_any S w0 L k x fr kd but silent w h hl.ml hx (by have := hl.tx; rw [lens_era.2.1] at this; exact this) (hl.parts hx).1 (hl.parts hx).2).mono (fun _ _ ⟨ml, lv, he, hf, ho, hera, _⟩ => ⟨{ L with mail := ml, lv := lv }, he, hf, ho, hera⟩)
theorem xturnS (h : XOw S w0 w L) (hl : XLe L.era) (is : Int) (k : Nat) (hk : k < L.txs.length) : Calls Tryz.prog 63 #[L.v, .int .i64 ((k : Int) + 1), .int .i64 is] w (StepX S w0 w L (xTurn L.era ((k : Int) + 1) is)) := by
 obtain ⟨x, hx⟩ := tx_at k hk
 refine (xturn_any S w0 L k x is w h hx (by have := hl.tx; rw [lens_era.2.1] at this; exact this) (hl.parts hx).1).mono (fun _ _ ⟨he, hc, hv, hn, ho⟩ => ?_)
 refine ⟨{ L with txs := L.txs.set k { x with is := is, heard := List.replicate x.parts.length false, hv := hv } }, he, XFr.tx hx (fun g hg => Or.inr (hn g hg)) hc, ho, ?_⟩
 rw [era_setTx hx]
 unfold xTurn
 rw [era_tx rfl hx, show ((k : Int) + 1 - 1).toNat = k by omega]
 rfl
theorem xhearS (h : XOw S w0 w L) (hl : XLe L.era) (k : Nat) (hk : k < L.txs.length) (j : Nat) (hj : j < (xTx L.era ((k : Int) + 1)).heard.length) : Calls Tryz.prog 80 #[L.v, .int .i64 ((k : Int) + 1), .int .i64 (j : Int)] w (StepB S w0 w L (xHear L.era ((k : Int) + 1) (j : Int)) (((xTx L.era ((k : Int) + 1)).heard.set j true).all id)) := by
 obtain ⟨x, hx⟩ := tx_at k hk
 rw [era_tx rfl hx] at hj ⊢
 have hp := hl.parts hx
 refine (xhear_any S w0 L k x j w h hx (by have := hl.tx; rw [lens_era.2.1] at this; exact this) hj (by rw [hp.2]; exact hp.1)).mono (fun _ _ ⟨he, hc, ho⟩ => ?_)
 refine ⟨{ L with txs := L.txs.set k { x with heard := x.heard.set j true } }, he, XFr.tx hx (fun g hg => Or.inl hg) hc, ho, ?_⟩
 rw [era_setTx hx]
 unfold xHear
 rw [era_tx rfl hx, show ((k : Int) + 1 - 1).toNat = k by omega]
 rfl
theorem xmindS (h : XOw S w0 w L) (hl : XLe L.era) (i k : Nat) (hi : i < L.sites.length) (hk : k < L.txs.length) (m1 m2 m3 : Int) : Calls Tryz.prog 79 #[L.v, .int .i64 (i : Int), .int .i64 ((k : Int) + 1), .agg #[.int .i64 m1, .int .i64 m2, .int .i64 m3]] w (StepX S w0 w L (xMind L.era (i : Int) ((k : Int) + 1) (m1, (m2, m3)))) := by
 obtain ⟨s, hs⟩ := site_at i hi
 have hm := hl.minds hs
 have h2 : L.txs.length ≤ 256 := by have := hl.tx; rw [lens_era.2.1] at this; exact this
 refine (xmind_any S w0 L i k s (m1, (m2, m3)) w h hs (by omega) (by have := hl.s8; rw [lens_era.1] at this; exact this) (by omega)).mono (fun _ _ ⟨he, hc, ho⟩ => ?_)
 refine ⟨{ L with sites := L.sites.set i { s with minds := s.minds.set k (m1, (m2, m3)) } }, he, XFr.site hs rfl hc, ho, ?_⟩
 rw [era_setSite]
 unfold xMind
 rw [era_site hs, show ((k : Int) + 1 - 1).toNat = k by omega, show ((i : Int)).toNat = i from rfl]
 rfl
end

section
variable {S : List Nat} {w0 w : World} {L : LN}
theorem owns_cells {α : Type} {enc : α → List Value} {q : Nat} (hq : ∀ x, (enc x).length = q) {w : World} {base g n c : Nat} {t : TypeId} {xs : List α} (h : w.ownsRow base t q (.slice (some ⟨g, 0, none⟩) n c) n (flatE enc xs)) (hn : xs.length = n) {k : Nat} {x : α} (hk : xs[k]? = some x) {j : Nat} {v : Value} (hv : (enc x)[j]? = some v) : w.cell? ⟨g, k * q + j, none⟩ = some v := by
 obtain ⟨b, off, hb, hc⟩ := Rd_of_owns hq hn h k x hk
 injection hb with hb
 injection hb with hb1 hb2
 subst hb1 hb2
 have := hc j v hv
 rwa [Nat.zero_add] at this
theorem XOw.cellsS (h : XOw S w0 w L) {a : Nat} {s : LS} (hs : L.sites[a]? = some s) : ∃ g c, L.sv = .slice (some ⟨g, 0, none⟩) L.sites.length c ∧ ∀ W, XOw S w0 W L → W.cell? ⟨g, a * 3, none⟩ = some (.int .i64 s.stock) ∧ W.cell? ⟨g, a * 3 + 1, none⟩ = some (.bool s.down) ∧ W.cell? ⟨g, a * 3 + 2, none⟩ = some s.mv := by
 have hr : ∀ W, XOw S w0 W L → W.ownsRow w0.heap.size 73 3 L.sv L.sites.length (flatE encLS L.sites) := fun W hW => hW.rws.all L.sRow (by simp [LN.rows])
 obtain ⟨g, c, e, -⟩ := owns_shape (hr w h) (by have := (List.getElem?_eq_some_iff.1 hs).1; omega)
 refine ⟨g, c, e, fun W hW => ?_⟩
 have h1 := hr W hW
 rw [e] at h1
 exact ⟨owns_cells encLS_len h1 rfl hs (j := 0) rfl, owns_cells encLS_len h1 rfl hs (j := 1) rfl, owns_cells encLS_len h1 rfl hs (j := 2) rfl⟩
theorem XOw.cellsT (h : XOw S w0 w L) {k : Nat} {x : LT} (hx : L.txs[k]? = some x) : ∃ g c, L.tv = .slice (some ⟨g, 0, none⟩) L.txs.length c ∧ ∀ W, XOw S w0 W L → W.cell? ⟨g, k * 4, none⟩ = some (.int .i64 x.at5) ∧ W.cell? ⟨g, k * 4 + 1, none⟩ = some (.int .i64 x.is) ∧ W.cell? ⟨g, k * 4 + 2, none⟩ = some x.pv ∧ W.cell? ⟨g, k * 4 + 3, none⟩ = some x.hv := by
 have hr : ∀ W, XOw S w0 W L → W.ownsRow w0.heap.size 100 4 L.tv L.txs.length (flatE encLT L.txs) := fun W hW => hW.rws.all L.tRow (by simp [LN.rows])
 obtain ⟨g, c, e, -⟩ := owns_shape (hr w h) (by have := (List.getElem?_eq_some_iff.1 hx).1; omega)
 refine ⟨g, c, e, fun W hW => ?_⟩
 have h1 := hr W hW
 rw [e] at h1
 exact ⟨owns_cells encLT_len h1 rfl hx (j := 0) rfl, owns_cells encLT_len h1 rfl hx (j := 1) rfl, owns_cells encLT_len h1 rfl hx (j := 2) rfl, owns_cells encLT_len h1 rfl hx (j := 3) rfl⟩
theorem XOw.cellsM (h : XOw S w0 w L) {a : Nat} {s : LS} (hs : L.sites[a]? = some s) (hm : 0 < s.minds.length) : ∃ g c, s.mv = .slice (some ⟨g, 0, none⟩) s.minds.length c ∧ ∀ W, XOw S w0 W L → ∀ k, k < s.minds.length → W.cell? ⟨g, k * 3, none⟩ = some (.int .i64 (s.minds.getD k (0, (0, 0))).1) ∧ W.cell? ⟨g, k * 3 + 1, none⟩ = some (.int .i64 (s.minds.getD k (0, (0, 0))).2.1) ∧ W.cell? ⟨g, k * 3 + 2, none⟩ = some (.int .i64 (s.minds.getD k (0, (0, 0))).2.2) := by
 have hr : ∀ W, XOw S w0 W L → W.ownsRow w0.heap.size 102 3 s.mv s.minds.length (flatE encMi s.minds) := fun W hW => hW.rws.all s.row (by
  simp only [LN.rows, List.mem_cons, List.mem_append, List.mem_map]
  exact Or.inr (Or.inr (Or.inr (Or.inl ⟨s, List.mem_of_getElem? hs, rfl⟩))))
 obtain ⟨g, c, e, -⟩ := owns_shape (hr w h) hm
 refine ⟨g, c, e, fun W hW k hk => ?_⟩
 have h1 := hr W hW
 rw [e] at h1
 have hg := getD_of (0, (0, 0)) hk
 exact ⟨owns_cells encMi_len h1 rfl hg (j := 0) rfl, owns_cells encMi_len h1 rfl hg (j := 1) rfl, owns_cells encMi_len h1 rfl hg (j := 2) rfl⟩
theorem XOw.cellsH (h : XOw S w0 w L) {k : Nat} {x : LT} (hx : L.txs[k]? = some x) (hm : 0 < x.heard.length) : ∃ g c, x.hv = .slice (some ⟨g, 0, none⟩) x.heard.length c ∧ ∀ W, XOw S w0 W L → ∀ j, j < x.heard.length → W.cell? ⟨g, j, none⟩ = some (.bool (x.heard.getD j false)) := by
 have hr : ∀ W, XOw S w0 W L → W.ownsRow w0.heap.size 4 1 x.hv x.heard.length (flatE encBo5 x.heard) := fun W hW => hW.rws.all x.row (by
  simp only [LN.rows, List.mem_cons, List.mem_append, List.mem_map]
  exact Or.inr (Or.inr (Or.inr (Or.inr ⟨x, List.mem_of_getElem? hx, rfl⟩))))
 obtain ⟨g, c, e, -⟩ := owns_shape (hr w h) hm
 refine ⟨g, c, e, fun W hW j hj => ?_⟩
 have h1 := hr W hW
 rw [e] at h1
 have := owns_cells encBo5_len h1 rfl (getD_of false hj) (j := 0) rfl
 simpa using this
end
section
variable {S : List Nat} {w0 w W : World} {L : LN} {As At Al : Option Addr} {n m l cs ct cl : Nat}
theorem xsendV (h : XOw S w0 w L) (hl : XLe L.era) (hs : Shp L As At Al n m l cs ct cl) (fr dst kd tx ch : Int) : Calls Tryz.prog 62 #[.agg #[.slice As n cs, .slice At m ct, .slice Al l cl], .int .i64 fr, .int .i64 dst, .int .i64 kd, .int .i64 tx, .int .i64 ch] w (StepX S w0 w L (xSend L.era (fr, dst, kd, tx, ch))) := by
 rw [← hs.v]
 exact xsendS h hl fr dst kd tx ch
theorem xtellV (h : XOw S w0 w L) (hl : XLe L.era) (hs : Shp L As At Al n m l cs ct cl) (fr kd but : Int) (silent : Bool) (k : Nat) (hk : k < m) : Calls Tryz.prog 60 #[.agg #[.slice As n cs, .slice At m ct, .slice Al l cl], .int .i64 fr, .int .i64 kd, .int .i64 ((k : Int) + 1), .int .i64 but, .bool silent] w (StepX S w0 w L (xTell L.era fr kd ((k : Int) + 1) but silent)) := by
 rw [← hs.v]
 exact xtellS h hl fr kd but silent k (by rw [hs.m]; exact hk)
theorem xturnV (h : XOw S w0 w L) (hl : XLe L.era) (hs : Shp L As At Al n m l cs ct cl) (is : Int) (k : Nat) (hk : k < m) : Calls Tryz.prog 63 #[.agg #[.slice As n cs, .slice At m ct, .slice Al l cl], .int .i64 ((k : Int) + 1), .int .i64 is] w (StepX S w0 w L (xTurn L.era ((k : Int) + 1) is)) := by
 rw [← hs.v]
 exact xturnS h hl is k (by rw [hs.m]; exact hk)
theorem xhearV (h : XOw S w0 w L) (hl : XLe L.era) (hs : Shp L As At Al n m l cs ct cl) (k : Nat) (hk : k < m) (j : Nat) (hj : j < (xTx L.era ((k : Int) + 1)).heard.length) : Calls Tryz.prog 80 #[.agg #[.slice As n cs, .slice At m ct, .slice Al l cl], .int .i64 ((k : Int) + 1), .int .i64 (j : Int)] w (StepB S w0 w L (xHear L.era ((k : Int) + 1) (j : Int)) (((xTx L.era ((k : Int) + 1)).heard.set j true).all id)) := by
 rw [← hs.v]
 exact xhearS h hl k (by rw [hs.m]; exact hk) j hj
theorem xmindV (h : XOw S w0 w L) (hl : XLe L.era) (hs : Shp L As At Al n m l cs ct cl) (i k : Nat) (hi : i < n) (hk : k < m) (m1 m2 m3 : Int) : Calls Tryz.prog 79 #[.agg #[.slice As n cs, .slice At m ct, .slice Al l cl], .int .i64 (i : Int), .int .i64 ((k : Int) + 1), .agg #[.int .i64 m1, .int .i64 m2, .int .i64 m3]] w (StepX S w0 w L (xMind L.era (i : Int) ((k : Int) + 1) (m1, (m2, m3)))) := by
 rw [← hs.v]
 exact xmindS h hl i k (by rw [hs.n]; exact hi) (by rw [hs.m]; exact hk) m1 m2 m3
theorem xstateV (h : XRd w L) (hl : XLe L.era) (hs : Shp L As At Al n m l cs ct cl) (i : Int) (k : Nat) (hk : k < m) : Calls Tryz.prog 61 #[.agg #[.slice As n cs, .slice At m ct, .slice Al l cl], .int .i64 i, .int .i64 ((k : Int) + 1)] w fun e w' => e = .returned (.int .i64 (xState L.era i ((k : Int) + 1))) ∧ Gr w w' := by
 rw [← hs.v]
 obtain ⟨x, hx⟩ := tx_at (L := L) k (by rw [hs.m]; exact hk)
 exact xstate_any L i k x w h hx (by have := hl.tx; rw [lens_era.2.1] at this; exact this)
theorem XOw.putSite (h : XOw S w0 w L) {a : Nat} {s s' : LS} (hs : L.sites[a]? = some s) (hm : s'.mv = s.mv ∧ s'.minds = s.minds) {g c : Nat} (hv : L.sv = .slice (some ⟨g, 0, none⟩) L.sites.length c)
 (hW : ((w.setCell ⟨g, a * 3, none⟩ (.int .i64 s'.stock)).setCell ⟨g, a * 3 + 1, none⟩ (.bool s'.down)).setCell ⟨g, a * 3 + 2, none⟩ s'.mv = W) : XOw S w0 W { L with sites := L.sites.set a s' } ∧ Ch [g] w W ∧ g ∈ blkR L.rows := by
 have ha := (List.getElem?_eq_some_iff.1 hs).1
 have hp := h.rws.perm (LN.permS (perm_get hs) L.sRow)
 have hnod := (hp.sub (List.sublist_append_left [L.sRow, s.row] _)).nod
 have hgs : L.sRow.v.ownBlock = some g := by show L.sv.ownBlock = _; rw [hv]; rfl
 have hg1 : g ∈ blkR [L.sRow, s.row] := List.mem_filterMap.2 ⟨L.sRow, by simp, hgs⟩
 have hg2 : g ∈ blkR L.rows := blk_mem (r := L.sRow) (by simp [LN.rows]) hgs
 have hne : s.mv.ownBlock ≠ some g := fun e => by
  have h2 : s.row.v.ownBlock = some g := e
  rw [List.filterMap_cons, hgs, List.filterMap_cons, h2] at hnod
  simp at hnod
 have hc : Ch [g] w W := by
  rw [← hW]
  exact ((Ch.refl.set (p := ⟨g, a * 3, none⟩) (by simp) _).set (p := ⟨g, a * 3 + 1, none⟩) (by simp) _).set (p := ⟨g, a * 3 + 2, none⟩) (by simp) _
 have hsr : w.ownsRow w0.heap.size 73 3 L.sv L.sites.length (flatE encLS L.sites) := h.rws.all L.sRow (by simp [LN.rows])
 have hrow : w.ownsRow w0.heap.size 102 3 s.mv s.minds.length (flatE encMi s.minds) := hp.all s.row (by simp)
 rw [hv] at hsr
 have hsr2 := owns_site hsr ha s'
 rw [hW] at hsr2
 have hrow2 := owns_ch hrow hc (fun x hx hm => hne (by rw [hx, List.mem_singleton.1 hm]))
 refine ⟨h.setSite hs (hc.mono (fun x hx => by rw [List.mem_singleton.1 hx]; exact hg1)) ⟨fun r hr => ?_, ?_, Nat.le_trans h.rws.le hc.size⟩ (fun x hx => Or.inl ?_), hc, hg2⟩
 ·rcases List.mem_cons.1 hr with rfl | hr
  ·show W.ownsRow _ _ 3 L.sv (L.sites.set a s').length (flatE encLS (L.sites.set a s'))
   rw [List.length_set, hv]
   exact hsr2
  ·rw [List.mem_singleton.1 hr]
   show W.ownsRow _ _ 3 s'.mv s'.minds.length (flatE encMi s'.minds)
   rw [hm.1, hm.2]
   exact hrow2
 ·have this : s'.row.v = s.row.v := hm.1
  simp only [List.filterMap_cons, this] at hnod ⊢
  exact hnod
 ·obtain ⟨r, hr, hb⟩ := List.mem_filterMap.1 hx
  rcases List.mem_cons.1 hr with rfl | hr
  ·exact List.mem_filterMap.2 ⟨L.sRow, by simp, hb⟩
  ·rw [List.mem_singleton.1 hr] at hb
   refine List.mem_filterMap.2 ⟨s.row, by simp, ?_⟩
   rw [← hb]
   show s.mv.ownBlock = s'.mv.ownBlock
   rw [hm.1]
end
theorem XOw.freeS {S : List Nat} {w0 w : World} {L : LN} (h : XOw S w0 w L) {g n c : Nat} (hv : L.sv = .slice (some ⟨g, 0, none⟩) n c) (hn : L.sites.length = n) (i : Nat) : w.frozen? ⟨g, i, none⟩ = false := by
 have hsr : w.ownsRow w0.heap.size 73 3 L.sv L.sites.length (flatE encLS L.sites) := h.rws.all L.sRow (by simp [LN.rows])
 rw [hv, hn] at hsr
 obtain ⟨cur, hcur, -⟩ := owns_blk hsr
 exact hcur.free i
theorem len_of {L L' : LN} {X : XN} (h : L'.era = X) (hX : X.sites.length = L.era.sites.length ∧ X.txs.length = L.era.txs.length) : L'.sites.length = L.sites.length ∧ L'.txs.length = L.txs.length := by
 rw [← h, lens_era.1, lens_era.2.1, lens_era.1, lens_era.2.1] at hX
 exact hX
theorem xHear_len (X : XN) (t k : Int) : (xHear X t k).sites.length = X.sites.length ∧ (xHear X t k).txs.length = X.txs.length := ⟨rfl, List.length_set⟩
theorem xTurn_len (X : XN) (t k : Int) : (xTurn X t k).sites.length = X.sites.length ∧ (xTurn X t k).txs.length = X.txs.length := ⟨rfl, List.length_set⟩
theorem xPart_rng (ps : List Mv) (f : Int) : xPart ps f = -1 ∨ ∃ j : Nat, xPart ps f = (j : Int) ∧ j < ps.length := by
 unfold xPart
 split
 ·rename_i i e
  exact Or.inr ⟨i, rfl, (List.findIdx?_eq_some_iff_getElem.1 e).1⟩
 ·exact Or.inl rfl
structure Go5 (S : List Nat) (w0 w : World) (L : LN) (g : Nat) (L' : LN) (wr : World) : Prop where
 ow : XOw S w0 wr L'
 fr : XFr L w L' wr
 far : g ∉ blkR L'.rows
 new : w.heap.size ≤ g
 low : w0.heap.size ≤ w.heap.size
 b2 : Blk wr g 33 #[.slice none 0 0, .slice none 0 0, .slice none 0 0]
section
variable {S : List Nat} {w0 w wr w' : World} {L L' : LN} {g : Nat} {X : XN}
theorem Go5.keep (h : Go5 S w0 w L g L' wr) (hg : Gr wr w') : Go5 S w0 w L g L' w' := ⟨h.ow.keep hg, h.fr.more (Ch.of (S := []) hg) (by simp), h.far, h.new, h.low, h.b2.keep hg⟩
theorem Go5.step (h : Go5 S w0 w L g L' wr) {e : Ending} (hs : StepX S w0 wr L' X e w') : ∃ L'', e = .returned L''.v ∧ Go5 S w0 w L g L'' w' ∧ L''.era = X ∧ XFr L' wr L'' w' := by
 obtain ⟨L'', he, hf, ho, hera⟩ := hs
 have a := hf.stay h.b2 h.far
 exact ⟨L'', he, ⟨ho, h.fr.trans hf, a.2, h.new, h.low, a.1⟩, hera, hf⟩
theorem Go5.stepB (h : Go5 S w0 w L g L' wr) {e : Ending} {b : Bool} (hs : StepB S w0 wr L' X b e w') : ∃ L'', e = .returned (.tuple #[L''.v, .bool b]) ∧ Go5 S w0 w L g L'' w' ∧ L''.era = X ∧ XFr L' wr L'' w' := by
 obtain ⟨L'', he, hf, ho, hera⟩ := hs
 have a := hf.stay h.b2 h.far
 exact ⟨L'', he, ⟨ho, h.fr.trans hf, a.2, h.new, h.low, a.1⟩, hera, hf⟩
theorem Go5.side (h : Go5 S w0 w L g L' wr) {T : List Nat} (hc : Ch T wr w') (hT : ∀ t ∈ T, w.heap.size ≤ t ∧ t ∉ blkR L'.rows ∧ t ≠ g ∧ ∃ ty cs, Blk wr t ty cs ∧ ty ≠ 61) : Go5 S w0 w L g L' w' := by
 refine ⟨⟨⟨fun r hr => owns_ch (h.ow.rws.all r hr) hc (fun x hx hm => (hT x hm).2.1 (blk_mem hr hx)), h.ow.rws.nod, Nat.le_trans h.ow.rws.le hc.size⟩, fun x hx => (h.ow.parts x hx).ch hc (fun t ht => (hT t ht).2.2.2), h.ow.up hc (fun x hx => Nat.le_trans h.low (hT x hx).1)⟩, h.fr.more hc (fun t ht => Or.inr (hT t ht).1), h.far, h.new, h.low, (hc.block g h.b2.lt (fun hm => (hT g hm).2.2.1 rfl)).trans h.b2⟩
theorem Go5.put (h : Go5 S w0 w L g L' wr) {a : Nat} {s s' : LS} (hs : L'.sites[a]? = some s) (hm : s'.mv = s.mv ∧ s'.minds = s.minds) {q c : Nat} (hv : L'.sv = .slice (some ⟨q, 0, none⟩) L'.sites.length c)
 (hW : ((wr.setCell ⟨q, a * 3, none⟩ (.int .i64 s'.stock)).setCell ⟨q, a * 3 + 1, none⟩ (.bool s'.down)).setCell ⟨q, a * 3 + 2, none⟩ s'.mv = w') : Go5 S w0 w L g { L' with sites := L'.sites.set a s' } w' ∧ XFr L' wr { L' with sites := L'.sites.set a s' } w' := by
 obtain ⟨ho, hc, hq⟩ := h.ow.putSite hs hm hv hW
 have hf : XFr L' wr { L' with sites := L'.sites.set a s' } w' := XFr.site hs hm.1 (hc.mono (fun x hx => by rw [List.mem_singleton.1 hx]; exact hq))
 have a := hf.stay h.b2 h.far
 exact ⟨⟨ho, h.fr.trans hf, a.2, h.new, h.low, a.1⟩, hf⟩
theorem Go5.done {As At Al : Option Addr} {n m l cs ct cl : Nat} (h : Go5 S w0 w L g L' wr) (hera : L'.era = X) (hs : Shp L' As At Al n m l cs ct cl) (hW : ((wr.setCell ⟨g, 0, none⟩ (.slice As n cs)).setCell ⟨g, 1, none⟩ (.slice At m ct)).setCell ⟨g, 2, none⟩ (.slice Al l cl) = w') : StepX S w0 w L X (.returned (.agg #[.slice As n cs, .slice At m ct, .slice Al l cl])) w' := by
 obtain ⟨kW, cW⟩ := put33 h.b2 hW
 refine ⟨L', by rw [hs.v], h.fr.more cW (fun t ht => Or.inr (by rw [List.mem_singleton.1 ht]; exact h.new)), h.ow.aside h.b2 (Nat.le_trans h.low h.new) cW, hera⟩
end

end Go.Proofs.YtnoeiocbmhkmeaaGreat
