/- Layer 3: a damaged word compared with another one.
Layer 3: a new damaged word. -/
import Derived.Test.YtpnkpejnahhajaaGreatBc8
import Derived.Test.YtpnkpejnahhajaaGreatBc3
import Derived.Deep.CutRange
namespace Go.Proofs.YtpnkpejnahhajaaGreat
open Go.RowKit
set_option linter.unusedSimpArgs false

def cnt (f : Nat → Bool) (j : Nat) : Nat := ((List.range j).filter f).length
theorem cnt_le (f : Nat → Bool) (j : Nat) : cnt f j ≤ j := by
  unfold cnt; have := List.length_filter_le f (List.range j); simpa using this
theorem cnt_succ (f : Nat → Bool) (j : Nat) : cnt f (j + 1) = cnt f j + if f j then 1 else 0 := by
  unfold cnt
  rw [List.range_succ, List.filter_append, List.length_append]
  congr 1
  cases h : f j <;> simp [List.filter_cons, h]
def difB (ws os : List G) (i : Nat) : Bool := !decide (os.getD i g0 = ws.getD i g0)
def errB (ws os : List G) (L : Nat → Bool) (i : Nat) : Bool := difB ws os i && !L i
theorem g_ne_test (a b : G) : (((a.v : Nat) : Int) != ((b.v : Nat) : Int)) = !decide (a = b) := by
  rw [Bool.eq_iff_iff]
  simp only [bne_iff_ne, ne_eq, Bool.not_eq_true', decide_eq_false_iff_not]
  constructor
  · intro h e; exact h (by rw [e])
  · intro h e; exact h (G.eq (by omega))
def cmpB (n p k : Nat) (ws os : List G) (L : Nat → Bool) : Bool := decide (2 * cnt (errB ws os L) n + k ≤ p) && (synL os p).all (fun x => decide (x = g0))

set_option maxRecDepth 100000 in
set_option maxHeartbeats 4000000 in
theorem compareL_any {D T : Nat} {Aw As : Option Addr} {n wc p sc : Nat} {ws ss : List G} {L : Nat → Bool} {k : Nat} (A : Option Addr) (c : Nat) (os : List G) (w : World) (h : Dmg w D T Aw As n wc p sc ws ss L k) (ho : os.length = n) (hA : Byts w A os) :
    Calls Tryz.prog 66 #[.pointer (some ⟨D, 0, none⟩), .slice A n c] w fun e w' => e = .returned (.tuple #[.int .i64 (cnt (difB ws os) n : Int), .bool (cmpB n p k ws os L)]) ∧ Gr w w' := by
  have HD := Lib.hid h
  have HO := Lib.hid ho
  have HA := Lib.hid hA
  have hn2 := h.n2
  have hp2 := h.p2
  have hk2 := h.k2
  have c0 := h.c0
  have c1 := h.c1
  have c2 := h.c2
  have c4 := h.c4
  clear h ho hA
  go_enter Tryz.func66, Tryz.ntmps66
  go_wp2_with fail
  go_loopw [4, 6, 12] (fun a b z wr => ∃ j : Nat, j ≤ n ∧ z = .int .i64 j ∧ a = .int .i64 (cnt (difB ws os) j : Int) ∧ b = .int .i64 (cnt (errB ws os L) j : Int) ∧ wr = w) (fun _ _ z _ => n - (intOf z).toNat)
  case atStart => exact ⟨0, Nat.zero_le _, rfl, rfl, rfl, rfl⟩
  case round =>
    obtain ⟨j, hj, rfl, rfl, rfl, rfl⟩ := hrel
    by_cases hlt : j < n
    · obtain ⟨b, o, rfl, d0⟩ := Byts_at HA.out (i := j) (by rw [HO.out]; exact hlt)
      obtain ⟨b', o', rfl, d1⟩ := Byts_at HD.out.word (i := j) (by rw [HD.out.wl]; exact hlt)
      have c3 := HD.out.c3 j (by omega)
      have h1 := Lib.hid (cnt_succ (difB ws os) j)
      have h2 := Lib.hid (cnt_succ (errB ws os L) j)
      have ht := g_ne_test (os.getD j g0) (ws.getD j g0)
      have hb1 := cnt_le (difB ws os) j
      have hb2 := cnt_le (errB ws os L) j
      have hdb : Hid (difB ws os j = !decide (os.getD j g0 = ws.getD j g0)) := Lib.hid rfl
      have heb : Hid (errB ws os L j = (difB ws os j && !L j)) := Lib.hid rfl
      generalize os.getD j g0 = x at d0 ht hdb
      generalize ws.getD j g0 = y at d1 ht hdb
      generalize hcd : cnt (difB ws os) j = cd at h1 hb1 ⊢
      generalize hce : cnt (errB ws os L) j = ce at h2 hb2 ⊢
      clear hcd hce
      have hj0 : (0 : Int) ≤ (j : Int) := by omega
      have hj1 : (j : Int) < 255 := by omega
      have hj2 : j < 255 := by omega
      generalize hl : L j = l at c3 heb
      clear hl
      rcases hd : decide (x = y) with _ | _
      · rw [hd] at ht hdb
        have hdt : Hid (difB ws os j = true) := Lib.hid (by rw [hdb.out]; rfl)
        clear hd
        cases l with
        | true =>
          have het : Hid (errB ws os L j = false) := Lib.hid (by rw [heb.out, hdt.out]; rfl)
          go_wp2_with fail
          go_roundw
          case rel => exact ⟨j + 1, by omega, by go_num, by rw [h1.out, hdt.out]; go_num, by rw [h2.out, het.out]; rfl, by trivial⟩
          case measure => simp [intOf]; omega
        | false =>
          have het : Hid (errB ws os L j = true) := Lib.hid (by rw [heb.out, hdt.out]; rfl)
          go_wp2_with fail
          go_roundw
          case rel => exact ⟨j + 1, by omega, by go_num, by rw [h1.out, hdt.out]; go_num, by rw [h2.out, het.out]; go_num, by trivial⟩
          case measure => simp [intOf]; omega
      · rw [hd] at ht hdb
        have hdt : Hid (difB ws os j = false) := Lib.hid (by rw [hdb.out]; rfl)
        have het : Hid (errB ws os L j = false) := Lib.hid (by rw [heb.out, hdt.out]; rfl)
        clear hd
        go_wp2_with fail
        go_roundw
        case rel => exact ⟨j + 1, by omega, by go_num, by rw [h1.out, hdt.out]; rfl, by rw [h2.out, het.out]; rfl, by trivial⟩
        case measure => simp [intOf]; omega
    · have hjn : j = n := by omega
      have hlt' : ¬ ((j : Int) < (n : Int)) := by omega
      have HJ := Lib.hid hjn
      have hb2 := cnt_le (errB ws os L) j
      have HC : Hid (cmpB n p k ws os L = (decide ((2 : Int) * (cnt (errB ws os L) j : Int) + (k : Int) ≤ (p : Int)) && (synL os p).all (fun x => decide (x = g0)))) := Lib.hid (by
        unfold cmpB; rw [hjn]; congr 1
        rw [decide_eq_decide]; omega)
      have HF : Hid (cnt (difB ws os) n = cnt (difB ws os) j) := Lib.hid (by rw [hjn])
      generalize cnt (errB ws os L) j = ce at hb2 HC ⊢
      generalize cnt (difB ws os) j = cd at HF ⊢
      clear hjn
      rcases ht : decide ((2 : Int) * (ce : Int) + (k : Int) ≤ (p : Int)) with _ | _
      · rw [ht] at HC
        go_wp2_with fail
        go_ret2
        exact ⟨by rw [HF.out, HC.out]; rfl, Gr.refl _⟩
      · rw [ht] at HC
        rcases hz : (synL os p).all (fun x => decide (x = g0)) with _ | _
        all_goals
          rw [hz] at HC
          have HZ := Lib.hid hz
          clear hz
          go_wp2_with fail
          refine (values_any T A n c os p _ HD.out.tabs HO.out (by omega) (by omega) HA.out).mono ?_
          rintro e w1 ⟨g1, rfl, hg1', hB, hg1⟩
          go_wp2_with fail
          refine (areZero_any (some ⟨g1, 0, none⟩) p p (synL os p) w1 (synL_len _ _) (by omega) hB.row.pts _ HZ.out).mono ?_
          rintro e w2 ⟨rfl, rfl⟩
          go_wp2_with fail
          go_ret2
          exact ⟨by rw [HF.out, HC.out]; rfl, hg1⟩
end Go.Proofs.YtpnkpejnahhajaaGreat

namespace Go.Proofs.YtpnkpejnahhajaaGreat
open Go.RowKit
set_option linter.unusedSimpArgs false

theorem cnt_congr {f g : Nat → Bool} {n : Nat} (h : ∀ x, x < n → f x = g x) : cnt f n = cnt g n := by
  unfold cnt
  rw [List.filter_congr (fun x hx => h x (by simpa using hx))]
theorem cnt_add (f : Nat → Bool) (i : Nat) (hf : f i = false) : ∀ n, i < n → cnt (fun x => f x || x == i) n = cnt f n + 1
  | n + 1, h => by
    rw [cnt_succ, cnt_succ]
    by_cases e : i = n
    · subst e
      rw [cnt_congr (g := f) (fun x hx => by have : (x == i) = false := by simp; omega
                                             rw [this, Bool.or_false])]
      simp [hf]
    · rw [cnt_add f i hf n (by omega)]
      have : (n == i) = false := by simp; omega
      rw [this, Bool.or_false]; omega
structure DC (cs : Array Value) (T : Nat) (Aw : Option Addr) (n wc : Nat) (v2 : Value) (L : Nat → Bool) (k : Nat) : Prop where
  sz : cs.size = 259
  e0 : cs[0]? = some (.pointer (some ⟨T, 0, none⟩))
  e1 : cs[1]? = some (.slice Aw n wc)
  e2 : cs[2]? = some v2
  e3 : ∀ i, i < 255 → cs[3 + i]? = some (.bool (L i))
  e4 : cs[258]? = some (.int .i64 (k : Int))
set_option maxRecDepth 1000000 in
theorem zero_damage : Tryz.zeroCells185 = #[.pointer none, .slice none 0 0, .slice none 0 0] ++ Array.replicate 255 (.bool false) ++ #[.int .i64 0] := by kernel_rfl
theorem DC.start (T : Nat) (Aw : Option Addr) (n wc : Nat) : DC ((Tryz.zeroCells185.setIfInBounds 0 (.pointer (some ⟨T, 0, none⟩))).setIfInBounds 1 (.slice Aw n wc)) T Aw n wc (.slice none 0 0) (fun _ => false) 0 := by
  rw [zero_damage]
  refine ⟨by simp, by simp [Array.getElem?_setIfInBounds], by simp [Array.getElem?_setIfInBounds], ?_, fun i hi => ?_, ?_⟩
  · simp [Array.getElem?_setIfInBounds, Array.getElem?_append]
  · have h1 : ¬ (0 = 3 + i) := by omega
    have h2 : ¬ (1 = 3 + i) := by omega
    have h3 : ¬ (i = 255) := by omega
    have h4 : 3 + i - 3 = i := by omega
    rw [Array.getElem?_setIfInBounds, if_neg h2, Array.getElem?_setIfInBounds, if_neg h1, Array.append_assoc, Array.getElem?_append_right (by simp), Array.getElem?_append_left (by simp; omega)]
    simp [hi]
  · rw [Array.getElem?_setIfInBounds, if_neg (by omega), Array.getElem?_setIfInBounds, if_neg (by omega), Array.getElem?_append_right (by simp)]
    simp
theorem DC.syn {cs : Array Value} {T : Nat} {Aw : Option Addr} {n wc : Nat} {v2 : Value} {L : Nat → Bool} {k : Nat} (h : DC cs T Aw n wc v2 L k) (v : Value) : DC (cs.setIfInBounds 2 v) T Aw n wc v L k := by
  obtain ⟨z, a, b, c, d, e⟩ := h
  refine ⟨by simpa using z, ?_, ?_, ?_, fun i hi => ?_, ?_⟩
  · rw [Array.getElem?_setIfInBounds, if_neg (by omega)]; exact a
  · rw [Array.getElem?_setIfInBounds, if_neg (by omega)]; exact b
  · rw [Array.getElem?_setIfInBounds, if_pos rfl, if_pos (by omega)]
  · rw [Array.getElem?_setIfInBounds, if_neg (by omega)]; exact d i hi
  · rw [Array.getElem?_setIfInBounds, if_neg (by omega)]; exact e
theorem DC.lose {cs : Array Value} {T : Nat} {Aw : Option Addr} {n wc : Nat} {v2 : Value} {L : Nat → Bool} {k : Nat} (h : DC cs T Aw n wc v2 L k) {i : Nat} (hi : i < 255) : DC ((cs.setIfInBounds (3 + i) (.bool true)).setIfInBounds 258 (.int .i64 ((k + 1 : Nat) : Int))) T Aw n wc v2 (fun x => L x || x == i) (k + 1) := by
  obtain ⟨z, a, b, c, d, e⟩ := h
  refine ⟨by simpa using z, ?_, ?_, ?_, fun x hx => ?_, ?_⟩
  · rw [Array.getElem?_setIfInBounds, if_neg (by omega), Array.getElem?_setIfInBounds, if_neg (by omega)]; exact a
  · rw [Array.getElem?_setIfInBounds, if_neg (by omega), Array.getElem?_setIfInBounds, if_neg (by omega)]; exact b
  · rw [Array.getElem?_setIfInBounds, if_neg (by omega), Array.getElem?_setIfInBounds, if_neg (by omega)]; exact c
  · rw [Array.getElem?_setIfInBounds, if_neg (by omega), Array.getElem?_setIfInBounds]
    by_cases hxi : x = i
    · subst hxi
      rw [if_pos rfl, if_pos (by omega)]; simp
    · rw [if_neg (by omega), d x hx]
      have : (x == i) = false := by simpa using hxi
      rw [this, Bool.or_false]
  · rw [Array.getElem?_setIfInBounds, if_pos rfl, if_pos (by simp; omega)]

/-- The positions that are lost. -/
def lostB (is : List Nat) : Nat → Bool := fun i => is.contains i
set_option maxRecDepth 100000 in
set_option maxHeartbeats 4000000 in
theorem newDamage_any (s : ByteArray) (p : Nat) (A : Option Addr) (m mc : Nat) (is : List Nat) (w : World) (hp : p ≤ 64) (hn1 : 1 ≤ s.size) (hn2 : s.size ≤ 255) (hm : is.length = m) (hl : m ≤ 255) (hi : ∀ i ∈ is, i < s.size) (hA : Ints w A (nats is)) :
    Calls Tryz.prog 64 #[.string s, .int .i64 (p : Int), .slice A m mc] w fun e w' => ∃ D T Aw As wc sc, e = .returned (.pointer (some ⟨D, 0, none⟩)) ∧ Dmg w' D T Aw As s.size wc p sc (gs s) (synL (gs s) p) (lostB is) (cnt (lostB is) s.size) ∧ Gr w w' := by
  have HM := Lib.hid hm
  have HI := Lib.hid hi
  have HA := Lib.hid hA
  clear hm hi hA
  go_enter Tryz.func64, Tryz.ntmps64
  go_wp2_with fail
  refine (newTables_any _).mono ?_
  rintro e w1 ⟨T, rfl, hT1, hT, hg1⟩
  have hcv := conv_bytes s w1
  have hgrow : s.size ≤ grownCap w1 s.size 0 5 := grownCap_ge w1 _ _ _
  go_wp2_with (simp only [hcv])
  obtain ⟨wa, hwa⟩ : ∃ wa, w1.alloc (.cells (bytesRow s (grownCap w1 s.size 0 5)) 5 ((bytesRow s (grownCap w1 s.size 0 5)).size, (bytesRow s (grownCap w1 s.size 0 5)).size + 1)) = wa := ⟨_, rfl⟩
  have hga : Gr w1 wa := by rw [← hwa]; exact (Gr.refl _).alloc _
  have hrd : Byts wa (some ⟨w1.heap.size, 0, none⟩) (gs s) := by rw [← hwa]; exact bytes_rd s w1 _ _
  have hsa : wa.heap.size = w1.heap.size + 1 := by rw [← hwa]; simp
  rw [hwa, ← hsa]
  clear hwa hcv
  obtain ⟨cs, hcs⟩ : ∃ cs, (Tryz.zeroCells185.setIfInBounds 0 (.pointer (some ⟨T, 0, none⟩))).setIfInBounds 1 (.slice (some ⟨w1.heap.size, 0, none⟩) s.size (grownCap w1 s.size 0 5)) = cs := ⟨_, rfl⟩
  have hdc : DC cs T (some ⟨w1.heap.size, 0, none⟩) s.size (grownCap w1 s.size 0 5) (.slice none 0 0) (fun _ => false) 0 := by rw [← hcs]; exact DC.start _ _ _ _
  rw [hcs]
  clear hcs
  generalize grownCap w1 s.size 0 5 = cw at hdc hgrow ⊢
  obtain ⟨wb, hwb⟩ : ∃ wb, (wa.alloc (.cells cs 185)).drew = wb := ⟨_, rfl⟩
  have hgb : Gr wa wb := by rw [← hwb]; exact ((Gr.refl _).alloc _).drew
  have hB : Blk wb wa.heap.size 185 cs := by rw [← hwb]; exact Blk.keep (Blk.new _ _ _ rfl) (Gr.refl _).drew
  rw [hwb]
  clear hwb
  have hgw : Gr w wb := (hg1.trans hga).trans hgb
  have hrdb : Byts wb (some ⟨w1.heap.size, 0, none⟩) (gs s) := hrd.keep hgb
  have hTb : Tabs T wb := hT.keep (hga.trans hgb)
  have hTl := hT.lt
  have h11 := hg1.size
  obtain ⟨D, hD⟩ : ∃ D, wa.heap.size = D := ⟨_, rfl⟩
  rw [hD] at hsa hB ⊢
  have hBD : w1.heap.size < D := by omega
  clear hsa
  generalize w1.heap.size = B1 at hrdb hBD hdc hTl h11 ⊢
  clear hgb hga hrd hT hg1 hD hgrow
  have HB := Lib.hid hB
  have HDC := Lib.hid hdc
  have HGW := Lib.hid hgw
  have HRD := Lib.hid hrdb
  have HTB := Lib.hid hTb
  have c0 : wb.cell? ⟨D, 0, none⟩ = some (.pointer (some ⟨T, 0, none⟩)) := (hB.cell 0).trans hdc.e0
  have c1 : wb.cell? ⟨D, 1, none⟩ = some (.slice (some ⟨B1, 0, none⟩) s.size cw) := (hB.cell 1).trans hdc.e1
  have c2 : wb.cell? ⟨D, 2, none⟩ = some (.slice none 0 0) := (hB.cell 2).trans hdc.e2
  have z2 := hB.free 2
  have hDl := hB.lt
  clear hB hdc hgw hrdb hTb
  have HV := Lib.hid (fun W (hg : Gr wb W) => values_any T (some ⟨B1, 0, none⟩) s.size cw (gs s) p W (HTB.out.keep hg) (gs_len s) (by omega) (by omega) (HRD.out.keep hg))
  go_cut [] from 15 to 27 (fun wx => ∃ g2, Hid (Blk wx D 185 (cs.setIfInBounds 2 (.slice (some ⟨g2, 0, none⟩) p p))) ∧ g2 ≠ D ∧ Hid (Byts wx (some ⟨g2, 0, none⟩) (synL (gs s) p)) ∧ Hid (Byts wx (some ⟨B1, 0, none⟩) (gs s)) ∧ Hid (Tabs T wx) ∧ Hid (Gr w wx))
  case first =>
    go_region_law (go_simp; go_at_call 101; refine (HV.out _ (by first | exact (Gr.refl _).drew | exact Gr.refl _)).mono ?_; rintro e w2 ⟨g2, rfl, hg2', hB2, hg2⟩; have k2 := hg2.keep c2; have kz := (frozen_gr hg2 hDl).trans z2)
    all_goals
      have hgx : Gr wb w2 := by first | exact hg2 | exact (Gr.refl _).drew.trans hg2
      have hne : g2 ≠ D := by have : wb.heap.size ≤ g2 := hg2'; omega
      go_wp2_with fail
      go_meet
      have hbD : Gb D w2 (w2.setCell ⟨D, 2, none⟩ (.slice (some ⟨g2, 0, none⟩) p p)) := (Gb.refl _ _).put 2 _
      exact ⟨g2, Lib.hid ((HB.out.keep hgx).put 2 _), hne, Lib.hid (hB2.row.gb hbD hne).pts, Lib.hid (Rd.gbx (HRD.out.keep hgx) hbD (by omega)), Lib.hid ((HTB.out.keep hgx).gb hbD (by omega)), Lib.hid (hbD.gr (HGW.out.trans hgx) (by omega))⟩
  case rest =>
    obtain ⟨g2, HB2, hne, HSY, HWD, HT2, HG2⟩ := hcut
    have HDC2 := Lib.hid (HDC.out.syn (.slice (some ⟨g2, 0, none⟩) p p))
    clear c0 c1 c2 z2 HV HB HDC HRD HTB HGW hDl
    go_wp2_with fail
    have HSN : Hid (∀ j, j < m → (fun x => (is.take (j + 1)).contains x) = (fun x => (is.take j).contains x || x == is.getD j 0)) := Lib.hid (fun j hj => by
      funext x
      rw [List.take_add_one, getD_of 0 (by have := HM.out; omega), Option.toList_some]
      rw [Bool.eq_iff_iff]
      simp)
    generalize hct0 : cs.setIfInBounds 2 (.slice (some ⟨g2, 0, none⟩) p p) = ct0 at HB2 HDC2
    clear hct0
    go_loopw [30] (fun z wr => ∃ (j : Nat) (ct : Array Value), j ≤ m ∧ z = .int .i64 j ∧ Hid (Blk wr D 185 ct) ∧ Hid (DC ct T (some ⟨B1, 0, none⟩) s.size cw (.slice (some ⟨g2, 0, none⟩) p p) (fun x => (is.take j).contains x) (cnt (fun x => (is.take j).contains x) s.size)) ∧ Hid (Gb D wc wr)) (fun z _ => m - (intOf z).toNat)
    case atStart => exact ⟨0, ct0, Nat.zero_le _, rfl, HB2, Lib.hid (by
      have := HDC2.out
      rw [show cnt (fun x => (is.take 0).contains x) s.size = 0 by unfold cnt; simp]
      simpa using this), Lib.hid (Gb.refl _ _)⟩
    case round =>
      obtain ⟨j, ct, hj, rfl, hB, hC, hG⟩ := hrel
      by_cases hlt : j < m
      · have hjl : j < is.length := by have := HM.out; omega
        have hgr := hG.out.gr HG2.out (by omega)
        obtain ⟨b, off, rfl, c0⟩ := Ints_at (HA.out.keep hgr) (i := j) (by rw [nats_len]; exact hjl)
        rw [nats_at hjl] at c0
        have hin := HI.out (is.getD j 0) (by rw [List.getD_eq_getElem?_getD, List.getElem?_eq_getElem hjl]; exact List.getElem_mem hjl)
        have HS1 := Lib.hid (HSN.out j hlt)
        generalize is.getD j 0 = i at c0 hin HS1
        have i0 : (0 : Int) ≤ (i : Int) := by omega
        have i1 : (i : Int) < 255 := by omega
        have i2 : i < 255 := by omega
        have d3 := (hB.out.cell (3 + i)).trans (hC.out.e3 i i2)
        have d4 := (hB.out.cell 258).trans hC.out.e4
        have z3 := hB.out.free (3 + i)
        have z4 := hB.out.free 258
        have hkb := cnt_le (fun x => (is.take j).contains x) s.size
        rcases hL : (is.take j).contains i with _ | _
        · rw [hL] at d3
          have HLS := Lib.hid (hC.out.lose i2)
          have HCA := Lib.hid (cnt_add (fun x => (is.take j).contains x) i hL s.size hin)
          rw [← HS1.out] at HLS HCA
          generalize cnt (fun x => (is.take j).contains x) s.size = kk at d4 HLS HCA hkb
          clear hL
          go_wp2_with fail
          go_roundw
          case rel =>
            refine ⟨j + 1, _, by omega, by go_num, Lib.hid ((hB.out.put (3 + i) (.bool true)).put 258 (.int .i64 ((kk + 1 : Nat) : Int))), ?_, Lib.hid ((hG.out.put (3 + i) _).put 258 _)⟩
            rw [HCA.out]; exact HLS
          case measure => simp [intOf]; omega
        · rw [hL] at d3
          have HEQ : Hid ((fun x => (is.take (j + 1)).contains x) = (fun x => (is.take j).contains x)) := Lib.hid (by
            rw [HS1.out]; funext x
            by_cases e : x = i
            · subst e; rw [hL]; rfl
            · rw [show (x == i) = false by simpa using e, Bool.or_false])
          clear hL
          go_wp2_with fail
          go_roundw
          case rel => exact ⟨j + 1, ct, by omega, by go_num, hB, by rw [HEQ.out]; exact hC, hG⟩
          case measure => simp [intOf]; omega
      · have hjm : j = m := by omega
        have hlt' : ¬ ((j : Int) < (m : Int)) := by omega
        have HT : Hid (is.take j = is) := Lib.hid (List.take_of_length_le (by rw [HM.out]; omega))
        rw [HT.out] at hC
        clear hjm
        go_wp2_with fail
        try rw [Exit.noGoto_ret]
        go_ret
        have hgr := hG.out.gr HG2.out (by omega)
        have hfin : Dmg wr D T (some ⟨B1, 0, none⟩) (some ⟨g2, 0, none⟩) s.size cw p p (gs s) (synL (gs s) p) (lostB is) (cnt (lostB is) s.size) :=
          ⟨HT2.out.gb hG.out (by omega), (hB.out.cell 0).trans hC.out.e0, (hB.out.cell 1).trans hC.out.e1, (hB.out.cell 2).trans hC.out.e2, fun i hi => (hB.out.cell (3 + i)).trans (hC.out.e3 i hi), (hB.out.cell 258).trans hC.out.e4, Rd.gbx HWD.out hG.out (by omega), Rd.gbx HSY.out hG.out hne, gs_len s, synL_len _ _, hn1, hn2, hp, Nat.le_trans (cnt_le _ _) hn2⟩
        first
        | exact ⟨D, rfl, ⟨_, _, _, _, _, hfin⟩, hgr⟩
        | exact ⟨D, _, _, _, _, _, rfl, hfin, hgr⟩
end Go.Proofs.YtpnkpejnahhajaaGreat
