/- Layer 5: what a net is in memory: blocks, each with what it holds; no two of them the same. -/
import Derived.Test.YtnoeiocbmhkmeaaGreatBu0
import Derived.Test.YtnoeiocbmhkmeaaGreatBu1
import Derived.Deep.CutRange
import Derived.StillTailTactics
namespace Go.Proofs.YtnoeiocbmhkmeaaGreat
open Go.RowKit
open Go.Maps (Keyed)
set_option linter.unusedSimpArgs false
set_option maxRecDepth 100000
set_option maxHeartbeats 80000000

abbrev Mv := Int × Int
abbrev Ml := Int × Int × Int × Int × Int
def enc5m (m : Ml) : List Value := [.int .i64 m.1, .int .i64 m.2.1, .int .i64 m.2.2.1, .int .i64 m.2.2.2.1, .int .i64 m.2.2.2.2]
theorem enc5m_len (m : Ml) : (enc5m m).length = 5 := rfl
theorem enc5m_one (m : Ml) : ∀ u ∈ enc5m m, u.oneCell' = true := by intro u hu; simp [enc5m] at hu; rcases hu with rfl | rfl | rfl | rfl | rfl <;> rfl
def encP (p : Nat) : List Value := [.pointer (some ⟨p, 0, none⟩)]
theorem encP_len (p : Nat) : (encP p).length = 1 := rfl
def intK (x : Int) : Value := .int .i64 x
theorem intK_inj (a b : Int) (h : intK a = intK b) : a = b := by injection h
def boolV (b : Bool) : Value := .bool b
def promV (c : Int × Int) : Value := .agg #[.int .i64 c.1, .int .i64 c.2]
structure Dl where
 parts : List Mv
 miss : List (Int × Bool)
 b : Nat
 c : Nat
 g : Nat
def dlV (d : Dl) : Value := .agg #[.slice (some ⟨d.b, 0, none⟩) d.parts.length d.c, .map (some d.g)]
structure Sx where
 num : Int
 stock : Int
 up : Bool
 prom : List (Int × (Int × Int))
 kept : List (Int × Bool)
 drop : List (Int × Bool)
 opn : List (Int × Dl)
 grt : List (Int × Dl)
 p : Nat
 mp : Nat
 mq : Nat
 mr : Nat
 mo : Nat
 mg : Nat
structure Nx where
 sites : List Sx
 mail : List Ml
 begun : Int
 p : Nat
 sv : Value
 lv : Value
inductive Ds where
 | cells (t : TypeId) (cs : Array Value)
 | moves (l : List Mv)
 | bools (l : List (Int × Bool))
 | proms (l : List (Int × (Int × Int)))
 | deals (l : List (Int × Dl))
def Holds5 (w : World) (g : Nat) : Ds → Prop
 | .cells t cs => Blk w g t cs
 | .moves l => g < w.heap.size ∧ Pts w (some ⟨g, 0, none⟩) l
 | .bools l => Mp Tryz.prog 3 intK boolV w g l
 | .proms l => Mp Tryz.prog 3 intK promV w g l
 | .deals l => Mp Tryz.prog 3 intK dlV w g l
theorem Holds5.lt {w : World} {g : Nat} {D : Ds} (h : Holds5 w g D) : g < w.heap.size := by
 cases D with
 | cells t cs => exact Blk.lt h
 | moves l => exact h.1
 | bools l => exact Mp.lt h
 | proms l => exact Mp.lt h
 | deals l => exact Mp.lt h
theorem Mp.block {α β : Type} {P : Program} {k : TypeId} {K : α → Value} {V : β → Value} {w w' : World} {g : Nat} {l : List (α × β)} (h : Mp P k K V w g l) (hb : w'.heap[g]? = w.heap[g]?) : Mp P k K V w' g l := by
 obtain ⟨es, clock, h1, r⟩ := h
 exact ⟨es, clock, hb.trans h1, r⟩
theorem Holds5.block {w w' : World} {g : Nat} {D : Ds} (h : Holds5 w g D) (hb : w'.heap[g]? = w.heap[g]?) : Holds5 w' g D := by
 have hlt := h.lt
 have hlt' : g < w'.heap.size := by
  rw [Array.getElem?_eq_getElem hlt] at hb
  exact (Array.getElem?_eq_some_iff.1 hb).1
 cases D with
 | cells t cs => exact hb.trans h
 | moves l =>
   refine ⟨hlt', fun i x hx => ?_⟩
   obtain ⟨b, off, e, hc⟩ := h.2 i x hx
   injection e with e
   injection e with e1 e2
   refine ⟨g, 0, rfl, fun j v hv => ?_⟩
   have h2 := hc j v hv
   rw [← e1, ← e2] at h2
   exact (World.cell?_of_block hb).trans h2
 | bools l => exact Mp.block h hb
 | proms l => exact Mp.block h hb
 | deals l => exact Mp.block h hb

def dlIt (e : Int × Dl) : List (Nat × Ds) := [(e.2.b, .moves e.2.parts), (e.2.g, .bools e.2.miss)]
def siteCs (s : Sx) : Array Value := #[.int .i64 s.num, .int .i64 s.stock, .bool s.up, .map (some s.mp), .map (some s.mq), .map (some s.mr), .map (some s.mo), .map (some s.mg)]
def siteIt (s : Sx) : List (Nat × Ds) :=
 [(s.p, .cells 84 (siteCs s)), (s.mp, .proms s.prom), (s.mq, .bools s.kept), (s.mr, .bools s.drop), (s.mo, .deals s.opn), (s.mg, .deals s.grt)] ++ (s.opn.flatMap dlIt ++ s.grt.flatMap dlIt)
def netIt (N : Nx) : List (Nat × Ds) := (N.p, .cells 68 #[N.sv, N.lv, .int .i64 N.begun]) :: N.sites.flatMap siteIt
def blks (l : List (Nat × Ds)) : List Nat := l.map (·.1)
structure Its (B : Nat) (w : World) (l : List (Nat × Ds)) : Prop where
 all : ∀ it ∈ l, Holds5 w it.1 it.2 ∧ B ≤ it.1
 nod : (blks l).Nodup
structure NetR (B : Nat) (w : World) (N : Nx) : Prop where
 its : Its B w (netIt N)
 sites : w.ownsRow B 69 1 N.sv N.sites.length (flatE encP (N.sites.map (·.p)))
 mail : w.ownsRow B 59 5 N.lv N.mail.length (flatE enc5m N.mail)
 spot : N.sv.ownBlock = none ∨ N.sv.ownBlock ≠ N.lv.ownBlock
 away : ∀ it ∈ netIt N, N.sv.ownBlock ≠ some it.1 ∧ N.lv.ownBlock ≠ some it.1
 le : B ≤ w.heap.size

structure Ch (S : List Nat) (w w' : World) : Prop where
 os : w'.os = w.os
 tape : w'.tape = w.tape
 output : w'.output = w.output
 size : w.heap.size ≤ w'.heap.size
 block : ∀ g, g < w.heap.size → g ∉ S → w'.heap[g]? = w.heap[g]?
section
variable {S T : List Nat} {w w' a b c : World} {B : Nat}
theorem Ch.of (h : Gr w w') : Ch S w w' := ⟨h.os, h.tape, h.output, h.size, fun g hg _ => Below.block h g hg⟩
theorem Ch.refl : Ch S w w := Ch.of (Gr.refl w)
theorem Ch.gb {g : Nat} (h : Gb g w w') (hg : g ∈ S) : Ch S w w' := ⟨h.os, h.tape, h.output, Gb.size h, fun i hi hn => World.grownBy.block h i hi (fun e => hn (by injection e with e; rw [e]; exact hg))⟩
theorem Ch.trans (h : Ch S a b) (k : Ch T b c) (hT : ∀ g ∈ T, g ∈ S ∨ a.heap.size ≤ g) : Ch S a c :=
 ⟨k.os.trans h.os, k.tape.trans h.tape, k.output.trans h.output, Nat.le_trans h.size k.size, fun g hg hs =>
   (k.block g (Nat.lt_of_lt_of_le hg h.size) (fun hm => (hT g hm).elim hs (fun h2 => by omega))).trans (h.block g hg hs)⟩
theorem Ch.gr (h : Ch S a b) (k : Gr b c) : Ch S a c := h.trans (T := []) (Ch.of k) (fun _ hm => (by cases hm))
theorem Ch.mono (h : Ch S a b) (hs : ∀ g ∈ S, g ∈ T) : Ch T a b := ⟨h.os, h.tape, h.output, h.size, fun g hg hn => h.block g hg (fun hm => hn (hs g hm))⟩
theorem Ch.set (h : Ch S a b) {p : Addr} (hp : p.block ∈ S) (u : Value) : Ch S a (b.setCell p u) :=
 ⟨h.os, h.tape, h.output, by simpa [World.setCell] using h.size, fun g hg hs => by
   have hne : g ≠ p.block := fun e => hs (e ▸ hp)
   exact (Below.heap_setCell b p u g hne).trans (h.block g hg hs)⟩
theorem Ch.up (h : Ch S a b) {w0 : World} (h0 : Gr w0 a) (hs : ∀ g ∈ S, w0.heap.size ≤ g) : Gr w0 b :=
 ⟨h.os.trans h0.os, h.tape.trans h0.tape, h.output.trans h0.output, Nat.le_trans h0.size h.size, fun g hg =>
   (h.block g (Nat.lt_of_lt_of_le hg h0.size) (fun hm => by have := hs g hm; omega)).trans (Below.block h0 g hg)⟩
theorem Holds5.ch {g : Nat} {D : Ds} (h : Holds5 w g D) (hc : Ch S w w') (hn : g ∉ S) : Holds5 w' g D := h.block (hc.block g h.lt hn)
theorem Holds5.keep {g : Nat} {D : Ds} (h : Holds5 w g D) (hg : Gr w w') : Holds5 w' g D := h.block (Below.block hg g h.lt)

theorem blks_app (l m : List (Nat × Ds)) : blks (l ++ m) = blks l ++ blks m := List.map_append
theorem mem_blks {l : List (Nat × Ds)} {it : Nat × Ds} (h : it ∈ l) : it.1 ∈ blks l := List.mem_map_of_mem h
theorem Its.keep {l : List (Nat × Ds)} (h : Its B w l) (hg : Gr w w') : Its B w' l := ⟨fun it hm => ⟨(h.all it hm).1.keep hg, (h.all it hm).2⟩, h.nod⟩
theorem Its.lt {l : List (Nat × Ds)} (h : Its B w l) {g : Nat} (hg : g ∈ blks l) : g < w.heap.size ∧ B ≤ g := by
 obtain ⟨it, hm, rfl⟩ := List.mem_map.1 hg
 exact ⟨(h.all it hm).1.lt, (h.all it hm).2⟩
theorem Its.at {l : List (Nat × Ds)} (h : Its B w l) {g : Nat} {D : Ds} (hm : (g, D) ∈ l) : Holds5 w g D := (h.all (g, D) hm).1
theorem Its.part {l m r : List (Nat × Ds)} (h : Its B w (l ++ m ++ r)) : Its B w m :=
 ⟨fun it hm => h.all it (by simp [hm]), by
   have h1 := h.nod
   rw [blks_app, blks_app] at h1
   exact (List.nodup_append.1 (List.nodup_append.1 h1).1).2.1⟩
theorem Its.mid {l m m' r : List (Nat × Ds)} (h : Its B w (l ++ m ++ r)) (hc : Ch S w w') (hS : ∀ g ∈ S, g ∈ blks m ∨ w.heap.size ≤ g) (hm : Its B w' m') (hs : ∀ g ∈ blks m', g ∈ blks m ∨ w.heap.size ≤ g) : Its B w' (l ++ m' ++ r) := by
 have h1 := h.nod
 rw [blks_app, blks_app] at h1
 obtain ⟨h2, h3, h4⟩ := List.nodup_append.1 h1
 obtain ⟨h5, h6, h7⟩ := List.nodup_append.1 h2
 have hl : ∀ g ∈ blks l, g < w.heap.size := fun g hg => (h.lt (by rw [blks_app, blks_app]; simp [hg])).1
 have hr : ∀ g ∈ blks r, g < w.heap.size := fun g hg => (h.lt (by rw [blks_app, blks_app]; simp [hg])).1
 have nl : ∀ g ∈ blks l, ∀ g', (g' ∈ blks m ∨ w.heap.size ≤ g') → g ≠ g' := fun g hg g' h' => by
  rcases h' with h' | h'
  ·exact h7 g hg g' h'
  ·have := hl g hg; omega
 have nr : ∀ g ∈ blks r, ∀ g', (g' ∈ blks m ∨ w.heap.size ≤ g') → g' ≠ g := fun g hg g' h' => by
  rcases h' with h' | h'
  ·exact h4 g' (by simp [h']) g hg
  ·have := hr g hg; omega
 refine ⟨fun it hm' => ?_, ?_⟩
 ·rcases List.mem_append.1 hm' with hm' | hm'
  ·rcases List.mem_append.1 hm' with hm' | hm'
   ·have h8 := h.all it (by simp [hm'])
    exact ⟨h8.1.ch hc (fun hg => nl _ (mem_blks hm') _ (hS _ hg) rfl), h8.2⟩
   ·exact hm.all it hm'
  ·have h8 := h.all it (by simp [hm'])
   exact ⟨h8.1.ch hc (fun hg => nr _ (mem_blks hm') _ (hS _ hg) rfl), h8.2⟩
 ·rw [blks_app, blks_app]
  refine List.nodup_append.2 ⟨List.nodup_append.2 ⟨h5, hm.nod, fun g hg g' hg' => nl g hg g' (hs g' hg')⟩, h3, fun g hg g' hg' => ?_⟩
  rcases List.mem_append.1 hg with hg | hg
  ·exact h4 g (by simp [hg]) g' hg'
  ·exact nr g' hg' g (hs g hg)
theorem Its.one {g : Nat} {D : Ds} (h : Holds5 w g D) (hB : B ≤ g) : Its B w [(g, D)] := ⟨fun it hm => by obtain rfl := List.mem_singleton.1 hm; exact ⟨h, hB⟩, by simp [blks]⟩
theorem Its.nil : Its B w [] := ⟨fun _ h => (by cases h), by simp [blks]⟩
theorem Its.turn {l r : List (Nat × Ds)} {g : Nat} {D D' : Ds} (h : Its B w (l ++ [(g, D)] ++ r)) (hc : Gb g w w') (hD : Holds5 w' g D') : Its B w' (l ++ [(g, D')] ++ r) :=
 h.mid (S := [g]) (Ch.gb hc (by simp)) (fun x hx => Or.inl (by simpa [blks] using hx)) (Its.one hD (h.lt (g := g) (by simp [blks])).2) (fun x hx => Or.inl (by simpa [blks] using hx))
theorem Its.aside {l : List (Nat × Ds)} (h : Its B w l) {row : Option Nat} (hg : w.grownBy w' row) (hn : ∀ it ∈ l, row ≠ some it.1) : Its B w' l :=
 ⟨fun it hm => ⟨(h.all it hm).1.block (World.grownBy.block hg it.1 (h.all it hm).1.lt (fun e => hn it hm e.symm)), (h.all it hm).2⟩, h.nod⟩
theorem Its.more {l m : List (Nat × Ds)} (h : Its B w l) (hg : Gr w w') (hm : Its B w' m) (hn : ∀ g ∈ blks m, w.heap.size ≤ g) : Its B w' (l ++ m) := by
 have := Its.mid (S := []) (l := l) (m := []) (r := []) (m' := m) (by simpa using h) (Ch.of hg) (fun _ h => by cases h) hm (fun g hg => Or.inr (hn g hg))
 simpa using this
theorem Its.less {l m r : List (Nat × Ds)} (h : Its B w (l ++ m ++ r)) : Its B w (l ++ r) := by
 have := Its.mid (S := []) (m' := []) h (Ch.refl) (fun _ h => (by cases h)) Its.nil (fun _ h => (by cases h))
 simpa using this
end

end Go.Proofs.YtnoeiocbmhkmeaaGreat

namespace Go.Proofs.YtnoeiocbmhkmeaaGreat
open Go.RowKit
set_option linter.unusedSimpArgs false
set_option maxRecDepth 100000
set_option maxHeartbeats 80000000

section
variable {B : Nat} {w : World} {N : Nx}
theorem NetR.blk (h : NetR B w N) : Blk w N.p 68 #[N.sv, N.lv, .int .i64 N.begun] := h.its.at (g := N.p) (D := .cells _ _) (by unfold netIt; exact List.mem_cons_self)
theorem NetR.arr (h : NetR B w N) : ∃ A c, N.sv = .slice A N.sites.length c ∧ Rd 1 encP w A (N.sites.map (·.p)) := by
 obtain ⟨A, c, e, -, hr, -⟩ := own_row encP_len (xs := N.sites.map (·.p)) (by simp) h.sites
 exact ⟨A, c, e, hr⟩
theorem NetR.box (h : NetR B w N) : ∃ A c, N.lv = .slice A N.mail.length c ∧ Rd 5 enc5m w A N.mail := by
 obtain ⟨A, c, e, -, hr, -⟩ := own_row enc5m_len rfl h.mail
 exact ⟨A, c, e, hr⟩
theorem NetR.keep {w' : World} (h : NetR B w N) (hg : Gr w w') : NetR B w' N :=
 ⟨h.its.keep hg, owns_gr h.sites hg, owns_gr h.mail hg, h.spot, h.away, Nat.le_trans h.le hg.size⟩
theorem NetR.few (h : NetR B w N) : N.sites.length ≤ 9223372036854775807 := by
 rcases h.sites.2 with ⟨-, e⟩ | ⟨g, cap, cur, e, -, -, h1, h2, -⟩
 ·omega
 ·unfold maxLen at h2; omega
theorem NetR.few2 (h : NetR B w N) : N.mail.length ≤ 9223372036854775807 := by
 rcases h.mail.2 with ⟨-, e⟩ | ⟨g, cap, cur, e, -, -, h1, h2, -⟩
 ·omega
 ·unfold maxLen at h2; omega
theorem mem_site {N : Nx} {s : Sx} (hs : s ∈ N.sites) {it : Nat × Ds} (hi : it ∈ siteIt s) : it ∈ netIt N := by
 unfold netIt
 exact List.mem_cons_of_mem _ (List.mem_flatMap.2 ⟨s, hs, hi⟩)
theorem NetR.site (h : NetR B w N) {s : Sx} (hs : s ∈ N.sites) : Blk w s.p 84 (siteCs s) := h.its.at (D := .cells _ _) (mem_site hs (by simp [siteIt]))
def refS (N : Nx) (i : Int) : Int := if N.sites.length = 0 then 1 else if i < 0 ∨ (N.sites.length : Int) ≤ i then 3 else 0
def refL (N : Nx) (i : Int) : Int := if N.sites.length = 0 then 1 else if i < 0 ∨ (N.mail.length : Int) ≤ i then 3 else 0
end

theorem Sites_any {B : Nat} {w : World} {N : Nx} (h : NetR B w N) : Calls Tryz.prog 38 #[.pointer (some ⟨N.p, 0, none⟩)] w fun e w' => e = .returned (.int .i64 (N.sites.length : Int)) ∧ w' = w := by
 have n0 := h.blk.cell 0
 obtain ⟨A, c, e, -⟩ := h.arr
 simp only [List.getElem?_toArray, List.getElem?_cons_zero] at n0
 rw [e] at n0
 clear e h
 go_enter Tryz.func38, Tryz.ntmps38
 go_wp2_with fail
 go_ret
 exact ⟨rfl, rfl⟩
theorem usable_any {B : Nat} {w : World} {N : Nx} (h : NetR B w N) : Calls Tryz.prog 55 #[.pointer (some ⟨N.p, 0, none⟩)] w fun e w' => e = .returned (.bool (decide (0 < N.sites.length))) ∧ w' = w := by
 have HS := Lib.hid (Sites_any h)
 have hf := h.few
 clear h
 generalize N.sites.length = n at HS hf ⊢
 go_enter Tryz.func55, Tryz.ntmps55
 go_wp2_with fail
 refine HS.out.mono ?_
 rintro e w1 ⟨rfl, rfl⟩
 go_wp2_with fail
 go_ret
 exact ⟨rfl, rfl⟩
theorem refSite_any {B : Nat} {w : World} {N : Nx} (h : NetR B w N) (i : Int) : Calls Tryz.prog 43 #[.pointer (some ⟨N.p, 0, none⟩), .int .i64 i] w fun e w' => e = .returned (.int .i64 (refS N i)) ∧ w' = w := by
 have HU := Lib.hid (usable_any h)
 have n0 := h.blk.cell 0
 have hf := h.few
 obtain ⟨A, c, e, -⟩ := h.arr
 simp only [List.getElem?_toArray, List.getElem?_cons_zero] at n0
 rw [e] at n0
 obtain ⟨r, hr⟩ : ∃ r, refS N i = r := ⟨_, rfl⟩
 rw [hr]
 unfold refS at hr
 clear e h
 generalize N.sites.length = n at HU hf n0 hr ⊢
 have HR := Lib.hid hr
 clear hr
 go_enter Tryz.func43, Tryz.ntmps43
 go_wp2_with fail
 refine HU.out.mono ?_
 rintro e w1 ⟨rfl, rfl⟩
 by_cases h0 : n = 0
 ·subst h0
  go_wp2_with fail
  go_ret
  exact ⟨ret_int (by rw [← HR.out]; rfl), rfl⟩
 ·have h1 : 0 < n := by omega
  by_cases h2 : i < 0
  ·go_wp2_with fail
   go_ret
   exact ⟨ret_int (by rw [← HR.out, if_neg h0, if_pos (Or.inl h2)]), rfl⟩
  ·by_cases h3 : (n : Int) ≤ i
   ·go_wp2_with fail
    go_ret
    exact ⟨ret_int (by rw [← HR.out, if_neg h0, if_pos (Or.inr h3)]), rfl⟩
   ·go_wp2_with fail
    go_ret
    exact ⟨ret_int (by rw [← HR.out, if_neg h0, if_neg (by omega)]), rfl⟩
theorem refLetter_any {B : Nat} {w : World} {N : Nx} (h : NetR B w N) (i : Int) : Calls Tryz.prog 50 #[.pointer (some ⟨N.p, 0, none⟩), .int .i64 i] w fun e w' => e = .returned (.int .i64 (refL N i)) ∧ w' = w := by
 have HU := Lib.hid (usable_any h)
 have n0 := h.blk.cell 1
 have hf := h.few
 have hf2 := h.few2
 obtain ⟨A, c, e, -⟩ := h.box
 simp only [List.getElem?_toArray, List.getElem?_cons_succ, List.getElem?_cons_zero] at n0
 rw [e] at n0
 obtain ⟨r, hr⟩ : ∃ r, refL N i = r := ⟨_, rfl⟩
 rw [hr]
 unfold refL at hr
 clear e h
 generalize N.sites.length = n at HU hf hr ⊢
 generalize N.mail.length = m at hf2 n0 hr ⊢
 have HR := Lib.hid hr
 clear hr
 go_enter Tryz.func50, Tryz.ntmps50
 go_wp2_with fail
 refine HU.out.mono ?_
 rintro e w1 ⟨rfl, rfl⟩
 by_cases h0 : n = 0
 ·subst h0
  go_wp2_with fail
  go_ret
  exact ⟨ret_int (by rw [← HR.out]; rfl), rfl⟩
 ·have h1 : 0 < n := by omega
  by_cases h2 : i < 0
  ·go_wp2_with fail
   go_ret
   exact ⟨ret_int (by rw [← HR.out, if_neg h0, if_pos (Or.inl h2)]), rfl⟩
  ·by_cases h3 : (m : Int) ≤ i
   ·go_wp2_with fail
    go_ret
    exact ⟨ret_int (by rw [← HR.out, if_neg h0, if_pos (Or.inr h3)]), rfl⟩
   ·go_wp2_with fail
    go_ret
    exact ⟨ret_int (by rw [← HR.out, if_neg h0, if_neg (by omega)]), rfl⟩

end Go.Proofs.YtnoeiocbmhkmeaaGreat

namespace Go.Proofs.YtnoeiocbmhkmeaaGreat
open Go.RowKit
open Go.Maps (Keyed)
set_option linter.unusedSimpArgs false
set_option maxRecDepth 100000
set_option maxHeartbeats 80000000

def I64 (x : Int) : Prop := -9223372036854775808 ≤ x ∧ x ≤ 9223372036854775807
theorem intp_law : Keyed Tryz.prog 3 := Go.Maps.int_keyed Tryz.underlying3
theorem intp_key {a : Int} (h : I64 a) : ∃ kl, keyOf Tryz.prog 3 (intK a) = some kl := by
 have hwf : (Lit.int .i64 a).wf = true := by
  have e1 : IntKind.i64.min = -9223372036854775808 := by decide
  have e2 : IntKind.i64.max = 9223372036854775807 := by decide
  simp [Lit.wf, e1, e2]
  unfold I64 at h; omega
 exact ⟨.int .i64 a, by simp [keyOf, mapKey, intK, Tryz.underlying3, hwf]⟩
section
variable {B : Nat} {w : World} {s : Sx}
theorem Its.sBlk (h : Its B w (siteIt s)) : Blk w s.p 84 (siteCs s) := h.at (D := .cells _ _) (by simp [siteIt])
theorem Its.sProm (h : Its B w (siteIt s)) : Mp Tryz.prog 3 intK promV w s.mp s.prom := h.at (D := .proms _) (by simp [siteIt])
theorem Its.sKept (h : Its B w (siteIt s)) : Mp Tryz.prog 3 intK boolV w s.mq s.kept := h.at (D := .bools _) (by simp [siteIt])
theorem Its.sDrop (h : Its B w (siteIt s)) : Mp Tryz.prog 3 intK boolV w s.mr s.drop := h.at (D := .bools _) (by simp [siteIt])
theorem Its.sOpn (h : Its B w (siteIt s)) : Mp Tryz.prog 3 intK dlV w s.mo s.opn := h.at (D := .deals _) (by simp [siteIt])
theorem Its.sGrt (h : Its B w (siteIt s)) : Mp Tryz.prog 3 intK dlV w s.mg s.grt := h.at (D := .deals _) (by simp [siteIt])
theorem Its.sCells (h : Its B w (siteIt s)) : w.cell? ⟨s.p, 0, none⟩ = some (.int .i64 s.num) ∧ w.cell? ⟨s.p, 1, none⟩ = some (.int .i64 s.stock) ∧ w.cell? ⟨s.p, 2, none⟩ = some (.bool s.up) ∧ w.cell? ⟨s.p, 3, none⟩ = some (.map (some s.mp)) ∧ w.cell? ⟨s.p, 4, none⟩ = some (.map (some s.mq)) ∧
 w.cell? ⟨s.p, 5, none⟩ = some (.map (some s.mr)) ∧ w.cell? ⟨s.p, 6, none⟩ = some (.map (some s.mo)) ∧ w.cell? ⟨s.p, 7, none⟩ = some (.map (some s.mg)) :=
 ⟨h.sBlk.cell 0, h.sBlk.cell 1, h.sBlk.cell 2, h.sBlk.cell 3, h.sBlk.cell 4, h.sBlk.cell 5, h.sBlk.cell 6, h.sBlk.cell 7⟩
end
def outS (s : Sx) (tx : Int) : Int := if (mget s.prom tx).isSome then 1 else if (mget s.kept tx).getD false then 2 else if (mget s.drop tx).getD false then 3 else 0

theorem look_bool {w : World} {g : Nat} {l : List (Int × Bool)} {tx : Int} (h : Mp Tryz.prog 3 intK boolV w g l) (htx : I64 tx) : (Instr.lookup 81 (.map (some g)) (.int .i64 tx) false).run Tryz.prog w = .ok (.bool ((mget l tx).getD false)) w := by
 obtain ⟨kl, hk⟩ := intp_key htx
 have := h.look intK_inj intp_law Tryz.underlying81 (z := .bool false) (by kernel_rfl) false hk
 rw [show (.int .i64 tx : Value) = intK tx from rfl, this]
 cases mget l tx <;> rfl
theorem look_prom {w : World} {g : Nat} {l : List (Int × (Int × Int))} {tx : Int} (h : Mp Tryz.prog 3 intK promV w g l) (htx : I64 tx) : (Instr.lookup 80 (.map (some g)) (.int .i64 tx) true).run Tryz.prog w = .ok (.tuple #[promV ((mget l tx).getD (0, 0)), .bool (mget l tx).isSome]) w := by
 obtain ⟨kl, hk⟩ := intp_key htx
 have := h.look intK_inj intp_law Tryz.underlying80 (z := promV (0, 0)) (by kernel_rfl) true hk
 rw [show (.int .i64 tx : Value) = intK tx from rfl, this]
 cases mget l tx <;> rfl
theorem outcome_any {B : Nat} {s : Sx} (tx : Int) (w : World) (h : Its B w (siteIt s)) (htx : I64 tx) : Calls Tryz.prog 48 #[.pointer (some ⟨s.p, 0, none⟩), .int .i64 tx] w fun e w' => e = .returned (.int .i64 (outS s tx)) ∧ Gr w w' := by
 obtain ⟨-, -, -, c3, c4, c5, -, -⟩ := h.sCells
 have l1 := look_prom h.sProm htx
 have l2 := fun o => look_bool (h.sKept.keep ((Gr.refl w).alloc o)) htx
 have l3 := fun o => look_bool (h.sDrop.keep ((Gr.refl w).alloc o)) htx
 have HO : Hid (outS s tx = if (mget s.prom tx).isSome then 1 else if (mget s.kept tx).getD false then 2 else if (mget s.drop tx).getD false then 3 else 0) := Lib.hid rfl
 obtain ⟨r, hr⟩ : ∃ r, outS s tx = r := ⟨_, rfl⟩
 rw [hr] at HO ⊢
 clear h hr
 generalize (mget s.prom tx).isSome = b1 at l1 HO
 generalize (mget s.prom tx).getD (0, 0) = pr at l1
 generalize (mget s.kept tx).getD false = b2 at l2 HO
 generalize (mget s.drop tx).getD false = b3 at l3 HO
 obtain ⟨p1, p2⟩ := pr
 unfold promV at l1
 go_enter Tryz.func48, Tryz.ntmps48
 cases b1 with
 | true =>
   go_wp2_with fail
   go_ret
   exact ⟨ret_int (by rw [HO.out]; simp), (Gr.refl w).alloc _⟩
 | false =>
   have c4 := fun o => ((Gr.refl w).alloc o).keep c4
   have c5 := fun o => ((Gr.refl w).alloc o).keep c5
   cases b2 with
   | true =>
     go_wp2_with fail
     go_ret
     exact ⟨ret_int (by rw [HO.out]; simp), (Gr.refl w).alloc _⟩
   | false =>
     cases b3 with
     | true =>
       go_wp2_with fail
       go_ret
       exact ⟨ret_int (by rw [HO.out]; simp), (Gr.refl w).alloc _⟩
     | false =>
       go_wp2_with fail
       go_ret
       exact ⟨ret_int (by rw [HO.out]; simp), (Gr.refl w).alloc _⟩

def repL (s : Sx) (m : Ml) (k : Int) : Ml := (s.num, m.1, k, m.2.2.2.1, 0)
def LetP (l : List Ml) (w : World) (e : Ending) (w' : World) : Prop := ∃ A c, e = .returned (.slice A l.length c) ∧ Rd 5 enc5m w' A l ∧ Gr w w' ∧ l.length ≤ c
theorem reply_any {B : Nat} {s : Sx} (m : Ml) (k : Int) (w : World) (h : Its B w (siteIt s)) : Calls Tryz.prog 94 #[.pointer (some ⟨s.p, 0, none⟩), .agg #[.int .i64 m.1, .int .i64 m.2.1, .int .i64 m.2.2.1, .int .i64 m.2.2.2.1, .int .i64 m.2.2.2.2], .int .i64 k] w (LetP [repL s m k] w) := by
 have c0 := h.sCells.1
 obtain ⟨f, t, kd, tx, n⟩ := m
 unfold repL
 dsimp only
 go_enter Tryz.func94, Tryz.ntmps94
 go_upto_region 1 with fail
 generalize hW1 : World.alloc w _ = w1
 have hg1 : Gr w w1 := by rw [← hW1]; exact (Gr.refl w).alloc _
 have hb : Blk w1 w.heap.size 59 #[.int .i64 f, .int .i64 t, .int .i64 kd, .int .i64 tx, .int .i64 n] := by rw [← hW1]; exact Blk.new w _ _ rfl
 generalize w.heap.size = U at hb ⊢
 have m0 := hb.cell 0
 have m3 := hb.cell 3
 replace c0 := hg1.keep c0
 clear hW1 hb
 refine wp_region_held_drew (S := (fun W' => W'.cell? ⟨s.p, 0, none⟩ = some (.int .i64 s.num) ∧ W'.cell? ⟨U, 0, none⟩ = some (.int .i64 f) ∧ W'.cell? ⟨U, 3, none⟩ = some (.int .i64 tx))) ?_ ?_ (fun hHeld => ?_)
 ·kernel_rfl
 ·((try dsimp only); (try go_split_ands); (repeat' apply And.intro) <;> repeat first | assumption | exact Gr.refl _ | refine Gr.drew ?_ | refine Gr.alloc ?_ _ | refine alloc_old ?_ | refine Gr.keep (by assumption) ?_ | refine Gr.trans ?_ (by assumption))
 refine ti 0 (some 7) rfl rfl ?_; try simp only [Act.put, lA, lB, lC]
 refine ti 1 (some 8) rfl rfl ?_; try simp only [Act.put, lA, lB, lC]
 refine ti 2 (some 9) rfl rfl ?_; try simp only [Act.put, lA, lB, lC]
 refine ti 3 (some 10) rfl rfl ?_; try simp only [Act.put, lA, lB, lC]
 refine ti 4 (some 11) rfl rfl ?_; try simp only [Act.put, lA, lB, lC]
 refine ti 5 (some 12) rfl rfl ?_; try simp only [Act.put, lA, lB, lC]
 refine ti 6 (some 13) rfl rfl ?_; try simp only [Act.put, lA, lB, lC]
 refine ti 7 (some 14) rfl rfl ?_; try simp only [Act.put, lA, lB, lC]
 refine ti 8 (some 15) rfl rfl ?_; try simp only [Act.put, lA, lB, lC]
 refine ti 9 (some 16) rfl rfl ?_; try simp only [Act.put, lA, lB, lC]
 refine tr [10] (.cons rfl (fun K hK => ?_) .nil)
 go_simp
 refine hK.out _ _ ?_ (fun hHeld => ?_)
 ·((try dsimp only); (try go_split_ands); (repeat' apply And.intro) <;> repeat first | assumption | exact Gr.refl _ | refine Gr.drew ?_ | refine Gr.alloc ?_ _ | refine alloc_old ?_ | refine Gr.keep (by assumption) ?_ | refine Gr.trans ?_ (by assumption))
 clear hK K; try simp only [Act.put, lA, lB, lC]
 refine ti 11 (some 6) rfl rfl ?_; try simp only [Act.put, lA, lB, lC]
 refine wpAnyH_done ?_ ?_ _
 ·kernel_rfl
 rotate_left
 all_goals
  have hgf := (hg1.alloc (.cells #[.int .i64 s.num, .int .i64 f, .int .i64 k, .int .i64 tx, .int .i64 0] 59)).drew
  have hrd : Rd 5 enc5m (w1.alloc (.cells #[.int .i64 s.num, .int .i64 f, .int .i64 k, .int .i64 tx, .int .i64 0] 59)).drew (some ⟨w1.heap.size, 0, none⟩) [(s.num, f, k, tx, 0)] := (Rd_lit enc5m_len (heap_alloc_new w1 _) rfl).keep (Gr.refl _).drew
  clear hHeld m0 m3 c0
  go_wp2_with fail
  go_ret
  exact ⟨_, _, rfl, hrd, hgf, Nat.le_refl _⟩

end Go.Proofs.YtnoeiocbmhkmeaaGreat

namespace Go.Proofs.YtnoeiocbmhkmeaaGreat
open Go.RowKit
set_option linter.unusedSimpArgs false
set_option maxRecDepth 100000
set_option maxHeartbeats 80000000

def addP (c : Int) (e : Int × (Int × Int)) : Int := if decide (e.2.2 < 0) = decide (c < 0) then e.2.2 else 0
def sumP (c : Int) : List (Int × (Int × Int)) → Int
 | [] => 0
 | e :: r => addP c e + sumP c r
theorem sumP_erase (c : Int) : ∀ (l : List (Int × (Int × Int))) (i : Nat) (e : Int × (Int × Int)), l[i]? = some e → sumP c (l.eraseIdx i) = sumP c l - addP c e
 | [], i, e, h => by simp at h
 | x :: r, 0, e, h => by
   simp at h; subst h
   simp only [List.eraseIdx_cons_zero, sumP]; omega
 | x :: r, i + 1, e, h => by
   have ih := sumP_erase c r i e (by simpa using h)
   simp only [List.eraseIdx_cons_succ, sumP, ih]; omega
def PrB (l : List (Int × (Int × Int))) : Prop := l.length ≤ 4096 ∧ ∀ e ∈ l, -1099511627776 ≤ e.2.2 ∧ e.2.2 ≤ 1099511627776
theorem sumP_bd (c : Int) : ∀ (l : List (Int × (Int × Int))), (∀ e ∈ l, -1099511627776 ≤ e.2.2 ∧ e.2.2 ≤ 1099511627776) → -1099511627776 * (l.length : Int) ≤ sumP c l ∧ sumP c l ≤ 1099511627776 * (l.length : Int)
 | [], _ => by simp [sumP]
 | x :: r, h => by
   have ih := sumP_bd c r (fun e he => h e (List.mem_cons_of_mem _ he))
   have h1 := h x List.mem_cons_self
   have h2 : -1099511627776 ≤ addP c x ∧ addP c x ≤ 1099511627776 := by unfold addP; split <;> omega
   simp only [sumP, List.length_cons]
   omega
def posS (s : Sx) (c : Int) : Bool := decide (0 ≤ s.stock + c + sumP c s.prom) && decide (s.stock + c + sumP c s.prom ≤ 1099511627776)
theorem box2q {w W : World} {t : TypeId} {a b : Value} (hW : w.alloc (.cells #[a, b] t) = W) : Gr w W ∧ W.cell? ⟨w.heap.size, 0, none⟩ = some a ∧ W.cell? ⟨w.heap.size, 1, none⟩ = some b := by
 subst hW
 exact ⟨(Gr.refl _).alloc _, alloc_new rfl rfl, alloc_new rfl rfl⟩

theorem possible5_any {B : Nat} {s : Sx} (c : Int) (w : World) (h : Its B w (siteIt s)) (hs : 0 ≤ s.stock ∧ s.stock ≤ 1099511627776) (hc : -1099511627776 ≤ c ∧ c ≤ 1099511627776) (hb : PrB s.prom) :
 Calls Tryz.prog 95 #[.pointer (some ⟨s.p, 0, none⟩), .int .i64 c] w fun e w' => e = .returned (.bool (posS s c)) ∧ Gr w w' := by
 obtain ⟨-, c1, -, c3, -, -, -, -⟩ := h.sCells
 have HM := Lib.hid h.sProm
 have HB := Lib.hid hb
 have HSB := Lib.hid (sumP_bd c s.prom hb.2)
 have hlen := hb.1
 have HP : Hid (posS s c = (decide (0 ≤ s.stock + c + sumP c s.prom) && decide (s.stock + c + sumP c s.prom ≤ 1099511627776))) := Lib.hid rfl
 obtain ⟨r, hr⟩ : ∃ r, posS s c = r := ⟨_, rfl⟩
 rw [hr] at HP ⊢
 clear h hb hr
 generalize s.stock = st at *
 generalize s.prom = l at *
 generalize s.mp = g at *
 go_enter Tryz.func95, Tryz.ntmps95
 go_wp2_with (first | (at_range; refine step_range rfl _ _ rfl HM.out _ Tryz.underlying80 rfl ?_; intro w0 hrg0 hg0 hs0) | fail)
 have HRG := Lib.hid hrg0
 obtain ⟨R, hR⟩ : ∃ R, w.heap.size = R := ⟨_, rfl⟩
 rw [hR] at HRG ⊢
 have HRR := Lib.hid hR
 have HT0 : Hid (st + c + sumP c l - sumP c l = st + c) := Lib.hid (by omega)
 clear hrg0 hs0 hR c1 c3
 simp only [Act.put, List.setIfInBounds_toArray, List.set_cons_zero, List.set_cons_succ]
 go_loopw [5] (fun q wr => ∃ todo, q = .int .i64 (st + c + sumP c l - sumP c todo) ∧ Hid (∀ e ∈ todo, e ∈ l) ∧ todo.length ≤ 4096 ∧ Hid (Rng Tryz.prog 3 intK promV wr g R l todo) ∧ Gr w wr) (fun _ wr => wr.rangeLeft g R)
 case atStart => exact ⟨l, by rw [HT0.out], Lib.hid (fun e he => he), hlen, HRG, hg0⟩
 case round =>
  obtain ⟨todo, rfl, hin, htl, hrg, hgr⟩ := hrel
  clear HRG hg0
  have hsb := HSB.out
  have htb := sumP_bd c todo (fun e he => HB.out.2 e (hin.out e he))
  go_wp2_with (first | (at_next; refine step_next rfl _ rfl rfl hrg.out ?_ ?_) | fail)
  ·intro h0
   subst h0
   have HF : Hid (st + c + sumP c l - sumP c [] = st + c + sumP c l) := Lib.hid (by simp [sumP])
   rw [HF.out]
   clear htb
   generalize st + c + sumP c l = tot at *
   by_cases h1 : 0 ≤ tot
   ·go_wp2_with fail
    go_ret
    refine ⟨ret_bool ?_, hgr⟩
    rw [HP.out]
    first | rfl | (rw [decide_eq_true h1]; rfl)
   ·go_wp2_with fail
    go_ret
    refine ⟨ret_bool ?_, hgr⟩
    rw [HP.out, decide_eq_false (by omega)]; rfl
  ·intro i a b1 b2 w1 hp hpl hrg1 hg1 hs1 hen
   dsimp only [promV, intK] at hen ⊢
   have hgr1 : Gr w w1 := Gb.gr hgr hg1 (by have := HRR.out; omega)
   have HRG1 := Lib.hid hrg1
   have HLE := Lib.hid hrg.out.left
   have hbe := HB.out.2 _ hpl
   dsimp only at hbe
   have HSE := Lib.hid (sumP_erase c todo i _ hp)
   have HAD : Hid (addP c (a, (b1, b2)) = if decide (b2 < 0) = decide (c < 0) then b2 else 0) := Lib.hid rfl
   have hlen2 : (todo.eraseIdx i).length < todo.length := by
    have := (List.getElem?_eq_some_iff.1 hp).1
    rw [List.length_eraseIdx_of_lt this]; omega
   have HIN2 : Hid (∀ e ∈ todo.eraseIdx i, e ∈ l) := Lib.hid (fun e he => hin.out e (List.mem_of_mem_eraseIdx he))
   clear hgr hg1 hrg hrg1 hp
   obtain ⟨ac, hac⟩ : ∃ ac, st + c + sumP c l - sumP c todo = ac := ⟨_, rfl⟩
   have hacb : -36028797018963968 ≤ ac ∧ ac ≤ 36028797018963968 := by omega
   rw [hac]
   have HAC := Lib.hid hac
   clear hac hsb htb
   go_upto_region 5 with fail
   generalize hW : World.alloc w1 _ = w2
   obtain ⟨hgW, k0, k1⟩ := box2q hW
   rw [hs1] at k0 k1
   generalize wr.heap.size = U at k0 k1 ⊢
   have hgr2 := hgr1.trans hgW
   have HRG2 := Lib.hid (HRG1.out.keep hgW)
   clear hW hs1 hen hgr1 HRG1 hgW
   have w1e : IntKind.i64.wrap (ac + b2) = ac + b2 := IntWalk.i64_in _ (by omega)
   have hsg : (b2 < 0 ∧ c < 0) ∨ (b2 < 0 ∧ ¬ c < 0) ∨ (¬ b2 < 0 ∧ c < 0) ∨ (¬ b2 < 0 ∧ ¬ c < 0) := by omega
   rcases hsg with ⟨e1, e2⟩ | ⟨e1, e2⟩ | ⟨e1, e2⟩ | ⟨e1, e2⟩
   all_goals
    have d1 : decide (b2 < 0) = decide (b2 < 0) := rfl
    first
    | (have d2 : decide (b2 < 0) = true := decide_eq_true e1; have d3 : decide (c < 0) = true := decide_eq_true e2)
    | (have d2 : decide (b2 < 0) = true := decide_eq_true e1; have d3 : decide (c < 0) = false := decide_eq_false e2)
    | (have d2 : decide (b2 < 0) = false := decide_eq_false e1; have d3 : decide (c < 0) = true := decide_eq_true e2)
    | (have d2 : decide (b2 < 0) = false := decide_eq_false e1; have d3 : decide (c < 0) = false := decide_eq_false e2)
    have HD := Lib.hid (And.intro d2 d3)
    clear d1
    go_wp2_with fail
    go_roundw
    case rel => exact ⟨todo.eraseIdx i, by rw [HSE.out, HAD.out, HD.out.1, HD.out.2]; (have := HAC.out); simp; omega, HIN2, by omega, HRG2, hgr2⟩
    case measure => rw [HRG2.out.left, HLE.out]; exact hlen2

end Go.Proofs.YtnoeiocbmhkmeaaGreat
