/- Layer 5: what a net is in memory: blocks, each with what it holds; no two of them the same. -/
import Derived.Test.YtnoeiocbmhkmeaaBase
import Derived.Test.YtnoeiocbmhkmeaaMapG
import Derived.Test.YtnoeiocbmhkmeaaHeld
namespace Go.Proofs.Ytnoeiocbmhkmeaa
open Go.RowKit
open Go.Maps (Keyed)
set_option linter.unusedSimpArgs false

/-- A part: a site and a change. A letter: from, to, kind, number, change. -/
abbrev Mv := Int × Int
abbrev Ml := Int × Int × Int × Int × Int
def enc5m (m : Ml) : List Value := [.int .i64 m.1, .int .i64 m.2.1, .int .i64 m.2.2.1, .int .i64 m.2.2.2.1, .int .i64 m.2.2.2.2]
theorem enc5m_len (m : Ml) : (enc5m m).length = 5 := rfl
theorem enc5m_one (m : Ml) : ∀ u ∈ enc5m m, u.oneCell' = true := by intro u hu; simp [enc5m] at hu; rcases hu with rfl | rfl | rfl | rfl | rfl <;> rfl
def encP (p : Nat) : List Value := [.pointer (some ⟨p, 0, none⟩)]
theorem encP_len (p : Nat) : (encP p).length = 1 := rfl
theorem encP_one (p : Nat) : ∀ u ∈ encP p, u.oneCell' = true := by intro u hu; simp [encP] at hu; subst hu; rfl
def intK (x : Int) : Value := .int .i64 x
theorem intK_inj (a b : Int) (h : intK a = intK b) : a = b := by injection h
def boolV (b : Bool) : Value := .bool b
def promV (c : Int × Int) : Value := .agg #[.int .i64 c.1, .int .i64 c.2]
/-- A deal: its parts and where they lie, the sites that are missing and where that map lies. -/
structure Dl where
  parts : List Mv
  miss : List (Int × Bool)
  b : Nat
  c : Nat
  g : Nat
def dlV (d : Dl) : Value := .agg #[.slice (some ⟨d.b, 0, none⟩) d.parts.length d.c, .map (some d.g)]
/-- A site: what it knows, and where that lies. -/
structure Sx where
  num : Int
  stock : Int
  up : Bool
  prom : List (Int × (Int × Int))
  kept : List (Int × Bool)
  drop : List (Int × Bool)
  opn : List (Int × Dl)
  grt : List (Int × Dl)
  p : Nat
  mp : Nat
  mq : Nat
  mr : Nat
  mo : Nat
  mg : Nat
/-- A net. -/
structure Nx where
  sites : List Sx
  mail : List Ml
  begun : Int
  p : Nat
  sv : Value
  lv : Value
/-- What a block holds. -/
inductive Ds where
  | cells (t : TypeId) (cs : Array Value)
  | moves (l : List Mv)
  | bools (l : List (Int × Bool))
  | proms (l : List (Int × (Int × Int)))
  | deals (l : List (Int × Dl))
def Holds5 (w : World) (g : Nat) : Ds → Prop
  | .cells t cs => Blk w g t cs
  | .moves l => g < w.heap.size ∧ Pts w (some ⟨g, 0, none⟩) l
  | .bools l => Mp Try.prog 3 intK boolV w g l
  | .proms l => Mp Try.prog 3 intK promV w g l
  | .deals l => Mp Try.prog 3 intK dlV w g l
theorem Holds5.lt {w : World} {g : Nat} {D : Ds} (h : Holds5 w g D) : g < w.heap.size := by
  cases D with
  | cells t cs => exact Blk.lt h
  | moves l => exact h.1
  | bools l => exact Mp.lt h
  | proms l => exact Mp.lt h
  | deals l => exact Mp.lt h
theorem Mp.block {α β : Type} {P : Program} {k : TypeId} {K : α → Value} {V : β → Value} {w w' : World} {g : Nat} {l : List (α × β)} (h : Mp P k K V w g l) (hb : w'.heap[g]? = w.heap[g]?) : Mp P k K V w' g l := by
  obtain ⟨es, clock, h1, r⟩ := h
  exact ⟨es, clock, hb.trans h1, r⟩
/-- What a block holds hangs on that block alone. -/
theorem Holds5.block {w w' : World} {g : Nat} {D : Ds} (h : Holds5 w g D) (hb : w'.heap[g]? = w.heap[g]?) : Holds5 w' g D := by
  have hlt := h.lt
  have hlt' : g < w'.heap.size := by
    rw [Array.getElem?_eq_getElem hlt] at hb
    exact (Array.getElem?_eq_some_iff.1 hb).1
  cases D with
  | cells t cs => exact hb.trans h
  | moves l =>
    refine ⟨hlt', fun i x hx => ?_⟩
    obtain ⟨b, off, e, hc⟩ := h.2 i x hx
    injection e with e
    injection e with e1 e2
    refine ⟨g, 0, rfl, fun j v hv => ?_⟩
    have h2 := hc j v hv
    rw [← e1, ← e2] at h2
    exact (World.cell?_of_block hb).trans h2
  | bools l => exact Mp.block h hb
  | proms l => exact Mp.block h hb
  | deals l => exact Mp.block h hb

def dlIt (e : Int × Dl) : List (Nat × Ds) := [(e.2.b, .moves e.2.parts), (e.2.g, .bools e.2.miss)]
def siteCs (s : Sx) : Array Value := #[.int .i64 s.num, .int .i64 s.stock, .bool s.up, .map (some s.mp), .map (some s.mq), .map (some s.mr), .map (some s.mo), .map (some s.mg)]
def siteIt (s : Sx) : List (Nat × Ds) :=
  [(s.p, .cells 81 (siteCs s)), (s.mp, .proms s.prom), (s.mq, .bools s.kept), (s.mr, .bools s.drop), (s.mo, .deals s.opn), (s.mg, .deals s.grt)] ++ (s.opn.flatMap dlIt ++ s.grt.flatMap dlIt)
def netIt (N : Nx) : List (Nat × Ds) := (N.p, .cells 43 #[N.sv, N.lv, .int .i64 N.begun]) :: N.sites.flatMap siteIt
def blks (l : List (Nat × Ds)) : List Nat := l.map (·.1)
/-- Some blocks hold what is said of them; all lie from B on; no two are the same. -/
structure Its (B : Nat) (w : World) (l : List (Nat × Ds)) : Prop where
  all : ∀ it ∈ l, Holds5 w it.1 it.2 ∧ B ≤ it.1
  nod : (blks l).Nodup
/-- The net lies in memory, all of it from B on. -/
structure NetR (B : Nat) (w : World) (N : Nx) : Prop where
  its : Its B w (netIt N)
  sites : w.ownsRow B 69 1 N.sv N.sites.length (flatE encP (N.sites.map (·.p)))
  mail : w.ownsRow B 87 5 N.lv N.mail.length (flatE enc5m N.mail)
  spot : N.sv.ownBlock = none ∨ N.sv.ownBlock ≠ N.lv.ownBlock
  away : ∀ it ∈ netIt N, N.sv.ownBlock ≠ some it.1 ∧ N.lv.ownBlock ≠ some it.1
  le : B ≤ w.heap.size

/-- Only blocks of S have turned; there may be more. -/
structure Ch (S : List Nat) (w w' : World) : Prop where
  os : w'.os = w.os
  tape : w'.tape = w.tape
  output : w'.output = w.output
  size : w.heap.size ≤ w'.heap.size
  block : ∀ g, g < w.heap.size → g ∉ S → w'.heap[g]? = w.heap[g]?
section
variable {S T : List Nat} {w w' a b c : World} {B : Nat}
theorem Ch.of (h : Gr w w') : Ch S w w' := ⟨h.os, h.tape, h.output, h.size, fun g hg _ => Below.block h g hg⟩
theorem Ch.refl : Ch S w w := Ch.of (Gr.refl w)
theorem Ch.gb {g : Nat} (h : Gb g w w') (hg : g ∈ S) : Ch S w w' := ⟨h.os, h.tape, h.output, Gb.size h, fun i hi hn => World.grownBy.block h i hi (fun e => hn (by injection e with e; rw [e]; exact hg))⟩
theorem Ch.trans (h : Ch S a b) (k : Ch T b c) (hT : ∀ g ∈ T, g ∈ S ∨ a.heap.size ≤ g) : Ch S a c :=
  ⟨k.os.trans h.os, k.tape.trans h.tape, k.output.trans h.output, Nat.le_trans h.size k.size, fun g hg hs =>
    (k.block g (Nat.lt_of_lt_of_le hg h.size) (fun hm => (hT g hm).elim hs (fun h2 => by omega))).trans (h.block g hg hs)⟩
theorem Ch.gr (h : Ch S a b) (k : Gr b c) : Ch S a c := h.trans (T := []) (Ch.of k) (fun _ hm => (by cases hm))
theorem Ch.mono (h : Ch S a b) (hs : ∀ g ∈ S, g ∈ T) : Ch T a b := ⟨h.os, h.tape, h.output, h.size, fun g hg hn => h.block g hg (fun hm => hn (hs g hm))⟩
theorem Ch.set (h : Ch S a b) {p : Addr} (hp : p.block ∈ S) (u : Value) : Ch S a (b.setCell p u) :=
  ⟨h.os, h.tape, h.output, by simpa [World.setCell] using h.size, fun g hg hs => by
    have hne : g ≠ p.block := fun e => hs (e ▸ hp)
    exact (Below.heap_setCell b p u g hne).trans (h.block g hg hs)⟩
/-- All that has turned is younger than w0. -/
theorem Ch.up (h : Ch S a b) {w0 : World} (h0 : Gr w0 a) (hs : ∀ g ∈ S, w0.heap.size ≤ g) : Gr w0 b :=
  ⟨h.os.trans h0.os, h.tape.trans h0.tape, h.output.trans h0.output, Nat.le_trans h0.size h.size, fun g hg =>
    (h.block g (Nat.lt_of_lt_of_le hg h0.size) (fun hm => by have := hs g hm; omega)).trans (Below.block h0 g hg)⟩
theorem Ch.below (h : Ch S a b) (hs : ∀ g ∈ S, B ≤ g) (hB : B ≤ a.heap.size) : Below B a b :=
  ⟨h.os, h.tape, h.output, h.size, fun g hg => h.block g (by omega) (fun hm => by have := hs g hm; omega)⟩
theorem Holds5.ch {g : Nat} {D : Ds} (h : Holds5 w g D) (hc : Ch S w w') (hn : g ∉ S) : Holds5 w' g D := h.block (hc.block g h.lt hn)
theorem Holds5.keep {g : Nat} {D : Ds} (h : Holds5 w g D) (hg : Gr w w') : Holds5 w' g D := h.block (Below.block hg g h.lt)

theorem blks_app (l m : List (Nat × Ds)) : blks (l ++ m) = blks l ++ blks m := List.map_append
theorem mem_blks {l : List (Nat × Ds)} {it : Nat × Ds} (h : it ∈ l) : it.1 ∈ blks l := List.mem_map_of_mem h
theorem Its.keep {l : List (Nat × Ds)} (h : Its B w l) (hg : Gr w w') : Its B w' l := ⟨fun it hm => ⟨(h.all it hm).1.keep hg, (h.all it hm).2⟩, h.nod⟩
theorem Its.lt {l : List (Nat × Ds)} (h : Its B w l) {g : Nat} (hg : g ∈ blks l) : g < w.heap.size ∧ B ≤ g := by
  obtain ⟨it, hm, rfl⟩ := List.mem_map.1 hg
  exact ⟨(h.all it hm).1.lt, (h.all it hm).2⟩
theorem Its.at {l : List (Nat × Ds)} (h : Its B w l) {g : Nat} {D : Ds} (hm : (g, D) ∈ l) : Holds5 w g D := (h.all (g, D) hm).1
/-- A part in the middle. -/
theorem Its.part {l m r : List (Nat × Ds)} (h : Its B w (l ++ m ++ r)) : Its B w m :=
  ⟨fun it hm => h.all it (by simp [hm]), by
    have h1 := h.nod
    rw [blks_app, blks_app] at h1
    exact (List.nodup_append.1 (List.nodup_append.1 h1).1).2.1⟩
/-- A part in the middle turns. -/
theorem Its.mid {l m m' r : List (Nat × Ds)} (h : Its B w (l ++ m ++ r)) (hc : Ch S w w') (hS : ∀ g ∈ S, g ∈ blks m ∨ w.heap.size ≤ g) (hm : Its B w' m') (hs : ∀ g ∈ blks m', g ∈ blks m ∨ w.heap.size ≤ g) : Its B w' (l ++ m' ++ r) := by
  have h1 := h.nod
  rw [blks_app, blks_app] at h1
  obtain ⟨h2, h3, h4⟩ := List.nodup_append.1 h1
  obtain ⟨h5, h6, h7⟩ := List.nodup_append.1 h2
  have hl : ∀ g ∈ blks l, g < w.heap.size := fun g hg => (h.lt (by rw [blks_app, blks_app]; simp [hg])).1
  have hr : ∀ g ∈ blks r, g < w.heap.size := fun g hg => (h.lt (by rw [blks_app, blks_app]; simp [hg])).1
  have nl : ∀ g ∈ blks l, ∀ g', (g' ∈ blks m ∨ w.heap.size ≤ g') → g ≠ g' := fun g hg g' h' => by
    rcases h' with h' | h'
    · exact h7 g hg g' h'
    · have := hl g hg; omega
  have nr : ∀ g ∈ blks r, ∀ g', (g' ∈ blks m ∨ w.heap.size ≤ g') → g' ≠ g := fun g hg g' h' => by
    rcases h' with h' | h'
    · exact h4 g' (by simp [h']) g hg
    · have := hr g hg; omega
  refine ⟨fun it hm' => ?_, ?_⟩
  · rcases List.mem_append.1 hm' with hm' | hm'
    · rcases List.mem_append.1 hm' with hm' | hm'
      · have h8 := h.all it (by simp [hm'])
        exact ⟨h8.1.ch hc (fun hg => nl _ (mem_blks hm') _ (hS _ hg) rfl), h8.2⟩
      · exact hm.all it hm'
    · have h8 := h.all it (by simp [hm'])
      exact ⟨h8.1.ch hc (fun hg => nr _ (mem_blks hm') _ (hS _ hg) rfl), h8.2⟩
  · rw [blks_app, blks_app]
    refine List.nodup_append.2 ⟨List.nodup_append.2 ⟨h5, hm.nod, fun g hg g' hg' => nl g hg g' (hs g' hg')⟩, h3, fun g hg g' hg' => ?_⟩
    rcases List.mem_append.1 hg with hg | hg
    · exact h4 g (by simp [hg]) g' hg'
    · exact nr g' hg' g (hs g hg)
theorem Its.one {g : Nat} {D : Ds} (h : Holds5 w g D) (hB : B ≤ g) : Its B w [(g, D)] := ⟨fun it hm => by obtain rfl := List.mem_singleton.1 hm; exact ⟨h, hB⟩, by simp [blks]⟩
theorem Its.nil : Its B w [] := ⟨fun _ h => (by cases h), by simp [blks]⟩
/-- One block turns. -/
theorem Its.turn {l r : List (Nat × Ds)} {g : Nat} {D D' : Ds} (h : Its B w (l ++ [(g, D)] ++ r)) (hc : Gb g w w') (hD : Holds5 w' g D') : Its B w' (l ++ [(g, D')] ++ r) :=
  h.mid (S := [g]) (Ch.gb hc (by simp)) (fun x hx => Or.inl (by simpa [blks] using hx)) (Its.one hD (h.lt (g := g) (by simp [blks])).2) (fun x hx => Or.inl (by simpa [blks] using hx))
/-- What turns is none of them. -/
theorem Its.aside {l : List (Nat × Ds)} (h : Its B w l) {row : Option Nat} (hg : w.grownBy w' row) (hn : ∀ it ∈ l, row ≠ some it.1) : Its B w' l :=
  ⟨fun it hm => ⟨(h.all it hm).1.block (World.grownBy.block hg it.1 (h.all it hm).1.lt (fun e => hn it hm e.symm)), (h.all it hm).2⟩, h.nod⟩
/-- Some new blocks. -/
theorem Its.more {l m : List (Nat × Ds)} (h : Its B w l) (hg : Gr w w') (hm : Its B w' m) (hn : ∀ g ∈ blks m, w.heap.size ≤ g) : Its B w' (l ++ m) := by
  have := Its.mid (S := []) (l := l) (m := []) (r := []) (m' := m) (by simpa using h) (Ch.of hg) (fun _ h => by cases h) hm (fun g hg => Or.inr (hn g hg))
  simpa using this
/-- Some blocks less. -/
theorem Its.less {l m r : List (Nat × Ds)} (h : Its B w (l ++ m ++ r)) : Its B w (l ++ r) := by
  have := Its.mid (S := []) (m' := []) h (Ch.refl) (fun _ h => (by cases h)) Its.nil (fun _ h => (by cases h))
  simpa using this
end

end Go.Proofs.Ytnoeiocbmhkmeaa
