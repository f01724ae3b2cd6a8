/- Layer 3: the values at the powers of 2; syndromes. -/
import Derived.Test.YtbkbgcapkhelhaaLZero
import Derived.Laws.MakeOwn
namespace Go.Proofs.Ytbkbgcapkhelhaa
open Go.RowKit
set_option linter.unusedSimpArgs false

def gcs (xs : List G) : Array Value := ⟨xs.map fun x => .int .u8 (x.v : Int)⟩
theorem gcs_size (xs : List G) : (gcs xs).size = xs.length := by simp [gcs]
theorem gcs_get (xs : List G) (i : Nat) : (gcs xs)[i]? = xs[i]?.map fun x => .int .u8 (x.v : Int) := by simp [gcs]
theorem flatG (xs : List G) : flatE encG xs = xs.map fun x => .int .u8 (x.v : Int) := by
  induction xs with
  | nil => rfl
  | cons x r ih => simp only [flatE, List.flatMap_cons, encG, List.map_cons] at ih ⊢; rw [ih]; rfl
/-- A block of just these bytes. -/
def BG (w : World) (g : Nat) (xs : List G) : Prop := Blk w g 5 (gcs xs)
theorem BG.keep {w w' : World} {g : Nat} {xs : List G} (h : BG w g xs) (hg : Gr w w') : BG w' g xs := Blk.keep h hg
theorem BG.at {w : World} {g : Nat} {xs : List G} (h : BG w g xs) {i : Nat} (hi : i < xs.length) : w.cell? ⟨g, i, none⟩ = some (.int .u8 ((xs.getD i g0).v : Int)) := by
  rw [Blk.cell h, gcs_get, getD_of g0 hi]; rfl
theorem BG.free {w : World} {g : Nat} {xs : List G} (h : BG w g xs) (i : Nat) : w.frozen? ⟨g, i, none⟩ = false := Blk.free h i
theorem BG.put {w : World} {g : Nat} {xs : List G} (h : BG w g xs) (i : Nat) (y : G) : BG (w.setCell ⟨g, i, none⟩ (.int .u8 (y.v : Int))) g (xs.set i y) := by
  have := Blk.put h i (.int .u8 (y.v : Int))
  have e : (gcs xs).setIfInBounds i (.int .u8 (y.v : Int)) = gcs (xs.set i y) := by
    unfold gcs
    simp [List.map_set]
  rw [e] at this
  exact this
theorem BG.pts {w : World} {g : Nat} {xs : List G} (h : BG w g xs) : Byts w (some ⟨g, 0, none⟩) xs :=
  Rd_lit encG_len h (by rw [flatG]; rfl)
theorem BG.new (w : World) (xs : List G) {g : Nat} (h : w.heap.size = g) : BG (w.alloc (.cells (gcs xs) 5)) g xs := Blk.new w _ _ h
theorem BG.other {w : World} {g : Nat} {xs : List G} (h : BG w g xs) {p : Addr} (hne : g ≠ p.block) (u : Value) : BG (w.setCell p u) g xs := Blk.other h hne u
theorem BG.lt {w : World} {g : Nat} {xs : List G} (h : BG w g xs) : g < w.heap.size := Blk.lt h
theorem set_step (l : List G) (k m : Nat) (x : G) (hl : l.length = k) (hm : k < m) : (l ++ List.replicate (m - k) g0).set k x = (l ++ [x]) ++ List.replicate (m - (k + 1)) g0 := by
  subst hl
  rw [List.set_append_right _ _ (Nat.le_refl _), Nat.sub_self, show m - l.length = (m - (l.length + 1)) + 1 by omega, List.replicate_succ, List.set_cons_zero, List.append_assoc]
  rfl

theorem Try.infoByte : (Try.prog.info? 5).map (fun i => (i.zero, i.size, i.bytes)) = some (some (.int .u8 0), 1, 1) := by kernel_rfl
theorem made_bytes (n : Nat) : madeCells #[Value.int .u8 0] (n * 1) = gcs (List.replicate n g0) := by
  have hs : (madeCells #[Value.int .u8 0] (n * 1)).size = n := by have := size_madeCells #[Value.int .u8 0] (n * 1); simpa using this
  apply Array.ext
  · rw [hs, gcs_size, List.length_replicate]
  · intro i h1 h2
    simp [madeCells, gcs, Nat.mod_one, g0]
theorem mk_bytes (n : Nat) (hl : n ≤ 1048576) (w : World) : (Instr.makeSlice 40 (.int .i64 (n : Int)) (.int .i64 (n : Int))).run Try.prog w =
    .ok (.slice (some ⟨w.heap.size, 0, none⟩) n n) (w.alloc (.cells (gcs (List.replicate n g0)) 5)) := by
  obtain ⟨i0, hi, hz0, hz1, hz2⟩ := info_parts Try.infoByte
  have h := run_make (P := Try.prog) w 40 5 i0 _ Try.underlying40 hi hz0 .i64 .i64 (n : Int) (n : Int) (by omega) (by omega) (by rw [hz2]; omega) (by omega)
  rw [hz1] at h
  simp only [Int.toNat_natCast] at h
  rw [h, show (Value.int IntKind.u8 0).cells = #[Value.int .u8 0] from rfl, made_bytes]
/-- The values at the first p powers of 2. -/
def synL (q : List G) (p : Nat) : List G := (List.range p).map fun i => val q (gp i)
theorem synL_len (q : List G) (p : Nat) : (synL q p).length = p := by simp [synL]
theorem synL_snoc (q : List G) (p : Nat) : synL q (p + 1) = synL q p ++ [val q (gp p)] := by simp [synL, List.range_succ]

set_option maxRecDepth 100000 in
set_option maxHeartbeats 1000000 in
theorem values_any (T : Nat) (A : Option Addr) (n c : Nat) (q : List G) (p : Nat) (w : World) (hT : Tabs T w) (hn : q.length = n) (hl : n ≤ 1048576) (hp : p ≤ 255) (hq : Byts w A q) :
    Calls Try.prog 41 #[.pointer (some ⟨T, 0, none⟩), .slice A n c, .int .i64 (p : Int)] w fun e w' => ∃ g, e = .returned (.slice (some ⟨g, 0, none⟩) p p) ∧ w.heap.size ≤ g ∧ BG w' g (synL q p) ∧ Gr w w' := by
  have HT := Lib.hid hT
  have HQ := Lib.hid hq
  have HN := Lib.hid hn
  have hmk := fun w => mk_bytes p (by omega) w
  have HB0 := Lib.hid (BG.new w (List.replicate p g0) rfl)
  have HG0 := Lib.hid ((Gr.refl w).alloc (.cells (gcs (List.replicate p g0)) 5))
  clear hT hq hn
  go_enter Try.func41, Try.ntmps41
  go_wp2_with fail
  generalize World.alloc w _ = W0 at HB0 HG0 ⊢
  clear hmk
  have HSZ := Lib.hid (Nat.le_refl w.heap.size)
  generalize hS : w.heap.size = S at HB0 HSZ ⊢
  have HS := Lib.hid hS
  clear hS
  go_loopw [12] (fun z wr => ∃ k : Nat, k ≤ p ∧ z = .int .i64 k ∧ Hid (BG wr S (synL q k ++ List.replicate (p - k) g0)) ∧ Hid (Gb S W0 wr)) (fun z _ => p - (intOf z).toNat)
  case atStart => exact ⟨0, Nat.zero_le _, rfl, by simpa [synL] using HB0, Lib.hid (Gb.refl _ _)⟩
  case round =>
    obtain ⟨k, hk, rfl, hB, hG⟩ := hrel
    have hgw := hG.out.gr HG0.out (by rw [HS.out]; exact Nat.le_refl _)
    by_cases hlt : k < p
    · have c0 := (HT.out.keep hgw).1 k (by omega)
      go_wp2_with fail
      refine (value_any T A n c q (gp k) _ (HT.out.keep hgw) HN.out hl (HQ.out.keep hgw)).mono ?_
      rintro e w1 ⟨rfl, hg1⟩
      have HB1 := Lib.hid (hB.out.keep hg1)
      have HG1 := Lib.hid (hG.out.trans (Gb.of hg1 S))
      have HST := Lib.hid (set_step (synL q k) k p (val q (gp k)) (synL_len _ _) hlt)
      rw [← synL_snoc] at HST
      have f1 := HB1.out.free k
      have c1 := HB1.out.at (i := k) (by rw [List.length_append, synL_len, List.length_replicate]; omega)
      have HP1 := Lib.hid (HB1.out.put k (val q (gp k)))
      rw [HST.out] at HP1
      have HP2 := Lib.hid (HG1.out.put k (.int .u8 ((val q (gp k)).v : Int)))
      generalize val q (gp k) = v at HP1 HP2 ⊢
      clear c0 hB hG HB1 HG1 HST hgw
      go_wp2_with fail
      go_roundw
      case rel => exact ⟨k + 1, by omega, by go_num, HP1, HP2⟩
      case measure => simp [intOf] <;> omega
    · obtain rfl : k = p := by omega
      rw [Nat.sub_self, List.replicate_zero, List.append_nil] at hB
      go_wp2_with fail
      go_ret
      exact ⟨S, rfl, by rw [HS.out]; exact Nat.le_refl _, hB.out, hgw⟩

end Go.Proofs.Ytbkbgcapkhelhaa
