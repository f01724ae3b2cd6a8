/- Layer 3: whether all bytes are 0.
Layer 3: the values at the powers of 2; syndromes.
Layer 3: parameters, syndromes, whether a word is a codeword.
Layer 3: sums of lists, in place. -/
import Derived.Test.YtpnkpejnahhajaaGreatBc2
import Derived.Laws.MakeOwn
import Derived.Laws.IdiomStrings
import Derived.Test.YtpnkpejnahhajaaGreatBc0
import Derived.Deep.RegionLaw
namespace Go.Proofs.YtpnkpejnahhajaaGreat
open Go.RowKit
set_option linter.unusedSimpArgs false

theorem g_nz_test (a : G) : (((a.v : Nat) : Int) != 0) = !decide (a = g0) := by rw [bne, g_zero_test]
theorem zeroFn_any (x : G) (w : World) (r : Bool) (hr : (!decide (x = g0)) = r) : Calls Tryz.prog 136 #[.int .u8 (x.v : Int)] w fun e w' => e = .returned (.bool r) ∧ w' = w := by
  have h := g_nz_test x
  rw [hr] at h
  clear hr
  go_enter Tryz.func136, Tryz.ntmps136
  go_wp2_with fail
  go_ret
  exact ⟨rfl, rfl⟩

set_option maxRecDepth 100000 in
set_option maxHeartbeats 1000000 in
theorem index_zero (A : Option Addr) (n c : Nat) (q : List G) (w : World) (hn : q.length = n) (hl : n ≤ 1048576) (hp : Byts w A q) (r : Bool) (hr : q.all (fun x => decide (x = g0)) = r) :
    Calls Tryz.prog 152 #[.slice A n c, .func (.func 136) #[] #[]] w fun e w' => (∃ z, e = .returned (.int .i64 z) ∧ Hid ((0 ≤ z ↔ r = false) ∧ -1 ≤ z ∧ z ≤ n)) ∧ w' = w := by
  have HN := Lib.hid hn
  have HP := Lib.hid hp
  have HR := Lib.hid hr
  clear hn hp hr
  go_enter Tryz.func152, Tryz.ntmps152
  go_wp2_with fail
  go_loop [8] (fun z => ∃ k : Nat, k ≤ n ∧ z = .int .i64 k ∧ Hid ((q.take k).all (fun x => decide (x = g0)) = true)) (fun z => n - (intOf z).toNat)
  case atStart => exact ⟨0, Nat.zero_le _, rfl, Lib.hid rfl⟩
  case round =>
    obtain ⟨k, hk, rfl, hA⟩ := hrel
    by_cases hlt : k < n
    · have hkl : k < q.length := by have := HN.out; omega
      obtain ⟨b, off, rfl, c0⟩ := Byts_at HP.out hkl
      have HS := Lib.hid (all_take_succ (fun x => decide (x = g0)) q g0 k hkl)
      have HF := Lib.hid (all_false (fun x => decide (x = g0)) q g0 k hkl)
      generalize q.getD k g0 = x at c0 HS HF
      by_cases hx : x = g0
      · have hz := zeroFn_any x w false (by simp [hx])
        have HS' : Hid ((q.take (k + 1)).all (fun x => decide (x = g0)) = true) := Lib.hid (by rw [HS.out, hA.out]; simp [hx])
        clear hx HS HF
        go_wp2_with fail
        refine hz.mono ?_
        rintro e w1 ⟨rfl, rfl⟩
        go_wp2_with fail
        go_round
        case rel => exact ⟨k + 1, by omega, by go_num, HS'⟩
        case measure => simp [intOf] <;> omega
      · have hz := zeroFn_any x w true (by simp [hx])
        have HQ : Hid (r = false) := Lib.hid (by rw [← HR.out]; exact HF.out (by simp [hx]))
        clear hx HS HF
        go_wp2_with fail
        refine hz.mono ?_
        rintro e w1 ⟨rfl, rfl⟩
        go_wp2_with fail
        try rw [Exit.noGoto_ret]
        go_ret
        exact ⟨⟨_, rfl, Lib.hid ⟨⟨fun _ => HQ.out, fun _ => by omega⟩, by omega, by omega⟩⟩, rfl⟩
    · obtain rfl : k = n := by omega
      have HQ : Hid (r = true) := Lib.hid (by rw [← HR.out]; have := hA.out; rwa [List.take_of_length_le (by have := HN.out; omega)] at this)
      go_wp2_with fail
      try rw [Exit.noGoto_ret]
      go_ret
      exact ⟨⟨_, rfl, Lib.hid ⟨⟨fun h => by omega, fun h => by rw [HQ.out] at h; cases h⟩, by omega, by omega⟩⟩, rfl⟩

set_option maxRecDepth 100000 in
theorem areZero_any (A : Option Addr) (n c : Nat) (q : List G) (w : World) (hn : q.length = n) (hl : n ≤ 1048576) (hp : Byts w A q) (r : Bool) (hr : q.all (fun x => decide (x = g0)) = r) :
    Calls Tryz.prog 110 #[.slice A n c] w fun e w' => e = .returned (.bool r) ∧ w' = w := by
  have HC : Calls Tryz.prog 135 #[.slice A n c, .func (.func 136) #[] #[]] w fun e w' => e = .returned (.bool (!r)) ∧ w' = w := by
    have HI := Lib.hid (index_zero A n c q w hn hl hp r hr)
    clear hr hn hp
    go_enter Tryz.func135, Tryz.ntmps135
    go_wp2_with fail
    refine HI.out.mono ?_
    rintro e w1 ⟨⟨z, rfl, hz⟩, rfl⟩
    have hd : Hid (decide (0 ≤ z) = !r) := Lib.hid (by
      cases r
      · exact decide_eq_true (hz.out.1.2 rfl)
      · exact decide_eq_false (fun h => by have := hz.out.1.1 h; cases this))
    cases r
    · have h2 : decide (0 ≤ z) = true := hd.out
      go_wp2_with fail
      go_ret
      exact ⟨rfl, rfl⟩
    · have h2 : decide (0 ≤ z) = false := hd.out
      go_wp2_with fail
      go_ret
      exact ⟨rfl, rfl⟩
  have HC' := Lib.hid HC
  clear HC hr hp hn
  go_enter Tryz.func110, Tryz.ntmps110
  go_wp2_with fail
  refine HC'.out.mono ?_
  rintro e w1 ⟨rfl, rfl⟩
  cases r
  all_goals
    go_wp2_with fail
    go_ret
    exact ⟨rfl, rfl⟩

end Go.Proofs.YtpnkpejnahhajaaGreat

namespace Go.Proofs.YtpnkpejnahhajaaGreat
open Go.RowKit
set_option linter.unusedSimpArgs false

def gcs (xs : List G) : Array Value := ⟨xs.map fun x => .int .u8 (x.v : Int)⟩
theorem gcs_size (xs : List G) : (gcs xs).size = xs.length := by simp [gcs]
theorem gcs_get (xs : List G) (i : Nat) : (gcs xs)[i]? = xs[i]?.map fun x => .int .u8 (x.v : Int) := by simp [gcs]
theorem flatG (xs : List G) : flatE encG xs = xs.map fun x => .int .u8 (x.v : Int) := by
  induction xs with
  | nil => rfl
  | cons x r ih => simp only [flatE, List.flatMap_cons, encG, List.map_cons] at ih ⊢; rw [ih]; rfl
/-- A block of just these bytes. -/
def BG (w : World) (g : Nat) (xs : List G) : Prop := Blk w g 5 (gcs xs)
theorem BG.keep {w w' : World} {g : Nat} {xs : List G} (h : BG w g xs) (hg : Gr w w') : BG w' g xs := Blk.keep h hg
theorem BG.at {w : World} {g : Nat} {xs : List G} (h : BG w g xs) {i : Nat} (hi : i < xs.length) : w.cell? ⟨g, i, none⟩ = some (.int .u8 ((xs.getD i g0).v : Int)) := by
  rw [Blk.cell h, gcs_get, getD_of g0 hi]; rfl
theorem BG.free {w : World} {g : Nat} {xs : List G} (h : BG w g xs) (i : Nat) : w.frozen? ⟨g, i, none⟩ = false := Blk.free h i
theorem BG.put {w : World} {g : Nat} {xs : List G} (h : BG w g xs) (i : Nat) (y : G) : BG (w.setCell ⟨g, i, none⟩ (.int .u8 (y.v : Int))) g (xs.set i y) := by
  have := Blk.put h i (.int .u8 (y.v : Int))
  have e : (gcs xs).setIfInBounds i (.int .u8 (y.v : Int)) = gcs (xs.set i y) := by
    unfold gcs
    simp [List.map_set]
  rw [e] at this
  exact this
theorem BG.pts {w : World} {g : Nat} {xs : List G} (h : BG w g xs) : Byts w (some ⟨g, 0, none⟩) xs :=
  Rd_lit encG_len h (by rw [flatG]; rfl)
theorem BG.new (w : World) (xs : List G) {g : Nat} (h : w.heap.size = g) : BG (w.alloc (.cells (gcs xs) 5)) g xs := Blk.new w _ _ h
theorem BG.other {w : World} {g : Nat} {xs : List G} (h : BG w g xs) {p : Addr} (hne : g ≠ p.block) (u : Value) : BG (w.setCell p u) g xs := Blk.other h hne u
theorem BG.lt {w : World} {g : Nat} {xs : List G} (h : BG w g xs) : g < w.heap.size := Blk.lt h
theorem set_step (l : List G) (k m : Nat) (x : G) (hl : l.length = k) (hm : k < m) : (l ++ List.replicate (m - k) g0).set k x = (l ++ [x]) ++ List.replicate (m - (k + 1)) g0 := by
  subst hl
  rw [List.set_append_right _ _ (Nat.le_refl _), Nat.sub_self, show m - l.length = (m - (l.length + 1)) + 1 by omega, List.replicate_succ, List.set_cons_zero, List.append_assoc]
  rfl

theorem Tryz.infoByte : (Tryz.prog.info? 5).map (fun i => (i.zero, i.size, i.bytes)) = some (some (.int .u8 0), 1, 1) := by kernel_rfl
theorem made_bytes (n : Nat) : madeCells #[Value.int .u8 0] (n * 1) = gcs (List.replicate n g0) := by
  have hs : (madeCells #[Value.int .u8 0] (n * 1)).size = n := by have := size_madeCells #[Value.int .u8 0] (n * 1); simpa using this
  apply Array.ext
  · rw [hs, gcs_size, List.length_replicate]
  · intro i h1 h2
    simp [madeCells, gcs, Nat.mod_one, g0]
theorem mk_bytes (n : Nat) (hl : n ≤ 1048576) (w : World) : (Instr.makeSlice 59 (.int .i64 (n : Int)) (.int .i64 (n : Int))).run Tryz.prog w =
    .ok (.slice (some ⟨w.heap.size, 0, none⟩) n n) (w.alloc (.cells (gcs (List.replicate n g0)) 5)) := by
  obtain ⟨i0, hi, hz0, hz1, hz2⟩ := info_parts Tryz.infoByte
  have h := run_make (P := Tryz.prog) w 59 5 i0 _ Tryz.underlying59 hi hz0 .i64 .i64 (n : Int) (n : Int) (by omega) (by omega) (by rw [hz2]; omega) (by omega)
  rw [hz1] at h
  simp only [Int.toNat_natCast] at h
  rw [h, show (Value.int IntKind.u8 0).cells = #[Value.int .u8 0] from rfl, made_bytes]
/-- The values at the first p powers of 2. -/
def synL (q : List G) (p : Nat) : List G := (List.range p).map fun i => val q (gp i)
theorem synL_len (q : List G) (p : Nat) : (synL q p).length = p := by simp [synL]
theorem synL_snoc (q : List G) (p : Nat) : synL q (p + 1) = synL q p ++ [val q (gp p)] := by simp [synL, List.range_succ]

set_option maxRecDepth 100000 in
set_option maxHeartbeats 1000000 in
theorem values_any (T : Nat) (A : Option Addr) (n c : Nat) (q : List G) (p : Nat) (w : World) (hT : Tabs T w) (hn : q.length = n) (hl : n ≤ 1048576) (hp : p ≤ 255) (hq : Byts w A q) :
    Calls Tryz.prog 101 #[.pointer (some ⟨T, 0, none⟩), .slice A n c, .int .i64 (p : Int)] w fun e w' => ∃ g, e = .returned (.slice (some ⟨g, 0, none⟩) p p) ∧ w.heap.size ≤ g ∧ BG w' g (synL q p) ∧ Gr w w' := by
  have HT := Lib.hid hT
  have HQ := Lib.hid hq
  have HN := Lib.hid hn
  have hmk := fun w => mk_bytes p (by omega) w
  have HB0 := Lib.hid (BG.new w (List.replicate p g0) rfl)
  have HG0 := Lib.hid ((Gr.refl w).alloc (.cells (gcs (List.replicate p g0)) 5))
  clear hT hq hn
  go_enter Tryz.func101, Tryz.ntmps101
  go_wp2_with fail
  generalize World.alloc w _ = W0 at HB0 HG0 ⊢
  clear hmk
  have HSZ := Lib.hid (Nat.le_refl w.heap.size)
  generalize hS : w.heap.size = S at HB0 HSZ ⊢
  have HS := Lib.hid hS
  clear hS
  go_loopw [12] (fun z wr => ∃ k : Nat, k ≤ p ∧ z = .int .i64 k ∧ Hid (BG wr S (synL q k ++ List.replicate (p - k) g0)) ∧ Hid (Gb S W0 wr)) (fun z _ => p - (intOf z).toNat)
  case atStart => exact ⟨0, Nat.zero_le _, rfl, by simpa [synL] using HB0, Lib.hid (Gb.refl _ _)⟩
  case round =>
    obtain ⟨k, hk, rfl, hB, hG⟩ := hrel
    have hgw := hG.out.gr HG0.out (by rw [HS.out]; exact Nat.le_refl _)
    by_cases hlt : k < p
    · have c0 := (HT.out.keep hgw).1 k (by omega)
      go_wp2_with fail
      refine (value_any T A n c q (gp k) _ (HT.out.keep hgw) HN.out hl (HQ.out.keep hgw)).mono ?_
      rintro e w1 ⟨rfl, hg1⟩
      have HB1 := Lib.hid (hB.out.keep hg1)
      have HG1 := Lib.hid (hG.out.trans (Gb.of hg1 S))
      have HST := Lib.hid (set_step (synL q k) k p (val q (gp k)) (synL_len _ _) hlt)
      rw [← synL_snoc] at HST
      have f1 := HB1.out.free k
      have c1 := HB1.out.at (i := k) (by rw [List.length_append, synL_len, List.length_replicate]; omega)
      have HP1 := Lib.hid (HB1.out.put k (val q (gp k)))
      rw [HST.out] at HP1
      have HP2 := Lib.hid (HG1.out.put k (.int .u8 ((val q (gp k)).v : Int)))
      generalize val q (gp k) = v at HP1 HP2 ⊢
      clear c0 hB hG HB1 HG1 HST hgw
      go_wp2_with fail
      go_roundw
      case rel => exact ⟨k + 1, by omega, by go_num, HP1, HP2⟩
      case measure => simp [intOf] <;> omega
    · obtain rfl : k = p := by omega
      rw [Nat.sub_self, List.replicate_zero, List.append_nil] at hB
      go_wp2_with fail
      go_ret
      exact ⟨S, rfl, by rw [HS.out]; exact Nat.le_refl _, hB.out, hgw⟩

end Go.Proofs.YtpnkpejnahhajaaGreat

namespace Go.Proofs.YtpnkpejnahhajaaGreat
open Go.RowKit
set_option linter.unusedSimpArgs false

def okB (n p : Int) : Bool := decide (0 ≤ p) && (decide (p ≤ 64) && (decide (p + 1 ≤ n) && decide (n ≤ 255)))
theorem okB_iff (n p : Int) : okB n p = true ↔ 0 ≤ p ∧ p ≤ 64 ∧ p + 1 ≤ n ∧ n ≤ 255 := by simp [okB]
theorem ok_ways (n p : Int) : (decide (0 ≤ p) = false ∧ okB n p = false) ∨ (decide (0 ≤ p) = true ∧ decide (p ≤ 64) = false ∧ okB n p = false) ∨
    (0 ≤ p ∧ p ≤ 64 ∧ decide (0 ≤ p) = true ∧ decide (p ≤ 64) = true ∧ decide (p + 1 ≤ n) = false ∧ okB n p = false) ∨ (0 ≤ p ∧ p ≤ 64 ∧ decide (0 ≤ p) = true ∧ decide (p ≤ 64) = true ∧ decide (p + 1 ≤ n) = true ∧ decide (n ≤ 255) = okB n p) := by
  unfold okB
  by_cases h1 : 0 ≤ p
  · by_cases h2 : p ≤ 64
    · by_cases h3 : p + 1 ≤ n
      · right; right; right; simp [h1, h2, h3]
      · right; right; left; simp [h1, h2, h3]
    · right; left; simp [h1, h2]
  · left; simp [h1]

set_option maxRecDepth 100000 in
theorem areValid_any (n p : Int) (w : World) (r : Bool) (hr : okB n p = r) : Calls Tryz.prog 55 #[.int .i64 n, .int .i64 p] w fun e w' => e = .returned (.bool r) ∧ w' = w := by
  rcases ok_ways n p with ⟨h1, h2⟩ | ⟨h1, h2, h3⟩ | ⟨g1, g2, h1, h2, h3, h4⟩ | ⟨g1, g2, h1, h2, h3, h4⟩
  · have HR : Hid (r = false) := Lib.hid (by rw [← hr, h2])
    clear hr h2
    go_enter Tryz.func55, Tryz.ntmps55
    go_wp2_with fail
    go_ret
    exact ⟨by rw [HR.out]; rfl, rfl⟩
  · have HR : Hid (r = false) := Lib.hid (by rw [← hr, h3])
    clear hr h3
    go_enter Tryz.func55, Tryz.ntmps55
    go_wp2_with fail
    go_ret
    exact ⟨by rw [HR.out]; rfl, rfl⟩
  · have HR : Hid (r = false) := Lib.hid (by rw [← hr, h4])
    clear hr h4
    go_enter Tryz.func55, Tryz.ntmps55
    go_wp2_with fail
    go_ret
    exact ⟨by rw [HR.out]; rfl, rfl⟩
  · have HR : Hid (decide (n ≤ 255) = r) := Lib.hid (by rw [← hr, h4])
    clear hr h4
    cases r
    all_goals
      have h5 := HR.out
      go_enter Tryz.func55, Tryz.ntmps55
      go_wp2_with fail
      go_ret
      exact ⟨rfl, rfl⟩

/-- The bytes of a string. -/
def gs (s : ByteArray) : List G := s.data.toList.map fun b => ⟨b.toNat, b.toNat_lt⟩
theorem gs_len (s : ByteArray) : (gs s).length = s.size := by simp [gs]

theorem conv_bytes (s : ByteArray) (w : World) : (convert 9 59 (.string s)).run Tryz.prog w = .ok (.slice (some ⟨w.heap.size, 0, none⟩) s.size (grownCap w s.size 0 5))
      (w.drew.alloc (.cells (bytesRow s (grownCap w s.size 0 5)) 5 ((bytesRow s (grownCap w s.size 0 5)).size, (bytesRow s (grownCap w s.size 0 5)).size + 1))) :=
  run_bytes_of_string w _ _ _ s Tryz.underlying9 Tryz.underlying59 Tryz.underlying5
theorem gs_get {s : ByteArray} {i : Nat} (hi : i < s.size) : (gs s)[i]? = some ⟨(s.data[i]'hi).toNat, (s.data[i]'hi).toNat_lt⟩ := by
  unfold gs
  rw [List.getElem?_map, Array.getElem?_toList, Array.getElem?_eq_getElem (show i < s.data.size from hi)]; rfl
/-- The bytes of a string, laid in a block of their own. -/
theorem bytes_rd (s : ByteArray) (w : World) (cap : Nat) (fr : Nat × Nat) : Byts (w.alloc (.cells (bytesRow s cap) 5 fr)) (some ⟨w.heap.size, 0, none⟩) (gs s) := fun i x hx => by
  have hi : i < s.size := by have := (List.getElem?_eq_some_iff.1 hx).1; rwa [gs_len] at this
  refine ⟨_, 0, rfl, fun j v hv => ?_⟩
  have hj : j = 0 := by have := (List.getElem?_eq_some_iff.1 hv).1; rw [encG_len] at this; omega
  subst hj
  rw [gs_get hi] at hx
  obtain rfl := Option.some.inj hx
  obtain rfl := Option.some.inj hv
  rw [Nat.zero_add, Nat.mul_one, Nat.add_zero, World.cell?_alloc_mark, bytesRow_at s cap i hi]

/-- Is a word a codeword? -/
def isB (q : List G) (p : Nat) : Bool := (synL q p).all fun x => decide (x = g0)
end Go.Proofs.YtpnkpejnahhajaaGreat

namespace Go.Proofs.YtpnkpejnahhajaaGreat
open Go.RowKit
set_option linter.unusedSimpArgs false

/-- The bytes xs lie at g, off, and may be written. -/
def Row (w : World) (g off : Nat) (xs : List G) : Prop := ∀ i, i < xs.length → w.cell? ⟨g, off + i, none⟩ = some (.int .u8 ((xs.getD i g0).v : Int)) ∧ w.frozen? ⟨g, off + i, none⟩ = false
theorem Row.keep {w w' : World} {g off : Nat} {xs : List G} (h : Row w g off xs) (hg : Gr w w') : Row w' g off xs := fun i hi => by
  obtain ⟨h1, h2⟩ := h i hi
  exact ⟨hg.keep h1, (Below.frozen (p := ⟨g, off + i, none⟩) hg (World.block_lt_of_cell? w _ h1)).trans h2⟩
theorem Row.pts {w : World} {g off : Nat} {xs : List G} (h : Row w g off xs) : Byts w (some ⟨g, off, none⟩) xs := fun i x hx => by
  have hi : i < xs.length := (List.getElem?_eq_some_iff.1 hx).1
  have hd : xs.getD i g0 = x := by rw [List.getD_eq_getElem?_getD, hx]; rfl
  obtain ⟨h1, -⟩ := h i hi
  rw [hd] at h1
  refine ⟨g, off, rfl, fun j v hv => ?_⟩
  match j, hv with
  | 0, hv => obtain rfl := Option.some.inj hv; rw [Nat.mul_one, Nat.add_zero]; exact h1
  | j + 1, hv => simp [encG] at hv
theorem Row.put {w : World} {g off : Nat} {xs : List G} (h : Row w g off xs) {k : Nat} (hk : k < xs.length) (y : G) : Row (w.setCell ⟨g, off + k, none⟩ (.int .u8 (y.v : Int))) g off (xs.set k y) := fun i hi => by
  have hi' : i < xs.length := by simpa using hi
  obtain ⟨h1, h2⟩ := h i hi'
  refine ⟨?_, by rw [frozen_put]; exact h2⟩
  by_cases e : i = k
  · subst e
    rw [World.cell?_setCell_same _ _ _ (by rw [h1]), List.getD_eq_getElem?_getD, List.getElem?_set_self hi']; rfl
  · rw [World.cell?_setCell_other _ _ _ _ (fun h => e (by injection h with _ h; omega)), h1, List.getD_eq_getElem?_getD, List.getD_eq_getElem?_getD, List.getElem?_set_ne (Ne.symm e)]
theorem Row.gb {w w' : World} {g g' off : Nat} {xs : List G} (h : Row w g off xs) (hg : Gb g' w w') (hne : g ≠ g') : Row w' g off xs := fun i hi => by
  obtain ⟨h1, h2⟩ := h i hi
  have hb : g < w.heap.size := World.block_lt_of_cell? w _ h1
  exact ⟨(hg.cell hb hne).trans h1, (World.frozen?_of_block (hg.block g hb (fun e => hne (by injection e)))).trans h2⟩
theorem BG.row {w : World} {g : Nat} {xs : List G} (h : BG w g xs) : Row w g 0 xs := fun i hi => by
  rw [Nat.zero_add]; exact ⟨h.at hi, h.free i⟩
theorem Row.drop {w : World} {g off : Nat} {xs : List G} (h : Row w g off xs) (k : Nat) : Row w g (off + k) (xs.drop k) := fun i hi => by
  have hi' : k + i < xs.length := by simp at hi; omega
  have := h (k + i) hi'
  rw [List.getD_eq_getElem?_getD, List.getElem?_drop, ← List.getD_eq_getElem?_getD, Nat.add_assoc]
  exact this
theorem Tabs.gb {T g : Nat} {w w' : World} (h : Tabs T w) (hg : Gb g w w') (hne : T ≠ g) : Tabs T w' :=
  ⟨fun i hi => by have h1 := h.1 i hi; exact (hg.cell (World.block_lt_of_cell? w _ h1) hne).trans h1, fun a ha => by have h1 := h.2 a ha; exact (hg.cell (World.block_lt_of_cell? w _ h1) hne).trans h1⟩
theorem Tabs.lt {T : Nat} {w : World} (h : Tabs T w) : T < w.heap.size := World.block_lt_of_cell? w _ (h.1 0 (by omega))
theorem Row.lt {w : World} {g off : Nat} {xs : List G} (h : Row w g off xs) (hn : 0 < xs.length) : g < w.heap.size := World.block_lt_of_cell? w _ (h 0 hn).1
/-- A list that reads, not in block g. -/
def BytsX (w : World) (g : Nat) (A : Option Addr) (ys : List G) : Prop := Byts w A ys ∧ (0 < ys.length → ∀ b o, A = some ⟨b, o, none⟩ → b ≠ g)
theorem BytsX.gb {w w' : World} {g : Nat} {A : Option Addr} {ys : List G} (h : BytsX w g A ys) (hg : Gb g w w') : BytsX w' g A ys := by
  refine ⟨fun i x hx => ?_, h.2⟩
  obtain ⟨b, off, e, hc⟩ := h.1 i x hx
  have hne := h.2 (by have := (List.getElem?_eq_some_iff.1 hx).1; omega) b off e
  exact ⟨b, off, e, fun j v hv => by have h1 := hc j v hv; exact (hg.cell (World.block_lt_of_cell? w _ h1) hne).trans h1⟩

/-- A block of c cells that are bytes. -/
def RoomL (w : World) (g c : Nat) : Prop := ∃ cur : Array Value, w.heap[g]? = some (.cells cur 5 (0, 0)) ∧ cur.size = c
theorem RoomL.keep {w w' : World} {g c : Nat} (h : RoomL w g c) (hg : Gr w w') : RoomL w' g c := by
  obtain ⟨cur, h1, h2⟩ := h
  exact ⟨cur, (Below.block hg g (Array.getElem?_eq_some_iff.1 h1).1).trans h1, h2⟩
theorem RoomL.put {w : World} {g c : Nat} (h : RoomL w g c) (b o : Nat) (u : Value) : RoomL (w.setCell ⟨b, o, none⟩ u) g c := by
  obtain ⟨cur, h1, h2⟩ := h
  by_cases e : b = g
  · subst e
    refine ⟨cur.setIfInBounds o u, ?_, by simpa using h2⟩
    simp [World.setCell, Array.getElem?_modify, h1]
  · exact ⟨cur, (Below.heap_setCell w ⟨b, o, none⟩ u g (Ne.symm e)).trans h1, h2⟩
theorem RoomL.many {g c b : Nat} : ∀ (vs : List Value) (o : Nat) {w : World}, RoomL w g c → RoomL (w.setCells b o vs) g c
  | [], _, _, h => h
  | v :: r, o, _, h => RoomL.many r (o + 1) (h.put b o v)
theorem RoomL.lt {w : World} {g c : Nat} (h : RoomL w g c) : g < w.heap.size := by
  obtain ⟨cur, h1, -⟩ := h
  exact (Array.getElem?_eq_some_iff.1 h1).1
theorem RoomL.shape {w : World} {g c : Nat} (h : RoomL w g c) : w.shape? g = some (5, c) := by
  obtain ⟨cur, h1, h2⟩ := h
  simp [World.shape?, h1, h2]
theorem RoomL.some {w : World} {g c : Nat} (h : RoomL w g c) {j : Nat} (hj : j < c) : (w.cell? ⟨g, j, none⟩).isSome = true := by
  obtain ⟨cur, h1, h2⟩ := h
  rw [cell_of_row w g j cur _ (0, 0) h1, Array.getElem?_eq_getElem (by omega)]; rfl
theorem RoomL.free {w : World} {g c : Nat} (h : RoomL w g c) (j : Nat) : w.frozen? ⟨g, j, none⟩ = false := by
  obtain ⟨cur, h1, h2⟩ := h
  simp [World.frozen?, h1]
theorem RoomL.new (w : World) (cs : Array Value) {g : Nat} (h : w.heap.size = g) : RoomL (w.alloc (.cells cs 5)) g cs.size := by
  subst h; exact ⟨cs, heap_alloc_new w _, rfl⟩
/-- A row within a block. -/
theorem Row.of_cells {w : World} {g : Nat} {xs : List G} {c : Nat} (hR : RoomL w g c) (h : ∀ i, i < xs.length → w.cell? ⟨g, i, none⟩ = some (.int .u8 ((xs.getD i g0).v : Int))) : Row w g 0 xs := fun i hi => by
  rw [Nat.zero_add]; exact ⟨h i hi, hR.free i⟩

theorem Row.past {w : World} {g : Nat} {zs : List G} (h : Row w g 0 zs) {o : Nat} (ho : zs.length ≤ o) (v : Value) : Row (w.setCell ⟨g, o, none⟩ v) g 0 zs := fun i hi => by
  obtain ⟨h1, h2⟩ := h i hi
  refine ⟨?_, by rw [frozen_put]; exact h2⟩
  rw [World.cell?_setCell_other _ _ _ _ (fun e => by injection e with _ e2; omega)]
  exact h1
def addL : List G → G → List G → List G
  | xs, _, [] => xs
  | [], _, _ :: _ => []
  | x :: xs, f, y :: ys => (x + f * y) :: addL xs f ys
theorem addL_nil (xs : List G) (f : G) : addL xs f [] = xs := by cases xs <;> rfl
theorem addL_len : ∀ (xs : List G) (f : G) (ys : List G), (addL xs f ys).length = xs.length
  | xs, f, [] => by rw [addL_nil]
  | [], f, _ :: _ => rfl
  | x :: xs, f, y :: ys => by simp [addL, addL_len xs f ys]
theorem addL_step : ∀ (xs : List G) (f : G) (ys : List G) (k : Nat), k < ys.length → k < xs.length →
    (addL xs f (ys.take k)).getD k g0 = xs.getD k g0 ∧ addL xs f (ys.take (k + 1)) = (addL xs f (ys.take k)).set k (xs.getD k g0 + f * ys.getD k g0)
  | x :: xs, f, y :: ys, 0, _, _ => by
    simp [addL, addL_nil]
  | x :: xs, f, y :: ys, k + 1, h1, h2 => by
    obtain ⟨i1, i2⟩ := addL_step xs f ys k (by simpa using h1) (by simpa using h2)
    simp only [List.take_succ_cons, addL, List.getD_cons_succ, List.set_cons_succ]
    exact ⟨i1, by rw [i2]⟩

set_option maxRecDepth 100000 in
set_option maxHeartbeats 1000000 in
theorem add_any (T g off n c : Nat) (xs : List G) (f : G) (A : Option Addr) (m mc : Nat) (ys : List G) (w : World) (hT : Tabs T w) (hTg : T ≠ g) (hR : Row w g off xs) (hn : xs.length = n) (hY : BytsX w g A ys) (hm : ys.length = m) (hmn : m ≤ n) (hl : n ≤ 1048576) :
    Calls Tryz.prog 95 #[.pointer (some ⟨T, 0, none⟩), .slice (some ⟨g, off, none⟩) n c, .int .u8 (f.v : Int), .slice A m mc] w fun e w' => e = .returned (.tuple #[]) ∧ Row w' g off (addL xs f ys) ∧ Gb g w w' ∧ (∀ c, RoomL w g c → RoomL w' g c) ∧ ∀ zs, zs.length ≤ off → Row w g 0 zs → Row w' g 0 zs := by
  have HT := Lib.hid hT
  have HR := Lib.hid hR
  have HY := Lib.hid hY
  have HN := Lib.hid hn
  have HM := Lib.hid hm
  clear hT hR hY hn hm
  go_enter Tryz.func95, Tryz.ntmps95
  go_wp2_with fail
  go_loopw [12] (fun z wr => ∃ k : Nat, k ≤ m ∧ z = .int .i64 k ∧ Hid (Row wr g off (addL xs f (ys.take k))) ∧ Hid (Gb g w wr) ∧ Hid (∀ c, RoomL w g c → RoomL wr g c) ∧ Hid (∀ zs, zs.length ≤ off → Row w g 0 zs → Row wr g 0 zs)) (fun z _ => m - (intOf z).toNat)
  case atStart => exact ⟨0, Nat.zero_le _, rfl, by simpa [addL_nil] using HR, Lib.hid (Gb.refl _ _), Lib.hid (fun _ h => h), Lib.hid (fun _ _ h => h)⟩
  case round =>
    obtain ⟨k, hk, rfl, hRw, hG, hRO, hFR⟩ := hrel
    by_cases hlt : k < m
    · have hky : k < ys.length := by have := HM.out; omega
      have hkx : k < xs.length := by have := HN.out; omega
      obtain ⟨b, o, rfl, c0⟩ := Byts_at (HY.out.gb hG.out).1 hky
      obtain ⟨s1, s2⟩ := addL_step xs f ys k hky hkx
      obtain ⟨r1, r2⟩ := hRw.out k (by rw [addL_len]; omega)
      rw [s1] at r1
      have HS := Lib.hid s2
      generalize ys.getD k g0 = y at c0 HS
      generalize xs.getD k g0 = x at r1 HS
      have HPR := Lib.hid (fun W' (h : Gr wr W') => product_any T f y W' ((HT.out.gb hG.out hTg).keep h))
      have hx := xor8 x (f * y)
      have hkn : k < n := by omega
      clear s1 s2
      go_wp2_with fail
      go_region_law (first | (go_simp; go_at_call 129; refine (HPR.out _ (by first | exact (Gr.refl _).drew | exact Gr.refl _)).mono ?_; rintro e w1 ⟨rfl, hg1⟩; have r1' := hg1.keep r1; have r2' := (frozen_gr hg1 (World.block_lt_of_cell? _ _ r1)).trans r2))
      all_goals
        go_wp2_with fail
        go_roundw
        case rel =>
          have hgd : Gr wr w1 := by first | exact hg1 | exact (Gr.refl _).drew.trans hg1
          refine ⟨k + 1, by omega, by go_num, Lib.hid ?_, Lib.hid ((hG.out.trans (Gb.of hgd g)).put (off + k) _), Lib.hid (fun c h => ((hRO.out c h).keep hgd).put _ _ _), Lib.hid (fun zs hz h => ((hFR.out zs hz h).keep hgd).past (by omega) _)⟩
          rw [HS.out]
          exact (hRw.out.keep hgd).put (by rw [addL_len]; omega) (x + f * y)
        case measure => simp [intOf] <;> omega
    · obtain rfl : k = m := by omega
      rw [List.take_of_length_le (by have := HM.out; omega)] at hRw
      go_wp2_with fail
      go_end0
      exact ⟨rfl, hRw.out, hG.out, hRO.out, hFR.out⟩

end Go.Proofs.YtpnkpejnahhajaaGreat
