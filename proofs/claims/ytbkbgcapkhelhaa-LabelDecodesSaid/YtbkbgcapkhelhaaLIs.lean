/- Layer 3: parameters, syndromes, whether a word is a codeword. -/
import Derived.Test.YtbkbgcapkhelhaaLSyn
import Derived.Laws.IdiomStrings
namespace Go.Proofs.Ytbkbgcapkhelhaa
open Go.RowKit
set_option linter.unusedSimpArgs false

def okB (n p : Int) : Bool := decide (0 ≤ p) && (decide (p ≤ 64) && (decide (p + 1 ≤ n) && decide (n ≤ 255)))
theorem okB_iff (n p : Int) : okB n p = true ↔ 0 ≤ p ∧ p ≤ 64 ∧ p + 1 ≤ n ∧ n ≤ 255 := by simp [okB]
theorem ok_ways (n p : Int) : (decide (0 ≤ p) = false ∧ okB n p = false) ∨ (decide (0 ≤ p) = true ∧ decide (p ≤ 64) = false ∧ okB n p = false) ∨
    (0 ≤ p ∧ p ≤ 64 ∧ decide (0 ≤ p) = true ∧ decide (p ≤ 64) = true ∧ decide (p + 1 ≤ n) = false ∧ okB n p = false) ∨ (0 ≤ p ∧ p ≤ 64 ∧ decide (0 ≤ p) = true ∧ decide (p ≤ 64) = true ∧ decide (p + 1 ≤ n) = true ∧ decide (n ≤ 255) = okB n p) := by
  unfold okB
  by_cases h1 : 0 ≤ p
  · by_cases h2 : p ≤ 64
    · by_cases h3 : p + 1 ≤ n
      · right; right; right; simp [h1, h2, h3]
      · right; right; left; simp [h1, h2, h3]
    · right; left; simp [h1, h2]
  · left; simp [h1]

set_option maxRecDepth 100000 in
theorem areValid_any (n p : Int) (w : World) (r : Bool) (hr : okB n p = r) : Calls Try.prog 36 #[.int .i64 n, .int .i64 p] w fun e w' => e = .returned (.bool r) ∧ w' = w := by
  rcases ok_ways n p with ⟨h1, h2⟩ | ⟨h1, h2, h3⟩ | ⟨g1, g2, h1, h2, h3, h4⟩ | ⟨g1, g2, h1, h2, h3, h4⟩
  · have HR : Hid (r = false) := Lib.hid (by rw [← hr, h2])
    clear hr h2
    go_enter Try.func36, Try.ntmps36
    go_wp2_with fail
    go_ret
    exact ⟨by rw [HR.out]; rfl, rfl⟩
  · have HR : Hid (r = false) := Lib.hid (by rw [← hr, h3])
    clear hr h3
    go_enter Try.func36, Try.ntmps36
    go_wp2_with fail
    go_ret
    exact ⟨by rw [HR.out]; rfl, rfl⟩
  · have HR : Hid (r = false) := Lib.hid (by rw [← hr, h4])
    clear hr h4
    go_enter Try.func36, Try.ntmps36
    go_wp2_with fail
    go_ret
    exact ⟨by rw [HR.out]; rfl, rfl⟩
  · have HR : Hid (decide (n ≤ 255) = r) := Lib.hid (by rw [← hr, h4])
    clear hr h4
    cases r
    all_goals
      have h5 := HR.out
      go_enter Try.func36, Try.ntmps36
      go_wp2_with fail
      go_ret
      exact ⟨rfl, rfl⟩

/-- The bytes of a string. -/
def gs (s : ByteArray) : List G := s.data.toList.map fun b => ⟨b.toNat, b.toNat_lt⟩
theorem gs_len (s : ByteArray) : (gs s).length = s.size := by simp [gs]

theorem conv_bytes (s : ByteArray) (w : World) : (convert 9 40 (.string s)).run Try.prog w = .ok (.slice (some ⟨w.heap.size, 0, none⟩) s.size (grownCap w s.size 0 5))
      (w.drew.alloc (.cells (bytesRow s (grownCap w s.size 0 5)) 5 ((bytesRow s (grownCap w s.size 0 5)).size, (bytesRow s (grownCap w s.size 0 5)).size + 1))) :=
  run_bytes_of_string w _ _ _ s Try.underlying9 Try.underlying40 Try.underlying5
theorem gs_get {s : ByteArray} {i : Nat} (hi : i < s.size) : (gs s)[i]? = some ⟨(s.data[i]'hi).toNat, (s.data[i]'hi).toNat_lt⟩ := by
  unfold gs
  rw [List.getElem?_map, Array.getElem?_toList, Array.getElem?_eq_getElem (show i < s.data.size from hi)]; rfl
/-- The bytes of a string, laid in a block of their own. -/
theorem bytes_rd (s : ByteArray) (w : World) (cap : Nat) (fr : Nat × Nat) : Byts (w.alloc (.cells (bytesRow s cap) 5 fr)) (some ⟨w.heap.size, 0, none⟩) (gs s) := fun i x hx => by
  have hi : i < s.size := by have := (List.getElem?_eq_some_iff.1 hx).1; rwa [gs_len] at this
  refine ⟨_, 0, rfl, fun j v hv => ?_⟩
  have hj : j = 0 := by have := (List.getElem?_eq_some_iff.1 hv).1; rw [encG_len] at this; omega
  subst hj
  rw [gs_get hi] at hx
  obtain rfl := Option.some.inj hx
  obtain rfl := Option.some.inj hv
  rw [Nat.zero_add, Nat.mul_one, Nat.add_zero, World.cell?_alloc_mark, bytesRow_at s cap i hi]

set_option maxRecDepth 100000 in
set_option maxHeartbeats 1000000 in
theorem Syndromes_yes (s : ByteArray) (p : Nat) (w : World) (hr : okB (s.size : Int) (p : Int) = true) :
    Calls Try.prog 24 #[.string s, .int .i64 (p : Int)] w fun e w' => ∃ g, e = .returned (.tuple #[.slice (some ⟨g, 0, none⟩) p p, .int .i64 0]) ∧ w.heap.size ≤ g ∧ BG w' g (synL (gs s) p) ∧ Gr w w' := by
  have HV := Lib.hid (fun W' => areValid_any (s.size : Int) (p : Int) W' true hr)
  have hb := (okB_iff _ _).1 hr
  have hcv := conv_bytes s
  have hl : s.size ≤ 255 := by omega
  clear hr
  go_enter Try.func24, Try.ntmps24
  go_wp2_with fail
  refine (HV.out _).mono ?_
  rintro e w1 ⟨rfl, rfl⟩
  go_wp2_with fail
  refine (newTables_any _).mono ?_
  rintro e w2 ⟨T, rfl, hT1, hT, hg⟩
  have HT := Lib.hid hT
  clear hT
  go_wp2_with fail
  generalize hcap : grownCap _ _ _ _ = cap
  have hrd := (bytes_rd s w2 cap ((bytesRow s cap).size, (bytesRow s cap).size + 1)).keep (Gr.refl _).drew
  have hg2 : Gr w2 (w2.alloc (.cells (bytesRow s cap) 5 ((bytesRow s cap).size, (bytesRow s cap).size + 1))).drew := ((Gr.refl w2).alloc _).drew
  have HRD := Lib.hid hrd
  have HG2 := Lib.hid hg2
  clear hrd hg2 hcv hcap
  refine (values_any T _ s.size cap (gs s) p _ (HT.out.keep HG2.out) (gs_len s) (by omega) (by omega) HRD.out).mono ?_
  rintro e w3 ⟨g, rfl, hg3, hB, hg4⟩
  go_wp2_with fail
  go_ret2
  have h1 := hg.size
  have h2 := (hg.trans HG2.out).size
  exact ⟨g, rfl, by omega, hB, (hg.trans HG2.out).trans hg4⟩

set_option maxRecDepth 100000 in
theorem Syndromes_no (s : ByteArray) (p : Int) (w : World) (hr : okB (s.size : Int) p = false) :
    Calls Try.prog 24 #[.string s, .int .i64 p] w fun e w' => e = .returned (.tuple #[.slice none 0 0, .int .i64 2]) ∧ w' = w := by
  have HV := Lib.hid (fun W' => areValid_any (s.size : Int) p W' false hr)
  clear hr
  go_enter Try.func24, Try.ntmps24
  go_wp2_with fail
  refine (HV.out _).mono ?_
  rintro e w1 ⟨rfl, rfl⟩
  go_wp2_with fail
  go_ret2
  exact ⟨rfl, rfl⟩

/-- Is a word a codeword? -/
def isB (q : List G) (p : Nat) : Bool := (synL q p).all fun x => decide (x = g0)
set_option maxRecDepth 100000 in
theorem Is_yes (s : ByteArray) (p : Nat) (w : World) (hr : okB (s.size : Int) (p : Int) = true) :
    Calls Try.prog 23 #[.string s, .int .i64 (p : Int)] w fun e w' => e = .returned (.tuple #[.bool (isB (gs s) p), .int .i64 0]) ∧ Gr w w' := by
  have HS := Lib.hid (fun W' => Syndromes_yes s p W' hr)
  have hb := (okB_iff _ _).1 hr
  have d0 : ((0 : Int) != 0) = false := by simp
  clear hr
  go_enter Try.func23, Try.ntmps23
  go_wp2_with fail
  refine (HS.out _).mono ?_
  rintro e w1 ⟨g, rfl, -, hB, hg⟩
  have HB := Lib.hid hB
  clear hB
  go_wp2_with fail
  refine (areZero_any (some ⟨g, 0, none⟩) p p (synL (gs s) p) _ (synL_len _ _) (by omega) HB.out.pts _ rfl).mono ?_
  rintro e w2 ⟨rfl, rfl⟩
  go_wp2_with fail
  go_ret2
  exact ⟨rfl, hg⟩
set_option maxRecDepth 100000 in
theorem Is_no (s : ByteArray) (p : Int) (w : World) (hr : okB (s.size : Int) p = false) :
    Calls Try.prog 23 #[.string s, .int .i64 p] w fun e w' => e = .returned (.tuple #[.bool false, .int .i64 2]) ∧ w' = w := by
  have HS := Lib.hid (fun W' => Syndromes_no s p W' hr)
  have d0 : ((2 : Int) != 0) = true := by simp
  clear hr
  go_enter Try.func23, Try.ntmps23
  go_wp2_with fail
  refine (HS.out _).mono ?_
  rintro e w1 ⟨rfl, rfl⟩
  go_wp2_with fail
  go_ret2
  exact ⟨rfl, rfl⟩

end Go.Proofs.Ytbkbgcapkhelhaa
