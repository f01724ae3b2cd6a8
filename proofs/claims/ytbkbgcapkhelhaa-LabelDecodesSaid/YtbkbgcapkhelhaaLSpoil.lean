/- Layer 3: a word with some bytes changed. -/
import Derived.Test.YtbkbgcapkhelhaaLFit
import Derived.Deep.RegionLaw
namespace Go.Proofs.Ytbkbgcapkhelhaa
open Go.RowKit
set_option linter.unusedSimpArgs false

/-- A change: a number and a byte. -/
def encC (c : Int × G) : List Value := [.int .i64 c.1, .int .u8 (c.2.v : Int)]
theorem encC_len (x : Int × G) : (encC x).length = 2 := rfl
theorem encC_one (x : Int × G) : ∀ u ∈ encC x, u.oneCell' = true := by intro u hu; simp [encC] at hu; rcases hu with rfl | rfl <;> rfl
abbrev Chgs := Rd 2 encC
theorem Chgs_at {w : World} {A : Option Addr} {cs : List (Int × G)} (h : Chgs w A cs) {k : Nat} (hk : k < cs.length) :
    ∃ b off, A = some ⟨b, off, none⟩ ∧ w.cell? ⟨b, off + k * 2, none⟩ = some (.int .i64 (cs.getD k (0, g0)).1) ∧ w.cell? ⟨b, off + k * 2 + 1, none⟩ = some (.int .u8 ((cs.getD k (0, g0)).2.v : Int)) := by
  obtain ⟨b, off, e, hc⟩ := h k _ (getD_of (0, g0) hk)
  exact ⟨b, off, e, hc 0 _ rfl, hc 1 _ rfl⟩

/-- What the law's helper spoilt has done to ws: bs, and the positions at which it did. -/
structure Spoil (ws bs : List G) (at_ : List Nat) (most : Nat) (cs : List (Int × G)) : Prop where
  len : bs.length = ws.length
  few : at_.length ≤ most
  nodup : at_.Nodup
  ins : ∀ i ∈ at_, i < ws.length
  dif : ∀ i, i < ws.length → difB ws bs i = at_.contains i
  src : ∀ i ∈ at_, ∃ c ∈ cs, i = modP c.1 ws.length
theorem Spoil.start (ws : List G) (most : Nat) : Spoil ws ws [] most [] := ⟨rfl, Nat.zero_le _, List.nodup_nil, fun i h => by simp at h, fun i _ => by unfold difB; simp, fun i h => by simp at h⟩
theorem Spoil.skip {ws bs : List G} {at_ : List Nat} {most : Nat} {cs : List (Int × G)} (h : Spoil ws bs at_ most cs) (c : Int × G) : Spoil ws bs at_ most (cs ++ [c]) :=
  ⟨h.len, h.few, h.nodup, h.ins, h.dif, fun i hi => by obtain ⟨c', h1, h2⟩ := h.src i hi; exact ⟨c', List.mem_append_left _ h1, h2⟩⟩
theorem gadd_ne {x y : G} (h : y ≠ g0) : x + y ≠ x := fun e => h (by
  have : x + (x + y) = x + x := by rw [e]
  rwa [gadd_back, gadd_self] at this)
theorem Spoil.step {ws bs : List G} {at_ : List Nat} {most : Nat} {cs : List (Int × G)} (h : Spoil ws bs at_ most cs) {c : Int × G} (hk : modP c.1 ws.length < ws.length) (hn : at_.contains (modP c.1 ws.length) = false) (hm : at_.length < most) (hc : c.2 ≠ g0) :
    Spoil ws (bs.set (modP c.1 ws.length) (bs.getD (modP c.1 ws.length) g0 + c.2)) (at_ ++ [modP c.1 ws.length]) most (cs ++ [c]) := by
  have hsrc : ∀ i ∈ at_ ++ [modP c.1 ws.length], ∃ c' ∈ cs ++ [c], i = modP c'.1 ws.length := fun i hi => by
    rcases List.mem_append.1 hi with hi | hi
    · obtain ⟨c', h1, h2⟩ := h.src i hi; exact ⟨c', List.mem_append_left _ h1, h2⟩
    · rw [List.mem_singleton] at hi; exact ⟨c, List.mem_append_right _ (List.mem_singleton.2 rfl), hi⟩
  have hnm : modP c.1 ws.length ∉ at_ := by
    rw [List.contains_eq_mem, decide_eq_false_iff_not] at hn; exact hn
  generalize modP c.1 ws.length = k at hk hn hsrc hnm
  have hbk : bs.getD k g0 = ws.getD k g0 := by
    have := h.dif k hk
    rw [hn] at this
    unfold difB at this
    simpa using this
  refine ⟨by rw [List.length_set]; exact h.len, by rw [List.length_append]; simp; omega, ?_, ?_, ?_, hsrc⟩
  · rw [List.nodup_append]
    refine ⟨h.nodup, by simp, fun a ha b hb e => ?_⟩
    rw [List.mem_singleton] at hb
    subst hb; subst e
    exact hnm ha
  · intro i hi
    rcases List.mem_append.1 hi with hi | hi
    · exact h.ins i hi
    · rw [List.mem_singleton] at hi; rw [hi]; exact hk
  · intro i hi
    have hc1 : (at_ ++ [k]).contains i = (at_.contains i || decide (i = k)) := by
      rw [Bool.eq_iff_iff]; simp [List.contains_eq_mem]
    unfold difB
    rw [getD_set _ _ _ _ (by rw [h.len]; exact hk), hc1]
    by_cases e : k = i
    · subst e
      rw [if_pos rfl, hbk, decide_eq_false (gadd_ne hc)]
      simp
    · rw [if_neg e, show decide (i = k) = false from decide_eq_false (fun h => e h.symm), Bool.or_false]
      exact h.dif i hi

def SpoilPost (ws : List G) (most : Nat) (cs : List (Int × G)) (w : World) (e : Ending) (w' : World) : Prop :=
  ∃ bs at_ B m c, e = .returned (.tuple #[.string (txt bs), .slice B m c]) ∧ at_.length = m ∧ Ints w' B (nats at_) ∧ Spoil ws bs at_ most cs ∧ (B = none → c = 0) ∧ Gr w w'

/-- A row of bytes that []byte of a string has made. -/
theorem conv_row (s : ByteArray) (w : World) (cap : Nat) (hc : s.size ≤ cap) : Row (w.alloc (.cells (bytesRow s cap) 5 ((bytesRow s cap).size, (bytesRow s cap).size + 1))) w.heap.size 0 (gs s) := fun i hi => by
  rw [Nat.zero_add]
  rw [gs_len] at hi
  exact ⟨bytes_at hi, bytes_free hc (by omega)⟩
theorem Row.grown {w w' : World} {g off : Nat} {xs : List G} {row : Option Nat} (h : Row w g off xs) (hg : w.grownBy w' row) (hne : some g ≠ row) : Row w' g off xs := fun i hi => by
  obtain ⟨h1, h2⟩ := h i hi
  have hb : g < w.heap.size := World.block_lt_of_cell? w _ h1
  have hbl := hg.block g hb hne
  exact ⟨(World.cell?_of_block hbl).trans h1, (World.frozen?_of_block hbl).trans h2⟩
theorem owns_gb {w w' : World} {base g : Nat} {e : TypeId} {size n : Nat} {v : Value} {xs : List Value} (h : w.ownsRow base e size v n xs) (hg : Gb g w w') (hb : g < base) : w'.ownsRow base e size v n xs :=
  h.kept (row := some g) hg (by
    cases ho : v.ownBlock with
    | none => exact Or.inl rfl
    | some k =>
      right
      intro e
      have h1 := (h.lt k ho).1
      have h2 := Option.some.inj e
      omega)
theorem Gb.grown {D : Nat} {wa wn w2 : World} {row : Option Nat} (h : Gb D wa wn) (hg : wn.grownBy w2 row) (hr : ∀ k, row = some k → wa.heap.size ≤ k) : Gb D wa w2 :=
  ⟨hg.os.trans h.os, hg.tape.trans h.tape, hg.output.trans h.output, Nat.le_trans h.size hg.size, fun i hi hn => (hg.block i (Nat.lt_of_lt_of_le hi h.size) (fun e => by have := hr i e.symm; omega)).trans (h.block i hi hn)⟩
set_option maxRecDepth 100000 in
set_option maxHeartbeats 8000000 in
theorem spoilt_any (s : ByteArray) (A : Option Addr) (n c : Nat) (cs : List (Int × G)) (most : Nat) (w : World) (h1 : 1 ≤ s.size) (hs : s.size ≤ 255) (hmo : most ≤ 255) (hn : cs.length = n) (hl : n ≤ 9223372036854775807) (hA : Chgs w A cs) :
    Calls Try.prog 30 #[.string s, .slice A n c, .int .i64 (most : Int)] w (SpoilPost (gs s) most cs w) := by
  obtain ⟨i0, hi0, hz0, hz1, hz2⟩ := info_parts Try.infoInt
  have HN := Lib.hid hn
  have HA := Lib.hid hA
  have hcv := conv_bytes s w
  have hgrow : s.size ≤ grownCap w s.size 0 5 := grownCap_ge w _ _ _
  clear hn hA
  go_enter Try.func30, Try.ntmps30
  go_wp2_with (simp only [hcv])
  obtain ⟨wa, hwa⟩ : ∃ wa, w.alloc (.cells (bytesRow s (grownCap w s.size 0 5)) 5 ((bytesRow s (grownCap w s.size 0 5)).size, (bytesRow s (grownCap w s.size 0 5)).size + 1)) = wa := ⟨_, rfl⟩
  have hga : Gr w wa := by rw [← hwa]; exact (Gr.refl _).alloc _
  have hRa : Row wa w.heap.size 0 (gs s) := by rw [← hwa]; exact conv_row s w _ hgrow
  have hsa : wa.heap.size = w.heap.size + 1 := by rw [← hwa]; simp
  rw [hwa]
  clear hwa hcv
  generalize grownCap w s.size 0 5 = cw at hgrow ⊢
  obtain ⟨D, hD⟩ : ∃ D, w.heap.size = D := ⟨_, rfl⟩
  rw [hD] at hRa hsa ⊢
  have HDw : Hid (w.heap.size ≤ D) := Lib.hid (by omega)
  have HGA := Lib.hid hga
  have HRA := Lib.hid hRa
  have HSA : Hid (D < wa.heap.size) := Lib.hid (by omega)
  clear hga hRa hsa hD
  go_loopw [9, 10] (fun v z wr => ∃ (j m : Nat) (bs : List G) (at_ : List Nat), j ≤ n ∧ z = .int .i64 j ∧ m ≤ most ∧ Hid (at_.length = m) ∧ Hid (Spoil (gs s) bs at_ most (cs.take j)) ∧ Hid (Row wr D 0 bs) ∧ Hid (wr.ownsRow wa.heap.size 3 1 v m (flatE enc1 (nats at_))) ∧ Hid (Gb D wa wr)) (fun _ z _ => n - (intOf z).toNat)
  case atStart => exact ⟨0, 0, gs s, [], Nat.zero_le _, rfl, Nat.zero_le _, Lib.hid rfl, Lib.hid (Spoil.start _ _), Lib.hid (HRA.out.keep ((Gr.refl _).drew)), Lib.hid (World.ownsRow_nil _ _ _ _), Lib.hid ((Gb.refl _ _).drew)⟩
  case round =>
    obtain ⟨j, m, bs, at_, hj, rfl, hmm, hml, HSP, hR, hown, hG⟩ := hrel
    obtain ⟨B, cB, hv, -, hrd, hnil⟩ := own_row (k := 1) (fun _ => rfl) (by rw [nats_len, hml.out]) hown.out
    have HRD := Lib.hid hrd
    have HNIL := Lib.hid hnil
    subst hv
    have HGW := Lib.hid (hG.out.gr HGA.out HDw.out)
    clear hrd hnil
    have HFIN : Hid (Spoil (gs s) bs at_ most cs) := Lib.hid ⟨HSP.out.len, HSP.out.few, HSP.out.nodup, HSP.out.ins, HSP.out.dif, fun i hi => by obtain ⟨c', h1, h2⟩ := HSP.out.src i hi; exact ⟨c', List.mem_of_mem_take h1, h2⟩⟩
    have HBL : Hid (bs.length = s.size) := Lib.hid (by rw [HSP.out.len, gs_len])
    have hbk := back_any (some ⟨D, 0, none⟩) s.size cw bs HBL.out wr hR.out.pts
    by_cases hlt : j < n
    · by_cases hmo2 : m < most
      · have hjl : j < cs.length := by have := HN.out; omega
        obtain ⟨b, off, rfl, e0, e1⟩ := Chgs_at (HA.out.keep HGW.out) hjl
        have HTK : Hid (cs.take (j + 1) = cs.take j ++ [cs.getD j (0, g0)]) := Lib.hid (by rw [List.take_add_one, getD_of (0, g0) hjl]; rfl)
        generalize cs.getD j (0, g0) = ch at e0 e1 HTK
        obtain ⟨x, y⟩ := ch
        have hKl := modP_lt (x := x) h1 (by omega : s.size ≤ 1048576)
        have HMD := Lib.hid (fun W => modP_any x s.size W h1 (by omega))
        have HSK := Lib.hid (HSP.out.skip (x, y))
        rw [← HTK.out] at HSK
        have HSTP : Hid (at_.contains (modP x s.size) = false → y ≠ g0 → Spoil (gs s) (bs.set (modP x s.size) (bs.getD (modP x s.size) g0 + y)) (at_ ++ [modP x s.size]) most (cs.take (j + 1))) := Lib.hid (fun hc hy => by
          have h := HSP.out.step (c := (x, y)) (by rw [gs_len]; exact hKl) (by rw [gs_len]; exact hc) (by rw [hml.out]; exact hmo2) hy
          rw [gs_len, ← HTK.out] at h
          exact h)
        generalize modP x s.size = K at hKl HMD HSTP
        have hz := g_zero_test y
        by_cases hy : y = g0
        · rw [decide_eq_true hy] at hz
          clear hy hbk
          go_wp2_with fail
          refine (HMD.out _).mono ?_
          rintro e w3 ⟨rfl, rfl⟩
          go_wp2_with fail
          go_roundw
          case rel => exact ⟨j + 1, m, bs, at_, by omega, by go_num, hmm, hml, HSK, hR, hown, hG⟩
          case measure => simp [intOf]; omega
        · rw [decide_eq_false hy] at hz
          rcases hc : at_.contains K with _ | _
          · have HNX := Lib.hid (HSTP.out hc hy)
            have HHA := Lib.hid (rHas_any B m cB at_ K wr hml.out (by omega) HRD.out false hc)
            obtain ⟨r1, r2⟩ := hR.out K (by rw [HBL.out]; exact hKl)
            rw [Nat.zero_add] at r1 r2
            generalize bs.getD K g0 = u at r1 HNX
            have hx := xor8 u y
            clear hy hc HSTP HSK hbk
            go_wp2_with fail
            refine (HMD.out _).mono ?_
            rintro e w3 ⟨rfl, rfl⟩
            go_wp2_with fail
            refine HHA.out.mono ?_
            rintro e w3 ⟨rfl, rfl⟩
            go_wp2_with fail
            go_region_law (fail)
            all_goals
              have hown2 : Hid ((w3.setCell ⟨D, K, none⟩ (.int .u8 ((u + y).v : Int))).drew.ownsRow wa.heap.size 3 1 (.slice B m cB) m (flatE enc1 (nats at_))) := Lib.hid (owns_gr (owns_gb hown.out ((Gb.refl D w3).put K _) HSA.out) ((Gr.refl _).drew))
              have hR2 : Hid (Row (w3.setCell ⟨D, K, none⟩ (.int .u8 ((u + y).v : Int))).drew D 0 (bs.set K (u + y))) := Lib.hid (by
                have h := hR.out.put (k := K) (by rw [HBL.out]; exact hKl) (u + y)
                rw [Nat.zero_add] at h
                exact h.keep ((Gr.refl _).drew))
              have hG2 : Hid (Gb D wa (w3.setCell ⟨D, K, none⟩ (.int .u8 ((u + y).v : Int))).drew) := Lib.hid ((hG.out.put K _).drew)
              generalize (w3.setCell ⟨D, K, none⟩ (.int .u8 ((u + y).v : Int))).drew = wn at hown2 hR2 hG2 ⊢
              have hszn := hG2.out.size
              have hlto := hown2.out.lt
              have HLTO := Lib.hid hlto
              clear hlto r1 r2
              go_wp2_with (at_builtin; refine wpList_append_own _ rfl _ _ 34 rfl wa.heap.size 3 i0 _ 1 8 Try.underlying34 hi0 hz0 hz1 hz2 rfl (by decide) _ _ _ rfl (hown2.out.alloc _) ⟨wn.heap.size, 0, none⟩ 1 1 [.int .i64 (K : Int)] rfl rfl ?a1 ?a2 ?a3 ?a4 ?a5 ?_)
              case a1 =>
                intro t u ht
                rw [Addr.add_lit]
                exact alloc_new rfl (by rw [Nat.zero_add]; simpa using ht)
              case a2 => intro u hu; obtain rfl := List.mem_singleton.1 hu; rfl
              case a3 => unfold maxLen; omega
              case a4 => omega
              case a5 => simp; omega
              intro v' w4 hown' hgrow _
              have HO2 := Lib.hid hown'
              have HR4 : Hid (Row w4 D 0 (bs.set K (u + y))) := Lib.hid ((hR2.out.keep ((Gr.refl _).alloc (.cells #[.int .i64 (K : Int)] 3))).grown hgrow (fun e => by
                have h1 := (HLTO.out D e.symm).1
                have h2 := HSA.out
                omega))
              have HG4 : Hid (Gb D wa w4) := Lib.hid (Gb.grown (hG2.out.trans (Gb.of ((Gr.refl _).alloc (.cells #[.int .i64 (K : Int)] 3)) D)) hgrow (fun k e => (HLTO.out k e).1))
              clear hown' hgrow
              go_wp2_with fail
              go_roundw
              case rel => exact ⟨j + 1, m + 1, _, _, by omega, by go_num, by omega, Lib.hid (by rw [List.length_append, hml.out]; rfl), HNX, HR4, Lib.hid (by
                rw [flat_nats_snoc]
                exact HO2.out), HG4⟩
              case measure => simp [intOf]; omega
          · have HHA := Lib.hid (rHas_any B m cB at_ K wr hml.out (by omega) HRD.out true hc)
            clear hy hc HSTP hbk
            go_wp2_with fail
            refine (HMD.out _).mono ?_
            rintro e w3 ⟨rfl, rfl⟩
            go_wp2_with fail
            refine HHA.out.mono ?_
            rintro e w3 ⟨rfl, rfl⟩
            go_wp2_with fail
            go_roundw
            case rel => exact ⟨j + 1, m, bs, at_, by omega, by go_num, hmm, hml, HSK, hR, hown, hG⟩
            case measure => simp [intOf]; omega
      · have hmo3 : ¬ ((m : Int) < (most : Int)) := by omega
        go_wp2_with (simp only [hbk])
        try rw [Exit.noGoto_ret]
        go_ret2
        exact ⟨bs, at_, B, m, cB, rfl, hml.out, HRD.out, HFIN.out, HNIL.out, HGW.out⟩
    · have hlt' : ¬ ((j : Int) < (n : Int)) := by omega
      go_wp2_with (simp only [hbk])
      try rw [Exit.noGoto_ret]
      go_ret2
      exact ⟨bs, at_, B, m, cB, rfl, hml.out, HRD.out, HFIN.out, HNIL.out, HGW.out⟩
end Go.Proofs.Ytbkbgcapkhelhaa
