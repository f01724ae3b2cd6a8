/- For any list of numbers and any list of acts, the law silversidelaw05.PactRuns returns true, its arguments read behind the call as before it, and memory that was there and the outside world are as they were. No condition on the arguments. -/
import Derived.Test.YtnoeiocbmhkmeaaGreatBu43
import Derived.Test.YtnoeiocbmhkmeaaGreatBu40
import Derived.Test.YtnoeiocbmhkmeaaGreatBu44
namespace Go.Proofs.YtnoeiocbmhkmeaaGreat
open Go.RowKit
set_option linter.unusedSimpArgs false

/-- A net and a reference in a law's boxes: x is the box of the reference. -/
structure RunQ (w : World) (B g p : Nat) (N : Nx) (L : LN) (W : World) : Prop where
  net : NetR B W N
  p5 : N.p = p
  two : Two (nzN N) L.era
  xat : XAt ([g] ++ ownB N) W L
  box : Blk W g 33 #[L.sv, L.tv, L.lv]
  far : g ∉ ownB N
  gr : Gr w W
  new : w.heap.size ≤ g
section
variable {w : World} {B g p : Nat} {N N' : Nx} {L L' : LN} {W W' W'' : World}
theorem RunQ.keep (h : RunQ w B g p N L W) (hg : Gr W W') : RunQ w B g p N L W' := ⟨h.net.keep hg, h.p5, h.two, h.xat.gr hg, h.box.keep hg, h.far, h.gr.trans hg, h.new⟩
/-- A call on both sides, then the reference's net is stored. -/
theorem RunQ.act {q : Nat} (h : RunQ w B g p N L W) (hB : w.heap.size ≤ B) (hto : NetTo B W N N' W') (ht : Two (nzN N') L'.era) (hx : XAt ([g, q] ++ ownB N') W' L') : Gr w W' ∧ Blk W' g 33 #[L.sv, L.tv, L.lv] ∧ g < W.heap.size ∧ g ∉ ownB N' ∧ ∀ W'', (Gr W' W'' ∨ (Ch [q] W' W'' ∧ q ≠ g ∧ q ∉ ownB N' ∧ w.heap.size ≤ q)) → Blk W'' g 33 #[L.sv, L.tv, L.lv] ∧ ∀ W3, ((W''.setCell ⟨g, 0, none⟩ L'.sv).setCell ⟨g, 1, none⟩ L'.tv).setCell ⟨g, 2, none⟩ L'.lv = W3 → RunQ w B g p N' L' W3 := by
  have hk : Blk W' g _ _ := (hto.ch.block g h.box.lt h.far).trans h.box
  have hf : g ∉ ownB N' := fun hm => (hto.own g hm).elim h.far (fun e => by have := h.box.lt; omega)
  have hgw : Gr w W' := hto.ch.up h.gr (fun t ht => by have := (h.net.own t ht).1; omega)
  refine ⟨hgw, hk, h.box.lt, hf, fun W'' hg => ?_⟩
  have hc : Ch [q] W' W'' := hg.elim (fun hg => Ch.of hg) (fun hg => hg.1)
  have hk2 : Blk W'' g 33 #[L.sv, L.tv, L.lv] := hg.elim (fun hg => hk.keep hg) (fun hg => (hg.1.block g hk.lt (fun hm => hg.2.1 (List.mem_singleton.1 hm).symm)).trans hk)
  have hn2 : NetR B W'' N' := hg.elim (fun hg => hto.net.keep hg) (fun hg => hto.net.turn2 hg.1 (fun t ht hm => hg.2.2.1 (by rw [← List.mem_singleton.1 hm]; exact ht)))
  have hg2 : Gr w W'' := hg.elim (fun hg => hgw.trans hg) (fun hg => hg.1.up hgw (fun t ht => by rw [List.mem_singleton.1 ht]; exact hg.2.2.2))
  refine ⟨hk2, fun W3 hW => ?_⟩
  obtain ⟨k3, c3⟩ := put33 hk2 hW
  refine ⟨hn2.turn2 c3 (fun t ht hm => hf (by rw [List.mem_singleton.1 hm] at ht; exact ht)), by rw [hto.p]; exact h.p5, ht, ?_, k3, hf, c3.up hg2 (fun t ht => by rw [List.mem_singleton.1 ht]; exact h.new), h.new⟩
  refine hx.ch (((hc.mono (T := [g, q] ++ ownB N') (by simp)).trans c3 (fun t ht => Or.inl (by rw [List.mem_singleton.1 ht]; simp)))) (fun t ht => Or.inl ?_)
  rcases List.mem_append.1 ht with ht | ht
  · rw [List.mem_singleton.1 ht]; simp
  · exact List.mem_append_right _ ht
end
set_option maxRecDepth 100000 in
set_option maxHeartbeats 4000000 in
theorem lawRuns_any (A : Option Addr) (n c : Nat) (l : List Int) (AA : Option Addr) (an ac : Nat) (acts : List Ac) (w : World) (hn : l.length = n) (hl : n ≤ 9223372036854775807) (hp : Ints w A l) (han : acts.length = an) (_hac : an ≤ ac) (_ham : ac ≤ 9223372036854775807) (har : Rd 4 encA w AA acts) (hok : ∀ a ∈ acts, AcOk w a) :
    Calls Tryz.prog 3 #[.slice A n c, .slice AA an ac] w fun e w' => e = .returned (.bool true) ∧ Gr w w' := by
  have HTA := Lib.hid (tame5_any A n c l w hn hl hp)
  have HAW := Lib.hid (fun W => awake5_any W)
  have HAN := Lib.hid han
  have HAR := Lib.hid har
  have HOK := Lib.hid hok
  have hans : an ≤ 9223372036854775807 := by omega
  clear hn hl hp han har hok
  go_enter Tryz.func3, Tryz.ntmps3
  go_wp2_with fail
  refine HTA.out.mono ?_
  rintro e w1 ⟨tl, k, A1, c1, rfl, hlen, hk1, hk5, hval, hrow, hg1⟩
  obtain ⟨g, cap, e1, hgl, hgs⟩ : ∃ g cap, Value.slice A1 k c1 = .slice (some ⟨g, 0, none⟩) k cap ∧ w.heap.size ≤ g ∧ g < w1.heap.size := by
    rcases hrow.2 with ⟨-, h2⟩ | ⟨g, cap, cur, h1, h2, h3, -⟩
    · omega
    · exact ⟨g, cap, h1, h2, (Array.getElem?_eq_some_iff.1 h3).1⟩
  rw [e1] at hrow ⊢
  have hst : okStocks tl = true := (okStocks_iff tl).2 ⟨by omega, by omega, hval⟩
  have HLT := Lib.hid hlen
  have hrd : Ints w1 (some ⟨g, 0, none⟩) tl := Rd_of_owns enc1p_len hlen hrow
  have HST := Lib.hid hst
  have HRD := Lib.hid hrd
  have HG1 := Lib.hid hg1
  clear hlen hval hrow e1 hgl hgs hst hrd hg1
  go_wp2_with fail
  refine (New_any (some ⟨g, 0, none⟩) k cap tl w1 HLT.out (by omega) HRD.out).mono ?_
  rintro e w2 (⟨hno, -⟩ | ⟨-, N, rfl, hnet, hnl, hml, hbg, hg2⟩)
  · rw [HST.out] at hno; cases hno
  have HNZ := Lib.hid (newN_of hnl hml hbg)
  have HNET := Lib.hid hnet
  have HG2 := Lib.hid hg2
  obtain ⟨B, hB⟩ : ∃ B, w1.heap.size = B := ⟨_, rfl⟩
  have HBE := Lib.hid hB
  rw [hB] at HNET
  obtain ⟨p, hpp⟩ : ∃ p, N.p = p := ⟨_, rfl⟩
  have HPP := Lib.hid hpp
  rw [hpp]
  have HR2 : Hid (Ints w2 (some ⟨g, 0, none⟩) tl) := Lib.hid (HRD.out.keep hg2)
  clear hnet hnl hml hbg hg2 hB hpp
  go_wp2_with fail
  refine (rNewQ_any (some ⟨g, 0, none⟩) k cap tl w2 HLT.out (by omega) HR2.out).mono ?_
  rintro e w3 (⟨hno, -⟩ | ⟨-, A3, c3, hcb, rfl, hrd3, hnew3, hg3⟩)
  · rw [HST.out] at hno; cases hno
  rw [HLT.out] at hcb ⊢
  obtain ⟨L0, hv0, htw, hxa⟩ := two_start (S0 := []) HNET.out HNZ.out HST.out HLT.out hcb hrd3 hnew3 (fun t ht => (by cases ht))
  have HV0 := Lib.hid hv0
  have HTW := Lib.hid htw
  have HXA := Lib.hid hxa
  have HG3 := Lib.hid hg3
  have hal := (Gr.refl w3).alloc (.cells #[.slice none 0 0, .slice none 0 0, .slice none 0 0] 33)
  clear hcb hrd3 hnew3 hg3 hv0 htw hxa
  go_upto_region 4 with fail
  generalize hW4 : World.alloc w3 _ = w4
  obtain ⟨gx, hgx⟩ : ∃ gx, w3.heap.size = gx := ⟨_, rfl⟩
  have kx : Blk w4 gx 33 #[.slice A3 k c3, .slice none 0 0, .slice none 0 0] := by rw [← hW4]; exact Blk.new _ _ _ hgx
  have hg4 : Gr w3 w4 := by rw [← hW4]; exact (Gr.refl w3).alloc _
  rw [hgx]
  have HRS : Hid (RunQ w B gx p N L0 w4) := Lib.hid (by
    have e := HV0.out
    unfold LN.v at e
    injection e with e
    have hs3 := (HNET.out.keep HG3.out)
    refine ⟨hs3.keep hg4, HPP.out, HTW.out, HXA.out.ch (Ch.of hg4) (fun t ht => ?_), by rw [e]; exact kx, fun hm => by have := (hs3.own gx hm).2; omega, HG1.out.trans (HG2.out.trans (HG3.out.trans hg4)), by have := HG1.out.size; have := HG2.out.size; have := HG3.out.size; omega⟩
    rcases List.mem_append.1 ht with ht | ht
    · rw [List.mem_singleton.1 ht]; exact Or.inr (by omega)
    · exact Or.inl ht)
  have HBB : Hid (w.heap.size ≤ B) := Lib.hid (by have := HBE.out; have := HG1.out.size; omega)
  clear hal hW4 hgx kx hg4
  go_wp2_with fail
  go_loopw [10] (fun z wr => ∃ (i : Nat) (N : Nx) (L : LN), i ≤ an ∧ z = .int .i64 (i : Int) ∧ Hid (RunQ w B gx p N L wr)) (fun z _ => an - (intOf z).toNat)
  case atStart => exact ⟨0, N, L0, Nat.zero_le _, rfl, HRS⟩
  case round =>
    obtain ⟨i, N1, L, hi, rfl, HR⟩ := hrel
    clear HRS
    by_cases hlt : i < an ∧ i < 60
    · have hlt1 := hlt.1
      have hlt2 := hlt.2
      have hii : (i : Int) < (an : Int) := by omega
      have hi60 : (i : Int) < 60 := by omega
      have hi0 : (0 : Int) ≤ (i : Int) := by omega
      clear hlt
      have hai : ∃ a, acts[i]? = some a := ⟨_, List.getElem?_eq_getElem (by rw [HAN.out]; exact hlt1)⟩
      obtain ⟨a, hai⟩ := hai
      obtain ⟨ba, oa, rfl, hcl⟩ := (HAR.out.keep HR.out.gr) i a hai
      have a0 := hcl 0 _ rfl
      have a1 := hcl 1 _ rfl
      have a2 := hcl 2 _ rfl
      have a3 := hcl 3 _ rfl
      rw [Nat.add_zero] at a0
      have HAO := Lib.hid ((HOK.out a (List.mem_of_getElem? hai)).keep5 HR.out.gr)
      obtain ⟨As, At, Al, n5, m5, l5, cs, ct, cl, hsh⟩ := HR.out.xat.rd.shp
      have HSH := Lib.hid hsh
      have hbx := HR.out.box
      rw [hsh.sv, hsh.tv, hsh.lv] at hbx
      have b0 := hbx.cell 0
      have b1 := hbx.cell 1
      have b2 := hbx.cell 2
      simp only [List.getElem?_toArray, List.getElem?_cons_succ, List.getElem?_cons_zero] at b0 b1 b2
      have HAI := Lib.hid hai
      clear hcl hai hsh hbx
      have HDO : Hid (∀ (q : Nat) W, Gr wr W → (q = gx ∨ q = wr.heap.size) → q < W.heap.size → Calls Tryz.prog 11 #[.pointer (some ⟨p, 0, none⟩), .agg #[.slice As n5 cs, .slice At m5 ct, .slice Al l5 cl], .agg #[.int .i64 a.kd, .int .i64 a.st, .int .i64 a.nn, .slice a.A a.n a.c]] W (DoP B [gx, q] W N1)) := Lib.hid (fun q W hg hq hlt => by
        have hr := HR.out.keep hg
        have := do5_any (S0 := [gx, q]) L a hr.net (fun t ht => by
          simp only [List.mem_cons, List.not_mem_nil, or_false] at ht
          rcases ht with rfl | rfl
          · exact hr.box.lt
          · exact hlt) hr.two (HR.out.xat.ch (Ch.of hg) (fun t ht => by
          simp only [List.cons_append, List.nil_append, List.mem_cons] at ht ⊢
          rcases ht with rfl | rfl | ht
          · exact Or.inl (Or.inl rfl)
          · rcases hq with rfl | rfl
            · exact Or.inl (Or.inl rfl)
            · exact Or.inr (Nat.le_refl _)
          · exact Or.inl (Or.inr ht))) (HAO.out.keep5 hg)
        rw [HSH.out.v, hr.p5] at this
        exact this)
      have HAC : Hid (∀ W, Gr w W → W.cell? ⟨ba, oa + i * 4, none⟩ = some (.int .i64 a.kd) ∧ W.cell? ⟨ba, oa + i * 4 + 1, none⟩ = some (.int .i64 a.st) ∧ W.cell? ⟨ba, oa + i * 4 + 2, none⟩ = some (.int .i64 a.nn) ∧ W.cell? ⟨ba, oa + i * 4 + 3, none⟩ = some (.slice a.A a.n a.c)) := Lib.hid (fun W hW => by
        obtain ⟨b2, o2, e, hc⟩ := (HAR.out.keep hW) i a HAI.out
        injection e with e
        injection e with e1 e2 _
        subst e1 e2
        exact ⟨hc 0 _ rfl, hc 1 _ rfl, hc 2 _ rfl, hc 3 _ rfl⟩)
      have hgxl := HR.out.box.lt
      have hbl : ∀ q, w.heap.size ≤ q → ba ∉ [q] := fun q hq hm => by
        have h9 := cell_lt5 (HAC.out w (Gr.refl w)).1
        have h7 := List.mem_singleton.1 hm
        dsimp only at h9
        omega
      have HBL := Lib.hid hbl
      have HGL : Hid (gx < wr.drew.heap.size) := Lib.hid hgxl
      have hgd : Gr wr wr.drew := (Gr.refl wr).drew
      have hga : Gr wr (World.drew (wr.alloc (.cells #[.slice none 0 0, .slice none 0 0, .slice none 0 0] 33))) := ((Gr.refl wr).alloc _).drew
      have HQ : Hid (Blk (World.drew (wr.alloc (.cells #[.slice none 0 0, .slice none 0 0, .slice none 0 0] 33))) wr.heap.size 33 #[.slice none 0 0, .slice none 0 0, .slice none 0 0]) := Lib.hid ((Blk.new wr _ _ rfl).keep ((Gr.refl _).drew))
      have b0d := hgd.keep b0
      have b1d := hgd.keep b1
      have b2d := hgd.keep b2
      have b0a := hga.keep b0
      have b1a := hga.keep b1
      have b2a := hga.keep b2
      have HGD := Lib.hid hgd
      have HGA := Lib.hid hga
      clear hbl hgd hga
      go_wp2_with fail
      refine wp_region_held_drew (S := (fun W' => W'.cell? ⟨ba, oa + i * 4, none⟩ = some (.int .i64 a.kd) ∧ W'.cell? ⟨ba, oa + i * 4 + 1, none⟩ = some (.int .i64 a.st) ∧ W'.cell? ⟨ba, oa + i * 4 + 2, none⟩ = some (.int .i64 a.nn) ∧ W'.cell? ⟨ba, oa + i * 4 + 3, none⟩ = some (.slice a.A a.n a.c))) ?_ ?_ (fun hHeld => ?_)
      · kernel_rfl
      · ((try dsimp only); (first | exact hHeld | exact HS5.out | exact HS5a.out | exact HAC.out _ (HR.out.gr.trans HGD.out) | exact HAC.out _ (HR.out.gr.trans HGA.out) | exact HS3.out _ _ _ | exact HS4.out _ _ _))
      refine take_in (i := 0) (v := ?_) (d := (some 42)) rfl rfl ?_ ?_ ?_ ?_ ?_ ?_ ?_ ?_
      rotate_left
      · kernel_rfl
      · kernel_rfl
      · kernel_rfl
      · (intro _ _ _ hq; exact hq)
      · rfl
      · (intro _w hSw; (try dsimp only at hSw); go_simp; try with_reducible rfl)
      · assumption
      try simp only [Act.put, List.setIfInBounds_toArray, List.set_cons_zero, List.set_cons_succ]
      refine take_in (i := 2) (v := ?_) (d := (some 44)) rfl rfl ?_ ?_ ?_ ?_ ?_ ?_ ?_ ?_
      rotate_left
      · kernel_rfl
      · kernel_rfl
      · kernel_rfl
      · (intro _ _ _ hq; exact hq)
      · rfl
      · (intro _w hSw; (try dsimp only at hSw); go_simp; try with_reducible rfl)
      · assumption
      try simp only [Act.put, List.setIfInBounds_toArray, List.set_cons_zero, List.set_cons_succ]
      refine take_in (i := 3) (v := ?_) (d := (some 45)) rfl rfl ?_ ?_ ?_ ?_ ?_ ?_ ?_ ?_
      rotate_left
      · kernel_rfl
      · kernel_rfl
      · kernel_rfl
      · (intro _ _ _ hq; exact hq)
      · rfl
      · (intro _w hSw; (try dsimp only at hSw); go_simp; try with_reducible rfl)
      · assumption
      try simp only [Act.put, List.setIfInBounds_toArray, List.set_cons_zero, List.set_cons_succ]
      refine take_in (i := 4) (v := ?_) (d := (some 46)) rfl rfl ?_ ?_ ?_ ?_ ?_ ?_ ?_ ?_
      rotate_left
      · kernel_rfl
      · kernel_rfl
      · kernel_rfl
      · (intro _ _ _ hq; exact hq)
      · rfl
      · (intro _w hSw; (try dsimp only at hSw); go_simp; try with_reducible rfl)
      · assumption
      try simp only [Act.put, List.setIfInBounds_toArray, List.set_cons_zero, List.set_cons_succ]
      refine take_in (i := 5) (v := ?_) (d := (some 47)) rfl rfl ?_ ?_ ?_ ?_ ?_ ?_ ?_ ?_
      rotate_left
      · kernel_rfl
      · kernel_rfl
      · kernel_rfl
      · (intro _ _ _ hq; exact hq)
      · rfl
      · (intro _w hSw; (try dsimp only at hSw); go_simp; try with_reducible rfl)
      · assumption
      try simp only [Act.put, List.setIfInBounds_toArray, List.set_cons_zero, List.set_cons_succ]
      refine wpAnyH_ready (rs := [1, 10]) ?_ ?_ ?_
      · kernel_rfl
      · simp
      refine (AllReadyH.cons rfl (fun K hK => ?_) (AllReadyH.cons rfl (fun K hK => ?_) AllReadyH.nil))
      go_simp
      refine hK.out _ _ ?_ (fun hHeld => ?_)
      · ((try dsimp only); (first | exact hHeld | exact HS5.out | exact HS5a.out | exact HAC.out _ (HR.out.gr.trans HGD.out) | exact HAC.out _ (HR.out.gr.trans HGA.out) | exact HS3.out _ _ _ | exact HS4.out _ _ _))
      clear hK K
      try simp only [Act.put, List.setIfInBounds_toArray, List.set_cons_zero, List.set_cons_succ]
      refine wpAnyH_ready (rs := [6, 10]) ?_ ?_ ?_
      · kernel_rfl
      · simp
      refine (AllReadyH.cons rfl (fun K hK => ?_) (AllReadyH.cons rfl (fun K hK => ?_) AllReadyH.nil))
      go_simp
      first | (go_at_call 11; (first | (with_reducible refine (HDO.out wr.heap.size _ HGA.out (Or.inr rfl) HQ.out.lt).mono ?_) | (with_reducible refine (HDO.out gx _ HGD.out (Or.inl rfl) HGL.out).mono ?_)); rintro e w5 ⟨N', L', rfl, hto, htw, hx5⟩; have hac := (by first | exact RunQ.act (HR.out.keep HGA.out) HBB.out hto htw hx5 | exact RunQ.act (HR.out.keep HGD.out) HBB.out hto htw hx5); obtain ⟨As', At', Al', n', m', l', cs', ct', cl', hsh'⟩ := hx5.rd.shp; rw [hsh'.v]; have HSH' := Lib.hid hsh'; have HACT := Lib.hid hac; have HTO := Lib.hid hto; have HS5 := Lib.hid (HAC.out w5 hac.1); have HS5a := Lib.hid (HAC.out (w5.alloc (.cells #[.slice none 0 0, .slice none 0 0, .slice none 0 0] 33)) (hac.1.alloc _)); have HS3 := Lib.hid (fun a b c => (And.intro (cell_ch5 (ch3 w5 wr.heap.size a b c) HS5.out.1 (HBL.out _ HR.out.gr.size)) (And.intro (cell_ch5 (ch3 w5 wr.heap.size a b c) HS5.out.2.1 (HBL.out _ HR.out.gr.size)) (And.intro (cell_ch5 (ch3 w5 wr.heap.size a b c) HS5.out.2.2.1 (HBL.out _ HR.out.gr.size)) (cell_ch5 (ch3 w5 wr.heap.size a b c) HS5.out.2.2.2 (HBL.out _ HR.out.gr.size)))))); have HS4 := Lib.hid (fun a b c => HAC.out (w5.alloc (.cells #[a, b, c] 33)) (hac.1.alloc _)); (first | (have kq : Blk w5 wr.heap.size _ _ := (hto.ch.block _ HQ.out.lt (fun hm => by have := (HR.out.net.own _ hm).2; omega)).trans HQ.out; have HKQ := Lib.hid kq; have q0 := kq.cell 0; have q1 := kq.cell 1; have q2 := kq.cell 2; have r0 := kq.free 0; have r1 := kq.free 1; have r2 := kq.free 2; simp only [List.getElem?_toArray, List.getElem?_cons_succ, List.getElem?_cons_zero] at q0 q1 q2) | (have hal5 := (Gr.refl w5).alloc (.cells #[.slice none 0 0, .slice none 0 0, .slice none 0 0] 33))); clear hto htw hx5 hsh' hac)
      refine hK.out _ _ ?_ (fun hHeld => ?_)
      · ((try dsimp only); (first | exact hHeld | exact HS5.out | exact HS5a.out | exact HAC.out _ (HR.out.gr.trans HGD.out) | exact HAC.out _ (HR.out.gr.trans HGA.out) | exact HS3.out _ _ _ | exact HS4.out _ _ _))
      clear hK K
      try simp only [Act.put, List.setIfInBounds_toArray, List.set_cons_zero, List.set_cons_succ]
      refine take_in (i := 7) (v := ?_) (d := (some 41)) rfl rfl ?_ ?_ ?_ ?_ ?_ ?_ ?_ ?_
      rotate_left
      · kernel_rfl
      · kernel_rfl
      · kernel_rfl
      · (intro _ _ _ hq; exact hq)
      · rfl
      · (intro _w hSw; (try dsimp only at hSw); go_simp; try with_reducible rfl)
      · assumption
      try simp only [Act.put, List.setIfInBounds_toArray, List.set_cons_zero, List.set_cons_succ]
      refine take_in (i := 8) (v := ?_) (d := (some 49)) rfl rfl ?_ ?_ ?_ ?_ ?_ ?_ ?_ ?_
      rotate_left
      · kernel_rfl
      · kernel_rfl
      · kernel_rfl
      · (intro _ _ _ hq; exact hq)
      · rfl
      · (intro _w hSw; (try dsimp only at hSw); go_simp; try with_reducible rfl)
      · assumption
      try simp only [Act.put, List.setIfInBounds_toArray, List.set_cons_zero, List.set_cons_succ]
      refine take_in (i := 9) (v := ?_) (d := (some 50)) rfl rfl ?_ ?_ ?_ ?_ ?_ ?_ ?_ ?_
      rotate_left
      · kernel_rfl
      · kernel_rfl
      · kernel_rfl
      · (intro _ _ _ hq; exact hq)
      · rfl
      · (intro _w hSw; (try dsimp only at hSw); go_simp; try with_reducible rfl)
      · assumption
      try simp only [Act.put, List.setIfInBounds_toArray, List.set_cons_zero, List.set_cons_succ]
      refine wpAnyH_ready (rs := [10]) ?_ ?_ ?_
      · kernel_rfl
      · simp
      refine (AllReadyH.cons rfl (fun K hK => ?_) AllReadyH.nil)
      go_simp
      refine hK.out _ _ ?_ (fun hHeld => ?_)
      · ((try dsimp only); (first | exact hHeld | exact HS5.out | exact HS5a.out | exact HAC.out _ (HR.out.gr.trans HGD.out) | exact HAC.out _ (HR.out.gr.trans HGA.out) | exact HS3.out _ _ _ | exact HS4.out _ _ _))
      clear hK K
      try simp only [Act.put, List.setIfInBounds_toArray, List.set_cons_zero, List.set_cons_succ]
      refine wpAnyH_ready (rs := [11]) ?_ ?_ ?_
      · kernel_rfl
      · simp
      refine (AllReadyH.cons rfl (fun K hK => ?_) AllReadyH.nil)
      go_simp
      refine hK.out _ _ ?_ (fun hHeld => ?_)
      · ((try dsimp only); (first | exact hHeld | exact HS5.out | exact HS5a.out | exact HAC.out _ (HR.out.gr.trans HGD.out) | exact HAC.out _ (HR.out.gr.trans HGA.out) | exact HS3.out _ _ _ | exact HS4.out _ _ _))
      clear hK K
      try simp only [Act.put, List.setIfInBounds_toArray, List.set_cons_zero, List.set_cons_succ]
      refine take_in (i := 12) (v := ?_) (d := (some 12)) rfl rfl ?_ ?_ ?_ ?_ ?_ ?_ ?_ ?_
      rotate_left
      · kernel_rfl
      · kernel_rfl
      · kernel_rfl
      · (intro _ _ _ hq; exact hq)
      · rfl
      · (intro _w hSw; (try dsimp only at hSw); go_simp; try with_reducible rfl)
      · assumption
      try simp only [Act.put, List.setIfInBounds_toArray, List.set_cons_zero, List.set_cons_succ]
      refine wpAnyH_done ?_ ?_ _
      · kernel_rfl
      rotate_left
      go_simp
      refine hK.out _ _ ?_ (fun hHeld => ?_)
      · ((try dsimp only); (first | exact hHeld | exact HS5.out | exact HS5a.out | exact HAC.out _ (HR.out.gr.trans HGD.out) | exact HAC.out _ (HR.out.gr.trans HGA.out) | exact HS3.out _ _ _ | exact HS4.out _ _ _))
      clear hK K
      try simp only [Act.put, List.setIfInBounds_toArray, List.set_cons_zero, List.set_cons_succ]
      refine wpAnyH_ready (rs := [6]) ?_ ?_ ?_
      · kernel_rfl
      · simp
      refine (AllReadyH.cons rfl (fun K hK => ?_) AllReadyH.nil)
      go_simp
      first | (go_at_call 11; (first | (with_reducible refine (HDO.out wr.heap.size _ HGA.out (Or.inr rfl) HQ.out.lt).mono ?_) | (with_reducible refine (HDO.out gx _ HGD.out (Or.inl rfl) HGL.out).mono ?_)); rintro e w5 ⟨N', L', rfl, hto, htw, hx5⟩; have hac := (by first | exact RunQ.act (HR.out.keep HGA.out) HBB.out hto htw hx5 | exact RunQ.act (HR.out.keep HGD.out) HBB.out hto htw hx5); obtain ⟨As', At', Al', n', m', l', cs', ct', cl', hsh'⟩ := hx5.rd.shp; rw [hsh'.v]; have HSH' := Lib.hid hsh'; have HACT := Lib.hid hac; have HTO := Lib.hid hto; have HS5 := Lib.hid (HAC.out w5 hac.1); have HS5a := Lib.hid (HAC.out (w5.alloc (.cells #[.slice none 0 0, .slice none 0 0, .slice none 0 0] 33)) (hac.1.alloc _)); have HS3 := Lib.hid (fun a b c => (And.intro (cell_ch5 (ch3 w5 wr.heap.size a b c) HS5.out.1 (HBL.out _ HR.out.gr.size)) (And.intro (cell_ch5 (ch3 w5 wr.heap.size a b c) HS5.out.2.1 (HBL.out _ HR.out.gr.size)) (And.intro (cell_ch5 (ch3 w5 wr.heap.size a b c) HS5.out.2.2.1 (HBL.out _ HR.out.gr.size)) (cell_ch5 (ch3 w5 wr.heap.size a b c) HS5.out.2.2.2 (HBL.out _ HR.out.gr.size)))))); have HS4 := Lib.hid (fun a b c => HAC.out (w5.alloc (.cells #[a, b, c] 33)) (hac.1.alloc _)); (first | (have kq : Blk w5 wr.heap.size _ _ := (hto.ch.block _ HQ.out.lt (fun hm => by have := (HR.out.net.own _ hm).2; omega)).trans HQ.out; have HKQ := Lib.hid kq; have q0 := kq.cell 0; have q1 := kq.cell 1; have q2 := kq.cell 2; have r0 := kq.free 0; have r1 := kq.free 1; have r2 := kq.free 2; simp only [List.getElem?_toArray, List.getElem?_cons_succ, List.getElem?_cons_zero] at q0 q1 q2) | (have hal5 := (Gr.refl w5).alloc (.cells #[.slice none 0 0, .slice none 0 0, .slice none 0 0] 33))); clear hto htw hx5 hsh' hac)
      refine hK.out _ _ ?_ (fun hHeld => ?_)
      · ((try dsimp only); (first | exact hHeld | exact HS5.out | exact HS5a.out | exact HAC.out _ (HR.out.gr.trans HGD.out) | exact HAC.out _ (HR.out.gr.trans HGA.out) | exact HS3.out _ _ _ | exact HS4.out _ _ _))
      clear hK K
      try simp only [Act.put, List.setIfInBounds_toArray, List.set_cons_zero, List.set_cons_succ]
      refine take_in (i := 7) (v := ?_) (d := (some 41)) rfl rfl ?_ ?_ ?_ ?_ ?_ ?_ ?_ ?_
      rotate_left
      · kernel_rfl
      · kernel_rfl
      · kernel_rfl
      · (intro _ _ _ hq; exact hq)
      · rfl
      · (intro _w hSw; (try dsimp only at hSw); go_simp; try with_reducible rfl)
      · assumption
      try simp only [Act.put, List.setIfInBounds_toArray, List.set_cons_zero, List.set_cons_succ]
      refine take_in (i := 8) (v := ?_) (d := (some 49)) rfl rfl ?_ ?_ ?_ ?_ ?_ ?_ ?_ ?_
      rotate_left
      · kernel_rfl
      · kernel_rfl
      · kernel_rfl
      · (intro _ _ _ hq; exact hq)
      · rfl
      · (intro _w hSw; (try dsimp only at hSw); go_simp; try with_reducible rfl)
      · assumption
      try simp only [Act.put, List.setIfInBounds_toArray, List.set_cons_zero, List.set_cons_succ]
      refine take_in (i := 9) (v := ?_) (d := (some 50)) rfl rfl ?_ ?_ ?_ ?_ ?_ ?_ ?_ ?_
      rotate_left
      · kernel_rfl
      · kernel_rfl
      · kernel_rfl
      · (intro _ _ _ hq; exact hq)
      · rfl
      · (intro _w hSw; (try dsimp only at hSw); go_simp; try with_reducible rfl)
      · assumption
      try simp only [Act.put, List.setIfInBounds_toArray, List.set_cons_zero, List.set_cons_succ]
      refine wpAnyH_ready (rs := [11]) ?_ ?_ ?_
      · kernel_rfl
      · simp
      refine (AllReadyH.cons rfl (fun K hK => ?_) AllReadyH.nil)
      go_simp
      refine hK.out _ _ ?_ (fun hHeld => ?_)
      · ((try dsimp only); (first | exact hHeld | exact HS5.out | exact HS5a.out | exact HAC.out _ (HR.out.gr.trans HGD.out) | exact HAC.out _ (HR.out.gr.trans HGA.out) | exact HS3.out _ _ _ | exact HS4.out _ _ _))
      clear hK K
      try simp only [Act.put, List.setIfInBounds_toArray, List.set_cons_zero, List.set_cons_succ]
      refine take_in (i := 12) (v := ?_) (d := (some 12)) rfl rfl ?_ ?_ ?_ ?_ ?_ ?_ ?_ ?_
      rotate_left
      · kernel_rfl
      · kernel_rfl
      · kernel_rfl
      · (intro _ _ _ hq; exact hq)
      · rfl
      · (intro _w hSw; (try dsimp only at hSw); go_simp; try with_reducible rfl)
      · assumption
      try simp only [Act.put, List.setIfInBounds_toArray, List.set_cons_zero, List.set_cons_succ]
      refine wpAnyH_done ?_ ?_ _
      · kernel_rfl
      rotate_left
      go_simp
      refine hK.out _ _ ?_ (fun hHeld => ?_)
      · ((try dsimp only); (first | exact hHeld | exact HS5.out | exact HS5a.out | exact HAC.out _ (HR.out.gr.trans HGD.out) | exact HAC.out _ (HR.out.gr.trans HGA.out) | exact HS3.out _ _ _ | exact HS4.out _ _ _))
      clear hK K
      try simp only [Act.put, List.setIfInBounds_toArray, List.set_cons_zero, List.set_cons_succ]
      refine wpAnyH_ready (rs := [1]) ?_ ?_ ?_
      · kernel_rfl
      · simp
      refine (AllReadyH.cons rfl (fun K hK => ?_) AllReadyH.nil)
      go_simp
      refine hK.out _ _ ?_ (fun hHeld => ?_)
      · ((try dsimp only); (first | exact hHeld | exact HS5.out | exact HS5a.out | exact HAC.out _ (HR.out.gr.trans HGD.out) | exact HAC.out _ (HR.out.gr.trans HGA.out) | exact HS3.out _ _ _ | exact HS4.out _ _ _))
      clear hK K
      try simp only [Act.put, List.setIfInBounds_toArray, List.set_cons_zero, List.set_cons_succ]
      refine wpAnyH_ready (rs := [6]) ?_ ?_ ?_
      · kernel_rfl
      · simp
      refine (AllReadyH.cons rfl (fun K hK => ?_) AllReadyH.nil)
      go_simp
      first | (go_at_call 11; (first | (with_reducible refine (HDO.out wr.heap.size _ HGA.out (Or.inr rfl) HQ.out.lt).mono ?_) | (with_reducible refine (HDO.out gx _ HGD.out (Or.inl rfl) HGL.out).mono ?_)); rintro e w5 ⟨N', L', rfl, hto, htw, hx5⟩; have hac := (by first | exact RunQ.act (HR.out.keep HGA.out) HBB.out hto htw hx5 | exact RunQ.act (HR.out.keep HGD.out) HBB.out hto htw hx5); obtain ⟨As', At', Al', n', m', l', cs', ct', cl', hsh'⟩ := hx5.rd.shp; rw [hsh'.v]; have HSH' := Lib.hid hsh'; have HACT := Lib.hid hac; have HTO := Lib.hid hto; have HS5 := Lib.hid (HAC.out w5 hac.1); have HS5a := Lib.hid (HAC.out (w5.alloc (.cells #[.slice none 0 0, .slice none 0 0, .slice none 0 0] 33)) (hac.1.alloc _)); have HS3 := Lib.hid (fun a b c => (And.intro (cell_ch5 (ch3 w5 wr.heap.size a b c) HS5.out.1 (HBL.out _ HR.out.gr.size)) (And.intro (cell_ch5 (ch3 w5 wr.heap.size a b c) HS5.out.2.1 (HBL.out _ HR.out.gr.size)) (And.intro (cell_ch5 (ch3 w5 wr.heap.size a b c) HS5.out.2.2.1 (HBL.out _ HR.out.gr.size)) (cell_ch5 (ch3 w5 wr.heap.size a b c) HS5.out.2.2.2 (HBL.out _ HR.out.gr.size)))))); have HS4 := Lib.hid (fun a b c => HAC.out (w5.alloc (.cells #[a, b, c] 33)) (hac.1.alloc _)); (first | (have kq : Blk w5 wr.heap.size _ _ := (hto.ch.block _ HQ.out.lt (fun hm => by have := (HR.out.net.own _ hm).2; omega)).trans HQ.out; have HKQ := Lib.hid kq; have q0 := kq.cell 0; have q1 := kq.cell 1; have q2 := kq.cell 2; have r0 := kq.free 0; have r1 := kq.free 1; have r2 := kq.free 2; simp only [List.getElem?_toArray, List.getElem?_cons_succ, List.getElem?_cons_zero] at q0 q1 q2) | (have hal5 := (Gr.refl w5).alloc (.cells #[.slice none 0 0, .slice none 0 0, .slice none 0 0] 33))); clear hto htw hx5 hsh' hac)
      refine hK.out _ _ ?_ (fun hHeld => ?_)
      · ((try dsimp only); (first | exact hHeld | exact HS5.out | exact HS5a.out | exact HAC.out _ (HR.out.gr.trans HGD.out) | exact HAC.out _ (HR.out.gr.trans HGA.out) | exact HS3.out _ _ _ | exact HS4.out _ _ _))
      clear hK K
      try simp only [Act.put, List.setIfInBounds_toArray, List.set_cons_zero, List.set_cons_succ]
      refine take_in (i := 7) (v := ?_) (d := (some 41)) rfl rfl ?_ ?_ ?_ ?_ ?_ ?_ ?_ ?_
      rotate_left
      · kernel_rfl
      · kernel_rfl
      · kernel_rfl
      · (intro _ _ _ hq; exact hq)
      · rfl
      · (intro _w hSw; (try dsimp only at hSw); go_simp; try with_reducible rfl)
      · assumption
      try simp only [Act.put, List.setIfInBounds_toArray, List.set_cons_zero, List.set_cons_succ]
      refine take_in (i := 8) (v := ?_) (d := (some 49)) rfl rfl ?_ ?_ ?_ ?_ ?_ ?_ ?_ ?_
      rotate_left
      · kernel_rfl
      · kernel_rfl
      · kernel_rfl
      · (intro _ _ _ hq; exact hq)
      · rfl
      · (intro _w hSw; (try dsimp only at hSw); go_simp; try with_reducible rfl)
      · assumption
      try simp only [Act.put, List.setIfInBounds_toArray, List.set_cons_zero, List.set_cons_succ]
      refine take_in (i := 9) (v := ?_) (d := (some 50)) rfl rfl ?_ ?_ ?_ ?_ ?_ ?_ ?_ ?_
      rotate_left
      · kernel_rfl
      · kernel_rfl
      · kernel_rfl
      · (intro _ _ _ hq; exact hq)
      · rfl
      · (intro _w hSw; (try dsimp only at hSw); go_simp; try with_reducible rfl)
      · assumption
      try simp only [Act.put, List.setIfInBounds_toArray, List.set_cons_zero, List.set_cons_succ]
      refine wpAnyH_ready (rs := [11]) ?_ ?_ ?_
      · kernel_rfl
      · simp
      refine (AllReadyH.cons rfl (fun K hK => ?_) AllReadyH.nil)
      go_simp
      refine hK.out _ _ ?_ (fun hHeld => ?_)
      · ((try dsimp only); (first | exact hHeld | exact HS5.out | exact HS5a.out | exact HAC.out _ (HR.out.gr.trans HGD.out) | exact HAC.out _ (HR.out.gr.trans HGA.out) | exact HS3.out _ _ _ | exact HS4.out _ _ _))
      clear hK K
      try simp only [Act.put, List.setIfInBounds_toArray, List.set_cons_zero, List.set_cons_succ]
      refine take_in (i := 12) (v := ?_) (d := (some 12)) rfl rfl ?_ ?_ ?_ ?_ ?_ ?_ ?_ ?_
      rotate_left
      · kernel_rfl
      · kernel_rfl
      · kernel_rfl
      · (intro _ _ _ hq; exact hq)
      · rfl
      · (intro _w hSw; (try dsimp only at hSw); go_simp; try with_reducible rfl)
      · assumption
      try simp only [Act.put, List.setIfInBounds_toArray, List.set_cons_zero, List.set_cons_succ]
      refine wpAnyH_done ?_ ?_ _
      · kernel_rfl
      rotate_left
      · generalize hW6 : World.alloc w5 _ = w6
        obtain ⟨q, hq⟩ : ∃ q, w5.heap.size = q := ⟨_, rfl⟩
        have HKQ6 : Hid (Blk w6 q 33 #[.slice As' n' cs', .slice At' m' ct', .slice Al' l' cl']) := Lib.hid (by rw [← hW6]; exact Blk.new _ _ _ hq)
        have HACT' := Lib.hid (HACT.out.2.2.2.2 w6 (Or.inl (by rw [← hW6]; exact (Gr.refl w5).alloc _)))
        rw [hq]
        clear hW6 hq
        clear b0 b1 b2 b0d b1d b2d b0a b1a b2a a0 a1 a2 a3 hHeld
        have hbo := HACT'.out.1
        rw [HSH.out.sv, HSH.out.tv, HSH.out.lv] at hbo
        have y0 := HKQ6.out.cell 0
        have y1 := HKQ6.out.cell 1
        have y2 := HKQ6.out.cell 2
        have f0 := hbo.free 0
        have f1 := hbo.free 1
        have f2 := hbo.free 2
        have d0 := hbo.cell 0
        have d1 := hbo.cell 1
        have d2 := hbo.cell 2
        simp only [List.getElem?_toArray, List.getElem?_cons_succ, List.getElem?_cons_zero] at y0 y1 y2 d0 d1 d2
        clear hbo
        go_upto_region 11 with fail
        generalize hW7 : World.setCell (World.setCell (World.setCell w6 _ _) _ _) _ _ = w7
        have HR7 := Lib.hid (HACT'.out.2 w7 (by rw [HSH'.out.sv, HSH'.out.tv, HSH'.out.lv]; exact hW7))
        have hbx := HR7.out.box
        rw [HSH'.out.sv, HSH'.out.tv, HSH'.out.lv] at hbx
        have b0 := hbx.cell 0
        have b1 := hbx.cell 1
        have b2 := hbx.cell 2
        simp only [List.getElem?_toArray, List.getElem?_cons_succ, List.getElem?_cons_zero] at b0 b1 b2
        have HSW : Hid (Calls Tryz.prog 12 #[.pointer (some ⟨p, 0, none⟩), .agg #[.slice As' n' cs', .slice At' m' ct', .slice Al' l' cl']] w7 fun e w' => e = .returned (.bool true) ∧ Gr w7 w') := Lib.hid (by
          have := shows5_any L' HR7.out.net HR7.out.two HR7.out.xat.rd
          rw [HSH'.out.v, HR7.out.p5] at this
          exact this)
        clear hW7 hbx y0 y1 y2 f0 f1 f2 d0 d1 d2
        go_wp2_with fail
        refine HSW.out.mono ?_
        rintro e w8 ⟨rfl, hg8⟩
        have HR8 := Lib.hid (HR7.out.keep hg8)
        clear hg8 b0 b1 b2
        go_wp2_with fail
        go_roundw
        case rel => exact ⟨i + 1, N', L', by omega, by go_num, HR8⟩
        case measure => simp [intOf]; omega
      · generalize hW6 : World.setCell (World.setCell (World.setCell w5 _ _) _ _) _ _ = w6
        obtain ⟨k6, c6⟩ := put33 HKQ.out hW6
        have hqn : wr.heap.size ∉ ownB N' := fun hm => by
          rcases HTO.out.own _ hm with h1 | h1
          · have := (HR.out.net.own _ h1).2; omega
          · have := HQ.out.lt; omega
        have HACT' := Lib.hid (HACT.out.2.2.2.2 w6 (Or.inr ⟨c6, by omega, hqn, HR.out.gr.size⟩))
        have HKQ6 := Lib.hid k6
        clear hW6 k6 c6 hqn q0 q1 q2 r0 r1 r2
        clear b0 b1 b2 b0d b1d b2d b0a b1a b2a a0 a1 a2 a3 hHeld
        have hbo := HACT'.out.1
        rw [HSH.out.sv, HSH.out.tv, HSH.out.lv] at hbo
        have y0 := HKQ6.out.cell 0
        have y1 := HKQ6.out.cell 1
        have y2 := HKQ6.out.cell 2
        have f0 := hbo.free 0
        have f1 := hbo.free 1
        have f2 := hbo.free 2
        have d0 := hbo.cell 0
        have d1 := hbo.cell 1
        have d2 := hbo.cell 2
        simp only [List.getElem?_toArray, List.getElem?_cons_succ, List.getElem?_cons_zero] at y0 y1 y2 d0 d1 d2
        clear hbo
        go_upto_region 11 with fail
        generalize hW7 : World.setCell (World.setCell (World.setCell w6 _ _) _ _) _ _ = w7
        have HR7 := Lib.hid (HACT'.out.2 w7 (by rw [HSH'.out.sv, HSH'.out.tv, HSH'.out.lv]; exact hW7))
        have hbx := HR7.out.box
        rw [HSH'.out.sv, HSH'.out.tv, HSH'.out.lv] at hbx
        have b0 := hbx.cell 0
        have b1 := hbx.cell 1
        have b2 := hbx.cell 2
        simp only [List.getElem?_toArray, List.getElem?_cons_succ, List.getElem?_cons_zero] at b0 b1 b2
        have HSW : Hid (Calls Tryz.prog 12 #[.pointer (some ⟨p, 0, none⟩), .agg #[.slice As' n' cs', .slice At' m' ct', .slice Al' l' cl']] w7 fun e w' => e = .returned (.bool true) ∧ Gr w7 w') := Lib.hid (by
          have := shows5_any L' HR7.out.net HR7.out.two HR7.out.xat.rd
          rw [HSH'.out.v, HR7.out.p5] at this
          exact this)
        clear hW7 hbx y0 y1 y2 f0 f1 f2 d0 d1 d2
        go_wp2_with fail
        refine HSW.out.mono ?_
        rintro e w8 ⟨rfl, hg8⟩
        have HR8 := Lib.hid (HR7.out.keep hg8)
        clear hg8 b0 b1 b2
        go_wp2_with fail
        go_roundw
        case rel => exact ⟨i + 1, N', L', by omega, by go_num, HR8⟩
        case measure => simp [intOf]; omega
      · generalize hW6 : World.setCell (World.setCell (World.setCell w5 _ _) _ _) _ _ = w6
        obtain ⟨k6, c6⟩ := put33 HKQ.out hW6
        have hqn : wr.heap.size ∉ ownB N' := fun hm => by
          rcases HTO.out.own _ hm with h1 | h1
          · have := (HR.out.net.own _ h1).2; omega
          · have := HQ.out.lt; omega
        have HACT' := Lib.hid (HACT.out.2.2.2.2 w6 (Or.inr ⟨c6, by omega, hqn, HR.out.gr.size⟩))
        have HKQ6 := Lib.hid k6
        clear hW6 k6 c6 hqn q0 q1 q2 r0 r1 r2
        clear b0 b1 b2 b0d b1d b2d b0a b1a b2a a0 a1 a2 a3 hHeld
        have hbo := HACT'.out.1
        rw [HSH.out.sv, HSH.out.tv, HSH.out.lv] at hbo
        have y0 := HKQ6.out.cell 0
        have y1 := HKQ6.out.cell 1
        have y2 := HKQ6.out.cell 2
        have f0 := hbo.free 0
        have f1 := hbo.free 1
        have f2 := hbo.free 2
        have d0 := hbo.cell 0
        have d1 := hbo.cell 1
        have d2 := hbo.cell 2
        simp only [List.getElem?_toArray, List.getElem?_cons_succ, List.getElem?_cons_zero] at y0 y1 y2 d0 d1 d2
        clear hbo
        go_upto_region 11 with fail
        generalize hW7 : World.setCell (World.setCell (World.setCell w6 _ _) _ _) _ _ = w7
        have HR7 := Lib.hid (HACT'.out.2 w7 (by rw [HSH'.out.sv, HSH'.out.tv, HSH'.out.lv]; exact hW7))
        have hbx := HR7.out.box
        rw [HSH'.out.sv, HSH'.out.tv, HSH'.out.lv] at hbx
        have b0 := hbx.cell 0
        have b1 := hbx.cell 1
        have b2 := hbx.cell 2
        simp only [List.getElem?_toArray, List.getElem?_cons_succ, List.getElem?_cons_zero] at b0 b1 b2
        have HSW : Hid (Calls Tryz.prog 12 #[.pointer (some ⟨p, 0, none⟩), .agg #[.slice As' n' cs', .slice At' m' ct', .slice Al' l' cl']] w7 fun e w' => e = .returned (.bool true) ∧ Gr w7 w') := Lib.hid (by
          have := shows5_any L' HR7.out.net HR7.out.two HR7.out.xat.rd
          rw [HSH'.out.v, HR7.out.p5] at this
          exact this)
        clear hW7 hbx y0 y1 y2 f0 f1 f2 d0 d1 d2
        go_wp2_with fail
        refine HSW.out.mono ?_
        rintro e w8 ⟨rfl, hg8⟩
        have HR8 := Lib.hid (HR7.out.keep hg8)
        clear hg8 b0 b1 b2
        go_wp2_with fail
        go_roundw
        case rel => exact ⟨i + 1, N', L', by omega, by go_num, HR8⟩
        case measure => simp [intOf]; omega
    · have HRE := HR
      by_cases hla : i < an
      · have hii : (i : Int) < (an : Int) := by omega
        have him : ¬ (i : Int) < 60 := by omega
        go_wp2_with fail
        refine (HAW.out _).mono ?_
        rintro e w9 ⟨rfl, hg9⟩
        go_wp2_with fail
        go_ret
        exact ⟨rfl, HRE.out.gr.trans hg9⟩
      · have hii : ¬ (i : Int) < (an : Int) := by omega
        go_wp2_with fail
        refine (HAW.out _).mono ?_
        rintro e w9 ⟨rfl, hg9⟩
        go_wp2_with fail
        go_ret
        exact ⟨rfl, HRE.out.gr.trans hg9⟩

end Go.Proofs.YtnoeiocbmhkmeaaGreat
namespace Go.Proofs.YtnoeiocbmhkmeaaGreat
open Go.RowKit Go.Deep Go.Joins Go.ChangeShapes Go.WideShapes Go.ChangeAt

set_option maxRecDepth 100000 in
theorem pactRuns_lifted (os : Os) (started : os.Started) (H : Type) (enc : TypeId × Value → H) :
    ReturnsInHanded {} Tryz.checked os 3 .any (Rows.pactRunsSpec.pre6 enc Tryz.prog Tryz.f3 Rows.pactRunsRow.domain false) (Rows.pactRunsSpec.post enc Tryz.prog Tryz.f3 false true false false) := by
  refine returnsInHanded_of_change (C := Tryz.checked) own_knob started (by kernel_rfl) Tryz.func3
    (ChangeSpec.witness6 (enc := enc) (C := Tryz.checked) false ⟨#[], #[.slice none 0 0, .slice none 0 0], []⟩ 8 (by kernel_rfl) (by kernel_rfl) (by kernel_rfl) (by kernel_rfl)) ?_
  intro W base args ds gs before hval0 hW _ _
  have hval : ∀ (j : Nat) t v, Tryz.f3.params[j]? = some t → args[j]? = some v → Value.okWide Tryz.prog W .any base t v := hval0
  have hW' := hW
  obtain ⟨p, q, hA0, hV, -, -, -⟩ := hW
  have hA : DataW.TrodAll enc Tryz.prog W 0 (fun _ => true) true Tryz.f3.params.toList args.toList ds p := hA0
  rw [Tryz.params3] at hA hval
  obtain ⟨v0, v1, d0, d1, p0, p1, rfl, rfl, rfl, h0, h1⟩ := trodAll_two hA
  obtain ⟨rfl, rfl⟩ := trodVars_none hV
  obtain ⟨A, n, c, l, rfl, hc, hm, hz, hl, hp, -⟩ := open_ints5 (hval 0 22 v0 rfl rfl) h0
  obtain ⟨AA, an, ac, acts, rfl, hac, ham, han, har, hok⟩ := open_acts (hval 1 23 v1 rfl rfl) h1
  refine (lawRuns_any A n c l AA an ac acts W hl (Nat.le_trans hc hm) hp han hac ham har hok).mono fun e W' ⟨he, hg⟩ => ?_
  subst he
  exact ⟨_, rfl, law_post laid_out (fun t ht => by rw [Tryz.params3] at ht; simp at ht; rcases ht with rfl | rfl <;> exact ⟨by kernel_rfl, of_decide_eq_true (by kernel_rfl)⟩) rfl rfl Tryz.underlying4 ⟨rfl, rfl, rfl⟩ hW' hg⟩

set_option maxHeartbeats 40000000 in
theorem pactRuns_closed : joinedFacts Tryz.pinned.checked.prog 3 Tryz.f3 Rows.pactRunsSpec Rows.pactRunsRow = true := by
  unfold joinedFacts
  simp only [Bool.and_eq_true]
  repeat' apply And.intro
  all_goals first
    | (with_reducible exact may_enter)
    | ((with_reducible_and_instances refine no_lifts ?_); rfl)
    | ((with_reducible_and_instances refine make_cut ?_); rfl)
    | (as_aux_lemma => kernel_rfl)
theorem pactRuns : Rows.PactRunsSaid :=
  OpenClaim.holds_of_wide 3 Tryz.f3 rfl rfl rfl rfl rfl rfl rfl ⟨rfl, rfl, rfl, rfl, rfl⟩ rfl rfl rfl rfl rfl (by kernel_rfl) Tryz.func3 pactRuns_closed
    (of_decide_eq_true (by kernel_rfl)) (by unfold Func.isWrapper; first | (rw [if_pos (by decide +kernel)]; kernel_rfl) | (rw [if_neg (by decide +kernel)]; exact ⟨rfl, rfl⟩))
    (fun os started H enc _ => pactRuns_lifted os started H enc)

end Go.Proofs.YtnoeiocbmhkmeaaGreat
