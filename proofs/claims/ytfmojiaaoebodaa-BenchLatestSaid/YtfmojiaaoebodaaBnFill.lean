/- Layer 4: fill makes the flow as great as possible. -/
import Derived.Test.YtfmojiaaoebodaaBnPush
namespace Go.Proofs.Ytfmojiaaoebodaa
open Go.RowKit
set_option linter.unusedSimpArgs false

theorem map_two_inj {α β : Type} {K : α → Value} {V : β → Value} (hK : ∀ a b, K a = K b → a = b) (hV : ∀ a b, V a = V b → a = b) : ∀ {l l' : List (α × β)}, (l.map fun p => (K p.1, V p.2)) = (l'.map fun p => (K p.1, V p.2)) → l = l'
  | [], [], _ => rfl
  | [], _ :: _, h => by simp at h
  | _ :: _, [], h => by simp at h
  | a :: l, b :: l', h => by
    simp only [List.map_cons, List.cons.injEq, Prod.mk.injEq] at h
    obtain ⟨⟨h1, h2⟩, h3⟩ := h
    rw [Prod.ext (hK _ _ h1) (hV _ _ h2), map_two_inj hK hV h3]
theorem RM.one {w : World} {m : Nat} {r r' : Nat → Nat → Int} (h : RM w m r) (h' : RM w m r') : r = r' := by
  obtain ⟨l, ⟨es, cl, hb, -, hm, -⟩, k⟩ := h
  obtain ⟨l', ⟨es', cl', hb', -, hm', -⟩, k'⟩ := h'
  rw [hb] at hb'
  injection hb' with hb'
  injection hb' with h1 h2
  subst h1
  rw [hm] at hm'
  have := map_two_inj pairK_inj intV_inj hm'
  subst this
  funext u v
  rw [← k u v, k' u v]
/-- The rooms that lie in memory. -/
noncomputable def roomOf (w : World) (m : Nat) : Nat → Nat → Int := open Classical in if h : ∃ r, RM w m r then Classical.choose h else fun _ _ => 0
theorem RM.of {w : World} {m : Nat} {r : Nat → Nat → Int} (h : RM w m r) : roomOf w m = r := by
  unfold roomOf
  have hx : ∃ r, RM w m r := ⟨r, h⟩
  rw [dif_pos hx]
  exact (Classical.choose_spec hx).one h
theorem NetR.gb {w w' : World} {g m h N : Nat} {nx : Nat → List Nat} (k : NetR w g m h N nx) {r : Nat → Nat → Int} (hr : RM w m r) (hg : Gb m w w') : NetR w' g m h N nx :=
  ⟨gb_cell hg k.c0 (hr.ne k.c0), gb_cell hg k.c1 (hr.ne k.c1), fun u hu => by
    obtain ⟨A, c, h1, h2⟩ := k.rows u hu
    refine ⟨A, c, gb_cell hg h1 (hr.ne h1), fun i x hx => ?_⟩
    obtain ⟨b, off, e, hc⟩ := h2 i x hx
    exact ⟨b, off, e, fun j v hv => gb_cell hg (hc j v hv) (hr.ne (hc j v hv))⟩⟩
theorem Gt.gb {a b : Nat} {w w1 w2 : World} (h : Gb a w w1) (k : Gt a b w1 w2) (hb : w.heap.size ≤ b) : Gb a w w2 :=
  ⟨k.os.trans h.os, k.tape.trans h.tape, k.output.trans h.output, Nat.le_trans h.size k.size, fun i hi hn => (k.block i (Nat.lt_of_lt_of_le hi h.size) (fun e => hn (by rw [e])) (by omega)).trans (h.block i hi hn)⟩

/-- What has flowed: the rooms are kept, and nothing is lost on the way. -/
structure Flowed (N : Nat) (r r' : Nat → Nat → Int) : Prop where
  pos : ∀ a b, 0 ≤ r' a b
  sum : ∀ a b, r' a b + r' b a = r a b + r b a
  out : ∀ a, a < N → a ≠ 0 → a ≠ 1 → smN (r' a) N = smN (r a) N
theorem Flowed.push {N : Nat} {nx : Nat → List Nat} {r r1 r2 : Nat → Nat → Int} {F F2 : Nat → Option Nat} {k : Nat} {s : Int} (h : Flowed N r r1) (p : PushP nx N r1 r2 F F2 0 k s) : Flowed N r r2 :=
  ⟨p.pos, fun a b => by rw [p.sum, h.sum], fun a ha h0 h1 => by
    have := p.out a ha
    rw [if_neg h0, if_neg h1] at this
    have := h.out a ha h0 h1
    omega⟩
def FillPost (mb N : Nat) (nx : Nat → List Nat) (r : Nat → Nat → Int) (w : World) (e : Ending) (w' : World) : Prop :=
  ∃ fb F r', e = .returned (.map (some fb)) ∧ w.heap.size ≤ fb ∧ FM w' fb F ∧ RM w' mb r' ∧ Found r' nx N F ∧ F 1 = none ∧ Flowed N r r' ∧ Gb mb w w'

set_option maxRecDepth 100000 in
set_option maxHeartbeats 8000000 in
theorem fillN_any (g mb h N : Nat) (nx : Nat → List Nat) (HN : NetN N nx) (r : Nat → Nat → Int) (lim : Int) (w : World) (hn : NetR w g mb h N nx) (hr : RM w mb r) (hp : ∀ a b, 0 ≤ r a b) (hc : ∀ a b, r a b + r b a ≤ 1099511627776)
    (hl : nx 0 = [] ∨ 1 ≤ lim) (hl2 : lim ≤ 1099511627776) :
    Calls Try.prog 39 #[.pointer (some ⟨g, 0, none⟩), .int .i64 lim] w (FillPost mb N nx r w) := by
  have hmb := hr.lt
  have HNR : Hid (∀ W', Gb mb w W' → NetR W' g mb h N nx) := Lib.hid (fun W' hg => hn.gb hr hg)
  have HR := Lib.hid hr
  have HP := Lib.hid hp
  have HC := Lib.hid hc
  have HNN := Lib.hid HN
  have HL := Lib.hid hl
  clear hn hr hp hc HN hl
  go_enter Try.func39, Try.ntmps39
  go_wp2_with fail
  go_loopw [5] (fun _ wr => ∃ r1, Hid (RM wr mb r1) ∧ Hid (Flowed N r r1) ∧ Hid (Gb mb w wr)) (fun _ wr => (smN (roomOf wr mb 0) N).toNat)
  case atStart => exact ⟨r, HR, Lib.hid ⟨HP.out, fun _ _ => rfl, fun _ _ _ _ => rfl⟩, Lib.hid (Gb.refl _ _)⟩
  case round =>
    obtain ⟨r1, hr1, hf1, hg1⟩ := hrel
    have hsz := hg1.out.size
    go_wp2_with fail
    refine (search_any g mb h N nx r1 wr HNN.out.two HNN.out.max HNN.out.lt HNN.out.len (HNR.out _ hg1.out) hr1.out).mono ?_
    rintro e w2 ⟨fb, F, rfl, hfb, hF, hFD, hg2⟩
    have HF := Lib.hid hF
    have HFD := Lib.hid hFD
    have HG2 := Lib.hid (hg1.out.trans (Gb.of hg2 mb))
    have HR2 := Lib.hid (hr1.out.keep hg2)
    have hmb2 := hr1.out.lt
    clear hF hFD
    have hL1 := HF.out.look2 (u := 1) (by unfold nodeB; omega)
    rcases hf1v : F 1 with _ | d
    · rw [hf1v] at hL1
      simp only [Option.getD_none, Option.isSome_none] at hL1
      have hL1' : (Instr.lookup 61 (.map (some fb)) (.int .i64 1) true).run Try.prog w2 = .ok (.tuple #[.int .i64 0, .bool false]) w2 := hL1
      have HFV := Lib.hid hf1v
      clear hL1 hf1v
      go_wp2_with fail
      go_ret
      exact ⟨fb, F, r1, rfl, by omega, HF.out, HR2.out, HFD.out, HFV.out, hf1.out, HG2.out⟩
    · rw [hf1v] at hL1
      simp only [Option.getD_some, Option.isSome_some] at hL1
      have hL1' : (Instr.lookup 61 (.map (some fb)) (.int .i64 1) true).run Try.prog w2 = .ok (.tuple #[.int .i64 (d : Int), .bool true]) w2 := hL1
      have hway := HFD.out.way (by rw [hf1v]; simp)
      have hlim : 1 ≤ lim := by
        rcases HL.out with h0 | h0
        · cases hway with
          | step _ v _ _ _ hv _ _ => rw [h0] at hv; cases hv
        · exact h0
      have HWAY := Lib.hid hway
      have HPH : Hid (PushH g mb fb h N nx r1 F w2) := Lib.hid ⟨HNR.out _ HG2.out, HR2.out, HF.out, hf1.out.pos, fun a b => by rw [hf1.out.sum]; exact HC.out a b, HFD.out.lt, HFD.out.dist⟩
      have HCP : Hid (Calls Try.prog 53 #[.pointer (some ⟨g, 0, none⟩), .int .i64 0, .int .i64 lim, .map (some fb)] w2 (PushPost mb fb N nx r1 F 0 0 lim w2)) := Lib.hid (push_any g mb fb h N nx HNN.out (by omega) N 0 0 lim r1 F w2 (by omega) HPH.out HFD.out.zero hlim hl2)
      clear hL1 hf1v hway HPH
      go_wp2_with fail
      refine HCP.out.mono ?_
      rintro e w3 ⟨s, r2, F2, rfl, ⟨hs0, hs1⟩, hr2, hF2, hP, hg3⟩
      have hs2 : s ≠ 0 := fun e => (hP.zero e).2.2 HWAY.out
      have hout := hP.out 0 (by have := HNN.out.two; omega)
      rw [if_pos rfl, if_neg (by omega)] at hout
      have hpos0 := smN_nonneg (f := r2 0) N (fun i _ => hP.pos 0 i)
      have HME : Hid ((smN (roomOf w3 mb 0) N).toNat < (smN (roomOf wr mb 0) N).toNat) := Lib.hid (by rw [hr2.of, hr1.out.of]; omega)
      have HFW := Lib.hid (hf1.out.push hP)
      have HR3 := Lib.hid hr2
      have HG3 := Lib.hid (hg3.gb HG2.out (by omega))
      clear hr2 hF2 hP hg3 hout hpos0
      go_wp2_with fail
      go_roundw
      case rel => exact ⟨r2, HR3, HFW, HG3⟩
      case measure => exact HME.out

end Go.Proofs.Ytfmojiaaoebodaa
