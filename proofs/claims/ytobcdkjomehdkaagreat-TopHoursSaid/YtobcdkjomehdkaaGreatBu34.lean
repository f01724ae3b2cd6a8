/- Layer 4: fill makes the flow as great as possible. -/
import Derived.Test.YtobcdkjomehdkaaGreatBu33
import Derived.Test.YtobcdkjomehdkaaGreatBu31
namespace Go.Proofs.YtobcdkjomehdkaaGreat
open Go.RowKit
set_option linter.unusedSimpArgs false
set_option maxRecDepth 100000
set_option maxHeartbeats 80000000

theorem map_two_inj {α β : Type} {K : α → Value} {V : β → Value} (hK : ∀ a b, K a = K b → a = b) (hV : ∀ a b, V a = V b → a = b) : ∀ {l l' : List (α × β)}, (l.map fun p => (K p.1, V p.2)) = (l'.map fun p => (K p.1, V p.2)) → l = l'
 | [], [], _ => rfl
 | [], _ :: _, h => by simp at h
 | _ :: _, [], h => by simp at h
 | a :: l, b :: l', h => by
   simp only [List.map_cons, List.cons.injEq, Prod.mk.injEq] at h
   obtain ⟨⟨h1, h2⟩, h3⟩ := h
   rw [Prod.ext (hK _ _ h1) (hV _ _ h2), map_two_inj hK hV h3]
theorem RM.one {w : World} {m : Nat} {r r' : Nat → Nat → Int} (h : RM w m r) (h' : RM w m r') : r = r' := by
 obtain ⟨l, ⟨es, cl, hb, -, hm, -⟩, k⟩ := h
 obtain ⟨l', ⟨es', cl', hb', -, hm', -⟩, k'⟩ := h'
 rw [hb] at hb'
 injection hb' with hb'
 injection hb' with h1 h2
 subst h1
 rw [hm] at hm'
 have := map_two_inj pairK_inj intV_inj hm'
 subst this
 funext u v
 rw [← k u v, k' u v]
noncomputable def roomOf (w : World) (m : Nat) : Nat → Nat → Int := open Classical in if h : ∃ r, RM w m r then Classical.choose h else fun _ _ => 0
theorem RM.of {w : World} {m : Nat} {r : Nat → Nat → Int} (h : RM w m r) : roomOf w m = r := by
 unfold roomOf
 have hx : ∃ r, RM w m r := ⟨r, h⟩
 rw [dif_pos hx]
 exact (Classical.choose_spec hx).one h
theorem NetB.gb {w w' : World} {g m h N : Nat} {nx : Nat → List Nat} (k : NetB w g m h N nx) {r : Nat → Nat → Int} (hr : RM w m r) (hg : Gb m w w') : NetB w' g m h N nx :=
 ⟨gb_cell hg k.c0 (hr.ne k.c0), gb_cell hg k.c1 (hr.ne k.c1), fun u hu => by
   obtain ⟨A, c, h1, h2⟩ := k.rows u hu
   refine ⟨A, c, gb_cell hg h1 (hr.ne h1), fun i x hx => ?_⟩
   obtain ⟨b, off, e, hc⟩ := h2 i x hx
   exact ⟨b, off, e, fun j v hv => gb_cell hg (hc j v hv) (hr.ne (hc j v hv))⟩⟩
theorem Gt.gb {a b : Nat} {w w1 w2 : World} (h : Gb a w w1) (k : Gt a b w1 w2) (hb : w.heap.size ≤ b) : Gb a w w2 :=
 ⟨k.os.trans h.os, k.tape.trans h.tape, k.output.trans h.output, Nat.le_trans h.size k.size, fun i hi hn => (k.block i (Nat.lt_of_lt_of_le hi h.size) (fun e => hn (by rw [e])) (by omega)).trans (h.block i hi hn)⟩

structure Flowed (N : Nat) (r r' : Nat → Nat → Int) : Prop where
 pos : ∀ a b, 0 ≤ r' a b
 sum : ∀ a b, r' a b + r' b a = r a b + r b a
 out : ∀ a, a < N → a ≠ 0 → a ≠ 1 → smN (r' a) N = smN (r a) N
theorem Flowed.push {N : Nat} {nx : Nat → List Nat} {r r1 r2 : Nat → Nat → Int} {F F2 : Nat → Option Nat} {k : Nat} {s : Int} (h : Flowed N r r1) (p : PushP nx N r1 r2 F F2 0 k s) : Flowed N r r2 :=
 ⟨p.pos, fun a b => by rw [p.sum, h.sum], fun a ha h0 h1 => by
   have := p.out a ha
   rw [if_neg h0, if_neg h1] at this
   have := h.out a ha h0 h1
   omega⟩
def FillPostB (mb N : Nat) (nx : Nat → List Nat) (r : Nat → Nat → Int) (w : World) (e : Ending) (w' : World) : Prop :=
 ∃ fb F r', e = .returned (.map (some fb)) ∧ w.heap.size ≤ fb ∧ FM w' fb F ∧ RM w' mb r' ∧ Found r' nx N F ∧ F 1 = none ∧ Flowed N r r' ∧ Gb mb w w'

theorem fillN_any (g mb h N : Nat) (nx : Nat → List Nat) (HN : NetN N nx) (r : Nat → Nat → Int) (lim : Int) (w : World) (hn : NetB w g mb h N nx) (hr : RM w mb r) (hp : ∀ a b, 0 ≤ r a b) (hc : ∀ a b, r a b + r b a ≤ 1099511627776)
 (hl : nx 0 = [] ∨ 1 ≤ lim) (hl2 : lim ≤ 1099511627776) :
 Calls Tryz.prog 58 #[.pointer (some ⟨g, 0, none⟩), .int .i64 lim] w (FillPostB mb N nx r w) := by
 have hmb := hr.lt
 have HNR : Hid (∀ W', Gb mb w W' → NetB W' g mb h N nx) := Lib.hid (fun W' hg => hn.gb hr hg)
 have HR := Lib.hid hr
 have HP := Lib.hid hp
 have HC := Lib.hid hc
 have HNN := Lib.hid HN
 have HL := Lib.hid hl
 clear hn hr hp hc HN hl
 go_enter Tryz.func58, Tryz.ntmps58
 go_wp2_with fail
 go_loopw [5] (fun _ wr => ∃ r1, Hid (RM wr mb r1) ∧ Hid (Flowed N r r1) ∧ Hid (Gb mb w wr)) (fun _ wr => (smN (roomOf wr mb 0) N).toNat)
 case atStart => exact ⟨r, HR, Lib.hid ⟨HP.out, fun _ _ => rfl, fun _ _ _ _ => rfl⟩, Lib.hid (Gb.refl _ _)⟩
 case round =>
  obtain ⟨r1, hr1, hf1, hg1⟩ := hrel
  have hsz := hg1.out.size
  go_wp2_with fail
  refine (search_any g mb h N nx r1 wr HNN.out.two HNN.out.max HNN.out.lt HNN.out.len (HNR.out _ hg1.out) hr1.out).mono ?_
  rintro e w2 ⟨fb, F, rfl, hfb, hF, hFD, hg2⟩
  have HF := Lib.hid hF
  have HFD := Lib.hid hFD
  have HG2 := Lib.hid (hg1.out.trans (Gb.of hg2 mb))
  have HR2 := Lib.hid (hr1.out.keep hg2)
  have hmb2 := hr1.out.lt
  clear hF hFD
  have hL1 := HF.out.look2 (u := 1) (by unfold nodeB; omega)
  rcases hf1v : F 1 with _ | d
  ·rw [hf1v] at hL1
   simp only [Option.getD_none, Option.isSome_none] at hL1
   have hL1' : (Instr.lookup 115 (.map (some fb)) (.int .i64 1) true).run Tryz.prog w2 = .ok (.tuple #[.int .i64 0, .bool false]) w2 := hL1
   have HFV := Lib.hid hf1v
   clear hL1 hf1v
   go_wp2_with fail
   go_ret
   exact ⟨fb, F, r1, rfl, by omega, HF.out, HR2.out, HFD.out, HFV.out, hf1.out, HG2.out⟩
  ·rw [hf1v] at hL1
   simp only [Option.getD_some, Option.isSome_some] at hL1
   have hL1' : (Instr.lookup 115 (.map (some fb)) (.int .i64 1) true).run Tryz.prog w2 = .ok (.tuple #[.int .i64 (d : Int), .bool true]) w2 := hL1
   have hway := HFD.out.way (by rw [hf1v]; simp)
   have hlim : 1 ≤ lim := by
    rcases HL.out with h0 | h0
    ·cases hway with
     | step _ v _ _ _ hv _ _ => rw [h0] at hv; cases hv
    ·exact h0
   have HWAY := Lib.hid hway
   have HPH : Hid (PushH g mb fb h N nx r1 F w2) := Lib.hid ⟨HNR.out _ HG2.out, HR2.out, HF.out, hf1.out.pos, fun a b => by rw [hf1.out.sum]; exact HC.out a b, HFD.out.lt, HFD.out.dist⟩
   have HCP : Hid (Calls Tryz.prog 79 #[.pointer (some ⟨g, 0, none⟩), .int .i64 0, .int .i64 lim, .map (some fb)] w2 (PushPost mb fb N nx r1 F 0 0 lim w2)) := Lib.hid (push_any g mb fb h N nx HNN.out (by omega) N 0 0 lim r1 F w2 (by omega) HPH.out HFD.out.zero hlim hl2)
   clear hL1 hf1v hway HPH
   go_wp2_with fail
   refine HCP.out.mono ?_
   rintro e w3 ⟨s, r2, F2, rfl, ⟨hs0, hs1⟩, hr2, hF2, hP, hg3⟩
   have hs2 : s ≠ 0 := fun e => (hP.zero e).2.2 HWAY.out
   have hout := hP.out 0 (by have := HNN.out.two; omega)
   rw [if_pos rfl, if_neg (by omega)] at hout
   have hpos0 := smN_nonneg (f := r2 0) N (fun i _ => hP.pos 0 i)
   have HME : Hid ((smN (roomOf w3 mb 0) N).toNat < (smN (roomOf wr mb 0) N).toNat) := Lib.hid (by rw [hr2.of, hr1.out.of]; omega)
   have HFW := Lib.hid (hf1.out.push hP)
   have HR3 := Lib.hid hr2
   have HG3 := Lib.hid (hg3.gb HG2.out (by omega))
   clear hr2 hF2 hP hg3 hout hpos0
   go_wp2_with fail
   go_roundw
   case rel => exact ⟨r2, HR3, HFW, HG3⟩
   case measure => exact HME.out

set_option maxRecDepth 100000
set_option maxHeartbeats 80000000

noncomputable def rD (D : Nat → Nat → Prop) (C : Nat → Nat → Int) : Nat → Nat → Int := open Classical in fun u v => if D u v then C u v else 0
def orD (D : Nat → Nat → Prop) (a b : Nat) : Nat → Nat → Prop := fun u v => D u v ∨ (u = a ∧ v = b)
theorem rD_set (D : Nat → Nat → Prop) (C : Nat → Nat → Int) (a b : Nat) : setR (rD D C) a b (C a b) = rD (orD D a b) C := by
 funext u v
 unfold setR rD orD
 by_cases e : u = a ∧ v = b
 ·rw [if_pos e, if_pos (Or.inr e), e.1, e.2]
 ·rw [if_neg e]
  by_cases d : D u v
  ·rw [if_pos d, if_pos (Or.inl d)]
  ·rw [if_neg d, if_neg (by rintro (h | h); exact d h; exact e h)]
structure NxD (N : Nat) (D : Nat → Nat → Prop) (nx : Nat → List Nat) (cnt : Nat) : Prop where
 both : ∀ u v, D u v → v ∈ nx u ∧ u ∈ nx v
 lt : ∀ u, u < N → ∀ v ∈ nx u, v < N
 len : ∀ u, (nx u).length ≤ cnt
theorem NxD.add {N : Nat} {D : Nat → Nat → Prop} {nx : Nat → List Nat} {cnt : Nat} (h : NxD N D nx cnt) {a b : Nat} (ha : a < N) (hb : b < N) (hab : a ≠ b) : NxD N (orD D a b) (addN nx a b) (cnt + 1) := by
 have hmem : ∀ u v, v ∈ nx u → v ∈ addN nx a b u := fun u v hv => by
  unfold addN
  split
  ·rename_i e; rw [e] at hv; exact List.mem_append.2 (Or.inl hv)
  ·split
   ·rename_i e; rw [e] at hv; exact List.mem_append.2 (Or.inl hv)
   ·exact hv
 refine ⟨fun u v hd => ?_, fun u hu v hv => ?_, fun u => ?_⟩
 ·rcases hd with hd | ⟨rfl, rfl⟩
  ·exact ⟨hmem _ _ (h.both u v hd).1, hmem _ _ (h.both u v hd).2⟩
  ·constructor
   ·unfold addN; rw [if_neg hab, if_pos rfl]; simp
   ·unfold addN; rw [if_pos rfl]; simp
 ·unfold addN at hv
  split at hv
  ·rcases List.mem_append.1 hv with hv | hv
   ·exact h.lt b hb v hv
   ·simp at hv; omega
  ·split at hv
   ·rcases List.mem_append.1 hv with hv | hv
    ·exact h.lt a ha v hv
    ·simp at hv; omega
   ·exact h.lt u hu v hv
 ·unfold addN
  have h1 := h.len u
  have h2 := h.len a
  have h3 := h.len b
  split
  ·rw [List.length_append]; simp; omega
  ·split
   ·rw [List.length_append]; simp; omega
   ·omega
def NetD (b0 : Nat) (w : World) (g m h N : Nat) (D : Nat → Nat → Prop) (C : Nat → Nat → Int) (cnt : Nat) : Prop :=
 ∃ nx vs, NetW b0 w g m h N nx vs ∧ RM w m (rD D C) ∧ NxD N D nx cnt
theorem NetD.keep {b0 : Nat} {w w' : World} {g m h N : Nat} {D : Nat → Nat → Prop} {C : Nat → Nat → Int} {cnt : Nat} (k : NetD b0 w g m h N D C cnt) (hg : Gr w w') : NetD b0 w' g m h N D C cnt := by
 obtain ⟨nx, vs, h1, h2, h3⟩ := k
 exact ⟨nx, vs, h1.keep hg, h2.keep hg, h3⟩
theorem NetD.more {b0 : Nat} {w : World} {g m h N : Nat} {D : Nat → Nat → Prop} {C : Nat → Nat → Int} {cnt cnt' : Nat} (k : NetD b0 w g m h N D C cnt) (hc : cnt ≤ cnt') : NetD b0 w g m h N D C cnt' := by
 obtain ⟨nx, vs, h1, h2, h3⟩ := k
 exact ⟨nx, vs, h1, h2, h3.both, h3.lt, fun u => Nat.le_trans (h3.len u) hc⟩
theorem NetD.same {b0 : Nat} {w : World} {g m h N : Nat} {D D' : Nat → Nat → Prop} {C : Nat → Nat → Int} {cnt : Nat} (k : NetD b0 w g m h N D C cnt) (hd : ∀ u v, D u v ↔ D' u v) : NetD b0 w g m h N D' C cnt := by
 have : D = D' := by funext u v; exact propext (hd u v)
 rw [← this]; exact k
theorem NetD.nil {b0 : Nat} {w : World} {g m h N : Nat} {vs : Nat → Value} (C : Nat → Nat → Int) (k : NetW b0 w g m h N (fun _ => []) vs) (hr : RM w m (fun _ _ => 0)) : NetD b0 w g m h N (fun _ _ => False) C 0 := by
 refine ⟨_, vs, k, ?_, fun u v hd => hd.elim, fun u _ v hv => by simp at hv, fun u => by simp⟩
 have : rD (fun _ _ => False) C = fun _ _ => 0 := by funext u v; simp [rD]
 rw [this]; exact hr

theorem joinD_any {b0 : Nat} {w : World} {g m h N : Nat} {D : Nat → Nat → Prop} {C : Nat → Nat → Int} {cnt : Nat} (k : NetD b0 w g m h N D C cnt) (a b : Nat) (x : Int) (hx : x = C a b) (hN : N ≤ 4096) (ha : a < N) (hb : b < N) (hab : a ≠ b) (hc : cnt ≤ 4095) :
 Calls Tryz.prog 54 #[.pointer (some ⟨g, 0, none⟩), .int .i64 (a : Int), .int .i64 (b : Int), .int .i64 x] w fun e w' => e = .returned (.tuple #[]) ∧ NetD b0 w' g m h N (orD D a b) C (cnt + 1) ∧ Gn b0 w w' := by
 obtain ⟨nx, vs, h1, h2, h3⟩ := k
 subst hx
 refine (join_any b0 g m h N nx vs _ a b (C a b) w hN ha hb hab (by have := h3.len a; omega) (by have := h3.len b; omega) h1 h2).mono ?_
 rintro e w' ⟨rfl, vs', k1, k2, k3⟩
 exact ⟨rfl, ⟨_, vs', k1, by rw [← rD_set]; exact k2, h3.add ha hb hab⟩, k3⟩

theorem fillD_any {b0 : Nat} {w : World} {g m h N : Nat} {D : Nat → Nat → Prop} {C : Nat → Nat → Int} {cnt : Nat} (k : NetD b0 w g m h N D C cnt) (lim : Int) (hN2 : 2 ≤ N) (hN : N ≤ 4096) (hc : cnt ≤ 4096) (hp : ∀ a b, 0 ≤ C a b) (hC : ∀ a b, C a b ≤ 549755813888) (hl : cnt = 0 ∨ 1 ≤ lim) (hl2 : lim ≤ 1099511627776) :
 Calls Tryz.prog 58 #[.pointer (some ⟨g, 0, none⟩), .int .i64 lim] w fun e w' => ∃ nx fb F r', e = .returned (.map (some fb)) ∧ w.heap.size ≤ fb ∧ FM w' fb F ∧ RM w' m r' ∧ Found r' nx N F ∧ F 1 = none ∧ Flowed N (rD D C) r' ∧ NxD N D nx cnt ∧ Gb m w w' := by
 obtain ⟨nx, vs, h1, h2, h3⟩ := k
 have hb : ∀ a b, 0 ≤ rD D C a b ∧ rD D C a b ≤ 549755813888 := fun a b => by
  unfold rD
  split
  ·exact ⟨hp a b, hC a b⟩
  ·omega
 refine (fillN_any g m h N nx ⟨hN2, hN, h3.lt, fun u _ => by have := h3.len u; omega⟩ (rD D C) lim w h1.read h2 (fun a b => (hb a b).1) (fun a b => by have := hb a b; have := hb b a; omega) (hl.imp (fun e => List.eq_nil_of_length_eq_zero (by have := h3.len 0; omega)) id) hl2).mono ?_
 rintro e w' ⟨fb, F, r', rfl, k1, k2, k3, k4, k5, k6, k7⟩
 exact ⟨nx, fb, F, r', rfl, k1, k2, k3, k4, k5, k6, h3, k7⟩

theorem length_any (x y : Int) (w : World) (h : IntKind.i64.wrap (y - x) = y - x) : Calls Tryz.prog 57 #[.agg #[.int .i64 x, .int .i64 y]] w fun e w' => e = .returned (.int .i64 (y - x)) ∧ Gr w w' := by
 go_enter Tryz.func57, Tryz.ntmps57
 go_wp2_with fail
 go_ret
 exact ⟨rfl, (Gr.refl w).alloc _⟩
theorem jobNode_any (p : Value) (j : Nat) (w : World) (h : j ≤ 4096) : Calls Tryz.prog 55 #[p, .int .i64 (j : Int)] w fun e w' => e = .returned (.int .i64 (2 + (j : Int))) ∧ w' = w := by
 go_enter Tryz.func55, Tryz.ntmps55
 go_wp2_with fail
 go_ret
 exact ⟨rfl, rfl⟩
theorem spanNode_any (p : Nat) (A : Option Addr) (n c s : Nat) (w : World) (hn : n ≤ 4096) (h : s ≤ 4096) (hc : w.cell? ⟨p, 2, none⟩ = some (.slice A n c)) : Calls Tryz.prog 56 #[.pointer (some ⟨p, 0, none⟩), .int .i64 (s : Int)] w fun e w' => e = .returned (.int .i64 (2 + (n : Int) + (s : Int))) ∧ w' = w := by
 go_enter Tryz.func56, Tryz.ntmps56
 go_wp2_with fail
 go_ret
 exact ⟨rfl, rfl⟩

end Go.Proofs.YtobcdkjomehdkaaGreat
