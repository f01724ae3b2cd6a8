/- Layer 5: a law's net, its own list of stocks, and its list of the parts of all transactions, in memory.
Layer 5: the law's total and calm: all sites up, ticks, all letters delivered. -/
import Derived.Test.YtnoeiocbmhkmeaaPtPs
import Derived.Test.YtnoeiocbmhkmeaaPtOp
import Derived.Test.YtnoeiocbmhkmeaaPtAX
import Derived.Test.YtnoeiocbmhkmeaaPvP
namespace Go.Proofs.Ytnoeiocbmhkmeaa
open Go.RowKit
set_option linter.unusedSimpArgs false

theorem AcOk.keep2 {w w' : World} {a : Ac} (h : AcOk w a) (hg : Gr w w') : AcOk w' a := ⟨h.ik, h.is, h.ino, ⟨h.parts.le, h.parts.max, h.parts.nil, h.parts.len, h.parts.rd.keep hg, h.parts.small⟩⟩
theorem Try.infoPtP : (Try.prog.info? 38).map (fun i => (i.zero, i.size, i.bytes)) = some (some (.slice none 0 0), 1, 24) := by kernel_rfl
theorem PaySt.turn {w0 W W' : World} {B g cap p k : Nat} {ow : List Int} {N : Nx} {S : List Nat} (h : PaySt w0 B g cap p k ow N W) (hc : Ch S W W') (hS : ∀ x ∈ S, B ≤ x ∧ x ∉ ownB N) : PaySt w0 B g cap p k ow N W' :=
  ⟨h.net.turn2 hc (fun y hy hm => (hS y hm).2 hy), h.p5, owns_ch h.row hc (fun x hx hm => by
    have h1 := (hS x hm).1
    have h2 := h.gB.1
    have : x = g := by injection hx with hx; exact hx.symm
    omega), h.len, hc.up h.gr (fun x hx => by have := (hS x hx).1; have := h.gB; omega), h.gB⟩
/-- The net, the own list, and the list of all parts. -/
structure AllSt (w0 : World) (B g cap p k : Nat) (ow : List Int) (v : Value) (vs : List Value) (all : List (List Mv)) (N : Nx) (W : World) : Prop where
  pay : PaySt w0 B g cap p k ow N W
  row : W.ownsRow B 38 1 v all.length vs
  off : ∀ x, v.ownBlock = some x → x ∉ ownB N
  pts : ∀ (j : Nat) (ps : List Mv) (u : Value), all[j]? = some ps → vs[j]? = some u → ∃ A c, u = .slice A ps.length c ∧ ps.length ≤ c ∧ ∀ X, Ch (v.ownBlock.toList ++ g :: ownB N) W X → Pts X A ps
section
variable {w0 W W' : World} {B g cap p k : Nat} {ow : List Int} {v : Value} {vs : List Value} {all : List (List Mv)} {N N' : Nx}
theorem AllSt.keep (h : AllSt w0 B g cap p k ow v vs all N W) (hg : Gr W W') : AllSt w0 B g cap p k ow v vs all N W' :=
  ⟨h.pay.keep hg, owns_gr h.row hg, h.off, fun j ps u h1 h2 => by
    obtain ⟨A, c, e, hc, hX⟩ := h.pts j ps u h1 h2
    exact ⟨A, c, e, hc, stay_gr hX hg⟩⟩
theorem AllSt.to (h : AllSt w0 B g cap p k ow v vs all N W) (ht : NetTo B W N N' W') : AllSt w0 B g cap p k ow v vs all N' W' :=
  ⟨h.pay.to ht, owns_ch h.row ht.ch h.off, fun x hx hm => by
    rcases ht.own x hm with h1 | h1
    · exact h.off x hx h1
    · have := (owns_block h.row hx).1
      omega, fun j ps u h1 h2 => by
    obtain ⟨A, c, e, hc, hX⟩ := h.pts j ps u h1 h2
    refine ⟨A, c, e, hc, fun X h3 => hX X ((ht.ch.mono (fun y hy => List.mem_append_right _ (List.mem_cons_of_mem _ hy))).trans h3 (fun y hy => ?_))⟩
    rcases List.mem_append.1 hy with h4 | h4
    · exact Or.inl (List.mem_append_left _ h4)
    · rcases List.mem_cons.1 h4 with h5 | h5
      · exact Or.inl (List.mem_append_right _ (by rw [h5]; exact List.mem_cons_self))
      · rcases ht.own y h5 with h6 | h6
        · exact Or.inl (List.mem_append_right _ (List.mem_cons_of_mem _ h6))
        · exact Or.inr h6⟩
theorem AllSt.put (h : AllSt w0 B g cap p k ow v vs all N W) (j : Nat) (x : Int) : AllSt w0 B g cap p k (ow.set j x) v vs all N (W.setCell ⟨g, j, none⟩ (.int .i64 x)) := by
  have hch : Ch [g] W (W.setCell ⟨g, j, none⟩ (.int .i64 x)) := Ch.refl.set (p := ⟨g, j, none⟩) (by simp) _
  refine ⟨h.pay.put j x, owns_ch h.row hch (fun y hy hm => ?_), h.off, fun j ps u h1 h2 => ?_⟩
  · have h1 := (owns_block h.row hy).2
    have h2 := h.pay.gB.1
    rw [List.mem_singleton.1 hm] at h1
    omega
  · obtain ⟨A, c, e, hc, hX⟩ := h.pts j ps u h1 h2
    exact ⟨A, c, e, hc, fun X h3 => hX X ((hch.mono (fun y hy => List.mem_append_right _ (by rw [List.mem_singleton.1 hy]; exact List.mem_cons_self))).trans h3 (fun y hy => Or.inl hy))⟩
theorem AllSt.grow (h : AllSt w0 B g cap p k ow v vs all N W) {v' u : Value} {ps : List Mv} (hr : W'.ownsRow B 38 1 v' (all.length + 1) (vs ++ [u])) (hg : W.grownBy W' v.ownBlock) (hn : v'.ownBlock = v.ownBlock ∨ ∃ x, W.heap.size ≤ x ∧ v'.ownBlock = some x)
    (hu : ∃ A c, u = .slice A ps.length c ∧ ps.length ≤ c ∧ ∀ X, Ch (v.ownBlock.toList ++ g :: ownB N) W X → Pts X A ps) : AllSt w0 B g cap p k ow v' (vs ++ [u]) (all ++ [ps]) N W' := by
  have hch : Ch v.ownBlock.toList W W' := ⟨hg.os, hg.tape, hg.output, hg.size, fun x hxl hm => hg.block x hxl (fun e => hm (by rw [← e]; simp))⟩
  have hvl : vs.length = all.length := by have := h.row.1; omega
  have stay : ∀ {A : Option Addr} {qs : List Mv}, (∀ X, Ch (v.ownBlock.toList ++ g :: ownB N) W X → Pts X A qs) → ∀ X, Ch (v'.ownBlock.toList ++ g :: ownB N) W' X → Pts X A qs := fun {A qs} hX X h3 => hX X ((hch.mono (fun y hy => List.mem_append_left _ hy)).trans h3 (fun y hy => by
    rcases List.mem_append.1 hy with h4 | h4
    · rcases hn with h5 | ⟨x, h5, h6⟩
      · rw [h5] at h4; exact Or.inl (List.mem_append_left _ h4)
      · rw [h6] at h4
        have : y = x := by simpa using h4
        exact Or.inr (by omega)
    · exact Or.inl (List.mem_append_right _ h4)))
  refine ⟨h.pay.turn hch (fun x hx => ?_), by rw [List.length_append]; exact hr, fun x hx hm => ?_, fun j qs z h1 h2 => ?_⟩
  · have hx : v.ownBlock = some x := by simpa using hx
    exact ⟨(owns_block h.row hx).2, h.off x hx⟩
  · rcases hn with h5 | ⟨y, h5, h6⟩
    · rw [h5] at hx; exact h.off x hx hm
    · rw [h6] at hx
      injection hx with hx
      have := (h.pay.net.own x hm).2
      omega
  · by_cases hj : j < all.length
    · rw [List.getElem?_append_left hj] at h1
      rw [List.getElem?_append_left (by omega)] at h2
      obtain ⟨A, c, e, hc, hX⟩ := h.pts j qs z h1 h2
      exact ⟨A, c, e, hc, stay hX⟩
    · have hjl := (List.getElem?_eq_some_iff.1 h1).1
      rw [List.length_append] at hjl
      have hj0 : j = all.length := by simp at hjl; omega
      subst hj0
      rw [List.getElem?_append_right (Nat.le_refl _), Nat.sub_self] at h1
      rw [List.getElem?_append_right (by omega), hvl, Nat.sub_self] at h2
      injection h1 with h1
      injection h2 with h2
      subst h1 h2
      obtain ⟨A, c, e, hc, hX⟩ := hu
      exact ⟨A, c, e, hc, stay hX⟩
/-- The parts of a transaction, as they lie in memory. -/
theorem AllSt.get (h : AllSt w0 B g cap p k ow v vs all N W) {j : Nat} {ps : List Mv} (hj : all[j]? = some ps) : ∃ gv cv A c, v = .slice (some ⟨gv, 0, none⟩) all.length cv ∧ all.length ≤ cv ∧ W.cell? ⟨gv, j, none⟩ = some (.slice A ps.length c) ∧ ps.length ≤ c ∧ Pts W A ps := by
  have hjl := (List.getElem?_eq_some_iff.1 hj).1
  have hvl : vs.length = all.length := by have := h.row.1; omega
  have hv : vs[j]? = some (vs[j]'(by omega)) := List.getElem?_eq_getElem _
  generalize vs[j]'_ = u at hv
  obtain ⟨A, c, rfl, hc, hX⟩ := h.pts j ps u hj hv
  rcases h.row.2 with ⟨-, h2⟩ | ⟨gv, cv, cur, h1, h2, h3, h4, h5, h6, h7⟩
  · omega
  · refine ⟨gv, cv, A, c, h1, h4, ?_, hc, hX W Ch.refl⟩
    have hb : Blk W gv 38 cur := h3
    rw [hb.cell j, ← hv, ← h7, List.getElem?_take]
    rw [if_pos (by omega)]
    simp
theorem AllSt.get2 {gv T cv : Nat} (h : AllSt w0 B g cap p k ow (.slice (some ⟨gv, 0, none⟩) T cv) vs all N W) (hT : all.length = T) {j : Nat} {ps : List Mv} (hj : all[j]? = some ps) : ∃ A c, W.cell? ⟨gv, j, none⟩ = some (.slice A ps.length c) ∧ ps.length ≤ c ∧ Pts W A ps ∧ T ≤ cv := by
  obtain ⟨gv', cv', A, c, e, h1, h2, h3, h4⟩ := h.get hj
  injection e with e1 _ e3
  injection e1 with e1
  injection e1 with e1
  subst e1 e3
  exact ⟨A, c, h2, h3, h4, by omega⟩
theorem AllSt.shape (h : AllSt w0 B g cap p k ow v vs all N W) : ∃ A c, v = .slice A all.length c ∧ all.length ≤ c := by
  rcases h.row.2 with ⟨h1, h2⟩ | ⟨gv, cv, cur, h1, h2, h3, h4, -⟩
  · exact ⟨none, 0, by rw [h1, h2], by omega⟩
  · exact ⟨_, _, h1, h4⟩
end

end Go.Proofs.Ytnoeiocbmhkmeaa

namespace Go.Proofs.Ytnoeiocbmhkmeaa
open Go.RowKit
set_option linter.unusedSimpArgs false

theorem take_sum {l : List Int} {i : Nat} (h : i < l.length) : (l.take (i + 1)).sum = (l.take i).sum + l.getD i 0 := by
  rw [List.take_add_one, List.getElem?_eq_getElem h, Option.toList_some, List.sum_append, List.getD_eq_getElem?_getD, List.getElem?_eq_getElem h]
  simp
theorem take_rng {l : List Int} (hv : ∀ x ∈ l, 0 ≤ x ∧ x ≤ 1099511627776) : ∀ i, i ≤ l.length → 0 ≤ (l.take i).sum ∧ (l.take i).sum ≤ i * 1099511627776
  | 0, _ => by simp
  | i + 1, hi => by
    have ih := take_rng hv i (by omega)
    have h1 := hv _ (List.getElem_mem (show i < l.length by omega))
    rw [take_sum (by omega), List.getD_eq_getElem?_getD, List.getElem?_eq_getElem (by omega)]
    simp only [Option.getD_some]
    omega
set_option maxRecDepth 100000 in
set_option maxHeartbeats 4000000 in
theorem total_any (A : Option Addr) (n c : Nat) (l : List Int) (w : World) (hn : l.length = n) (h5 : n ≤ 5) (hp : Ints w A l) (hc : n ≤ c) (hv : ∀ x ∈ l, 0 ≤ x ∧ x ≤ 1099511627776) :
    Calls Try.prog 34 #[.slice A n c] w fun e w' => e = .returned (.int .i64 l.sum) ∧ w' = w := by
  have HN := Lib.hid hn
  have HP := Lib.hid hp
  have HV := Lib.hid hv
  clear hn hp hv
  go_enter Try.func34, Try.ntmps34
  go_wp2_with fail
  go_loopw [3, 4] (fun y z wr => ∃ (i : Nat), i ≤ n ∧ z = .int .i64 (i : Int) ∧ y = .int .i64 (l.take i).sum ∧ wr = w) (fun _ z _ => n - (intOf z).toNat)
  case atStart => exact ⟨0, Nat.zero_le _, rfl, by simp, rfl⟩
  case round =>
    obtain ⟨i, hi, rfl, rfl, rfl⟩ := hrel
    by_cases hlt : i < n
    · have hii : (i : Int) < (n : Int) := by omega
      obtain ⟨b, off, rfl, hcell⟩ := Ints_at HP.out (i := i) (by rw [HN.out]; exact hlt)
      have HS := Lib.hid (take_sum (l := l) (i := i) (by rw [HN.out]; exact hlt))
      have hr0 := take_rng HV.out i (by rw [HN.out]; omega)
      have hr1 := take_rng HV.out (i + 1) (by rw [HN.out]; omega)
      rw [HS.out] at hr1
      generalize l.getD i 0 = x at hcell HS hr1
      generalize (l.take i).sum = y at HS hr0 hr1 ⊢
      have hw : IntKind.i64.wrap (y + x) = y + x := IntWalk.i64_in _ (by omega)
      clear hr0 hr1
      go_wp2_with fail
      go_roundw
      case rel => exact ⟨i + 1, by omega, by go_num, by rw [HS.out], by first | rfl | trivial⟩
      case measure => simp [intOf]; omega
    · obtain rfl : i = n := by omega
      have e : l.take i = l := List.take_of_length_le (by rw [HN.out]; exact Nat.le_refl _)
      rw [e]
      go_wp2_with fail
      go_ret
      exact ⟨rfl, rfl⟩

def UpTo (N : Nx) (i : Nat) : Prop := ∀ (k : Nat) (s : Sx), k < i → N.sites[k]? = some s → s.up = true
theorem UpTo.all {N : Nx} (h : UpTo N N.sites.length) : Ups N := fun s hs => by
  obtain ⟨k, hk⟩ := List.mem_iff_getElem?.1 hs
  exact h k s (List.getElem?_eq_some_iff.1 hk).1 hk
theorem sta_step {N : Nx} {i : Nat} (hi : i < N.sites.length) (h : UpTo N i) : (upN N (i : Int) = true → UpTo N (i + 1)) ∧ (upN N (i : Int) = false → staE N (i : Int) = 0 ∧ UpTo (staI N (i : Int)) (i + 1)) := by
  have hs : N.sites[i]? = some (N.sites[i]'hi) := List.getElem?_eq_getElem _
  generalize N.sites[i]'hi = s at hs
  have hr : refS N (i : Int) = 0 := by unfold refS; rw [if_neg (by omega), if_neg (by omega)]
  have hu : upN N (i : Int) = s.up := by
    unfold upN
    rw [hr, if_neg (by simp), show ((i : Int)).toNat = i from rfl, hs]
    rfl
  refine ⟨fun hup k u hk hku => ?_, fun hup => ?_⟩
  · by_cases e : k = i
    · subst e
      rw [hs] at hku
      injection hku with hku
      rw [← hku, ← hu, hup]
    · exact h k u (by omega) hku
  · have hE : staE N (i : Int) = 0 := by unfold staE; rw [hr, hup]; rfl
    refine ⟨hE, ?_⟩
    unfold staI
    rw [if_pos hE]
    unfold atI
    rw [show ((i : Int)).toNat = i from rfl, hs]
    intro k u hk hku
    dsimp only at hku
    rw [List.getElem?_set] at hku
    split at hku
    · first
      | (injection hku with hku
         rw [← hku])
      | (split at hku
         · injection hku with hku
           rw [← hku]
         · cases hku)
    · rename_i e
      exact h k u (by omega) hku
theorem up_refD {N : Nx} (h : Ups N) {i : Nat} (hi : i < N.sites.length) : refD N (i : Int) = 0 := by
  have hs : N.sites[i]? = some (N.sites[i]'hi) := List.getElem?_eq_getElem _
  have hu := h _ (List.mem_of_getElem? hs)
  generalize N.sites[i]'hi = s at hs hu
  have hr : refS N (i : Int) = 0 := by unfold refS; rw [if_neg (by omega), if_neg (by omega)]
  unfold refD
  rw [hr, if_neg (by simp), show ((i : Int)).toNat = i from rfl, hs]
  simp [hu]
theorem Cm.sta {N : Nx} {own : List Int} {all : List (List Mv)} (h : Cm N own all (fun _ => False)) (i : Int) : Cm (staI N i) own all (fun _ => False) := by
  rcases h.act (ps := []) (N' := staI N i) (Or.inr (Or.inr (Or.inr (Or.inr (Or.inr (Or.inr (Or.inr ⟨i, rfl⟩))))))) with ⟨-, h1⟩ | ⟨h1, -⟩
  · exact h1
  · rw [sta_begun] at h1; omega
theorem tik_sites (N : Nx) (i : Int) : (tikI N i).sites = N.sites := by
  unfold tikI
  repeat' split
  all_goals rfl
theorem Cm.len5 {N : Nx} {own : List Int} {all : List (List Mv)} {K : Int → Prop} (h : Cm (nzN N) own all K) {m : Nat} (hm : own.length = m) : N.sites.length = m := by rw [← hm, h.stk.1, nz_len]
/-- What calm makes of a net. -/
def CalmP (B : Nat) (w : World) (N : Nx) (own : List Int) (all : List (List Mv)) (e : Ending) (w' : World) : Prop :=
  ∃ N' b1 b2, e = .returned (.tuple #[.bool b1, .bool b2]) ∧ NetTo B w N N' w' ∧ (b2 = true ∨ (b2 = false ∧ b1 = true ∧ N'.mail = [] ∧ Cm (nzN N') own all (fun _ => True)))
set_option maxRecDepth 100000 in
set_option maxHeartbeats 40000000 in
theorem calm_any {B : Nat} {N : Nx} (A : Option Addr) (n c : Nat) (ol : List Int) (own : List Int) (all : List (List Mv)) (w : World) (h : NetR B w N) (hc : Cm (nzN N) own all (fun _ => False)) (hb : all.length ≤ 60) (hn : ol.length = n) (_hl : n ≤ 9223372036854775807) (HO : ∀ X, Ch (ownB N) w X → Ints X A ol) :
    Calls Try.prog 33 #[.pointer (some ⟨N.p, 0, none⟩), .slice A n c] w (CalmP B w N own all) := by
  obtain ⟨p, hpp⟩ : ∃ p, N.p = p := ⟨_, rfl⟩
  obtain ⟨m, hm⟩ : ∃ m, own.length = m := ⟨_, rfl⟩
  have HP := Lib.hid hpp
  have HM := Lib.hid hm
  have HN0 := Lib.hid (NetTo.refl h (Gr.refl w))
  have HC0 := Lib.hid hc
  have HB := Lib.hid hb
  have HNL := Lib.hid hn
  have HOI := Lib.hid HO
  have hm8 : m ≤ 8 ∧ 1 ≤ m := by
    have h1 := hc.ok.hi
    have h2 := hc.ok.lo
    have h3 := hc.stk.1
    omega
  have HUT : Hid (∀ (M : Nx) (W : World) (K : Int → Prop), NetTo B w N M W → Cm (nzN M) own all K → (nzN M).sites.length = m ∧ M.p = p ∧ M.sites.length = m ∧ OkN (nzN M)) := Lib.hid (fun M W K ht hk => ⟨by rw [← hk.stk.1, HM.out], ht.p.trans HP.out, hk.len5 HM.out, hk.ok⟩)
  rw [hpp]
  clear h hc hb hn HO hpp hm
  go_enter Try.func33, Try.ntmps33
  go_wp2_with fail
  go_loopw [6] (fun z wr => ∃ (i : Nat) (M : Nx), i ≤ m ∧ z = .int .i64 (i : Int) ∧ Hid (NetTo B w N M wr) ∧ Hid (Cm (nzN M) own all (fun _ => False)) ∧ Hid (UpTo (nzN M) i)) (fun z _ => m - (intOf z).toNat)
  case atStart => exact ⟨0, N, Nat.zero_le _, rfl, HN0, HC0, Lib.hid (fun k s hk => by omega)⟩
  case round =>
    obtain ⟨i, M, hi, rfl, hto, hcm, hut⟩ := hrel
    clear HN0 HC0
    obtain ⟨hz1, hz2, hz3, hz4⟩ := HUT.out M _ _ hto.out hcm.out
    have HSI := Lib.hid (Sites_any hto.out.net)
    rw [hz3, hz2] at HSI
    by_cases hlt : i < m
    · have hii : (i : Int) < (m : Int) := by omega
      have HUP := Lib.hid (Up_any hto.out.net (i : Int))
      have HST := Lib.hid (Start_all (i : Int) hto.out.net)
      have HSS := Lib.hid (sta_step (N := nzN M) (i := i) (by rw [hz1]; exact hlt) hut.out)
      rw [hz2] at HUP HST
      rw [upN_nz, staE_nz] at HSS
      generalize upN M (i : Int) = b at HUP HSS
      generalize staE M (i : Int) = E at HST HSS
      clear hz1 hz2 hz3 hz4
      cases b with
      | true =>
        have HU2 := Lib.hid (HSS.out.1 rfl)
        clear HSS
        go_wp2_with fail
        refine HSI.out.mono ?_
        rintro e w2 ⟨rfl, rfl⟩
        go_wp2_with fail
        refine HUP.out.mono ?_
        rintro e w3 ⟨rfl, rfl⟩
        go_wp2_with fail
        go_roundw
        case rel => exact ⟨i + 1, M, by omega, by go_num, hto, hcm, HU2⟩
        case measure => simp [intOf]; omega
      | false =>
        obtain ⟨hE, hU⟩ := HSS.out.2 rfl
        subst hE
        have HU2 := Lib.hid hU
        clear HSS hU
        go_wp2_with fail
        refine HSI.out.mono ?_
        rintro e w2 ⟨rfl, rfl⟩
        go_wp2_with fail
        refine HUP.out.mono ?_
        rintro e w3 ⟨rfl, rfl⟩
        go_wp2_with fail
        refine HST.out.mono ?_
        rintro e w4 ⟨rfl, M2, hM2, hto2⟩
        have HT2 := Lib.hid (hto.out.trans hto2)
        have HC2 : Hid (Cm (nzN M2) own all (fun _ => False)) := Lib.hid (by rw [hM2]; exact hcm.out.sta _)
        have HU3 : Hid (UpTo (nzN M2) (i + 1)) := Lib.hid (by rw [hM2]; exact HU2.out)
        clear hM2 hto2
        go_wp2_with fail
        go_roundw
        case rel => exact ⟨i + 1, M2, by omega, by go_num, HT2, HC2, HU3⟩
        case measure => simp [intOf]; omega
    · obtain rfl : i = m := by omega
      have HUPS : Hid (Ups (nzN M)) := Lib.hid (by
        have h1 := hut.out
        rw [← hz1] at h1
        exact h1.all)
      have HC1 : Hid (Cm (nzN M) own all (fun f => 0 ≤ f ∧ f < ((0 : Nat) : Int))) := Lib.hid (hcm.out.mono (fun f hf => by omega))
      clear hz1 hz2 hz3 hz4 hcm hut
      go_wp2_with fail
      refine HSI.out.mono ?_
      rintro e w2 ⟨rfl, rfl⟩
      clear HSI
      go_wp2_with fail
      go_loopw [7] (fun z wr => ∃ (j : Nat) (M : Nx), j ≤ i ∧ z = .int .i64 (j : Int) ∧ Hid (NetTo B w N M wr) ∧ Hid (Cm (nzN M) own all (fun f => 0 ≤ f ∧ f < (j : Int))) ∧ Hid (Ups (nzN M))) (fun z _ => i - (intOf z).toNat)
      case atStart => exact ⟨0, M, Nat.zero_le _, rfl, hto, HC1, HUPS⟩
      case round =>
        obtain ⟨j, M, hj, rfl, hto, hcm, hut⟩ := hrel
        clear HC1 HUPS
        obtain ⟨hz1, hz2, hz3, hz4⟩ := HUT.out M _ _ hto.out hcm.out
        have HSI := Lib.hid (Sites_any hto.out.net)
        rw [hz3, hz2] at HSI
        by_cases hlt : j < i
        · have hii : (j : Int) < (i : Int) := by omega
          have HTK := Lib.hid (Tick_all (j : Int) hto.out.net hz4)
          have hrd : refD (nzN M) (j : Int) = 0 := up_refD hut.out (by rw [hz1]; exact hlt)
          have HRD := Lib.hid hrd
          rw [refD_nz] at hrd
          rw [hz2, hrd] at HTK
          have HTM : Hid (∀ M2, nzN M2 = tikI (nzN M) (j : Int) → M2.mail.length < 1024 → Cm (nzN M2) own all (fun f => 0 ≤ f ∧ f < ((j + 1 : Nat) : Int))) := Lib.hid (fun M2 hM2 hm2 => by
            have hs : (nzN M).sites[j]? = some ((nzN M).sites[j]'(by rw [hz1]; exact hlt)) := List.getElem?_eq_getElem _
            have h1 : (nzN M2).mail.length < 1024 := hm2
            rw [hM2] at h1 ⊢
            exact (hcm.out.tik hs HRD.out h1).mono (fun f hf => by omega))
          have HTU : Hid (∀ M2, nzN M2 = tikI (nzN M) (j : Int) → Ups (nzN M2) ∧ Good (nzN M2)) := Lib.hid (fun M2 hM2 => by
            rw [hM2]
            refine ⟨?_, hcm.out.good.tik _⟩
            unfold Ups
            rw [tik_sites]
            exact hut.out)
          clear hz1 hz2 hz3 hz4 hrd hcm hut HRD
          go_wp2_with fail
          refine HSI.out.mono ?_
          rintro e w3 ⟨rfl, rfl⟩
          go_wp2_with fail
          refine HTK.out.mono ?_
          rintro e w4 ⟨rfl, M2, hM2, hto2⟩
          have HT2 := Lib.hid (hto.out.trans hto2)
          have HUG := Lib.hid (HTU.out M2 hM2)
          have HLE := Lib.hid (Letters_any HT2.out.net HUG.out.2.1.room)
          have hp2 : M2.p = p := HT2.out.p.trans HP.out
          rw [hp2] at HLE
          have hml : M2.mail.length ≤ 1024 := HUG.out.2.1.room
          have HCM2 := Lib.hid (HTM.out M2 hM2)
          obtain ⟨q, hq⟩ : ∃ q, M2.mail.length = q := ⟨_, rfl⟩
          rw [hq] at hml HCM2
          have HQ := Lib.hid hq
          clear hM2 hto2 hp2 hq HTM HTU
          by_cases hfull : q < 1024
          · have hqi : ¬ (1024 : Int) ≤ (q : Int) := by omega
            have HC3 := Lib.hid (HCM2.out hfull)
            go_wp2_with fail
            refine HLE.out.mono ?_
            rintro e w5 ⟨A7, c7, rfl, -, hg7, -⟩
            rw [HQ.out]
            have HT3 := Lib.hid (HT2.out.post hg7)
            clear hg7
            go_wp2_with fail
            go_roundw
            case rel => exact ⟨j + 1, M2, by omega, by go_num, HT3, HC3, Lib.hid HUG.out.1⟩
            case measure => simp [intOf]; omega
          · have hqi : (1024 : Int) ≤ (q : Int) := by omega
            go_wp2_with fail
            refine HLE.out.mono ?_
            rintro e w5 ⟨A7, c7, rfl, -, hg7, -⟩
            rw [HQ.out]
            have HT3 := Lib.hid (HT2.out.post hg7)
            clear hg7
            go_wp2_with fail
            go_ret2
            exact ⟨M2, false, true, rfl, HT3.out, Or.inl rfl⟩
        · obtain rfl : j = i := by omega
          have HCT : Hid (Cm (nzN M) own all (fun _ => (nzN M).mail.length < 1024)) := Lib.hid (by
            obtain ⟨co, G, hi, v⟩ := hcm.out.inv
            have v2 := live_all hi v (fun f h0 h1 => ⟨h0, by rw [hz1] at h1; exact h1⟩)
            exact ⟨hcm.out.ok, hcm.out.len, ⟨co, G, hi, v2.mono (fun _ _ => trivial)⟩, hcm.out.stk⟩)
          have HPH : Hid (0 + phi (nzN M) ≤ 19999) := Lib.hid (by
            have h1 := phi_max hcm.out.ok (b := 60) (by rw [hcm.out.len]; have := HB.out; omega) hcm.out.ok.hi
            omega)
          clear hz1 hz2 hz3 hz4 hcm
          go_wp2_with fail
          refine HSI.out.mono ?_
          rintro e w3 ⟨rfl, rfl⟩
          clear HSI
          go_wp2_with fail
          go_loopw [8] (fun z wr => ∃ (d : Nat) (M : Nx), d ≤ 19999 ∧ z = .int .i64 (d : Int) ∧ Hid (NetTo B w N M wr) ∧ Hid (Cm (nzN M) own all (fun _ => (nzN M).mail.length < 1024)) ∧ Hid (Ups (nzN M)) ∧ Hid (d + phi (nzN M) ≤ 19999)) (fun z _ => 20000 - (intOf z).toNat)
          case atStart => exact ⟨0, M, by omega, rfl, hto, HCT, hut, HPH⟩
          case round =>
            obtain ⟨d, M, hd, rfl, hto, hcm, hut, hphi⟩ := hrel
            clear HCT HPH
            obtain ⟨hz1, hz2, hz3, hz4⟩ := HUT.out M _ _ hto.out hcm.out
            have HLE := Lib.hid (Letters_any hto.out.net hz4.room)
            rw [hz2] at HLE
            have hd2 : (d : Int) < 20000 := by omega
            have hml : M.mail.length ≤ 1024 := hz4.room
            obtain ⟨q, hq⟩ : ∃ q, M.mail.length = q := ⟨_, rfl⟩
            rw [hq] at hml
            have HQ := Lib.hid hq
            by_cases hq0 : q = 0
            · subst hq0
              have HM0 : Hid (M.mail = [] ∧ Cm (nzN M) own all (fun _ => True)) := Lib.hid ⟨List.length_eq_zero_iff.1 hq, hcm.out.mono (fun _ _ => by show M.mail.length < 1024; omega)⟩
              clear hq hz1 hz2 hz3 hz4 hcm hut hphi
              go_wp2_with fail
              refine HLE.out.mono ?_
              rintro e w5 ⟨A7, c7, rfl, -, hg7, -⟩
              rw [HQ.out]
              have HT3 := Lib.hid (hto.out.post hg7)
              clear hg7
              go_wp2_with fail
              go_ret2
              exact ⟨M, true, false, rfl, HT3.out, Or.inr ⟨rfl, rfl, HM0.out.1, HM0.out.2⟩⟩
            have hqe : ((q : Int) == 0) = false := by simp [hq0]
            by_cases hfull : q < 1024
            · have hqi : ¬ (1024 : Int) ≤ (q : Int) := by omega
              have hq1 : 0 < q := by omega
              have HDE : Hid (∀ (a : Nat) X, Gr wr X → Calls Try.prog 24 #[.pointer (some ⟨p, 0, none⟩), .int .i64 (a : Int)] X (NumP B X M (refL M (a : Int)) (delI (nzN M) (a : Int)))) := Lib.hid (fun a X hX => by
                have h1 := Deliver_all (a : Int) (hto.out.net.keep hX) hz4
                rw [hz2] at h1
                exact h1)
              have HDN : Hid (∀ (a : Nat), a < q → refL M (a : Int) = 0 ∧ ∀ M2, nzN M2 = delI (nzN M) (a : Int) → Cm (nzN M2) own all (fun _ => (nzN M2).mail.length < 1024) ∧ Ups (nzN M2) ∧ (d + 1) + phi (nzN M2) ≤ 19999) := Lib.hid (fun a ha => by
                have h0 : refL M (a : Int) = 0 := by
                  unfold refL
                  rw [if_neg (by omega), if_neg (by omega)]
                refine ⟨h0, fun M2 hM2 => ?_⟩
                have h1 : nzN M2 = delN (nzN M) a := by
                  rw [hM2]; unfold delI; rw [refL_nz, if_pos h0]; rfl
                have ha' : a < (nzN M).mail.length := by show a < M.mail.length; omega
                have h2 := delN_phi hz4 ha'
                have h3 := hphi.out
                rw [h1]
                exact ⟨hcm.out.del (by show M.mail.length < 1024; omega) hut.out a, ups_del hut.out a, by omega⟩)
              have HOL : Hid (∀ X, Gr wr X → Ints X A ol) := Lib.hid (fun X hX => HOI.out X ((hto.out.post hX).ch))
              clear hq hz1 hz2 hz3 hz4 hcm hut hphi hml hq0
              go_wp2_with fail
              refine HLE.out.mono ?_
              rintro e w5 ⟨A7, c7, rfl, -, hg7, -⟩
              rw [HQ.out]
              have HG7 := Lib.hid hg7
              have HT3 := Lib.hid (hto.out.post hg7)
              clear hg7
              by_cases hdn : d < n
              · have hdi : (d : Int) < (n : Int) := by omega
                have hd00 : (0 : Int) ≤ (d : Int) := by omega
                obtain ⟨b, off, rfl, hcell⟩ := Ints_at (HOL.out w5 HG7.out) (i := d) (by rw [HNL.out]; exact hdn)
                generalize ol.getD d 0 = x at hcell
                have hdiv := mod5_le (x := x) (n := (q : Int)) (by omega) (by omega)
                have e0 : IntKind.u64.wrap (q : Int) = (q : Int) := by
                  simp only [IntKind.wrap, IntKind.signed]
                  first | (exact Int.emod_eq_of_lt (by omega) (by simp [IntKind.bits]; omega)) | omega
                have e1 : ((q : Int) == 0) = false := hqe
                obtain ⟨a, ha⟩ : ∃ a : Nat, wrap64 ((IntKind.u64.wrap x).tmod (q : Int)) = (a : Int) := ⟨(wrap64 ((IntKind.u64.wrap x).tmod (q : Int))).toNat, by omega⟩
                have haq : a < q := by omega
                obtain ⟨hr0, hnx⟩ := HDN.out a haq
                have HNX := Lib.hid hnx
                have HDA := Lib.hid (HDE.out a w5 HG7.out)
                rw [hr0] at HDA
                clear hdiv hnx hr0
                go_upto_region 24 with fail
                rw [ha]
                go_wp2_with fail
                refine HDA.out.mono ?_
                rintro e w6 ⟨rfl, M2, hM2, hto2⟩
                obtain ⟨h1, h2, h3⟩ := HNX.out M2 hM2
                have H1 := Lib.hid h1
                have H2 := Lib.hid h2
                have H3 := Lib.hid h3
                have HT4 := Lib.hid (HT3.out.trans hto2)
                have hd3 : d + 1 ≤ 19999 := by omega
                clear h1 h2 h3 hM2 hto2
                go_wp2_with fail
                go_roundw
                case rel => exact ⟨d + 1, M2, hd3, by go_num, HT4, H1, H2, H3⟩
                case measure => simp [intOf]; omega
              · have hdi : ¬ (d : Int) < (n : Int) := by omega
                obtain ⟨hr0, hnx⟩ := HDN.out 0 hq1
                have HNX := Lib.hid hnx
                have HDA := Lib.hid (HDE.out 0 w5 HG7.out)
                rw [hr0] at HDA
                clear hnx hr0
                go_wp2_with fail
                refine HDA.out.mono ?_
                rintro e w6 ⟨rfl, M2, hM2, hto2⟩
                obtain ⟨h1, h2, h3⟩ := HNX.out M2 hM2
                have H1 := Lib.hid h1
                have H2 := Lib.hid h2
                have H3 := Lib.hid h3
                have HT4 := Lib.hid (HT3.out.trans hto2)
                have hd3 : d + 1 ≤ 19999 := by omega
                clear h1 h2 h3 hM2 hto2
                go_wp2_with fail
                go_roundw
                case rel => exact ⟨d + 1, M2, hd3, by go_num, HT4, H1, H2, H3⟩
                case measure => simp [intOf]; omega
            · have hqi : (1024 : Int) ≤ (q : Int) := by omega
              clear hq hz1 hz2 hz3 hz4 hcm hut hphi
              go_wp2_with fail
              refine HLE.out.mono ?_
              rintro e w5 ⟨A7, c7, rfl, -, hg7, -⟩
              rw [HQ.out]
              have HT3 := Lib.hid (hto.out.post hg7)
              clear hg7
              go_wp2_with fail
              go_ret2
              exact ⟨M, false, true, rfl, HT3.out, Or.inl rfl⟩

end Go.Proofs.Ytnoeiocbmhkmeaa
